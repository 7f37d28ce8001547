/-
  Walks and plain lemmas for the laws of this seat: what single Go functions return, for every argument.
-/
import Derived.Test.YtobdijcnfmgidaaMInst
namespace Go.Proofs.Ytobdijcnfmgidaa
open Go.RowKit

/-- an instance without nulls -/
def groundM (x : Inst) : Bool := instOk x && decide ((nullsI x.facts).length = 0)
theorem groundM_off {x : Inst} (h : instOk x = false) : groundM x = false := by unfold groundM; rw [h]; rfl
theorem groundM_on {x : Inst} (h : instOk x = true) : groundM x = decide ((nullsI x.facts).length = 0) := by unfold groundM; rw [h]; rfl

def Restrict_r0 (x : Inst) (b : Bool) : Inst := restrictI x b

theorem rest_off {x : Inst} (h : instOk x = false) (b : Bool) : (Restrict_r0 x b).facts.length = 0 := by unfold Restrict_r0 restrictI; rw [if_neg (by rw [h]; simp)]; rfl
theorem rest_on {x : Inst} (h : instOk x = true) (b : Bool) : Restrict_r0 x b = ⟨x.rels, x.facts.filter (srcP x.rels b)⟩ := by unfold Restrict_r0 restrictI; rw [if_pos h]
theorem filter_two {α : Type} (p : α → Bool) (l : List α) : (l.filter p).length + (l.filter fun a => !p a).length = l.length := by
  induction l with
  | nil => rfl
  | cons a t ih =>
    rw [List.filter_cons, List.filter_cons]
    cases p a <;> simp <;> omega
theorem srcP_not (l : List Rel) (f : Fct) : srcP l false f = !srcP l true f := by unfold srcP; cases relSrc l f <;> rfl
/-- every fact lies in one of the two -/
theorem rest_len {x : Inst} (h : instOk x = true) : (Restrict_r0 x true).facts.length + (Restrict_r0 x false).facts.length = x.facts.length := by
  rw [rest_on h, rest_on h]
  show (x.facts.filter (srcP x.rels true)).length + (x.facts.filter (srcP x.rels false)).length = _
  rw [show (srcP x.rels false) = (fun f => !srcP x.rels true f) from funext (srcP_not x.rels)]
  exact filter_two _ _
theorem rest_sub {x : Inst} (h : instOk x = true) (b : Bool) : subInst (Restrict_r0 x b) x = true := by
  rw [rest_on h]
  unfold subInst
  rw [List.all_eq_true]
  intro f hf
  exact decide_eq_true ((placeF_mem _ _).2 (List.mem_filter.1 hf).1)
theorem addNulls_none {out : List Int} {f : Fct} (h : nullsOf f.vals = []) : addNulls out f = out := by unfold addNulls; rw [h]; rfl
theorem fold_none {l : List Fct} (out : List Int) (h : ∀ f ∈ l, nullsOf f.vals = []) : l.foldl addNulls out = out := by
  induction l generalizing out with
  | nil => rfl
  | cons a t ih =>
    rw [List.foldl_cons, addNulls_none (h a (by simp)), ih out (fun f hf => h f (by simp [hf]))]
theorem fold_skip {l : List Fct} (p : Fct → Bool) (out : List Int) (h : ∀ f ∈ l, p f = false → nullsOf f.vals = []) : (l.filter p).foldl addNulls out = l.foldl addNulls out := by
  induction l generalizing out with
  | nil => rfl
  | cons a t ih =>
    rw [List.filter_cons]
    cases hp : p a with
    | true => exact ih _ (fun f hf => h f (by simp [hf]))
    | false => rw [List.foldl_cons, addNulls_none (h a (by simp) hp)]; exact ih _ (fun f hf => h f (by simp [hf]))
theorem src_none {x : Inst} (h : instOk x = true) {f : Fct} (hf : f ∈ x.facts) (hs : srcP x.rels true f = true) : nullsOf f.vals = [] := by
  obtain ⟨i, hi, rfl⟩ := List.getElem_of_mem hf
  have h1 := (instOk_parts h).1 i hi
  rw [stepOk_at hi] at h1
  simp only [Bool.and_eq_true, Bool.not_eq_true'] at h1
  have h2 := h1.2.2
  unfold srcNull at h2
  unfold srcP relSrc at hs
  rw [Bool.beq_eq_decide_eq, decide_eq_true_eq] at hs
  rw [hs, Bool.true_and, decide_eq_false_iff_not] at h2
  exact List.eq_nil_of_length_eq_zero (by omega)
theorem rest_src_nulls {x : Inst} (h : instOk x = true) : nullsI (Restrict_r0 x true).facts = [] := by
  rw [rest_on h]
  exact fold_none [] fun f hf => src_none h (List.mem_filter.1 hf).1 (List.mem_filter.1 hf).2
theorem rest_tgt_nulls {x : Inst} (h : instOk x = true) : nullsI (Restrict_r0 x false).facts = nullsI x.facts := by
  rw [rest_on h]
  exact fold_skip _ [] fun f hf hp => src_none h hf (by rw [srcP_not] at hp; simpa using hp)

end Go.Proofs.Ytobdijcnfmgidaa
