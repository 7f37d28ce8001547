/-
  Walks and plain lemmas for the laws of this seat: what single Go functions return, for every argument.
-/
import Derived.Test.YtbdgdphehbkjgaaMInst
namespace Go.Proofs.Ytbdgdphehbkjgaa
open Go.RowKit

/-- a fact put into its place: behind the facts that are less -/
def putPos (f : Fct) : List Fct → Nat
  | [] => 0
  | y :: t => if cmpF y f < 0 then putPos f t + 1 else 0
def putF (l : List Fct) (f : Fct) : List Fct := if 0 ≤ placeF f l then l else l.take (putPos f l) ++ f :: l.drop (putPos f l)
theorem putPos_le (f : Fct) (l : List Fct) : putPos f l ≤ l.length := by
  induction l with
  | nil => exact Nat.le_refl _
  | cons y t ih =>
    unfold putPos
    split
    · simp; exact ih
    · simp
/-- the first k facts are less -/
def PosTo (f : Fct) (l : List Fct) (k : Nat) : Prop := putPos f l = k + putPos f (l.drop k)
theorem PosTo.zero (f : Fct) (l : List Fct) : PosTo f l 0 := by unfold PosTo; simp
theorem PosTo.next {f : Fct} {l : List Fct} {k : Nat} (h : PosTo f l k) (hk : k < l.length) (hl : cmpF l[k] f < 0) : PosTo f l (k + 1) := by
  unfold PosTo at *
  rw [h, List.drop_eq_getElem_cons hk, putPos, if_pos hl]; omega
theorem PosTo.stop {f : Fct} {l : List Fct} {k : Nat} (h : PosTo f l k) (hk : k < l.length) (hl : ¬ cmpF l[k] f < 0) : putPos f l = k := by
  unfold PosTo at h
  rw [h, List.drop_eq_getElem_cons hk, putPos, if_neg hl]; rfl
theorem PosTo.last {f : Fct} {l : List Fct} {k : Nat} (h : PosTo f l k) (hk : k = l.length) : putPos f l = k := by
  subst hk
  unfold PosTo at h
  rw [h, List.drop_length]; rfl
def insOk (x : Inst) (f : Fct) : Bool := instOk x && (!hasInst x f && instOk ⟨x.rels, putF x.facts f⟩)
def insInst (x : Inst) (f : Fct) : Inst := if insOk x f then ⟨x.rels, putF x.facts f⟩ else x
def delInst (x : Inst) (f : Fct) : Inst := if hasInst x f then ⟨x.rels, x.facts.take (placeF f x.facts).toNat ++ x.facts.drop ((placeF f x.facts).toNat + 1)⟩ else x
def relSrc (l : List Rel) (f : Fct) : Bool := (l.getD f.rel.toNat zeroRel).source
def srcP (l : List Rel) (b : Bool) (f : Fct) : Bool := relSrc l f == b
def restrictI (x : Inst) (b : Bool) : Inst := if instOk x then ⟨x.rels, x.facts.filter (srcP x.rels b)⟩ else ⟨[], []⟩
theorem srcP_at {l : List Rel} {f : Fct} {r : Nat} (b : Bool) (hr : (r : Int) = f.rel) (h : r < l.length) : srcP l b f = (l[r].source == b) := by
  unfold srcP relSrc; rw [← hr, Int.toNat_natCast, getD_at h]
theorem filter_take {l : List Fct} (p : Fct → Bool) (k : Nat) (h : k < l.length) : (l.take (k + 1)).filter p = (l.take k).filter p ++ (if p l[k] then [l[k]] else []) := by
  rw [List.take_succ_eq_append_getElem h, List.filter_append]
  congr 1
  by_cases hp : p l[k] <;> simp [hp]
def SubTo (x y : List Fct) (k : Nat) : Prop := ∀ i (h : i < x.length), i < k → 0 ≤ placeF x[i] y
theorem SubTo.zero (x y : List Fct) : SubTo x y 0 := fun _ _ h => absurd h (by omega)
theorem SubTo.next {x y : List Fct} {k : Nat} (h : SubTo x y k) (hk : k < x.length) (hp : 0 ≤ placeF x[k] y) : SubTo x y (k + 1) := fun i hi hik => by
  by_cases e : i = k
  · subst e; exact hp
  · exact h i hi (by omega)
theorem subInst_no {x y : Inst} (k : Nat) (hk : k < x.facts.length) (hp : ¬ 0 ≤ placeF x.facts[k] y.facts) : subInst x y = false := by
  unfold subInst
  rw [List.all_eq_false]
  exact ⟨x.facts[k], List.getElem_mem hk, by rw [decide_eq_false hp]; simp⟩
theorem subInst_yes {x y : Inst} (h : SubTo x.facts y.facts x.facts.length) : subInst x y = true := by
  unfold subInst
  rw [List.all_eq_true]
  intro f hf
  obtain ⟨i, hi, rfl⟩ := List.getElem_of_mem hf
  exact decide_eq_true (h i hi hi)

def addNulls (out : List Int) (f : Fct) : List Int := (nullsOf f.vals).foldl putI out
def nullsI (l : List Fct) : List Int := l.foldl addNulls []
theorem nullsI_take (l : List Fct) (k : Nat) (h : k < l.length) : nullsI (l.take (k + 1)) = addNulls (nullsI (l.take k)) l[k] := by
  unfold nullsI; rw [List.take_succ_eq_append_getElem h, List.foldl_append]; rfl
theorem foldPut_take (out : List Int) (l : List Int) (k : Nat) (h : k < l.length) : (l.take (k + 1)).foldl putI out = putI ((l.take k).foldl putI out) l[k] := by
  rw [List.take_succ_eq_append_getElem h, List.foldl_append]; rfl
theorem AscN.put {l : List Int} (h : AscN l) (x : Int) (h0 : 0 ≤ x) (h1 : x < 40) : AscN (putI l x) := by
  refine ⟨putI_asc l x h.1, fun y hy => ?_⟩
  rcases (putI_mem l x y).1 hy with rfl | hy
  · exact ⟨h0, h1⟩
  · exact h.2 y hy
theorem AscN.fold {l : List Int} (h : AscN l) (r : List Int) (hr : ∀ x ∈ r, 0 ≤ x ∧ x < 40) : AscN (r.foldl putI l) := by
  induction r generalizing l with
  | nil => exact h
  | cons a t ih =>
    rw [List.foldl_cons]
    exact ih (h.put a (hr a (by simp)).1 (hr a (by simp)).2) (fun x hx => hr x (by simp [hx]))
theorem asc_nulls (vs : List Int) : AscN (nullsOf vs) := by
  have := AscN.nullsOf vs vs.length
  rwa [List.take_of_length_le (Nat.le_refl _)] at this
theorem asc_addNulls {l : List Int} (h : AscN l) (f : Fct) : AscN (addNulls l f) := h.fold _ (asc_nulls f.vals).2
theorem asc_nullsI (l : List Fct) : AscN (nullsI l) := by
  have : ∀ (l : List Fct) (o : List Int), AscN o → AscN (l.foldl addNulls o) := by
    intro l
    induction l with
    | nil => exact fun o h => h
    | cons a t ih => exact fun o h => ih _ (asc_addNulls h a)
  exact this l [] AscN.nil

end Go.Proofs.Ytbdgdphehbkjgaa
