/-
  Walks and plain lemmas for the laws of this seat: what single Go functions return, for every argument.
-/
import Derived.Test.YtmecdjincmkofaaDoorBase
import Derived.Test.YtmecdjincmkofaaDoorRels
import Derived.Test.YtmecdjincmkofaaDoorFact
import Derived.Test.YtmecdjincmkofaaDoorTyAtom
namespace Go.Proofs.YtmecdjincmkofaaDoor
open Go.RowKit

/-- a term of an atom: a variable or a constant -/
abbrev validT (t : Int) : Bool := inB t (-10) 4
def atomOk (l : List Rel) (r : Int) (vs : List Int) : Bool := validRels l && (decide (0 ≤ r ∧ r < l.length) && (decide ((vs.length : Int) = arityAt l r) && vs.all validT))
theorem atomOk_rels {l : List Rel} {r : Int} {vs : List Int} (h : validRels l = false) : atomOk l r vs = false := by unfold atomOk; rw [h]; rfl
theorem atomOk_idx {l : List Rel} {r : Int} {vs : List Int} (h : ¬(0 ≤ r ∧ r < l.length)) : atomOk l r vs = false := by unfold atomOk; rw [decide_eq_false h]; simp
theorem atomOk_len {l : List Rel} {r : Int} {vs : List Int} (h : ¬((vs.length : Int) = arityAt l r)) : atomOk l r vs = false := by unfold atomOk; rw [decide_eq_false h]; simp
theorem atomOk_val {l : List Rel} {r : Int} {vs : List Int} (k : Nat) (hk : k < vs.length) (h : validT vs[k] = false) : atomOk l r vs = false := by
  have : vs.all validT = false := by rw [List.all_eq_false]; exact ⟨vs[k], List.getElem_mem hk, by rw [h]; simp⟩
  unfold atomOk; rw [this]; simp
/-- the first k terms are valid -/
def TermsTo (vs : List Int) (k : Nat) : Prop := (vs.take k).all validT = true
theorem TermsTo.zero (vs : List Int) : TermsTo vs 0 := rfl
theorem TermsTo.next {vs : List Int} {k : Nat} (h : TermsTo vs k) (hk : k < vs.length) (hv : validT vs[k] = true) : TermsTo vs (k + 1) := by
  unfold TermsTo at *
  rw [List.take_succ_eq_append_getElem hk, List.all_append, h]; simp [hv]
theorem atomOk_yes {l : List Rel} {r : Int} {vs : List Int} (hv : validRels l = true) (h1 : 0 ≤ r ∧ r < l.length) (h2 : (vs.length : Int) = arityAt l r) (h3 : TermsTo vs vs.length) : atomOk l r vs = true := by
  unfold TermsTo at h3
  rw [List.take_of_length_le (Nat.le_refl _)] at h3
  unfold atomOk; rw [hv, decide_eq_true h1, decide_eq_true h2, h3]; rfl
theorem atomOk_parts {l : List Rel} {r : Int} {vs : List Int} (h : atomOk l r vs = true) : validRels l = true ∧ (0 ≤ r ∧ r < l.length) ∧ (vs.length : Int) = arityAt l r ∧ ∀ (k : Nat) (hk : k < vs.length), validT vs[k] = true := by
  unfold atomOk at h
  simp only [Bool.and_eq_true, decide_eq_true_eq, List.all_eq_true] at h
  exact ⟨h.1, h.2.1, h.2.2.1, fun k hk => h.2.2.2 _ (List.getElem_mem hk)⟩

/-- a term put among the variables, if it is one -/
def addVar (out : List Int) (t : Int) : List Int := if 0 ≤ t then putI out t else out
def addTerms (out : List Int) (vs : List Int) : List Int := vs.foldl addVar out
def varsOf (l : List Atm) : List Int := l.foldl (fun o a => addTerms o a.vals) []
theorem addTerms_take (out : List Int) (vs : List Int) (k : Nat) (h : k < vs.length) : addTerms out (vs.take (k + 1)) = addVar (addTerms out (vs.take k)) vs[k] := by
  unfold addTerms; rw [List.take_succ_eq_append_getElem h, List.foldl_append]; rfl
theorem varsOf_take (l : List Atm) (k : Nat) (h : k < l.length) : varsOf (l.take (k + 1)) = addTerms (varsOf (l.take k)) l[k].vals := by
  unfold varsOf; rw [List.take_succ_eq_append_getElem h, List.foldl_append]; rfl
theorem addVar_len (out : List Int) (t : Int) : (addVar out t).length ≤ out.length + 1 := by
  unfold addVar; split
  · exact putI_len out t
  · omega
theorem addTerms_len (out : List Int) (vs : List Int) : (addTerms out vs).length ≤ out.length + vs.length := by
  induction vs generalizing out with
  | nil => simp [addTerms]
  | cons a t ih =>
    have h1 := ih (addVar out a)
    have h2 := addVar_len out a
    simp only [addTerms, List.foldl_cons, List.length_cons] at h1 ⊢
    omega
theorem varsFold_len (o : List Int) (l : List Atm) : (l.foldl (fun o a => addTerms o a.vals) o).length ≤ o.length + avalsLen l := by
  induction l generalizing o with
  | nil => simp [avalsLen]
  | cons a t ih =>
    have h1 := ih (addTerms o a.vals)
    have h2 := addTerms_len o a.vals
    simp only [List.foldl_cons, avalsLen] at h1 ⊢
    omega
theorem varsOf_len (l : List Atm) : (varsOf l).length ≤ avalsLen l := by
  have := varsFold_len [] l
  unfold varsOf
  simpa using this

/-- the first k are as p asks -/
def AllTo {α : Type} (p : α → Bool) (l : List α) (k : Nat) : Prop := (l.take k).all p = true
theorem AllTo.zero {α : Type} (p : α → Bool) (l : List α) : AllTo p l 0 := rfl
theorem AllTo.next {α : Type} {p : α → Bool} {l : List α} {k : Nat} (h : AllTo p l k) (hk : k < l.length) (hp : p l[k] = true) : AllTo p l (k + 1) := by
  unfold AllTo at *
  rw [List.take_succ_eq_append_getElem hk, List.all_append, h]; simp [hp]
theorem AllTo.full {α : Type} {p : α → Bool} {l : List α} (h : AllTo p l l.length) : l.all p = true := by
  unfold AllTo at h; rwa [List.take_of_length_le (Nat.le_refl _)] at h
def atomB (l : List Rel) (a : Atm) : Bool := atomOk l a.rel a.vals
def srcAt (l : List Rel) (r : Int) : Bool := (l.getD r.toNat zeroRel).source
def headB (l : List Rel) (a : Atm) : Bool := atomB l a && !(srcAt l a.rel)
/-- a dependency is valid over the schema -/
def depOk (l : List Rel) (x : Dep) : Bool :=
  inB (x.body.length : Nat) 1 2 && (x.body.all (atomB l) && (if x.egd then ((x.head.length : Nat) : Int) == 0 && (decide (x.left ∈ varsOf x.body) && (decide (x.right ∈ varsOf x.body) && decide (x.left < x.right)))
    else x.head.all (headB l) && (inB (x.head.length : Nat) 1 2 && ((x.left == 0) && (x.right == 0)))))

theorem atomB_len {l : List Rel} {a : Atm} (h : atomB l a = true) : a.vals.length ≤ 3 := by
  obtain ⟨h1, h2, h3, _⟩ := atomOk_parts h
  have hk : a.rel.toNat < l.length := by omega
  have ha := relOk_bd _ _ (validRels_at l h1 a.rel.toNat hk)
  rw [arityAt_in hk] at h3
  omega
theorem avals_small {l : List Rel} {ts : List Atm} (h : ts.all (atomB l) = true) : avalsLen ts ≤ 3 * ts.length := by
  induction ts with
  | nil => simp [avalsLen]
  | cons a t ih =>
    rw [List.all_cons, Bool.and_eq_true] at h
    have h1 := atomB_len h.1
    have h2 := ih h.2
    simp only [avalsLen, List.length_cons]; omega
theorem side_sz {l : List Rel} {ts : List Atm} (h : ts.all (atomB l) = true) (hn : ts.length ≤ 2) : AtomS_sz ts ≤ 8 := by
  have := avals_small h
  unfold AtomS_sz; omega

end Go.Proofs.YtmecdjincmkofaaDoor
