/-
  Walks and plain lemmas for the laws of this seat: what single Go functions return, for every argument.
-/
import Derived.Test.YtbdgdphehbkjgaaFact
import Derived.Test.YtbdgdphehbkjgaaTyInst
namespace Go.Proofs.Ytbdgdphehbkjgaa
open Go.RowKit

def cmpF (a b : Fct) : Int := cmpFact a.rel a.vals b.rel b.vals
theorem cmpInts_zero (a b : List Int) : cmpInts a b = 0 ↔ a = b := by
  induction a generalizing b with
  | nil => cases b <;> simp [cmpInts]
  | cons x a ih =>
    cases b with
    | nil => simp [cmpInts]
    | cons y b =>
      unfold cmpInts
      split
      · simp; omega
      · split
        · simp; omega
        · rw [ih]; simp; omega
theorem cmpF_zero (a b : Fct) : cmpF a b = 0 ↔ a = b := by
  unfold cmpF cmpFact
  split
  · constructor
    · intro h; cases h
    · rintro rfl; omega
  · split
    · constructor
      · intro h; cases h
      · rintro rfl; omega
    · rw [cmpInts_zero]
      constructor
      · intro h; exact Fct.ext' (by omega) h
      · rintro rfl; rfl
instance : DecidableEq Fct := fun a b => by
  cases a; cases b; rw [Fct.mk.injEq]; exact inferInstance
/-- where a fact stands; -1 -/
def placeFrom (x : Fct) : List Fct → Nat → Int
  | [], _ => -1
  | y :: t, i => if y = x then (i : Int) else placeFrom x t (i + 1)
def placeF (x : Fct) (l : List Fct) : Int := placeFrom x l 0
def PlaceTo (x : Fct) (l : List Fct) (k : Nat) : Prop := placeF x l = placeFrom x (l.drop k) k
theorem PlaceTo.zero (x : Fct) (l : List Fct) : PlaceTo x l 0 := rfl
theorem PlaceTo.next {x : Fct} {l : List Fct} {k : Nat} (h : PlaceTo x l k) (hk : k < l.length) (hn : ¬ l[k] = x) : PlaceTo x l (k + 1) := by
  unfold PlaceTo at *
  rw [h, List.drop_eq_getElem_cons hk, placeFrom, if_neg hn]
theorem PlaceTo.hit {x : Fct} {l : List Fct} {k : Nat} (h : PlaceTo x l k) (hk : k < l.length) (hn : l[k] = x) : placeF x l = (k : Int) := by
  unfold PlaceTo at h
  rw [h, List.drop_eq_getElem_cons hk, placeFrom, if_pos hn]
theorem PlaceTo.miss {x : Fct} {l : List Fct} (h : PlaceTo x l l.length) : placeF x l = -1 := by
  unfold PlaceTo at h
  rw [h, List.drop_length]; rfl
theorem placeFrom_bd (x : Fct) (l : List Fct) (i : Nat) : -1 ≤ placeFrom x l i ∧ placeFrom x l i < (i : Int) + l.length := by
  induction l generalizing i with
  | nil => simp [placeFrom]; omega
  | cons a t ih =>
    unfold placeFrom
    have := ih (i + 1)
    split
    · simp; omega
    · simp at this ⊢; omega
theorem placeF_bd (x : Fct) (l : List Fct) : -1 ≤ placeF x l ∧ placeF x l < l.length := by
  have := placeFrom_bd x l 0
  unfold placeF; simpa using this

/-- a fact of a source relation that holds a null -/
def srcNull (l : List Rel) (f : Fct) : Bool := (l.getD f.rel.toNat zeroRel).source && decide (0 < (nullsOf f.vals).length)
/-- fact i is valid, behind the one ahead of it, and no source fact with a null -/
def stepOk (x : Inst) (i : Nat) : Bool := factOk x.rels (x.facts.getD i default).rel (x.facts.getD i default).vals && ((decide (i = 0) || decide (cmpF (x.facts.getD (i - 1) default) (x.facts.getD i default) < 0)) && !srcNull x.rels (x.facts.getD i default))
def instOk (x : Inst) : Bool := (List.range x.facts.length).all (stepOk x) && (validRels x.rels && decide (x.facts.length ≤ 30))
def FactsTo (x : Inst) (k : Nat) : Prop := ∀ i, i < k → stepOk x i = true
theorem FactsTo.zero (x : Inst) : FactsTo x 0 := fun _ h => absurd h (by omega)
theorem FactsTo.next {x : Inst} {k : Nat} (h : FactsTo x k) (hk : stepOk x k = true) : FactsTo x (k + 1) := fun i hi => by
  by_cases e : i = k
  · subst e; exact hk
  · exact h i (by omega)
theorem instOk_no {x : Inst} (i : Nat) (hi : i < x.facts.length) (h : stepOk x i = false) : instOk x = false := by
  have : (List.range x.facts.length).all (stepOk x) = false := by
    rw [List.all_eq_false]; exact ⟨i, List.mem_range.2 hi, by rw [h]; simp⟩
  unfold instOk; rw [this]; rfl
theorem instOk_end {x : Inst} (h : FactsTo x x.facts.length) : instOk x = (validRels x.rels && decide (x.facts.length ≤ 30)) := by
  have : (List.range x.facts.length).all (stepOk x) = true := by
    rw [List.all_eq_true]; exact fun i hi => h i (List.mem_range.1 hi)
  unfold instOk; rw [this]; rfl
theorem instOk_parts {x : Inst} (h : instOk x = true) : FactsTo x x.facts.length ∧ validRels x.rels = true ∧ x.facts.length ≤ 30 := by
  unfold instOk at h
  simp only [Bool.and_eq_true, decide_eq_true_eq, List.all_eq_true] at h
  exact ⟨fun i hi => h.1 i (List.mem_range.2 hi), h.2.1, h.2.2⟩
theorem stepOk_at {x : Inst} {i : Nat} (hi : i < x.facts.length) : stepOk x i = (factOk x.rels x.facts[i].rel x.facts[i].vals && ((decide (i = 0) || decide (cmpF (x.facts.getD (i - 1) default) x.facts[i] < 0)) && !srcNull x.rels x.facts[i])) := by
  have e : x.facts.getD i default = x.facts[i] := by simp [List.getD, hi]
  unfold stepOk; rw [e]
theorem stepOk_fact {x : Inst} {i : Nat} (hi : i < x.facts.length) (h : factOk x.rels x.facts[i].rel x.facts[i].vals = false) : stepOk x i = false := by rw [stepOk_at hi, h]; rfl
theorem stepOk_cmp {x : Inst} {i : Nat} (hi : i + 1 < x.facts.length) (h : ¬ cmpF x.facts[i] x.facts[i + 1] < 0) : stepOk x (i + 1) = false := by
  have e : x.facts.getD i default = x.facts[i] := by simp [List.getD, show i < x.facts.length by omega]
  rw [stepOk_at hi, Nat.add_sub_cancel, e, decide_eq_false h]; simp
theorem stepOk_src {x : Inst} {i : Nat} (hi : i < x.facts.length) (h : srcNull x.rels x.facts[i] = true) : stepOk x i = false := by rw [stepOk_at hi, h]; simp
theorem stepOk_yes0 {x : Inst} (hi : 0 < x.facts.length) (h1 : factOk x.rels x.facts[0].rel x.facts[0].vals = true) (h2 : srcNull x.rels x.facts[0] = false) : stepOk x 0 = true := by rw [stepOk_at hi, h1, h2]; simp
theorem stepOk_yesz {x : Inst} {k : Nat} (h0 : k = 0) (hi : k < x.facts.length) (h1 : factOk x.rels x.facts[k].rel x.facts[k].vals = true) (h2 : srcNull x.rels x.facts[k] = false) : stepOk x k = true := by subst h0; exact stepOk_yes0 hi h1 h2
theorem stepOk_yes {x : Inst} {i : Nat} (hi : i + 1 < x.facts.length) (h1 : factOk x.rels x.facts[i + 1].rel x.facts[i + 1].vals = true) (h : cmpF x.facts[i] x.facts[i + 1] < 0) (h2 : srcNull x.rels x.facts[i + 1] = false) : stepOk x (i + 1) = true := by
  have e : x.facts.getD i default = x.facts[i] := by simp [List.getD, show i < x.facts.length by omega]
  rw [stepOk_at hi, Nat.add_sub_cancel, e, h1, h2, decide_eq_true h]; simp
/-- all facts of an instance compared with each other's nulls gathered -/
def nullsInst (l : List Fct) : List Int := (l.flatMap fun f => nullsOf f.vals).foldl putI []
def hasInst (x : Inst) (f : Fct) : Bool := instOk x && decide (0 ≤ placeF f x.facts)
def subInst (x y : Inst) : Bool := x.facts.all fun f => decide (0 ≤ placeF f y.facts)
theorem instOk_fact {x : Inst} (h : instOk x = true) : ∀ f ∈ x.facts, factOk x.rels f.rel f.vals = true := by
  intro f hf
  obtain ⟨i, hi, rfl⟩ := List.getElem_of_mem hf
  have h1 := (instOk_parts h).1 i hi
  cases hv : factOk x.rels x.facts[i].rel x.facts[i].vals with
  | true => rfl
  | false => rw [stepOk_fact hi hv] at h1; cases h1

end Go.Proofs.Ytbdgdphehbkjgaa
