/-
  Walks and plain lemmas for the laws of this seat: what single Go functions return, for every argument.
-/
import Derived.Test.YtakflmaeclneiaaGreatTyAtom
import Derived.Test.YtakflmaeclneiaaGreatTyDepS
import Derived.Test.YtakflmaeclneiaaGreatFact
import Derived.Test.YtakflmaeclneiaaGreatMInst
namespace Go.Proofs.YtakflmaeclneiaaGreat
open Go.RowKit

/-- the variables among terms, one after another -/
def posOf (vs : List Int) : List Int := vs.filter fun t => decide (0 ≤ t)
def vposOf (l : List Atm) : List Int := l.flatMap fun a => posOf a.vals
theorem posOf_take (vs : List Int) (k : Nat) (h : k < vs.length) : posOf (vs.take (k + 1)) = posOf (vs.take k) ++ (if 0 ≤ vs[k] then [vs[k]] else []) := by
  unfold posOf
  rw [List.take_succ_eq_append_getElem h, List.filter_append]
  congr 1
  by_cases hp : 0 ≤ vs[k] <;> simp [hp]
theorem posOf_len (vs : List Int) : (posOf vs).length ≤ vs.length := List.length_filter_le _ _
theorem vposOf_take (l : List Atm) (k : Nat) (h : k < l.length) : vposOf (l.take (k + 1)) = vposOf (l.take k) ++ posOf l[k].vals := by
  unfold vposOf; rw [List.take_succ_eq_append_getElem h, List.flatMap_append]; simp
theorem vposOf_len (l : List Atm) : (vposOf l).length ≤ avalsLen l := by
  induction l with
  | nil => simp [vposOf]
  | cons a t ih =>
    have h1 := posOf_len a.vals
    unfold vposOf at ih ⊢
    rw [List.flatMap_cons, List.length_append]
    simp only [avalsLen]; omega
theorem addTerms_mem (vs out : List Int) (x : Int) : x ∈ addTerms out vs ↔ x ∈ out ∨ x ∈ posOf vs := by
  induction vs generalizing out with
  | nil => simp [addTerms, posOf]
  | cons a t ih =>
    have h := ih (addVar out a)
    unfold addTerms at h ⊢
    rw [List.foldl_cons, h]
    unfold addVar posOf
    rw [List.filter_cons]
    by_cases hp : 0 ≤ a
    · rw [if_pos hp, decide_eq_true hp, if_pos rfl, putI_mem, List.mem_cons]
      constructor
      · rintro ((h | h) | h)
        · exact .inr (.inl h)
        · exact .inl h
        · exact .inr (.inr h)
      · rintro (h | h | h)
        · exact .inl (.inr h)
        · exact .inl (.inl h)
        · exact .inr h
    · rw [if_neg hp, decide_eq_false hp]; simp
theorem varsFold_mem (l : List Atm) (out : List Int) (x : Int) : x ∈ l.foldl (fun o a => addTerms o a.vals) out ↔ x ∈ out ∨ x ∈ vposOf l := by
  induction l generalizing out with
  | nil => simp [vposOf]
  | cons a t ih =>
    rw [List.foldl_cons, ih, addTerms_mem]
    unfold vposOf
    rw [List.flatMap_cons, List.mem_append, or_assoc]
theorem varsOf_mem (l : List Atm) (x : Int) : x ∈ varsOf l ↔ x ∈ vposOf l := by
  unfold varsOf; rw [varsFold_mem]; simp
theorem addTerms_asc (vs out : List Int) (h : out.Pairwise (· < ·)) : (addTerms out vs).Pairwise (· < ·) := by
  induction vs generalizing out with
  | nil => exact h
  | cons a t ih =>
    unfold addTerms
    rw [List.foldl_cons]
    refine ih _ ?_
    unfold addVar
    split
    · exact putI_asc out a h
    · exact h
theorem varsOf_asc (l : List Atm) : (varsOf l).Pairwise (· < ·) := by
  have : ∀ (l : List Atm) (out : List Int), out.Pairwise (· < ·) → (l.foldl (fun o a => addTerms o a.vals) out).Pairwise (· < ·) := by
    intro l
    induction l with
    | nil => intro out h; exact h
    | cons a t ih => intro out h; rw [List.foldl_cons]; exact ih _ (addTerms_asc a.vals out h)
  exact this l [] List.Pairwise.nil
/-- sorted, doubles dropped: the variables in ascending order -/
theorem compact_vars (l : List Atm) : Lib.compact ((vposOf l).mergeSort fun x y => decide (x ≤ y)) = varsOf l := by
  have hs : ((vposOf l).mergeSort fun x y => decide (x ≤ y)).Pairwise (· ≤ ·) := by
    have := List.pairwise_mergeSort (le := fun (x y : Int) => decide (x ≤ y)) (by intro a b c; simp; omega) (by intro a b; simp; omega) (vposOf l)
    exact this.imp (fun h => by simpa using h)
  obtain ⟨h1, h2⟩ := compact_upTo _ hs _ (Nat.le_refl _)
  refine asc_eq _ _ h1 (varsOf_asc l) (fun x => ?_)
  unfold Lib.compact
  rw [h2, List.take_of_length_le (Nat.le_refl _), List.mem_mergeSort, varsOf_mem]

/-- the head's variables that are the body's too, or those that are not -/
def headVars (x : Dep) (b : Bool) : List Int := (varsOf x.head).filter fun t => decide (t ∈ varsOf x.body) == b
theorem headVars_len (x : Dep) (b : Bool) : (headVars x b).length ≤ avalsLen x.head := Nat.le_trans (List.length_filter_le _ _) (varsOf_len _)
theorem headVars_keep (x : Dep) (b : Bool) : keepN (fun t => (varsOf x.body).contains t != b) (varsOf x.head) = headVars x b := by
  unfold keepN headVars
  congr 1
  funext t
  show (!((varsOf x.body).contains t != b)) = _
  rw [List.contains_eq_mem]
  cases decide (t ∈ varsOf x.body) <;> cases b <;> rfl
theorem filter_take {α : Type} (p : α → Bool) (l : List α) (k : Nat) (h : k < l.length) : (l.take (k + 1)).filter p = (l.take k).filter p ++ (if p l[k] = true then [l[k]] else []) := by
  rw [List.take_succ_eq_append_getElem h, List.filter_append]
  congr 1
  cases hp : p l[k] <;> simp [hp]
def ExistentialVariables_r0 (x : Dep) : List Int := headVars x false
def FrontierVariables_r0 (x : Dep) : List Int := headVars x true

def depsOk (l : List Rel) (xs : List Dep) : Bool := validRels l && (decide (xs.length ≤ 5) && xs.all (depOk l))

end Go.Proofs.YtakflmaeclneiaaGreat
