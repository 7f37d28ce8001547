/-
  Walks and plain lemmas for the laws of this seat: what single Go functions return, for every argument.
-/
import Derived.Test.YtalijnfbopcmeaaMUf
import Derived.Test.YtalijnfbopcmeaaTySS
namespace Go.Proofs.Ytalijnfbopcmeaa
open Go.RowKit

/-- the indexes below n at which x holds r -/
def clsTo (x : List Int) (r : Int) : Nat → List Int
  | 0 => []
  | n + 1 => if x.getD n 0 = r then clsTo x r n ++ [(n : Int)] else clsTo x r n
theorem clsTo_yes {x : List Int} {r : Int} {n : Nat} (hn : n < x.length) (h : x[n] = r) : clsTo x r (n + 1) = clsTo x r n ++ [(n : Int)] := by
  rw [clsTo, ← List.getElem_eq_getD (h := hn), if_pos h]
theorem clsTo_no {x : List Int} {r : Int} {n : Nat} (hn : n < x.length) (h : ¬ x[n] = r) : clsTo x r (n + 1) = clsTo x r n := by
  rw [clsTo, ← List.getElem_eq_getD (h := hn), if_neg h]
theorem clsTo_len (x : List Int) (r : Int) (n : Nat) : (clsTo x r n).length ≤ n := by
  induction n with
  | zero => exact Nat.le_refl _
  | succ n ih =>
    unfold clsTo
    split
    · simp; omega
    · omega
/-- none of the first n holds what k holds, but those from k on -/
def firstN (x : List Int) (k : Nat) : Nat → Bool
  | 0 => true
  | n + 1 => if x.getD n 0 = x.getD k 0 then firstN x k n && decide (k ≤ n) else firstN x k n
theorem firstN_yes {x : List Int} {k n : Nat} (hn : n < x.length) (hk : k < x.length) (h : x[n] = x[k]) : firstN x k (n + 1) = (firstN x k n && decide (k ≤ n)) := by
  rw [firstN, ← List.getElem_eq_getD (h := hn), ← List.getElem_eq_getD (h := hk), if_pos h]
theorem firstN_no {x : List Int} {k n : Nat} (hn : n < x.length) (hk : k < x.length) (h : ¬ x[n] = x[k]) : firstN x k (n + 1) = firstN x k n := by
  rw [firstN, ← List.getElem_eq_getD (h := hn), ← List.getElem_eq_getD (h := hk), if_neg h]
theorem firstN_iff (x : List Int) (k n : Nat) (hk : k < x.length) (hn : n ≤ x.length) : firstN x k n = true ↔ ∀ i (h : i < x.length), i < n → i < k → x[i] ≠ x[k] := by
  induction n with
  | zero => simp [firstN]
  | succ n ih =>
    have ih := ih (by omega)
    have hnx : n < x.length := by omega
    by_cases h : x[n] = x[k]
    · rw [firstN_yes hnx hk h, Bool.and_eq_true, decide_eq_true_eq, ih]
      constructor
      · rintro ⟨h1, h2⟩ i hi hin hik
        exact h1 i hi (by omega) hik
      · intro h1
        refine ⟨fun i hi hin hik => h1 i hi (by omega) hik, ?_⟩
        by_cases hkn : k ≤ n
        · exact hkn
        · exact absurd h (h1 n hnx (by omega) (by omega))
    · rw [firstN_no hnx hk h, ih]
      constructor
      · intro h1 i hi hin hik
        by_cases hin2 : i = n
        · subst hin2; exact h
        · exact h1 i hi (by omega) hik
      · intro h1 i hi hin hik
        exact h1 i hi (by omega) hik
def isFirst (x : List Int) (k : Nat) : Bool := firstN x k x.length
/-- the first index that holds r, and whether it is k -/
theorem isFirst_of {x : List Int} {k j : Nat} (hk : k < x.length) (hj : j < x.length) (he : x[j] = x[k]) (hb : ∀ i (h : i < x.length), i < j → x[i] ≠ x[k]) : isFirst x k = decide (j = k) := by
  by_cases h : j = k
  · rw [decide_eq_true h]
    subst h
    exact (firstN_iff x j x.length hk (Nat.le_refl _)).2 fun i hi _ hik => hb i hi hik
  · rw [decide_eq_false h]
    have hjk : j < k := by
      rcases Nat.lt_or_gt_of_ne h with h1 | h1
      · exact h1
      · exact absurd rfl (hb k hk h1)
    cases hf : isFirst x k with
    | false => rfl
    | true => exact absurd he ((firstN_iff x k x.length hk (Nat.le_refl _)).1 hf j hj hj hjk)
/-- is the class of null k told at k? -/
def takesAt (x : List Int) (k : Nat) : Bool := isFirst x k && (decide (1 < (clsTo x (x.getD k 0) x.length).length) || decide (0 ≤ x.getD k 0))
def classesTo (x : List Int) : Nat → List (List Int)
  | 0 => []
  | k + 1 => if takesAt x k = true then classesTo x k ++ [clsTo x (x.getD k 0) x.length] else classesTo x k
theorem classesTo_yes {x : List Int} {k : Nat} (hk : k < x.length) (h : takesAt x k = true) : classesTo x (k + 1) = classesTo x k ++ [clsTo x x[k] x.length] := by
  rw [classesTo, if_pos h, ← List.getElem_eq_getD (h := hk)]
theorem classesTo_no {x : List Int} {k : Nat} (h : takesAt x k = false) : classesTo x (k + 1) = classesTo x k := by
  rw [classesTo, if_neg (by rw [h]; simp)]
theorem takesAt_at {x : List Int} {k : Nat} (hk : k < x.length) : takesAt x k = (isFirst x k && (decide (1 < (clsTo x x[k] x.length).length) || decide (0 ≤ x[k]))) := by
  unfold takesAt; rw [← List.getElem_eq_getD (h := hk)]
theorem classesTo_len (x : List Int) (k : Nat) : (classesTo x k).length ≤ k ∧ lenSum (classesTo x k) ≤ k * x.length := by
  induction k with
  | zero => exact ⟨Nat.le_refl _, Nat.zero_le _⟩
  | succ k ih =>
    have hl := clsTo_len x (x.getD k 0) x.length
    have hm : (k + 1) * x.length = k * x.length + x.length := Nat.succ_mul _ _
    unfold classesTo
    split
    · refine ⟨by simp; omega, ?_⟩
      rw [lenSum_append, hm]
      simp only [lenSum]
      omega
    · exact ⟨by omega, by rw [hm]; omega⟩
def EquivalenceClasses_r0 (x : List Int) : List (List Int) := if ufOk x = true then classesTo x x.length else []
theorem ufCls_cases (x : List Int) : ∃ N : Nat, EquivalenceClasses_r0 x = classesTo x N ∧ ((ufOk x = true ∧ N = x.length ∧ x.length ≤ 40) ∨ (ufOk x = false ∧ N = 0)) := by
  cases h : ufOk x with
  | true => exact ⟨x.length, if_pos h, .inl ⟨rfl, rfl, (ufOk_parts h).len⟩⟩
  | false => exact ⟨0, if_neg (by rw [h]; simp), .inr ⟨rfl, rfl⟩⟩
theorem ufCls_sz (x : List Int) : IntSS_sz (EquivalenceClasses_r0 x) ≤ 1048576 := by
  obtain ⟨N, h, h2⟩ := ufCls_cases x
  rw [h]
  have h1 := classesTo_len x N
  unfold IntSS_sz
  rcases h2 with ⟨-, rfl, h2⟩ | ⟨-, rfl⟩
  · have : x.length * x.length ≤ 40 * 40 := Nat.mul_le_mul h2 h2
    omega
  · omega
def GivesSS (l : List (List Int)) (w : World) (e : Ending) (w' : World) : Prop := ∃ r, e = .returned r ∧ IntSS_own w.heap.size w'.heap.size r l w' ∧ Below w.heap.size w w'

end Go.Proofs.Ytalijnfbopcmeaa
