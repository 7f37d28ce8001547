/-
  Walks and plain lemmas for the laws of this seat: what single Go functions return, for every argument.
-/
import Derived.Test.YtalijnfbopcmeaaMUf
import Derived.Test.YtalijnfbopcmeaaMCls
namespace Go.Proofs.Ytalijnfbopcmeaa
open Go.RowKit

theorem clsTo_mem {x : List Int} {r : Int} : ∀ {n : Nat} {m : Int}, n ≤ x.length → m ∈ clsTo x r n → ∃ (j : Nat) (hj : j < x.length), m = (j : Int) ∧ x[j] = r
  | 0, m, _, h => by cases h
  | n + 1, m, hn, h => by
    have hnx : n < x.length := by omega
    by_cases e : x[n] = r
    · rw [clsTo_yes hnx e] at h
      rcases List.mem_append.1 h with h | h
      · exact clsTo_mem (by omega) h
      · exact ⟨n, hnx, List.mem_singleton.1 h, e⟩
    · rw [clsTo_no hnx e] at h
      exact clsTo_mem (by omega) h
theorem classes_mem {x : List Int} : ∀ {k : Nat} {row : List Int}, row ∈ classesTo x k → ∃ r, row = clsTo x r x.length
  | 0, _, h => by cases h
  | k + 1, row, h => by
    unfold classesTo at h
    split at h
    · rcases List.mem_append.1 h with h | h
      · exact classes_mem h
      · exact ⟨_, List.mem_singleton.1 h⟩
    · exact classes_mem h
/-- the members of one class have one representative -/
theorem class_rep {x : List Int} {row : List Int} (h : row ∈ EquivalenceClasses_r0 x) : ∃ r, ∀ m ∈ row, (0 ≤ m ∧ m < 40) ∧ ufFind x (-1 - m) = r := by
  unfold EquivalenceClasses_r0 at h
  split at h
  · rename_i hok
    obtain ⟨r, rfl⟩ := classes_mem h
    refine ⟨r, fun m hm => ?_⟩
    obtain ⟨j, hj, rfl, he⟩ := clsTo_mem (Nat.le_refl _) hm
    have := (ufOk_parts hok).len
    refine ⟨by omega, ?_⟩
    rw [ufFind_yes (m := j) hok (by omega) (by omega) hj, he]
  · cases h
theorem clsTo_count {x : List Int} {r : Int} : ∀ n, n ≤ x.length → (clsTo x r n).length = (x.take n).countP (fun y => decide (y = r))
  | 0, _ => rfl
  | n + 1, hn => by
    have hnx : n < x.length := by omega
    have ih := clsTo_count (x := x) (r := r) n (by omega)
    rw [List.take_succ_eq_append_getElem hnx, List.countP_append, ← ih]
    by_cases e : x[n] = r
    · rw [clsTo_yes hnx e, List.length_append]; simp [e]
    · rw [clsTo_no hnx e]; simp [e]
/-- the values whose classes are told below k -/
def takenV (x : List Int) : Nat → List Int
  | 0 => []
  | k + 1 => if takesAt x k = true then takenV x k ++ [x.getD k 0] else takenV x k
theorem takenV_succ (x : List Int) (k : Nat) : takenV x (k + 1) = if takesAt x k = true then takenV x k ++ [x.getD k 0] else takenV x k := rfl
theorem takenV_mem {x : List Int} : ∀ {k : Nat} {y : Int}, k ≤ x.length → y ∈ takenV x k → ∃ (j : Nat) (hj : j < x.length), j < k ∧ x[j] = y
  | 0, y, _, h => by cases h
  | k + 1, y, hk, h => by
    have hkx : k < x.length := by omega
    unfold takenV at h
    split at h
    · rcases List.mem_append.1 h with h | h
      · obtain ⟨j, hj, h1, h2⟩ := takenV_mem (by omega) h
        exact ⟨j, hj, by omega, h2⟩
      · rw [← List.getElem_eq_getD (h := hkx)] at h
        exact ⟨k, hkx, by omega, (List.mem_singleton.1 h).symm⟩
    · obtain ⟨j, hj, h1, h2⟩ := takenV_mem (by omega) h
      exact ⟨j, hj, by omega, h2⟩
theorem takenV_of {x : List Int} : ∀ {k j : Nat} (hj : j < x.length), j < k → takesAt x j = true → x[j] ∈ takenV x k
  | 0, j, _, h, _ => by omega
  | k + 1, j, hj, h, ht => by
    unfold takenV
    by_cases e : j = k
    · subst e
      rw [if_pos ht, ← List.getElem_eq_getD (h := hj)]
      exact List.mem_append_right _ (List.mem_singleton.2 rfl)
    · have := takenV_of (k := k) hj (by omega) ht
      split
      · exact List.mem_append_left _ this
      · exact this
theorem countP_or {p q : Int → Bool} : ∀ (l : List Int), (∀ y, p y = true → q y = false) → l.countP (fun y => p y || q y) = l.countP p + l.countP q
  | [], _ => rfl
  | a :: l, h => by
    have ih := countP_or (p := p) (q := q) l h
    simp only [List.countP_cons, ih]
    cases hp : p a with
    | true => rw [h a hp]; simp; omega
    | false => cases q a <;> simp <;> omega
theorem lenSum_count {x : List Int} : ∀ k, k ≤ x.length → lenSum (classesTo x k) = x.countP (fun y => decide (y ∈ takenV x k))
  | 0, _ => by
    have : x.countP (fun y => decide (y ∈ takenV x 0)) = 0 := List.countP_eq_zero.2 fun y _ => by simp [takenV]
    rw [this]; rfl
  | k + 1, hk => by
    have hkx : k < x.length := by omega
    have ih := lenSum_count (x := x) k (by omega)
    cases ht : takesAt x k with
    | false =>
      rw [classesTo_no ht, ih, takenV_succ, if_neg (by rw [ht]; simp)]
    | true =>
      rw [classesTo_yes hkx ht, lenSum_append]
      have h1 : lenSum [clsTo x x[k] x.length] = x.countP (fun y => decide (y = x[k])) := by
        show (clsTo x x[k] x.length).length + 0 = _
        rw [clsTo_count _ (Nat.le_refl _), List.take_length, Nat.add_zero]
      rw [h1, ih]
      have h2 : (fun y => decide (y ∈ takenV x (k + 1))) = fun y => decide (y ∈ takenV x k) || decide (y = x[k]) := by
        funext y
        rw [takenV_succ, if_pos ht, ← List.getElem_eq_getD (h := hkx)]
        simp [List.mem_append]
      rw [h2, countP_or]
      intro y hy
      have hy := of_decide_eq_true hy
      obtain ⟨j, hj, hjk, rfl⟩ := takenV_mem (by omega) hy
      refine decide_eq_false fun e => ?_
      have hf : isFirst x k = true := by
        unfold takesAt at ht
        rw [Bool.and_eq_true] at ht
        exact ht.1
      exact (firstN_iff x k x.length hkx (Nat.le_refl _)).1 hf j hj hj hjk e
theorem classes_sum_le (x : List Int) : lenSum (classesTo x x.length) ≤ x.length := by
  rw [lenSum_count _ (Nat.le_refl _)]; exact List.countP_le_length
/-- the first index that holds what n holds -/
theorem first_of {x : List Int} {n : Nat} (hn : n < x.length) : ∃ (k : Nat) (hk : k < x.length), k ≤ n ∧ x[k] = x[n] ∧ isFirst x k = true := by
  have key : ∀ (m : Nat) (hm : m < x.length), (∀ i (h : i < x.length), i < m → x[i] ≠ x[n]) → x[m] = x[n] → isFirst x m = true := fun m hm h e => by
    exact (firstN_iff x m x.length hm (Nat.le_refl _)).2 fun i hi _ him => by rw [e]; exact h i hi him
  have hex : ∀ d, ∀ m, m + d = n → (∀ i (h : i < x.length), i < m → x[i] ≠ x[n]) → ∃ (k : Nat) (hk : k < x.length), k ≤ n ∧ x[k] = x[n] ∧ isFirst x k = true := by
    intro d
    induction d with
    | zero => intro m hm h; obtain rfl : m = n := by omega
              exact ⟨m, hn, Nat.le_refl _, rfl, key m hn h rfl⟩
    | succ d ih =>
      intro m hm h
      have hmx : m < x.length := by omega
      by_cases e : x[m] = x[n]
      · exact ⟨m, hmx, by omega, e, key m hmx h e⟩
      · refine ih (m + 1) (by omega) fun i hi him => ?_
        by_cases e2 : i = m
        · subst e2; exact e
        · exact h i hi (by omega)
  exact hex n 0 (by omega) (fun i _ h => by omega)
theorem clsTo_has {x : List Int} {r : Int} : ∀ {n j : Nat} (hj : j < x.length), n ≤ x.length → j < n → x[j] = r → (j : Int) ∈ clsTo x r n
  | 0, j, _, _, h, _ => by omega
  | n + 1, j, hj, hn, h, e => by
    have hnx : n < x.length := by omega
    by_cases ej : j = n
    · subst ej
      rw [clsTo_yes hnx e]; exact List.mem_append_right _ (List.mem_singleton.2 rfl)
    · have ih := clsTo_has (n := n) hj (by omega) (by omega) e
      by_cases en : x[n] = r
      · rw [clsTo_yes hnx en]; exact List.mem_append_left _ ih
      · rw [clsTo_no hnx en]; exact ih
/-- what a null other than itself stands for is told -/
theorem taken_of_moved {x : List Int} (hok : ufOk x = true) {n : Nat} (hn : n < x.length) (h : ¬ x[n] = -1 - (n : Int)) : x[n] ∈ takenV x x.length := by
  obtain ⟨k, hk, hkn, he, hf⟩ := first_of hn
  rw [← he]
  refine takenV_of hk hk ?_
  rw [takesAt_at hk, hf, Bool.true_and, Bool.or_eq_true, decide_eq_true_eq, decide_eq_true_eq]
  by_cases h0 : 0 ≤ x[k]
  · exact .inr h0
  · left
    have hp := ufOk_parts hok
    have hv := hp.val n hn
    obtain ⟨m, hm⟩ : ∃ m : Nat, -1 - x[n] = (m : Int) := ⟨(-1 - x[n]).toNat, by omega⟩
    obtain ⟨hml, hmn, hme⟩ := hp.root n hn m hm
    have hne : m ≠ n := fun e => h (by omega)
    have h1 := clsTo_has (n := x.length) hn (Nat.le_refl _) hn he.symm
    have h2 := clsTo_has (n := x.length) (r := x[k]) hml (Nat.le_refl _) hml (by rw [hme, he])
    rcases hl : clsTo x x[k] x.length with _ | ⟨a, _ | ⟨b, l⟩⟩
    · rw [hl] at h1; cases h1
    · rw [hl, List.mem_singleton] at h1 h2; omega
    · simp
theorem sub_count {x : List Int} (hok : ufOk x = true) : ∀ n, n ≤ x.length → (subTo x n).nulls.length ≤ (x.take n).countP (fun y => decide (y ∈ takenV x x.length))
  | 0, _ => Nat.zero_le _
  | n + 1, hn => by
    have hnx : n < x.length := by omega
    have ih := sub_count hok n (by omega)
    rw [List.take_succ_eq_append_getElem hnx, List.countP_append]
    by_cases e : x[n] = -1 - (n : Int)
    · rw [subTo_eq hnx e]; omega
    · rw [(subTo_ne hnx e).1, List.length_append]
      have := taken_of_moved hok hnx e
      simp [this]; omega
theorem classes_end {x : List Int} (hok : ufOk x = true) : lenSum (EquivalenceClasses_r0 x) ≤ x.length ∧ (UnionSubstitution_r0 x).nulls.length ≤ lenSum (EquivalenceClasses_r0 x) := by
  have e1 : EquivalenceClasses_r0 x = classesTo x x.length := if_pos hok
  have e2 : UnionSubstitution_r0 x = subTo x x.length := if_pos hok
  rw [e1, e2]
  refine ⟨classes_sum_le x, ?_⟩
  have := sub_count hok x.length (Nat.le_refl _)
  rw [List.take_length] at this
  rw [lenSum_count _ (Nat.le_refl _)]
  exact this

end Go.Proofs.Ytalijnfbopcmeaa
