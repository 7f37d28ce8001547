/-
  Walks and plain lemmas for the laws of this seat: what single Go functions return, for every argument.
-/
import Derived.Lib.SlicesCompact
import Derived.Test.YtakflmaeclneiaaDoorBase
import Derived.Test.YtakflmaeclneiaaDoorNum
namespace Go.Proofs.YtakflmaeclneiaaDoor
open Go.RowKit

/-- the numbers of the nulls, one after another -/
def addNum (out : List Int) (v : Int) : List Int := if (nullNum v).2 then out ++ [(nullNum v).1] else out
def numsOf (vs : List Int) : List Int := vs.foldl addNum []
theorem numsOf_take (vs : List Int) (k : Nat) (h : k < vs.length) : numsOf (vs.take (k + 1)) = addNum (numsOf (vs.take k)) vs[k] := by
  unfold numsOf; rw [List.take_succ_eq_append_getElem h, List.foldl_append]; rfl
theorem addNum_len (out : List Int) (v : Int) : (addNum out v).length ≤ out.length + 1 := by unfold addNum; split <;> simp
theorem numsOf_len (vs : List Int) (k : Nat) : (numsOf (vs.take k)).length ≤ k := by
  induction k with
  | zero => simp [numsOf]
  | succ k ih =>
    by_cases h : k < vs.length
    · rw [numsOf_take vs k h]
      have := addNum_len (numsOf (vs.take k)) vs[k]
      omega
    · rw [List.take_of_length_le (by omega), ← List.take_of_length_le (show vs.length ≤ k by omega)]; omega
theorem nums_mem (vs : List Int) (a b : List Int) (h : ∀ x, x ∈ a ↔ x ∈ b) (x : Int) : x ∈ vs.foldl addNum a ↔ x ∈ vs.foldl addNull b := by
  induction vs generalizing a b with
  | nil => exact h x
  | cons v t ih =>
    rw [List.foldl_cons, List.foldl_cons]
    refine ih _ _ (fun y => ?_)
    unfold addNum addNull
    split
    · rw [List.mem_append, putI_mem, List.mem_singleton, h y, or_comm]
    · exact h y
theorem asc_eq (a b : List Int) (ha : a.Pairwise (· < ·)) (hb : b.Pairwise (· < ·)) (h : ∀ x, x ∈ a ↔ x ∈ b) : a = b := by
  induction a generalizing b with
  | nil =>
    cases b with
    | nil => rfl
    | cons y t => exact absurd ((h y).2 (by simp)) (by simp)
  | cons x a ih =>
    cases b with
    | nil => exact absurd ((h x).1 (by simp)) (by simp)
    | cons y t =>
      rw [List.pairwise_cons] at ha hb
      have e : x = y := by
        rcases List.mem_cons.1 ((h x).1 (by simp)) with h1 | h1
        · exact h1
        · rcases List.mem_cons.1 ((h y).2 (by simp)) with h2 | h2
          · exact h2.symm
          · have := ha.1 y h2; have := hb.1 x h1; omega
      subst e
      congr 1
      refine ih t ha.2 hb.2 (fun z => ⟨fun hz => ?_, fun hz => ?_⟩)
      · rcases List.mem_cons.1 ((h z).1 (by simp [hz])) with h1 | h1
        · have := ha.1 z hz; omega
        · exact h1
      · rcases List.mem_cons.1 ((h z).2 (by simp [hz])) with h1 | h1
        · have := hb.1 z hz; omega
        · exact h1
theorem compact_upTo (zs : List Int) (hs : zs.Pairwise (· ≤ ·)) (m : Nat) (hm : m ≤ zs.length) : (Lib.compactUpTo zs.toArray m).Pairwise (· < ·) ∧ (∀ x, x ∈ Lib.compactUpTo zs.toArray m ↔ x ∈ zs.take m) := by
  induction m with
  | zero => simp [Lib.compactUpTo]
  | succ m ih =>
    obtain ⟨i1, i2⟩ := ih (by omega)
    have hlt : m < zs.length := by omega
    have e0 : zs.toArray[m]! = zs[m] := by rw [getElem!_pos _ m (by simpa using hlt)]; simp
    rw [Lib.compactUpTo_succ, e0, List.take_succ_eq_append_getElem hlt]
    have hle : ∀ y ∈ zs.take m, y ≤ zs[m] := by
      intro y hy
      obtain ⟨j, hj, rfl⟩ := List.getElem_of_mem hy
      rw [List.getElem_take]
      exact List.pairwise_iff_getElem.1 hs j m (by rw [List.length_take] at hj; omega) hlt (by rw [List.length_take] at hj; omega)
    cases hk : Lib.keeps zs.toArray m with
    | true =>
      rw [if_pos rfl]
      refine ⟨?_, fun x => by rw [List.mem_append, List.mem_append, i2]⟩
      rw [List.pairwise_append]
      refine ⟨i1, by simp, fun y hy z hz => ?_⟩
      rw [List.mem_singleton.1 hz]
      have hy' := (i2 y).1 hy
      have h1 := hle y hy'
      have h2 : ¬ y = zs[m] := by
        intro e
        unfold Lib.keeps at hk
        rw [decide_eq_true_eq] at hk
        rcases hk with hk | hk
        · subst hk; simp at hy'
        · refine hk ?_
          have hm1 : m - 1 < zs.length := by omega
          rcases Nat.eq_zero_or_pos m with h0 | h0
          · subst h0; simp at hy'
          have e1 : zs.toArray[m - 1]! = zs[m - 1] := by rw [getElem!_pos _ (m - 1) (by simpa using hm1)]; simp
          rw [e0, e1]
          obtain ⟨j, hj, rfl⟩ := List.getElem_of_mem hy'
          rw [List.length_take] at hj
          rw [List.getElem_take] at e
          have ha := List.pairwise_iff_getElem.1 hs (m - 1) m hm1 hlt (by omega)
          rcases Nat.lt_or_eq_of_le (show j ≤ m - 1 by omega) with hj1 | hj1
          · have hb := List.pairwise_iff_getElem.1 hs j (m - 1) (by omega) hm1 hj1
            omega
          · subst hj1; omega
      omega
    | false =>
      rw [if_neg (by simp), List.append_nil]
      refine ⟨i1, fun x => ?_⟩
      rw [i2, List.mem_append]
      refine ⟨.inl, fun h => ?_⟩
      rcases h with h | h
      · exact h
      · rw [List.mem_singleton.1 h]
        unfold Lib.keeps at hk
        rw [decide_eq_false_iff_not] at hk
        have h0 : 0 < m := by
          rcases Nat.eq_zero_or_pos m with h0 | h0
          · exact absurd (.inl h0) hk
          · exact h0
        have hm1 : m - 1 < zs.length := by omega
        have e1 : zs.toArray[m - 1]! = zs[m - 1] := by rw [getElem!_pos _ (m - 1) (by simpa using hm1)]; simp
        have : zs[m] = zs[m - 1] := by
          rw [← e0, ← e1]
          exact Classical.byContradiction fun hh => hk (.inr hh)
        rw [this]
        exact List.mem_iff_getElem.2 ⟨m - 1, by rw [List.length_take]; omega, by rw [List.getElem_take]⟩
/-- sorted, doubles dropped: the nulls in ascending order -/
theorem compact_sort (vs : List Int) : Lib.compact ((numsOf vs).mergeSort fun x y => decide (x ≤ y)) = nullsOf vs := by
  have hs : ((numsOf vs).mergeSort fun x y => decide (x ≤ y)).Pairwise (· ≤ ·) := by
    have := List.pairwise_mergeSort (le := fun (x y : Int) => decide (x ≤ y)) (by intro a b c; simp; omega) (by intro a b; simp; omega) (numsOf vs)
    exact this.imp (fun h => by simpa using h)
  obtain ⟨h1, h2⟩ := compact_upTo _ hs _ (Nat.le_refl _)
  refine asc_eq _ _ h1 ?_ (fun x => ?_)
  · have := (AscN.nullsOf vs vs.length).1
    rwa [List.take_of_length_le (Nat.le_refl _)] at this
  · unfold Lib.compact
    rw [h2, List.take_of_length_le (Nat.le_refl _), List.mem_mergeSort]
    exact nums_mem vs [] [] (fun _ => Iff.rfl) x

/-- the first place where p holds, counted from i on; -1 -/
def ixFrom {α : Type} (p : α → Bool) : List α → Nat → Int
  | [], _ => -1
  | y :: t, i => if p y = true then (i : Int) else ixFrom p t (i + 1)
def ixOf {α : Type} (p : α → Bool) (l : List α) : Int := ixFrom p l 0
def IxTo {α : Type} (p : α → Bool) (l : List α) (k : Nat) : Prop := ixOf p l = ixFrom p (l.drop k) k
theorem IxTo.zero {α : Type} (p : α → Bool) (l : List α) : IxTo p l 0 := rfl
theorem IxTo.next {α : Type} {p : α → Bool} {l : List α} {k : Nat} (h : IxTo p l k) (hk : k < l.length) (hn : p l[k] = false) : IxTo p l (k + 1) := by
  unfold IxTo at *
  rw [h, List.drop_eq_getElem_cons hk, ixFrom, if_neg (by rw [hn]; simp)]
theorem IxTo.hit {α : Type} {p : α → Bool} {l : List α} {k : Nat} (h : IxTo p l k) (hk : k < l.length) (hn : p l[k] = true) : ixOf p l = (k : Int) := by
  unfold IxTo at h
  rw [h, List.drop_eq_getElem_cons hk, ixFrom, if_pos hn]
theorem IxTo.miss {α : Type} {p : α → Bool} {l : List α} (h : IxTo p l l.length) : ixOf p l = -1 := by
  unfold IxTo at h
  rw [h, List.drop_length]; rfl
theorem ixFrom_form {α : Type} (p : α → Bool) (l : List α) (i : Nat) : (ixFrom p l i = -1 ∧ l.any p = false) ∨ ∃ k, ∃ h : k < l.length, ixFrom p l i = ((i + k : Nat) : Int) ∧ p l[k] = true ∧ ∀ j (hj : j < l.length), j < k → p l[j] = false := by
  induction l generalizing i with
  | nil => exact .inl ⟨rfl, rfl⟩
  | cons y t ih =>
    cases hy : p y with
    | true => exact .inr ⟨0, by simp, by rw [ixFrom, if_pos hy]; rfl, hy, fun j hj h => absurd h (by omega)⟩
    | false =>
      have e : ixFrom p (y :: t) i = ixFrom p t (i + 1) := by rw [ixFrom, if_neg (by rw [hy]; simp)]
      rcases ih (i + 1) with ⟨h1, h2⟩ | ⟨k, hk, h1, h2, h3⟩
      · exact .inl ⟨e.trans h1, by rw [List.any_cons, hy, h2]; rfl⟩
      · refine .inr ⟨k + 1, by simpa using hk, by rw [e, h1]; congr 1; omega, by simpa using h2, fun j hj hjk => ?_⟩
        cases j with
        | zero => exact hy
        | succ j => exact h3 j (by simpa using hj) (by omega)
theorem ixOf_form {α : Type} (p : α → Bool) (l : List α) : (ixOf p l = -1 ∧ l.any p = false) ∨ ∃ k, ∃ h : k < l.length, ixOf p l = (k : Int) ∧ p l[k] = true ∧ ∀ j (hj : j < l.length), j < k → p l[j] = false := by
  rcases ixFrom_form p l 0 with h | ⟨k, hk, h1, h2, h3⟩
  · exact .inl h
  · exact .inr ⟨k, hk, by unfold ixOf; rw [h1, Nat.zero_add], h2, h3⟩
theorem ixOf_any {α : Type} (p : α → Bool) (l : List α) : decide (0 ≤ ixOf p l) = l.any p := by
  rcases ixOf_form p l with ⟨h1, h2⟩ | ⟨k, hk, h1, h2, _⟩
  · rw [h1, h2]; rfl
  · rw [h1, decide_eq_true (by omega)]
    exact (List.any_eq_true.2 ⟨l[k], List.getElem_mem hk, h2⟩).symm
theorem ixOf_bd {α : Type} (p : α → Bool) (l : List α) : -1 ≤ ixOf p l ∧ ixOf p l < l.length := by
  rcases ixOf_form p l with ⟨h1, _⟩ | ⟨k, hk, h1, _, _⟩ <;> omega
/-- what stays where those of which p holds are taken out -/
def keepN {α : Type} (p : α → Bool) (l : List α) : List α := l.filter fun x => !p x
theorem keepN_none {α : Type} {p : α → Bool} {l : List α} (h : l.any p = false) : keepN p l = l := by
  unfold keepN
  rw [List.filter_eq_self]
  intro a ha
  rw [List.any_eq_false] at h
  simpa using h a ha
theorem keepN_take {α : Type} {p : α → Bool} {l : List α} (k : Nat) (h : k < l.length) : keepN p (l.take (k + 1)) = keepN p (l.take k) ++ (if p l[k] = true then [] else [l[k]]) := by
  unfold keepN
  rw [List.take_succ_eq_append_getElem h, List.filter_append]
  congr 1
  by_cases hp : p l[k] = true <;> simp [hp]
theorem keepN_len {α : Type} (p : α → Bool) (l : List α) : (keepN p l).length ≤ l.length := List.length_filter_le _ _
theorem keepN_first {α : Type} {p : α → Bool} {l : List α} (k : Nat) (h : k < l.length) (h1 : p l[k] = true) (h2 : ∀ j (hj : j < l.length), j < k → p l[j] = false) : keepN p (l.take (k + 1)) = l.take k := by
  rw [keepN_take k h, if_pos h1, List.append_nil]
  refine keepN_none (List.any_eq_false.2 fun a ha => ?_)
  obtain ⟨j, hj, rfl⟩ := List.getElem_of_mem ha
  rw [List.length_take] at hj
  rw [List.getElem_take, h2 j (by omega) (by omega)]; simp

end Go.Proofs.YtakflmaeclneiaaDoor
