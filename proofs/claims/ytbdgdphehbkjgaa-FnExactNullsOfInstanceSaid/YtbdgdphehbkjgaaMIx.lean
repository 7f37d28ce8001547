/-
  Walks and plain lemmas for the laws of this seat: what single Go functions return, for every argument.
-/
import Derived.Test.YtbdgdphehbkjgaaBase
namespace Go.Proofs.Ytbdgdphehbkjgaa
open Go.RowKit

/-- the first place where p holds, counted from i on; -1 -/
def ixFrom {α : Type} (p : α → Bool) : List α → Nat → Int
  | [], _ => -1
  | y :: t, i => if p y = true then (i : Int) else ixFrom p t (i + 1)
def ixOf {α : Type} (p : α → Bool) (l : List α) : Int := ixFrom p l 0
def IxTo {α : Type} (p : α → Bool) (l : List α) (k : Nat) : Prop := ixOf p l = ixFrom p (l.drop k) k
theorem IxTo.zero {α : Type} (p : α → Bool) (l : List α) : IxTo p l 0 := rfl
theorem IxTo.next {α : Type} {p : α → Bool} {l : List α} {k : Nat} (h : IxTo p l k) (hk : k < l.length) (hn : p l[k] = false) : IxTo p l (k + 1) := by
  unfold IxTo at *
  rw [h, List.drop_eq_getElem_cons hk, ixFrom, if_neg (by rw [hn]; simp)]
theorem IxTo.hit {α : Type} {p : α → Bool} {l : List α} {k : Nat} (h : IxTo p l k) (hk : k < l.length) (hn : p l[k] = true) : ixOf p l = (k : Int) := by
  unfold IxTo at h
  rw [h, List.drop_eq_getElem_cons hk, ixFrom, if_pos hn]
theorem IxTo.miss {α : Type} {p : α → Bool} {l : List α} (h : IxTo p l l.length) : ixOf p l = -1 := by
  unfold IxTo at h
  rw [h, List.drop_length]; rfl
theorem ixFrom_form {α : Type} (p : α → Bool) (l : List α) (i : Nat) : (ixFrom p l i = -1 ∧ l.any p = false) ∨ ∃ k, ∃ h : k < l.length, ixFrom p l i = ((i + k : Nat) : Int) ∧ p l[k] = true ∧ ∀ j (hj : j < l.length), j < k → p l[j] = false := by
  induction l generalizing i with
  | nil => exact .inl ⟨rfl, rfl⟩
  | cons y t ih =>
    cases hy : p y with
    | true => exact .inr ⟨0, by simp, by rw [ixFrom, if_pos hy]; rfl, hy, fun j hj h => absurd h (by omega)⟩
    | false =>
      have e : ixFrom p (y :: t) i = ixFrom p t (i + 1) := by rw [ixFrom, if_neg (by rw [hy]; simp)]
      rcases ih (i + 1) with ⟨h1, h2⟩ | ⟨k, hk, h1, h2, h3⟩
      · exact .inl ⟨e.trans h1, by rw [List.any_cons, hy, h2]; rfl⟩
      · refine .inr ⟨k + 1, by simpa using hk, by rw [e, h1]; congr 1; omega, by simpa using h2, fun j hj hjk => ?_⟩
        cases j with
        | zero => exact hy
        | succ j => exact h3 j (by simpa using hj) (by omega)
theorem ixOf_form {α : Type} (p : α → Bool) (l : List α) : (ixOf p l = -1 ∧ l.any p = false) ∨ ∃ k, ∃ h : k < l.length, ixOf p l = (k : Int) ∧ p l[k] = true ∧ ∀ j (hj : j < l.length), j < k → p l[j] = false := by
  rcases ixFrom_form p l 0 with h | ⟨k, hk, h1, h2, h3⟩
  · exact .inl h
  · exact .inr ⟨k, hk, by unfold ixOf; rw [h1, Nat.zero_add], h2, h3⟩
theorem ixOf_any {α : Type} (p : α → Bool) (l : List α) : decide (0 ≤ ixOf p l) = l.any p := by
  rcases ixOf_form p l with ⟨h1, h2⟩ | ⟨k, hk, h1, h2, _⟩
  · rw [h1, h2]; rfl
  · rw [h1, decide_eq_true (by omega)]
    exact (List.any_eq_true.2 ⟨l[k], List.getElem_mem hk, h2⟩).symm
theorem ixOf_bd {α : Type} (p : α → Bool) (l : List α) : -1 ≤ ixOf p l ∧ ixOf p l < l.length := by
  rcases ixOf_form p l with ⟨h1, _⟩ | ⟨k, hk, h1, _, _⟩ <;> omega
/-- what stays where those of which p holds are taken out -/
def keepN {α : Type} (p : α → Bool) (l : List α) : List α := l.filter fun x => !p x
theorem keepN_none {α : Type} {p : α → Bool} {l : List α} (h : l.any p = false) : keepN p l = l := by
  unfold keepN
  rw [List.filter_eq_self]
  intro a ha
  rw [List.any_eq_false] at h
  simpa using h a ha
theorem keepN_take {α : Type} {p : α → Bool} {l : List α} (k : Nat) (h : k < l.length) : keepN p (l.take (k + 1)) = keepN p (l.take k) ++ (if p l[k] = true then [] else [l[k]]) := by
  unfold keepN
  rw [List.take_succ_eq_append_getElem h, List.filter_append]
  congr 1
  by_cases hp : p l[k] = true <;> simp [hp]
theorem keepN_len {α : Type} (p : α → Bool) (l : List α) : (keepN p l).length ≤ l.length := List.length_filter_le _ _
theorem keepN_first {α : Type} {p : α → Bool} {l : List α} (k : Nat) (h : k < l.length) (h1 : p l[k] = true) (h2 : ∀ j (hj : j < l.length), j < k → p l[j] = false) : keepN p (l.take (k + 1)) = l.take k := by
  rw [keepN_take k h, if_pos h1, List.append_nil]
  refine keepN_none (List.any_eq_false.2 fun a ha => ?_)
  obtain ⟨j, hj, rfl⟩ := List.getElem_of_mem ha
  rw [List.length_take] at hj
  rw [List.getElem_take, h2 j (by omega) (by omega)]; simp

end Go.Proofs.Ytbdgdphehbkjgaa
