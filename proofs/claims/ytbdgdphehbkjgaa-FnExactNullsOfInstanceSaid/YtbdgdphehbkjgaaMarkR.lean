/-
  Walks and plain lemmas for the laws of this seat: what single Go functions return, for every argument.
-/
import Derived.Test.YtbdgdphehbkjgaaRels
import Derived.Test.YtbdgdphehbkjgaaMarkT
namespace Go.Proofs.Ytbdgdphehbkjgaa
open Go.RowKit

def markRel (k : Nat) : Rel := ⟨mText k, ((k + 1 : Nat) : Int), decide ((k + 2) % 3 = 0)⟩
def markRels (k n : Nat) : List Rel := (List.range n).map fun i => markRel (k + 3 * i)
theorem markRels_len (k n : Nat) : (markRels k n).length = n := by simp [markRels]
theorem markRels_at (k n i : Nat) (h : i < (markRels k n).length) : (markRels k n)[i] = markRel (k + 3 * i) := by simp [markRels]
theorem markRels_succ (k n : Nat) : markRels k (n + 1) = markRels k n ++ [markRel (k + 3 * n)] := by simp [markRels, List.range_succ]
theorem mark_set (l : List Rel) (k i : Nat) (h : i < l.length) : (markRels k i ++ l.drop i).set i (markRel (k + 3 * i)) = markRels k (i + 1) ++ l.drop (i + 1) := by
  rw [List.set_append_right _ _ (by rw [markRels_len]; exact Nat.le_refl _), markRels_len, Nat.sub_self, List.drop_eq_getElem_cons h, List.set_cons_zero, markRels_succ, List.append_assoc]
  rfl

end Go.Proofs.Ytbdgdphehbkjgaa
