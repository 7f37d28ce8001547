/-
  Walks and plain lemmas for the laws of this seat: what single Go functions return, for every argument.
-/
import Derived.Test.YtbdgdphehbkjgaaBase
import Derived.Test.YtbdgdphehbkjgaaRel
namespace Go.Proofs.Ytbdgdphehbkjgaa
open Go.RowKit

set_option maxHeartbeats 400000 in
theorem szRelation_any (s : ByteArray) (a : Int) (b : Bool) (left : Int) (w : World) (hs : s.size ≤ maxLen) (h0 : 0 ≤ left) (h1 : left ≤ 1048576) :
    Calls Try.prog 108 #[.agg #[.string s, .int .i64 a, .bool b], .int .i64 left] w fun e w' => e = .returned (.int .i64 (szLeft left s.size)) ∧ Below w.heap.size w w' := by
  unfold maxLen at hs
  unfold szLeft
  by_cases h : (s.size : Int) ≤ left
  · rw [if_pos h]
    go_enter Try.func108, Try.ntmps108
    go_wp2
    go_ret
    exact ⟨rfl, (Below.refl _ _).alloc (Nat.le_refl _) _⟩
  · rw [if_neg h]
    go_enter Try.func108, Try.ntmps108
    go_wp2
    go_ret
    exact ⟨rfl, (Below.refl _ _).alloc (Nat.le_refl _) _⟩

set_option maxHeartbeats 400000 in
theorem toRelation_any (s : ByteArray) (a : Int) (b : Bool) (w : World) :
    Calls Try.prog 113 #[.agg #[.string s, .int .i64 a, .bool b]] w fun e w' => e = .returned (.agg #[.string s, .int .i64 a, .bool b]) ∧ Below w.heap.size w w' := by
  go_enter Try.func113, Try.ntmps113
  go_wp2
  exact bodyPost_ret (v := .agg #[.string s, .int .i64 a, .bool b]) (by simp [results, Try.results113, go_sem]) rfl ⟨rfl, below_more (below_more (below_more (Below.refl _ _) _) _) _⟩

end Go.Proofs.Ytbdgdphehbkjgaa
