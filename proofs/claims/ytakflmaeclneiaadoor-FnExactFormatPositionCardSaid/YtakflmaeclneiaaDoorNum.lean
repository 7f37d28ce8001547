/-
  Walks and plain lemmas for the laws of this seat: what single Go functions return, for every argument.
-/
import Derived.Test.YtakflmaeclneiaaDoorBase
namespace Go.Proofs.YtakflmaeclneiaaDoor
open Go.RowKit

/-- the null's number of a value -/
def nullNum (v : Int) : Int × Bool := if -40 ≤ v ∧ v < 0 then (-1 - v, true) else (0, false)
def validV (v : Int) : Bool := decide (-40 ≤ v ∧ v ≤ 9)
theorem nullNum_yes (v : Int) (h : -40 ≤ v ∧ v < 0) : nullNum v = (-1 - v, true) := if_pos h
theorem nullNum_no (v : Int) (h : ¬(-40 ≤ v ∧ v < 0)) : nullNum v = (0, false) := if_neg h
theorem nullNum_bd (v : Int) : 0 ≤ (nullNum v).1 ∧ (nullNum v).1 < 40 := by
  unfold nullNum; split <;> simp <;> omega
theorem inB_true {x lo hi : Int} (h : lo ≤ x ∧ x ≤ hi) : inB x lo hi = true := by unfold inB; exact decide_eq_true h
theorem inB_false {x lo hi : Int} (h : ¬(lo ≤ x ∧ x ≤ hi)) : inB x lo hi = false := by unfold inB; exact decide_eq_false h
theorem ret_pair {a b : Int} {c d : Bool} (h : (a, c) = (b, d)) : Ending.returned (.tuple #[.int .i64 a, .bool c]) = .returned (.tuple #[.int .i64 b, .bool d]) := by injection h with h h'; rw [h, h']

set_option maxHeartbeats 400000 in
theorem l1In_any (x lo hi : Int) (w : World) :
    Calls Tryd.prog 31 #[.int .i64 x, .int .i64 lo, .int .i64 hi] w fun e w' => e = .returned (.bool (inB x lo hi)) ∧ w = w' := by
  by_cases h1 : lo ≤ x
  all_goals
    go_enter Tryd.func31, Tryd.ntmps31
    go_wp2
    go_ret
    simp [inB]
    first | omega | skip
theorem l1In_at (x lo hi : Int) (b : Bool) (h : inB x lo hi = b) (w : World) : Calls Tryd.prog 31 #[.int .i64 x, .int .i64 lo, .int .i64 hi] w fun e w' => e = .returned (.bool b) ∧ w = w' := by
  subst h; exact l1In_any x lo hi w

end Go.Proofs.YtakflmaeclneiaaDoor
