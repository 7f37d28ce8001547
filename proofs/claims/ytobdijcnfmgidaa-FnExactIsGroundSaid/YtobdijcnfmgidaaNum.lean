/-
  Walks and plain lemmas for the laws of this seat: what single Go functions return, for every argument.
-/
import Derived.Test.YtobdijcnfmgidaaBase
namespace Go.Proofs.Ytobdijcnfmgidaa
open Go.RowKit

/-- the null's number of a value -/
def nullNum (v : Int) : Int × Bool := if -40 ≤ v ∧ v < 0 then (-1 - v, true) else (0, false)
def validV (v : Int) : Bool := decide (-40 ≤ v ∧ v ≤ 9)
theorem nullNum_yes (v : Int) (h : -40 ≤ v ∧ v < 0) : nullNum v = (-1 - v, true) := if_pos h
theorem nullNum_no (v : Int) (h : ¬(-40 ≤ v ∧ v < 0)) : nullNum v = (0, false) := if_neg h
theorem nullNum_bd (v : Int) : 0 ≤ (nullNum v).1 ∧ (nullNum v).1 < 40 := by
  unfold nullNum; split <;> simp <;> omega
theorem inB_true {x lo hi : Int} (h : lo ≤ x ∧ x ≤ hi) : inB x lo hi = true := by unfold inB; exact decide_eq_true h
theorem inB_false {x lo hi : Int} (h : ¬(lo ≤ x ∧ x ≤ hi)) : inB x lo hi = false := by unfold inB; exact decide_eq_false h
theorem ret_pair {a b : Int} {c d : Bool} (h : (a, c) = (b, d)) : Ending.returned (.tuple #[.int .i64 a, .bool c]) = .returned (.tuple #[.int .i64 b, .bool d]) := by injection h with h h'; rw [h, h']

set_option maxHeartbeats 400000 in
theorem specNullValue_any (k : Int) (w : World) (h0 : -9223372036854775808 ≤ k) (h1 : k ≤ 9223372036854775807) :
    Calls Try.prog 153 #[.int .i64 k] w fun e w' => e = .returned (.int .i64 (-1 - k)) ∧ w = w' := by
  go_enter Try.func153, Try.ntmps153
  go_wp2
  go_ret
  exact ⟨rfl, rfl⟩

set_option maxHeartbeats 400000 in
theorem implIsNull_any (v : Int) (w : World) :
    Calls Try.prog 103 #[.int .i64 v] w fun e w' => e = .returned (.bool (decide (v < 0))) ∧ w = w' := by
  go_enter Try.func103, Try.ntmps103
  go_wp2
  go_ret
  exact ⟨rfl, rfl⟩

set_option maxHeartbeats 400000 in
theorem implNullValue_any (k : Int) (w : World) (h0 : -9223372036854775808 ≤ k) (h1 : k ≤ 9223372036854775807) :
    Calls Try.prog 122 #[.int .i64 k] w fun e w' => e = .returned (.int .i64 (-1 - k)) ∧ w = w' := by
  go_enter Try.func122, Try.ntmps122
  go_wp2
  go_ret
  exact ⟨rfl, rfl⟩

set_option maxHeartbeats 400000 in
theorem implIsNullNumber_any (k : Int) (w : World) :
    Calls Try.prog 123 #[.int .i64 k] w fun e w' => e = .returned (.bool (inB k 0 39)) ∧ w = w' := by
  by_cases h : 0 ≤ k
  · have HV := Lib.hid (show decide (k < 40) = inB k 0 39 by unfold inB; rw [decide_eq_decide]; omega)
    have hd : decide (0 ≤ k) = true := decide_eq_true h
    go_enter Try.func123, Try.ntmps123
    go_wp2
    go_ret
    exact ⟨ret_bool HV.out, rfl⟩
  · have HV := Lib.hid (show false = inB k 0 39 from (inB_false (by omega)).symm)
    have hd : decide (0 ≤ k) = false := decide_eq_false h
    go_enter Try.func123, Try.ntmps123
    go_wp2
    go_ret
    exact ⟨ret_bool HV.out, rfl⟩
theorem implIsNullNumber_at (k : Int) (b : Bool) (h : inB k 0 39 = b) (w : World) :
    Calls Try.prog 123 #[.int .i64 k] w fun e w' => e = .returned (.bool b) ∧ w = w' := by
  subst h; exact implIsNullNumber_any k w

set_option maxHeartbeats 400000 in
theorem implNullNumber_any (v : Int) (w : World) (h0 : -9223372036854775808 ≤ v) (h1 : v ≤ 9223372036854775807) :
    Calls Try.prog 83 #[.int .i64 v] w fun e w' => e = .returned (.tuple #[.int .i64 (nullNum v).1, .bool (nullNum v).2]) ∧ w = w' := by
  by_cases h : -40 ≤ v ∧ v < 0
  · rw [nullNum_yes v h]
    have hc := fun W => implIsNullNumber_at (-1 - v) true (inB_true (by omega)) W
    obtain ⟨ha, hb⟩ := h
    go_enter Try.func83, Try.ntmps83
    go_wp2_with (first | (go_at_call 122; refine (implNullValue_any _ _ h0 h1).mono ?_; rintro e w' ⟨rfl, rfl⟩) | (go_at_call 123; refine (hc _).mono ?_; rintro e w' ⟨rfl, rfl⟩))
    go_ret2
    exact ⟨rfl, rfl⟩
  · rw [nullNum_no v h]
    have hc := fun W => implIsNullNumber_at (-1 - v) false (inB_false (by omega)) W
    go_enter Try.func83, Try.ntmps83
    go_wp2_with (first | (go_at_call 122; refine (implNullValue_any _ _ h0 h1).mono ?_; rintro e w' ⟨rfl, rfl⟩) | (go_at_call 123; refine (hc _).mono ?_; rintro e w' ⟨rfl, rfl⟩))
    go_ret2
    exact ⟨rfl, rfl⟩

set_option maxHeartbeats 400000 in
theorem implIsValidValue_any (v : Int) (w : World) (h0 : -9223372036854775808 ≤ v) (h1 : v ≤ 9223372036854775807) :
    Calls Try.prog 61 #[.int .i64 v] w fun e w' => e = .returned (.bool (validV v)) ∧ w = w' := by
  by_cases h : v < 0
  · have HV := Lib.hid (show (nullNum v).2 = validV v by
      unfold validV nullNum
      split
      · exact (decide_eq_true (by omega)).symm
      · exact (decide_eq_false (by omega)).symm)
    have hd : decide (v < 0) = true := decide_eq_true h
    go_enter Try.func61, Try.ntmps61
    go_wp2_with (first | (go_at_call 103; refine (implIsNull_any _ _).mono ?_; rintro e w' ⟨rfl, rfl⟩) | (go_at_call 83; refine (implNullNumber_any _ _ h0 h1).mono ?_; rintro e w' ⟨rfl, rfl⟩))
    go_ret
    exact ⟨ret_bool HV.out, rfl⟩
  · have HV := Lib.hid (show decide (v ≤ 9) = validV v by unfold validV; rw [decide_eq_decide]; omega)
    have hd : decide (v < 0) = false := decide_eq_false h
    go_enter Try.func61, Try.ntmps61
    go_wp2_with (first | (go_at_call 103; refine (implIsNull_any _ _).mono ?_; rintro e w' ⟨rfl, rfl⟩) | (go_at_call 83; refine (implNullNumber_any _ _ h0 h1).mono ?_; rintro e w' ⟨rfl, rfl⟩))
    go_ret
    exact ⟨ret_bool HV.out, rfl⟩

theorem implIsValidValue_at (v : Int) (b : Bool) (h : validV v = b) (w : World) (h0 : -9223372036854775808 ≤ v) (h1 : v ≤ 9223372036854775807) :
    Calls Try.prog 61 #[.int .i64 v] w fun e w' => e = .returned (.bool b) ∧ w = w' := by
  subst h; exact implIsValidValue_any v w h0 h1

set_option maxHeartbeats 400000 in
theorem l1In_any (x lo hi : Int) (w : World) :
    Calls Try.prog 87 #[.int .i64 x, .int .i64 lo, .int .i64 hi] w fun e w' => e = .returned (.bool (inB x lo hi)) ∧ w = w' := by
  by_cases h1 : lo ≤ x
  all_goals
    go_enter Try.func87, Try.ntmps87
    go_wp2
    go_ret
    simp [inB]
    first | omega | skip
theorem l1In_at (x lo hi : Int) (b : Bool) (h : inB x lo hi = b) (w : World) : Calls Try.prog 87 #[.int .i64 x, .int .i64 lo, .int .i64 hi] w fun e w' => e = .returned (.bool b) ∧ w = w' := by
  subst h; exact l1In_any x lo hi w

set_option maxHeartbeats 400000 in
theorem specNullNumber_any (v : Int) (w : World) (h0 : -9223372036854775808 ≤ v) (h1 : v ≤ 9223372036854775807) :
    Calls Try.prog 86 #[.int .i64 v] w fun e w' => e = .returned (.tuple #[.int .i64 (nullNum v).1, .bool (nullNum v).2]) ∧ w = w' := by
  by_cases hv : 0 ≤ v
  · rw [nullNum_no v (by omega)]
    go_enter Try.func86, Try.ntmps86
    go_wp2
    go_ret2
    exact ⟨rfl, rfl⟩
  · by_cases h : -40 ≤ v
    · have hi : inB (-1 - v) 0 39 = true := inB_true (by omega)
      rw [nullNum_yes v (by omega)]
      go_enter Try.func86, Try.ntmps86
      go_wp2_with (go_at_call 87; refine (l1In_any _ _ _ _).mono ?_; rintro e w' ⟨rfl, rfl⟩)
      go_ret2
      exact ⟨rfl, rfl⟩
    · have hi : inB (-1 - v) 0 39 = false := inB_false (by omega)
      rw [nullNum_no v (by omega)]
      go_enter Try.func86, Try.ntmps86
      go_wp2_with (go_at_call 87; refine (l1In_any _ _ _ _).mono ?_; rintro e w' ⟨rfl, rfl⟩)
      go_ret2
      exact ⟨rfl, rfl⟩

set_option maxHeartbeats 400000 in
theorem specIsValidValue_any (v : Int) (w : World) (h0 : -9223372036854775808 ≤ v) (h1 : v ≤ 9223372036854775807) :
    Calls Try.prog 64 #[.int .i64 v] w fun e w' => e = .returned (.bool (validV v)) ∧ w = w' := by
  by_cases h : -40 ≤ v ∧ v < 0
  · have hr : (nullNum v).2 = true := by rw [nullNum_yes v h]
    have HV := Lib.hid (show validV v = true from decide_eq_true (by omega))
    go_enter Try.func64, Try.ntmps64
    go_wp2_with (first | (go_at_call 86; refine (specNullNumber_any _ _ h0 h1).mono ?_; rintro e w' ⟨rfl, rfl⟩) | (go_at_call 87; refine (l1In_any _ _ _ _).mono ?_; rintro e w' ⟨rfl, rfl⟩))
    go_ret
    exact ⟨ret_bool HV.out.symm, rfl⟩
  · have hr : (nullNum v).2 = false := by rw [nullNum_no v h]
    have HV := Lib.hid (show inB v 0 9 = validV v by unfold inB validV; rw [decide_eq_decide]; omega)
    go_enter Try.func64, Try.ntmps64
    go_wp2_with (first | (go_at_call 86; refine (specNullNumber_any _ _ h0 h1).mono ?_; rintro e w' ⟨rfl, rfl⟩) | (go_at_call 87; refine (l1In_any _ _ _ _).mono ?_; rintro e w' ⟨rfl, rfl⟩))
    go_ret
    exact ⟨ret_bool HV.out, rfl⟩

theorem specIsValidValue_at (v : Int) (b : Bool) (h : validV v = b) (w : World) (h0 : -9223372036854775808 ≤ v) (h1 : v ≤ 9223372036854775807) :
    Calls Try.prog 64 #[.int .i64 v] w fun e w' => e = .returned (.bool b) ∧ w = w' := by
  subst h; exact specIsValidValue_any v w h0 h1

end Go.Proofs.Ytobdijcnfmgidaa
