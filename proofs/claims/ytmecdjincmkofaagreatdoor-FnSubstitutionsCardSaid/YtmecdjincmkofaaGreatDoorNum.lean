/-
  Walks and plain lemmas for the laws of this seat: what single Go functions return, for every argument.
-/
import Derived.Test.YtmecdjincmkofaaGreatDoorBase
import Derived.Test.YtmecdjincmkofaaGreatDoorInts
namespace Go.Proofs.YtmecdjincmkofaaGreatDoor
open Go.RowKit

/-- the null's number of a value -/
def nullNum (v : Int) : Int × Bool := if -40 ≤ v ∧ v < 0 then (-1 - v, true) else (0, false)
def validV (v : Int) : Bool := decide (-40 ≤ v ∧ v ≤ 9)
theorem nullNum_yes (v : Int) (h : -40 ≤ v ∧ v < 0) : nullNum v = (-1 - v, true) := if_pos h
theorem nullNum_no (v : Int) (h : ¬(-40 ≤ v ∧ v < 0)) : nullNum v = (0, false) := if_neg h
theorem nullNum_bd (v : Int) : 0 ≤ (nullNum v).1 ∧ (nullNum v).1 < 40 := by
  unfold nullNum; split <;> simp <;> omega
theorem inB_true {x lo hi : Int} (h : lo ≤ x ∧ x ≤ hi) : inB x lo hi = true := by unfold inB; exact decide_eq_true h
theorem inB_false {x lo hi : Int} (h : ¬(lo ≤ x ∧ x ≤ hi)) : inB x lo hi = false := by unfold inB; exact decide_eq_false h
theorem ret_pair {a b : Int} {c d : Bool} (h : (a, c) = (b, d)) : Ending.returned (.tuple #[.int .i64 a, .bool c]) = .returned (.tuple #[.int .i64 b, .bool d]) := by injection h with h h'; rw [h, h']

set_option maxHeartbeats 400000 in
theorem specNullValue_any (k : Int) (w : World) (h0 : -9223372036854775808 ≤ k) (h1 : k ≤ 9223372036854775807) :
    Calls Tryz.prog 148 #[.int .i64 k] w fun e w' => e = .returned (.int .i64 (-1 - k)) ∧ w = w' := by
  go_enter Tryz.func148, Tryz.ntmps148
  go_wp2
  go_ret
  exact ⟨rfl, rfl⟩

set_option maxHeartbeats 400000 in
theorem l1In_any (x lo hi : Int) (w : World) :
    Calls Tryz.prog 112 #[.int .i64 x, .int .i64 lo, .int .i64 hi] w fun e w' => e = .returned (.bool (inB x lo hi)) ∧ w = w' := by
  by_cases h1 : lo ≤ x
  all_goals
    go_enter Tryz.func112, Tryz.ntmps112
    go_wp2
    go_ret
    simp [inB]
    first | omega | skip
theorem l1In_at (x lo hi : Int) (b : Bool) (h : inB x lo hi = b) (w : World) : Calls Tryz.prog 112 #[.int .i64 x, .int .i64 lo, .int .i64 hi] w fun e w' => e = .returned (.bool b) ∧ w = w' := by
  subst h; exact l1In_any x lo hi w

set_option maxHeartbeats 400000 in
theorem specNullNumber_any (v : Int) (w : World) (h0 : -9223372036854775808 ≤ v) (h1 : v ≤ 9223372036854775807) :
    Calls Tryz.prog 178 #[.int .i64 v] w fun e w' => e = .returned (.tuple #[.int .i64 (nullNum v).1, .bool (nullNum v).2]) ∧ w = w' := by
  by_cases hv : 0 ≤ v
  · rw [nullNum_no v (by omega)]
    go_enter Tryz.func178, Tryz.ntmps178
    go_wp2
    go_ret2
    exact ⟨rfl, rfl⟩
  · by_cases h : -40 ≤ v
    · have hi : inB (-1 - v) 0 39 = true := inB_true (by omega)
      rw [nullNum_yes v (by omega)]
      go_enter Tryz.func178, Tryz.ntmps178
      go_wp2_with (go_at_call 112; refine (l1In_any _ _ _ _).mono ?_; rintro e w' ⟨rfl, rfl⟩)
      go_ret2
      exact ⟨rfl, rfl⟩
    · have hi : inB (-1 - v) 0 39 = false := inB_false (by omega)
      rw [nullNum_no v (by omega)]
      go_enter Tryz.func178, Tryz.ntmps178
      go_wp2_with (go_at_call 112; refine (l1In_any _ _ _ _).mono ?_; rintro e w' ⟨rfl, rfl⟩)
      go_ret2
      exact ⟨rfl, rfl⟩

set_option maxHeartbeats 400000 in
theorem specIsValidValue_any (v : Int) (w : World) (h0 : -9223372036854775808 ≤ v) (h1 : v ≤ 9223372036854775807) :
    Calls Tryz.prog 113 #[.int .i64 v] w fun e w' => e = .returned (.bool (validV v)) ∧ w = w' := by
  by_cases h : -40 ≤ v ∧ v < 0
  · have hr : (nullNum v).2 = true := by rw [nullNum_yes v h]
    have HV := Lib.hid (show validV v = true from decide_eq_true (by omega))
    go_enter Tryz.func113, Tryz.ntmps113
    go_wp2_with (first | (go_at_call 178; refine (specNullNumber_any _ _ h0 h1).mono ?_; rintro e w' ⟨rfl, rfl⟩) | (go_at_call 112; refine (l1In_any _ _ _ _).mono ?_; rintro e w' ⟨rfl, rfl⟩))
    go_ret
    exact ⟨ret_bool HV.out.symm, rfl⟩
  · have hr : (nullNum v).2 = false := by rw [nullNum_no v h]
    have HV := Lib.hid (show inB v 0 9 = validV v by unfold inB validV; rw [decide_eq_decide]; omega)
    go_enter Tryz.func113, Tryz.ntmps113
    go_wp2_with (first | (go_at_call 178; refine (specNullNumber_any _ _ h0 h1).mono ?_; rintro e w' ⟨rfl, rfl⟩) | (go_at_call 112; refine (l1In_any _ _ _ _).mono ?_; rintro e w' ⟨rfl, rfl⟩))
    go_ret
    exact ⟨ret_bool HV.out, rfl⟩

theorem specIsValidValue_at (v : Int) (b : Bool) (h : validV v = b) (w : World) (h0 : -9223372036854775808 ≤ v) (h1 : v ≤ 9223372036854775807) :
    Calls Tryz.prog 113 #[.int .i64 v] w fun e w' => e = .returned (.bool b) ∧ w = w' := by
  subst h; exact specIsValidValue_any v w h0 h1

set_option maxHeartbeats 400000 in
theorem implNullValue_any (k : Int) (w : World) (h0 : -9223372036854775808 ≤ k) (h1 : k ≤ 9223372036854775807) :
    Calls Tryz.prog 145 #[.int .i64 k] w fun e w' => e = .returned (.int .i64 (-1 - k)) ∧ w = w' := by
  go_enter Tryz.func145, Tryz.ntmps145
  go_wp2
  go_ret
  exact ⟨rfl, rfl⟩

set_option maxHeartbeats 400000 in
theorem implIsNullNumber_any (k : Int) (w : World) :
    Calls Tryz.prog 149 #[.int .i64 k] w fun e w' => e = .returned (.bool (inB k 0 39)) ∧ w = w' := by
  by_cases h : 0 ≤ k
  · have HV := Lib.hid (show decide (k < 40) = inB k 0 39 by unfold inB; rw [decide_eq_decide]; omega)
    have hd : decide (0 ≤ k) = true := decide_eq_true h
    go_enter Tryz.func149, Tryz.ntmps149
    go_wp2
    go_ret
    exact ⟨ret_bool HV.out, rfl⟩
  · have HV := Lib.hid (show false = inB k 0 39 from (inB_false (by omega)).symm)
    have hd : decide (0 ≤ k) = false := decide_eq_false h
    go_enter Tryz.func149, Tryz.ntmps149
    go_wp2
    go_ret
    exact ⟨ret_bool HV.out, rfl⟩
theorem implIsNullNumber_at (k : Int) (b : Bool) (h : inB k 0 39 = b) (w : World) :
    Calls Tryz.prog 149 #[.int .i64 k] w fun e w' => e = .returned (.bool b) ∧ w = w' := by
  subst h; exact implIsNullNumber_any k w

set_option maxHeartbeats 400000 in
theorem implNullNumber_any (v : Int) (w : World) (h0 : -9223372036854775808 ≤ v) (h1 : v ≤ 9223372036854775807) :
    Calls Tryz.prog 188 #[.int .i64 v] w fun e w' => e = .returned (.tuple #[.int .i64 (nullNum v).1, .bool (nullNum v).2]) ∧ w = w' := by
  by_cases h : -40 ≤ v ∧ v < 0
  · rw [nullNum_yes v h]
    have hc := fun W => implIsNullNumber_at (-1 - v) true (inB_true (by omega)) W
    obtain ⟨ha, hb⟩ := h
    go_enter Tryz.func188, Tryz.ntmps188
    go_wp2_with (first | (go_at_call 145; refine (implNullValue_any _ _ h0 h1).mono ?_; rintro e w' ⟨rfl, rfl⟩) | (go_at_call 149; refine (hc _).mono ?_; rintro e w' ⟨rfl, rfl⟩))
    go_ret2
    exact ⟨rfl, rfl⟩
  · rw [nullNum_no v h]
    have hc := fun W => implIsNullNumber_at (-1 - v) false (inB_false (by omega)) W
    go_enter Tryz.func188, Tryz.ntmps188
    go_wp2_with (first | (go_at_call 145; refine (implNullValue_any _ _ h0 h1).mono ?_; rintro e w' ⟨rfl, rfl⟩) | (go_at_call 149; refine (hc _).mono ?_; rintro e w' ⟨rfl, rfl⟩))
    go_ret2
    exact ⟨rfl, rfl⟩

set_option maxHeartbeats 400000 in
theorem implIsNull_any (v : Int) (w : World) :
    Calls Tryz.prog 180 #[.int .i64 v] w fun e w' => e = .returned (.bool (decide (v < 0))) ∧ w = w' := by
  go_enter Tryz.func180, Tryz.ntmps180
  go_wp2
  go_ret
  exact ⟨rfl, rfl⟩

set_option maxHeartbeats 400000 in
theorem implIsValidValue_any (v : Int) (w : World) (h0 : -9223372036854775808 ≤ v) (h1 : v ≤ 9223372036854775807) :
    Calls Tryz.prog 119 #[.int .i64 v] w fun e w' => e = .returned (.bool (validV v)) ∧ w = w' := by
  by_cases h : v < 0
  · have HV := Lib.hid (show (nullNum v).2 = validV v by
      unfold validV nullNum
      split
      · exact (decide_eq_true (by omega)).symm
      · exact (decide_eq_false (by omega)).symm)
    have hd : decide (v < 0) = true := decide_eq_true h
    go_enter Tryz.func119, Tryz.ntmps119
    go_wp2_with (first | (go_at_call 180; refine (implIsNull_any _ _).mono ?_; rintro e w' ⟨rfl, rfl⟩) | (go_at_call 188; refine (implNullNumber_any _ _ h0 h1).mono ?_; rintro e w' ⟨rfl, rfl⟩))
    go_ret
    exact ⟨ret_bool HV.out, rfl⟩
  · have HV := Lib.hid (show decide (v ≤ 9) = validV v by unfold validV; rw [decide_eq_decide]; omega)
    have hd : decide (v < 0) = false := decide_eq_false h
    go_enter Tryz.func119, Tryz.ntmps119
    go_wp2_with (first | (go_at_call 180; refine (implIsNull_any _ _).mono ?_; rintro e w' ⟨rfl, rfl⟩) | (go_at_call 188; refine (implNullNumber_any _ _ h0 h1).mono ?_; rintro e w' ⟨rfl, rfl⟩))
    go_ret
    exact ⟨ret_bool HV.out, rfl⟩

theorem implIsValidValue_at (v : Int) (b : Bool) (h : validV v = b) (w : World) (h0 : -9223372036854775808 ≤ v) (h1 : v ≤ 9223372036854775807) :
    Calls Tryz.prog 119 #[.int .i64 v] w fun e w' => e = .returned (.bool b) ∧ w = w' := by
  subst h; exact implIsValidValue_any v w h0 h1

theorem OwnInts.grown {B : Nat} {v : Value} {l : List Int} {w w' : World} {p : Nat} (h : OwnInts B v l w) (hg : w.grownBy w' (some p)) (hp : p < B) : OwnInts B v l w' :=
  World.ownsRow.kept h hg (by
    cases hv : v.ownBlock with
    | none => exact Or.inl rfl
    | some k => right; intro he; injection he with he; have := (World.ownsRow.lt h k hv).1; omega)

/-- a relation, as the proofs speak of it -/
structure Rel where
  name : ByteArray
  arity : Int
  source : Bool
def relV (r : Rel) : Value := .agg #[.string r.name, .int .i64 r.arity, .bool r.source]
/-- one lower-case letter -/
def nameOk (s : ByteArray) : Bool := match s.data.toList with
  | [c] => decide ((97 : Int) ≤ ((c.toNat : Nat) : Int)) && decide (((c.toNat : Nat) : Int) ≤ 122)
  | _ => false
def relOk (s : ByteArray) (a : Int) : Bool := nameOk s && inB a 1 3
theorem nameOk_one (s : ByteArray) (h : s.size = 1) : nameOk s = (decide ((97 : Int) ≤ ((s[0].toNat : Nat) : Int)) && decide (((s[0].toNat : Nat) : Int) ≤ 122)) := by
  obtain ⟨⟨l⟩⟩ := s
  match l, h with
  | [c], _ => rfl
theorem nameOk_ne (s : ByteArray) (h : s.size ≠ 1) : nameOk s = false := by
  obtain ⟨⟨l⟩⟩ := s
  match l, h with
  | [], _ => rfl
  | _ :: _ :: _, _ => rfl
/-- what is left of a size's allowance -/
def szLeft (left n : Int) : Int := if n ≤ left then left - n else -1
theorem szLeft_yes {left n : Int} (h : n ≤ left) : szLeft left n = left - n := if_pos h
theorem szLeft_no {left n : Int} (h : ¬ n ≤ left) : szLeft left n = -1 := if_neg h

end Go.Proofs.YtmecdjincmkofaaGreatDoor
