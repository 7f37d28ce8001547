/-
  Walks and plain lemmas for the laws of this seat: what single Go functions return, for every argument.
-/
import Derived.Test.YtmaoojdoiccgdaaRel
import Derived.Test.YtmaoojdoiccgdaaNum
namespace Go.Proofs.Ytmaoojdoiccgdaa
open Go.RowKit

set_option maxHeartbeats 800000 in
theorem specIsValidRelation_any (s : ByteArray) (a : Int) (b : Bool) (w : World) :
    Calls Try.prog 73 #[.agg #[.string s, .int .i64 a, .bool b]] w fun e w' => e = .returned (.bool (relOk s a)) ∧ Below w.heap.size w w' := by
  by_cases h1 : s.size = 1
  · have h0 : 0 < s.size := by omega
    have HN := Lib.hid (nameOk_one s h1)
    by_cases h2 : (97 : Int) ≤ ((s[0].toNat : Nat) : Int)
    · by_cases h3 : ((s[0].toNat : Nat) : Int) ≤ 122
      · have hr : Hid (relOk s a = inB a 1 3) := Lib.hid (by unfold relOk; rw [HN.out]; simp [h2, h3])
        go_enter Try.func73, Try.ntmps73
        go_wp2_with (go_at_call 69; refine (l1In_any _ _ _ _).mono ?_; rintro e w' ⟨rfl, rfl⟩)
        go_ret
        refine ⟨?_, (Below.refl _ _).alloc (Nat.le_refl _) _⟩
        rw [hr.out]; rfl
      · have hr : Hid (relOk s a = false) := Lib.hid (by unfold relOk; rw [HN.out]; simp [h2, h3])
        go_enter Try.func73, Try.ntmps73
        go_wp2
        go_ret
        refine ⟨?_, (Below.refl _ _).alloc (Nat.le_refl _) _⟩
        rw [hr.out]; rfl
    · have hr : Hid (relOk s a = false) := Lib.hid (by unfold relOk; rw [HN.out]; simp [h2])
      go_enter Try.func73, Try.ntmps73
      go_wp2
      go_ret
      refine ⟨?_, (Below.refl _ _).alloc (Nat.le_refl _) _⟩
      rw [hr.out]; rfl
  · have hr : Hid (relOk s a = false) := Lib.hid (by unfold relOk; rw [nameOk_ne s h1]; rfl)
    go_enter Try.func73, Try.ntmps73
    go_wp2
    go_ret
    refine ⟨?_, (Below.refl _ _).alloc (Nat.le_refl _) _⟩
    rw [hr.out]; rfl

set_option maxHeartbeats 400000 in
theorem isRelationName_any (s : ByteArray) (w : World) :
    Calls Try.prog 75 #[.string s] w fun e w' => e = .returned (.bool (nameOk s)) ∧ w = w' := by
  by_cases h1 : s.size = 1
  · have hN := nameOk_one s h1
    generalize nameOk s = N at hN
    have h0 : 0 < s.size := by omega
    by_cases h2 : (97 : Int) ≤ ((s[0].toNat : Nat) : Int)
    all_goals
      have HN := Lib.hid hN
      clear hN
      go_enter Try.func75, Try.ntmps75
      go_wp2
      go_ret
      rw [HN.out]
      first | rfl | (simp [*]; done) | (simp; omega)
  · rw [nameOk_ne s h1]
    go_enter Try.func75, Try.ntmps75
    go_wp2
    go_ret
    exact ⟨rfl, rfl⟩

set_option maxHeartbeats 400000 in
theorem implIsValidRelation_any (s : ByteArray) (a : Int) (b : Bool) (w : World) :
    Calls Try.prog 59 #[.agg #[.string s, .int .i64 a, .bool b]] w fun e w' => e = .returned (.bool (relOk s a)) ∧ Below w.heap.size w w' := by
  unfold relOk inB
  cases hn : nameOk s
  · go_enter Try.func59, Try.ntmps59
    go_wp2_with (go_at_call 75; refine (isRelationName_any _ _).mono ?_; rintro e w' ⟨rfl, rfl⟩)
    go_ret
    exact ⟨rfl, (Below.refl _ _).alloc (Nat.le_refl _) _⟩
  · by_cases h1 : 1 ≤ a
    all_goals
      go_enter Try.func59, Try.ntmps59
      go_wp2_with (go_at_call 75; refine (isRelationName_any _ _).mono ?_; rintro e w' ⟨rfl, rfl⟩)
      go_ret
      refine ⟨?_, (Below.refl _ _).alloc (Nat.le_refl _) _⟩
      first | rfl | (simp [*]; done) | (simp; omega) | trace_state

end Go.Proofs.Ytmaoojdoiccgdaa
