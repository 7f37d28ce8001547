/-
  Walks and plain lemmas for the laws of this seat: what single Go functions return, for every argument.
-/
import Derived.Test.YteogknfhafdbmaaDoorNum
import Derived.Test.YteogknfhafdbmaaDoorFmtV
import Derived.Test.YteogknfhafdbmaaDoorFmtI
namespace Go.Proofs.YteogknfhafdbmaaDoor
open Go.RowKit

set_option maxHeartbeats 800000 in
theorem implFormatValue_any (v : Int) (w : World) (h0 : -9223372036854775808 ≤ v) (h1 : v ≤ 9223372036854775807) (ht : Tab w) :
    Calls Tryd.prog 25 #[.int .i64 v] w fun e w' => e = .returned (.string ⟨(fmtV v).toArray⟩) ∧ Below w.heap.size w w' := by
  by_cases hv : -40 ≤ v ∧ v < 0
  · have hr : nullNum v = (-1 - v, true) := nullNum_yes v hv
    have hval : validV v = true := decide_eq_true (by omega)
    rw [fmtV_null v hv]
    have hj := strOne 110 _ _ (rfl : (⟨(Lib.itoa (-1 - v)).toArray⟩ : ByteArray) = _)
    obtain ⟨ha, hb⟩ := hv
    obtain ⟨u, hu⟩ := Int.eq_ofNat_of_zero_le (a := -1 - v) (by omega)
    have hsz : ByteArray.size ⟨(Lib.itoa (-1 - v)).toArray⟩ ≤ 2 := by
      rw [ByteArray.size, List.size_toArray, hu]; exact itoa_short u (by omega)
    clear hu
    have hs1 : ByteArray.size ⟨#[110]⟩ = 1 := rfl
    go_enter Tryd.func25, Tryd.ntmps25
    go_wp2_with (first | (go_at_call 42; refine (implIsValidValue_any _ _ h0 h1).mono ?_; rintro e w' ⟨rfl, rfl⟩) | (go_at_call 43; refine (implNullNumber_any _ _ h0 h1).mono ?_; rintro e w' ⟨rfl, rfl⟩) | (go_at_call 44; refine (implFormatInt_any _ _ (by omega) (by omega) ht).mono ?_; rintro e w1 ⟨rfl, hb1⟩))
    go_ret
    exact ⟨rfl, hb1⟩
  · have hr : nullNum v = (0, false) := nullNum_no v hv
    by_cases hc : 0 ≤ v ∧ v ≤ 9
    · rw [fmtV_const v hc]
      have hval : validV v = true := decide_eq_true (by omega)
      go_enter Tryd.func25, Tryd.ntmps25
      go_wp2_with (first | (go_at_call 42; refine (implIsValidValue_any _ _ h0 h1).mono ?_; rintro e w' ⟨rfl, rfl⟩) | (go_at_call 43; refine (implNullNumber_any _ _ h0 h1).mono ?_; rintro e w' ⟨rfl, rfl⟩) | (go_at_call 44; refine (implFormatInt_any _ _ (by omega) (by omega) ht).mono ?_; rintro e w1 ⟨rfl, hb1⟩))
      go_ret
      exact ⟨rfl, hb1⟩
    · rw [fmtV_no v (by omega)]
      have hval : validV v = false := decide_eq_false (by omega)
      go_enter Tryd.func25, Tryd.ntmps25
      go_wp2_with (first | (go_at_call 42; refine (implIsValidValue_any _ _ h0 h1).mono ?_; rintro e w' ⟨rfl, rfl⟩))
      go_ret
      exact ⟨rfl, Below.refl _ _⟩

end Go.Proofs.YteogknfhafdbmaaDoor
