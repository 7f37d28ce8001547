/-
  Walks and plain lemmas for the laws of this seat: what single Go functions return, for every argument.
-/
import Derived.Test.YtmaoojdoiccgdaaDoorDraw
import Derived.Test.YtmaoojdoiccgdaaDoorLift
import Derived.Test.YtmaoojdoiccgdaaDoorNum
import Derived.Test.YtmaoojdoiccgdaaDoorFmtV
import Derived.Test.YtmaoojdoiccgdaaDoorDrawV
import Derived.Test.YtmaoojdoiccgdaaDoorFmtVI
namespace Go.Proofs.YtmaoojdoiccgdaaDoor
open Go.RowKit

set_option maxHeartbeats 8000000 in
set_option maxRecDepth 100000 in
theorem walkV (q : Option Addr) (code : List UInt8) (c : Nat) (_ : code.length ≤ maxLen) (w : World) (hc : CodeAt w w.heap.size (.slice q code.length c) code) (ht : Tab w) (hv : ErrVars w) :
    Calls Tryd.prog 3 #[.slice q code.length c] w fun e w' => e = .returned (.bool true) ∧ Below w.heap.size w w' := by
  by_cases hbig : 1048576 < code.length
  · have hd : decide (1048576 < ((code.length : Nat) : Int)) = true := by simp; omega
    go_enter Tryd.func3, Tryd.ntmps3
    go_wp2_with fail
    refine (big_any q _ c _).mono ?_; rintro e w1 ⟨rfl, rfl⟩
    go_wp2_with fail
    go_ret
    exact ⟨rfl, Below.refl _ _⟩
  · have hlen : code.length ≤ 1048576 := by omega
    have hd : decide (1048576 < ((code.length : Nat) : Int)) = false := by simp; omega
    clear hbig
    have hvb : -41 ≤ drawValR code ∧ drawValR code ≤ 10 := l2R_bd code (st0 code)
    have htb := drawPVR_len code
    have hkb := drawNullR_bd code
    go_enter Tryd.func3, Tryd.ntmps3
    go_wp2_with fail
    refine (big_any q _ c _).mono ?_; rintro e w1 ⟨rfl, rfl⟩
    go_wp2_with fail
    refine (drawFormatValue _ code _ hc hlen).mono ?_; rintro e w1 ⟨rfl, hb1⟩
    generalize drawValR code = v at *
    go_wp2_with fail
    refine (implFormatValue_any v _ (by omega) (by omega) (ht.below hb1)).mono ?_; rintro e w2 ⟨rfl, hb2'⟩
    have hb2 := hb1.trans (hb2'.mono hb1.size)
    clear hb2' hb1
    have z1 : ByteArray.size ⟨(fmtV v).toArray⟩ ≤ 1048576 := by rw [ByteArray.size, List.size_toArray]; have := fmtV_len v; omega
    go_wp2_with fail
    refine (implParseValue_any _ _ z1 (ht.below hb2) (hv.below hb2)).mono ?_; rintro e w3 ⟨rfl, hb3'⟩
    have hb3 := hb2.trans (hb3'.mono hb2.size)
    clear hb3' hb2
    go_wp2_with fail
    refine (drawParseValue _ code _ (hc.later hb3) hlen).mono ?_; rintro e w4 ⟨rfl, hb4'⟩
    have hb4 := hb3.trans (hb4'.mono hb3.size)
    clear hb4' hb3
    generalize drawPVR code = t at *
    have z2 : ByteArray.size ⟨t.toArray⟩ ≤ 1048576 := by rw [ByteArray.size, List.size_toArray]; omega
    go_wp2_with fail
    refine (implParseValue_any _ _ z2 (ht.below hb4) (hv.below hb4)).mono ?_; rintro e w5 ⟨rfl, hb5'⟩
    have hb5 := hb4.trans (hb5'.mono hb4.size)
    clear hb5' hb4
    go_wp2_with fail
    refine (specParseValue_any _ _).mono ?_; rintro e w6 ⟨rfl, hb6'⟩
    have hb6 := hb5.trans (hb6'.mono hb5.size)
    clear hb6' hb5
    go_wp2_with fail
    refine (drawNullValue _ code _ (hc.later hb6) hlen).mono ?_; rintro e w7 ⟨rfl, hb7'⟩
    have hb7 := hb6.trans (hb7'.mono hb6.size)
    clear hb7' hb6
    generalize drawNullR code = k at *
    go_wp2_with fail
    refine (implNullValue_any k _ (by omega) (by omega)).mono ?_; rintro e w8 ⟨rfl, rfl⟩
    go_wp2_with fail
    refine (implNullNumber_any _ _ (by omega) (by omega)).mono ?_; rintro e w8 ⟨rfl, rfl⟩
    have hyb := parseV_bd t
    have hvc : (validV v = true ∧ (parseV (fmtV v)).2 = true ∧ ((parseV (fmtV v)).1 == v) = true) ∨ (validV v = false ∧ (parseV (fmtV v)).2 = false) := by
      by_cases h : -40 ≤ v ∧ v ≤ 9
      · left; rw [parseV_fmt v h]; exact ⟨decide_eq_true h, rfl, beq_iff_eq.2 rfl⟩
      · right; rw [fmtV_no v h, parseV_nil]; exact ⟨decide_eq_false h, rfl⟩
    have htc : ((parseV t).2 = true ∧ (fmtV (parseV t).1 == t) = true) ∨ (parseV t).2 = false := by
      cases h : (parseV t).2 with
      | false => exact Or.inr rfl
      | true => left; exact ⟨rfl, beq_iff_eq.2 (parseV_sound t h).1⟩
    have hkc : (0 ≤ k ∧ k < 40 ∧ (nullNum (-1 - k)).2 = true ∧ ((nullNum (-1 - k)).1 == k) = true ∧ decide (-1 - k < 0) = true) ∨ (k < 0 ∧ (nullNum (-1 - k)).2 = false ∧ decide (0 ≤ k) = false) ∨ (40 ≤ k ∧ (nullNum (-1 - k)).2 = false ∧ decide (k < 40) = false) := by
      by_cases h : 0 ≤ k ∧ k < 40
      · left; rw [nullNum_yes _ (by omega)]; exact ⟨h.1, h.2, rfl, beq_iff_eq.2 (by simp; omega), decide_eq_true (by omega)⟩
      · right; rw [nullNum_no _ (by omega)]; by_cases h1 : k < 0
        · exact Or.inl ⟨h1, rfl, decide_eq_false (by omega)⟩
        · exact Or.inr ⟨by omega, rfl, decide_eq_false (by omega)⟩
    rcases hvc with ⟨v1, v2, v3⟩ | ⟨v1, v2⟩
    all_goals
      rcases htc with ⟨t1, t2⟩ | t1
    all_goals
      rcases hkc with ⟨k1, k2, k3, k4, k5⟩ | ⟨k1, k3, k4⟩ | ⟨k1, k3, k4⟩
    all_goals
      go_wp2_with (first | (go_at_call 13; refine (specFormatValue_any _ _ (by omega) (by omega)).mono ?_; rintro e w9 ⟨rfl, hb9⟩) | (go_at_call 14; refine (specIsValidValue_any _ _ (by omega) (by omega)).mono ?_; rintro e w10 ⟨rfl, rfl⟩) | (go_at_call 15; refine (implIsValidValue_any _ _ (by omega) (by omega)).mono ?_; rintro e w10 ⟨rfl, rfl⟩) | (go_at_call 6; refine (implFormatValue_any _ _ (by omega) (by omega) (ht.below (hb7.trans (hb9.mono hb7.size)))).mono ?_; rintro e w12 ⟨rfl, hb12⟩) | (go_at_call 12; refine (implNullValue_any _ _ (by omega) (by omega)).mono ?_; rintro e w13 ⟨rfl, rfl⟩) | (go_at_call 16; refine (implIsNull_any _ _).mono ?_; rintro e w14 ⟨rfl, rfl⟩))
    all_goals
      go_ret
      refine ⟨?_, ?_⟩
      · exact ret_bool (by first | rfl | assumption | simp | (simp; omega))
      · first
          | exact (hb7.trans (hb9.mono hb7.size)).trans (hb12.mono (Nat.le_trans hb7.size hb9.size))
          | exact hb7.trans (hb9.mono hb7.size)

end Go.Proofs.YtmaoojdoiccgdaaDoor
