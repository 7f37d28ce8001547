/-
  Walks and plain lemmas for the laws of this seat: what single Go functions return, for every argument.
-/
import Derived.Test.YteogknfhafdbmaaGreatDoorNum
import Derived.Test.YteogknfhafdbmaaGreatDoorFmtV
import Derived.Test.YteogknfhafdbmaaGreatDoorFmtI
namespace Go.Proofs.YteogknfhafdbmaaGreatDoor
open Go.RowKit

set_option maxHeartbeats 800000 in
theorem implFormatValue_any (v : Int) (w : World) (h0 : -9223372036854775808 ≤ v) (h1 : v ≤ 9223372036854775807) (ht : Tab w) :
    Calls Tryz.prog 55 #[.int .i64 v] w fun e w' => e = .returned (.string ⟨(fmtV v).toArray⟩) ∧ Below w.heap.size w w' := by
  by_cases hv : -40 ≤ v ∧ v < 0
  · have hr : nullNum v = (-1 - v, true) := nullNum_yes v hv
    have hval : validV v = true := decide_eq_true (by omega)
    rw [fmtV_null v hv]
    have hj := strOne 110 _ _ (rfl : (⟨(Lib.itoa (-1 - v)).toArray⟩ : ByteArray) = _)
    obtain ⟨ha, hb⟩ := hv
    obtain ⟨u, hu⟩ := Int.eq_ofNat_of_zero_le (a := -1 - v) (by omega)
    have hsz : ByteArray.size ⟨(Lib.itoa (-1 - v)).toArray⟩ ≤ 2 := by
      rw [ByteArray.size, List.size_toArray, hu]; exact itoa_short u (by omega)
    clear hu
    have hs1 : ByteArray.size ⟨#[110]⟩ = 1 := rfl
    go_enter Tryz.func55, Tryz.ntmps55
    go_wp2_with (first | (go_at_call 57; refine (implIsValidValue_any _ _ h0 h1).mono ?_; rintro e w' ⟨rfl, rfl⟩) | (go_at_call 78; refine (implNullNumber_any _ _ h0 h1).mono ?_; rintro e w' ⟨rfl, rfl⟩) | (go_at_call 77; refine (implFormatInt_any _ _ (by omega) (by omega) ht).mono ?_; rintro e w1 ⟨rfl, hb1⟩))
    go_ret
    exact ⟨rfl, hb1⟩
  · have hr : nullNum v = (0, false) := nullNum_no v hv
    by_cases hc : 0 ≤ v ∧ v ≤ 9
    · rw [fmtV_const v hc]
      have hval : validV v = true := decide_eq_true (by omega)
      go_enter Tryz.func55, Tryz.ntmps55
      go_wp2_with (first | (go_at_call 57; refine (implIsValidValue_any _ _ h0 h1).mono ?_; rintro e w' ⟨rfl, rfl⟩) | (go_at_call 78; refine (implNullNumber_any _ _ h0 h1).mono ?_; rintro e w' ⟨rfl, rfl⟩) | (go_at_call 77; refine (implFormatInt_any _ _ (by omega) (by omega) ht).mono ?_; rintro e w1 ⟨rfl, hb1⟩))
      go_ret
      exact ⟨rfl, hb1⟩
    · rw [fmtV_no v (by omega)]
      have hval : validV v = false := decide_eq_false (by omega)
      go_enter Tryz.func55, Tryz.ntmps55
      go_wp2_with (first | (go_at_call 57; refine (implIsValidValue_any _ _ h0 h1).mono ?_; rintro e w' ⟨rfl, rfl⟩))
      go_ret
      exact ⟨rfl, Below.refl _ _⟩

theorem trim_le (l p : List UInt8) : (Lib.trimPrefix l p).length ≤ l.length := by unfold Lib.trimPrefix; split <;> simp
set_option maxHeartbeats 1600000 in
theorem implParseValue_any (s : ByteArray) (w : World) (hs : s.size ≤ 1048576) (ht : Tab w) (hv : ErrVars w) :
    Calls Tryz.prog 29 #[.string s] w fun e w' => e = .returned (.tuple #[.int .i64 (parseV s.data.toList).1, .bool (parseV s.data.toList).2]) ∧ Below w.heap.size w w' := by
  have hz : ByteArray.size ⟨(Lib.trimPrefix s.data.toList [110]).toArray⟩ ≤ 1048576 := by
    rw [ByteArray.size, List.size_toArray]; have := trim_le s.data.toList [110]; simp at this; omega
  have hbd := parseInt_bd (Lib.trimPrefix s.data.toList [110])
  have hP : Hid (parseV s.data.toList = if parseVOk s.data.toList then (candV s.data.toList, true) else (0, false)) := rfl
  have hO : Hid (parseVOk s.data.toList = ((parseInt (Lib.trimPrefix s.data.toList [110])).2 && (fmtV (candV s.data.toList) == s.data.toList))) := rfl
  have hC : Hid (candV s.data.toList = if Lib.hasPrefix s.data.toList [110] then -1 - (parseInt (Lib.trimPrefix s.data.toList [110])).1 else (parseInt (Lib.trimPrefix s.data.toList [110])).1) := rfl
  generalize parseV s.data.toList = P at *
  generalize parseVOk s.data.toList = O at *
  generalize candV s.data.toList = C at *
  have hex : ∀ (x : Int), fmtV x = s.data.toList → (fmtV x == s.toList) = true := by
    intro x h; rw [ByteArray.toList_eq, beq_iff_eq]; exact h
  have hex2 : ∀ (x : Int), ¬ fmtV x = s.data.toList → (fmtV x == s.toList) = false := by
    intro x h; rw [ByteArray.toList_eq, beq_eq_false_iff_ne]; exact h
  cases hn : Lib.hasPrefix s.data.toList [110]
  all_goals
    rw [hn] at hC
    simp only [Bool.false_eq_true, if_false, if_true] at hC
    cases hok : (parseInt (Lib.trimPrefix s.data.toList [110])).2
  all_goals
    rw [hok] at hO
  case false.false | true.false =>
    have hR := Lib.hid (show P = (0, false) by rw [hP.out, hO.out]; rfl)
    clear hex hex2 hP hO hC
    go_enter Tryz.func29, Tryz.ntmps29
    go_wp2_with (first | (go_at_call 52; refine (Tryz.strings_CutPrefix _ _ _).mono ?_; rintro e w1 ⟨rfl, rfl⟩) | (go_at_call 53; refine (implParseInt_any _ _ hz ht hv).mono ?_; rintro e w2 ⟨rfl, hb2⟩) | (go_at_call 54; refine (implNullValue_any _ _ (by omega) (by omega)).mono ?_; rintro e w3 ⟨rfl, rfl⟩))
    go_ret2
    exact ⟨ret_pair hR.out.symm, hb2⟩
  case false.true | true.true =>
    by_cases hI : fmtV C = s.data.toList
    · have hR := Lib.hid (show P = (C, true) by rw [hP.out, hO.out, hI]; simp)
      have hE := hex _ hI
      have hC' := hC.out
      subst hC'
      clear hex hex2 hP hO hC hI
      go_enter Tryz.func29, Tryz.ntmps29
      go_wp2_with (first | (go_at_call 52; refine (Tryz.strings_CutPrefix _ _ _).mono ?_; rintro e w1 ⟨rfl, rfl⟩) | (go_at_call 53; refine (implParseInt_any _ _ hz ht hv).mono ?_; rintro e w2 ⟨rfl, hb2⟩) | (go_at_call 54; refine (implNullValue_any _ _ (by omega) (by omega)).mono ?_; rintro e w3 ⟨rfl, rfl⟩) | (go_at_call 55; refine (implFormatValue_any _ _ (by omega) (by omega) (ht.below hb2)).mono ?_; rintro e w4 ⟨rfl, hb4⟩))
      go_ret2
      exact ⟨ret_pair hR.out.symm, hb2.trans (hb4.mono hb2.size)⟩
    · have hR := Lib.hid (show P = (0, false) by rw [hP.out, hO.out, if_neg]; simpa using hI)
      have hE := hex2 _ hI
      have hC' := hC.out
      subst hC'
      clear hex hex2 hP hO hC hI
      go_enter Tryz.func29, Tryz.ntmps29
      go_wp2_with (first | (go_at_call 52; refine (Tryz.strings_CutPrefix _ _ _).mono ?_; rintro e w1 ⟨rfl, rfl⟩) | (go_at_call 53; refine (implParseInt_any _ _ hz ht hv).mono ?_; rintro e w2 ⟨rfl, hb2⟩) | (go_at_call 54; refine (implNullValue_any _ _ (by omega) (by omega)).mono ?_; rintro e w3 ⟨rfl, rfl⟩) | (go_at_call 55; refine (implFormatValue_any _ _ (by omega) (by omega) (ht.below hb2)).mono ?_; rintro e w4 ⟨rfl, hb4⟩))
      go_ret2
      exact ⟨ret_pair hR.out.symm, hb2.trans (hb4.mono hb2.size)⟩

end Go.Proofs.YteogknfhafdbmaaGreatDoor
