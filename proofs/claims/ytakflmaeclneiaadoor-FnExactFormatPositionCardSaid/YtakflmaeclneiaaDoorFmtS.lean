/-
  Walks and plain lemmas for the laws of this seat: what single Go functions return, for every argument.
-/
import Derived.Test.YtakflmaeclneiaaDoorFmt
namespace Go.Proofs.YtakflmaeclneiaaDoor
open Go.RowKit

set_option maxHeartbeats 800000 in
set_option maxRecDepth 100000 in
theorem specFormatInt_pos (n : Nat) (w : World) (hn : n ≤ 9223372036854775807) :
    Calls Tryd.prog 15 #[.int .i64 (n : Int)] w fun e w' => e = .returned (.string ⟨(Lib.itoa n).toArray⟩) ∧ Below w.heap.size w w' := by
  by_cases h0 : n = 0
  · subst h0
    have hr : Lib.itoa ((0 : Nat) : Int) = [48] := by rw [itoa_pos, decDigits_rec]; rfl
    rw [hr]
    go_enter Tryd.func15, Tryd.ntmps15
    go_wp2
    go_ret
    exact ⟨rfl, Below.refl _ _⟩
  · rw [itoa_pos]
    have h0' : ((n : Int) == 0) = false := beq_eq_false_iff_ne.2 (by omega)
    have hneg : decide ((n : Int) < 0) = false := by simp
    go_enter Tryd.func15, Tryd.ntmps15
    go_wp2
    go_loopw [0, 3, 5] (fun x o _ wr => ∃ m : Nat, ∃ ob : ByteArray, m ≤ n ∧ x = .int .i64 (m : Int) ∧ o = .string ob ∧ DigInv n m ob ∧ Below w.heap.size w wr) (fun x _ _ _ => (intOf x).toNat)
    case atStart => exact ⟨n, ⟨#[]⟩, by omega, rfl, rfl, DigInv.zero n (by omega), Below.refl _ _⟩
    case round =>
      obtain ⟨m, ob, hm, rfl, rfl, hI, hW⟩ := hrel
      have hz := hW.size
      have hsz := hI.2
      by_cases hm0 : 0 < m
      · have hI' := hI.step hm0 (by omega)
        have hc := conv_one wr (48 + (m : Int) % 10) (by omega) (by omega)
        have hs1 : ByteArray.size ⟨#[byteI (48 + (m : Int) % 10)]⟩ = 1 := rfl
        have hne : ((m : Int) != 0) = true := by rw [bne_iff_ne]; omega
        go_wp2
        go_roundw
        case rel => exact ⟨m / 10, _, by omega, by go_num, rfl, hI', hW.trans ((Below.refl _ _).alloc hz _)⟩
        case measure => simp [intOf]; omega
      · obtain rfl : m = 0 := by omega
        have HD := Lib.hid hI.done
        go_wp2
        go_ret
        exact ⟨ret_str HD.out, hW⟩
theorem neg_tmod10 (m : Nat) : (-(m : Int)).tmod 10 = -((m : Int) % 10) := by rw [Int.neg_tmod, Int.tmod_eq_emod_of_nonneg (by omega)]
theorem neg_tdiv10 (m : Nat) : (-(m : Int)).tdiv 10 = -((m : Int) / 10) := by rw [Int.neg_tdiv, Int.tdiv_eq_ediv_of_nonneg (by omega)]
set_option maxHeartbeats 1600000 in
set_option maxRecDepth 100000 in
theorem specFormatInt_neg (n : Nat) (w : World) (h0 : 0 < n) (hn : n ≤ 9223372036854775808) :
    Calls Tryd.prog 15 #[.int .i64 (-(n : Int))] w fun e w' => e = .returned (.string ⟨(Lib.itoa (-(n : Int))).toArray⟩) ∧ Below w.heap.size w w' := by
  rw [itoa_negN n h0]
  have h0' : (-(n : Int) == 0) = false := beq_eq_false_iff_ne.2 (by omega)
  have hneg : decide (-(n : Int) < 0) = true := by simp; omega
  go_enter Tryd.func15, Tryd.ntmps15
  go_wp2
  go_loopw [0, 3, 5] (fun x o _ wr => ∃ m : Nat, ∃ ob : ByteArray, m ≤ n ∧ x = .int .i64 (-(m : Int)) ∧ o = .string ob ∧ DigInv n m ob ∧ Below w.heap.size w wr) (fun x _ _ _ => (-(intOf x)).toNat)
  case atStart => exact ⟨n, ⟨#[]⟩, by omega, rfl, rfl, DigInv.zero n (by omega), Below.refl _ _⟩
  case round =>
    obtain ⟨m, ob, hm, rfl, rfl, hI, hW⟩ := hrel
    have hz := hW.size
    have hsz := hI.2
    by_cases hm0 : 0 < m
    · have hI' := hI.step hm0 (by omega)
      have hc := conv_one wr (48 + (m : Int) % 10) (by omega) (by omega)
      have hs1 : ByteArray.size ⟨#[byteI (48 + (m : Int) % 10)]⟩ = 1 := rfl
      have hne : (-(m : Int) != 0) = true := by rw [bne_iff_ne]; omega
      have q1 := neg_tmod10 m
      have q2 := neg_tdiv10 m
      by_cases hd : 0 < (m : Int) % 10
      · go_wp2
        go_roundw
        case rel => exact ⟨m / 10, _, by omega, by go_num, rfl, hI', hW.trans ((Below.refl _ _).alloc hz _)⟩
        case measure => simp [intOf]; omega
      · have e0 : 48 + -((m : Int) % 10) = 48 + (m : Int) % 10 := by omega
        rw [← e0] at hc hs1 hI'
        clear e0
        go_wp2
        go_roundw
        case rel => exact ⟨m / 10, _, by omega, by go_num, rfl, hI', hW.trans ((Below.refl _ _).alloc hz _)⟩
        case measure => simp [intOf]; omega
    · obtain rfl : m = 0 := by omega
      have HD := Lib.hid hI.done
      go_wp2
      go_ret
      exact ⟨ret_str (by rw [HD.out]; exact strOne 45 _ _ rfl), hW⟩
theorem specFormatInt_any (n : Int) (w : World) (h0 : -9223372036854775808 ≤ n) (h1 : n ≤ 9223372036854775807) :
    Calls Tryd.prog 15 #[.int .i64 n] w fun e w' => e = .returned (.string ⟨(Lib.itoa n).toArray⟩) ∧ Below w.heap.size w w' := by
  by_cases h : 0 ≤ n
  · obtain ⟨m, rfl⟩ := Int.eq_ofNat_of_zero_le h
    exact specFormatInt_pos m w (by omega)
  · have e : n = -((n.natAbs : Nat) : Int) := by omega
    rw [e]; exact specFormatInt_neg n.natAbs w (by omega) (by omega)

end Go.Proofs.YtakflmaeclneiaaDoor
