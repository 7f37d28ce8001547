/-
  Walks and plain lemmas for the laws of this seat: what single Go functions return, for every argument.
-/
import Derived.Test.YtmaoojdoiccgdaaGreatDoorDraw
namespace Go.Proofs.YtmaoojdoiccgdaaGreatDoor
open Go.RowKit

/-- the byte that a style makes of a drawn one -/
def styled (style b : Int) : Int := if style = 1 then b % 2 else if style = 2 then 97 + b % 4 else b
def textLoop (code : List UInt8) (style : Int) : Nat → DrawSt → List UInt8 → List UInt8 × DrawSt
  | 0, st, l => (l, st)
  | m + 1, st, l => textLoop code style m (byteR code st).2 (l ++ [byteI (styled style (byteR code st).1)])
def textR (code : List UInt8) (st : DrawSt) (most : Int) : List UInt8 × DrawSt :=
  textLoop code (belowR code st 4).1 (belowR code (belowR code st 4).2 (most + 1)).1.toNat (belowR code (belowR code st 4).2 (most + 1)).2 []
theorem textLoop_len (code : List UInt8) (style : Int) : ∀ (m : Nat) (st : DrawSt) (l : List UInt8), (textLoop code style m st l).1.length = l.length + m
  | 0, _, _ => rfl
  | m + 1, st, l => by rw [textLoop, textLoop_len code style m, List.length_append, List.length_singleton]; omega
theorem textR_len (code : List UInt8) (st : DrawSt) (most : Int) (h : 0 ≤ most) : (textR code st most).1.length ≤ most.toNat := by
  have hb := belowR_bd code (belowR code st 4).2 (most + 1)
  have := hb.2 (by omega)
  unfold textR; rw [textLoop_len, List.length_nil]; omega
def TextInv (code : List UInt8) (style : Int) (R : List UInt8 × DrawSt) (m : Nat) (st : DrawSt) (l : List UInt8) : Prop := textLoop code style m st l = R
theorem styled_bd (style b : Int) (h0 : 0 ≤ b) (h1 : b ≤ 255) : 0 ≤ styled style b ∧ styled style b < 256 := by unfold styled; split <;> (try split) <;> omega
set_option maxHeartbeats 1600000 in
set_option maxRecDepth 100000 in
theorem l1Text_r (p : Nat) (cv : Value) (code : List UInt8) (st : DrawSt) (most : Int) (h0 : 0 ≤ most) (h1 : most ≤ 1000000) (w : World) (hC : CurS w p cv code st) :
    Calls Tryz.prog 146 #[.pointer (some ⟨p, 0, none⟩), .int .i64 most] w (Drew w p cv code (.string ⟨(textR code st most).1.toArray⟩, (textR code st most).2)) := by
  have hp := Cur.lt hC
  have b1 := belowR_bd code st 4
  have b2 := belowR_bd code (belowR code st 4).2 (most + 1)
  have b2' := b2.2 (by omega)
  have b2'' := b2.1
  obtain ⟨n, hn⟩ := Int.eq_ofNat_of_zero_le b2''
  have hR : TextInv code (belowR code st 4).1 (textR code st most) n (belowR code (belowR code st 4).2 (most + 1)).2 [] := by
    unfold TextInv textR; rw [hn]; rfl
  generalize textR code st most = R at *
  have HN := Lib.hid hn
  have hnm : (n : Int) ≤ most := by omega
  clear b1 b2 b2' b2'' hn
  go_enter Tryz.func146, Tryz.ntmps146
  go_wp2_with fail
  refine (l1Below_r p cv code st _ _ (Cur.alloc hC _)).mono ?_; rintro e w1 ⟨rfl, hC1, hg1⟩
  go_wp2_with fail
  refine (l1Below_r p cv code _ _ _ hC1).mono ?_; rintro e w2 ⟨rfl, hC2, hg2⟩
  dsimp only at *
  rw [HN.out]
  have hB2 : Buf w.heap.size (.slice (some ⟨w.heap.size, 0, none⟩) 0 0) [] w2 := ((Buf.empty w w.heap.size (Nat.le_refl _)).grown hg1 hp).grown hg2 hp
  have hG2 : w.grownBy w2 (some p) := (World.grownBy_alloc w _ _).trans (hg1.trans hg2)
  generalize (belowR code (belowR code st 4).2 (most + 1)).2 = st2 at *
  generalize (belowR code st 4).1 = style at *
  clear HN hg1 hg2 hC1
  go_wp2_with fail
  go_loopw [5, 7] (fun v x wr => ∃ m : Nat, ∃ st' : DrawSt, ∃ l : List UInt8, x = .int .i64 (m : Int) ∧ l.length + m = n ∧ TextInv code style R m st' l ∧ CurS wr p cv code st' ∧ Buf w.heap.size v l wr ∧ w.grownBy wr (some p)) (fun _ x _ => (intOf x).toNat)
  case atStart => exact ⟨n, st2, [], rfl, by simp, hR, hC2, hB2, hG2⟩
  case round =>
    obtain ⟨m, st', l, rfl, hlm, hI, hCr, hB, hG⟩ := hrel
    by_cases hm : 0 < m
    · obtain ⟨k, rfl⟩ : ∃ k, m = k + 1 := ⟨m - 1, by omega⟩
      have hb := byteR_bd code st'
      have hsb := styled_bd style _ hb.1 hb.2
      unfold TextInv at hI
      rw [textLoop] at hI
      have hI' : TextInv code style R k (byteR code st').2 (l ++ [byteI (styled style (byteR code st').1)]) := hI
      clear hI
      by_cases hs1 : style = 1
      · have e1 : (style == 1) = true := beq_iff_eq.2 hs1
        have e2 : (style == 2) = false := beq_eq_false_iff_ne.2 (by omega)
        have hS : styled style (byteR code st').1 = (byteR code st').1 % 2 := by unfold styled; rw [if_pos hs1]
        rw [hS] at hI' hsb
        clear hs1 hS
        go_wp2_with fail
        refine (l1Byte_r p cv code _ _ hCr).mono ?_; rintro e w3 ⟨rfl, hC3, hg3⟩
        have hB3 := hB.grown hg3 hp
        have hz3 := hg3.size
        have hz := hG.size
        dsimp only at *
        go_wp2_with (at_builtin; refine buf_app1 hB3 rfl _ _ rfl rfl _ rfl (by omega) (by omega) (by omega) (by omega) ?_)
        intro v' w4 hB4 hW4
        go_wp2
        go_roundw
        case rel => exact ⟨k, _, _, by go_num, by (simp <;> omega), hI', Cur.below hC hC3 hW4, hB4, grown_of_below (hG.trans hg3) hW4⟩
        case measure => simp [intOf] <;> omega
      · have e1 : (style == 1) = false := beq_eq_false_iff_ne.2 hs1
        by_cases hs2 : style = 2
        · have e2 : (style == 2) = true := beq_iff_eq.2 hs2
          have hS : styled style (byteR code st').1 = 97 + (byteR code st').1 % 4 := by unfold styled; rw [if_neg hs1, if_pos hs2]
          rw [hS] at hI' hsb
          clear hs1 hs2 hS
          go_wp2_with fail
          refine (l1Byte_r p cv code _ _ hCr).mono ?_; rintro e w3 ⟨rfl, hC3, hg3⟩
          have hB3 := hB.grown hg3 hp
          have hz3 := hg3.size
          have hz := hG.size
          dsimp only at *
          go_wp2_with (at_builtin; refine buf_app1 hB3 rfl _ _ rfl rfl _ rfl (by omega) (by omega) (by omega) (by omega) ?_)
          intro v' w4 hB4 hW4
          go_wp2
          go_roundw
          case rel => exact ⟨k, _, _, by go_num, by (simp <;> omega), hI', Cur.below hC hC3 hW4, hB4, grown_of_below (hG.trans hg3) hW4⟩
          case measure => simp [intOf] <;> omega
        · have e2 : (style == 2) = false := beq_eq_false_iff_ne.2 hs2
          have hS : styled style (byteR code st').1 = (byteR code st').1 := by unfold styled; rw [if_neg hs1, if_neg hs2]
          rw [hS] at hI' hsb
          clear hs1 hs2 hS
          go_wp2_with fail
          refine (l1Byte_r p cv code _ _ hCr).mono ?_; rintro e w3 ⟨rfl, hC3, hg3⟩
          have hB3 := hB.grown hg3 hp
          have hz3 := hg3.size
          have hz := hG.size
          dsimp only at *
          go_wp2_with (at_builtin; refine buf_app1 hB3 rfl _ _ rfl rfl _ rfl (by omega) (by omega) (by omega) (by omega) ?_)
          intro v' w4 hB4 hW4
          go_wp2
          go_roundw
          case rel => exact ⟨k, _, _, by go_num, by (simp <;> omega), hI', Cur.below hC hC3 hW4, hB4, grown_of_below (hG.trans hg3) hW4⟩
          case measure => simp [intOf] <;> omega
    · obtain rfl : m = 0 := by omega
      have hc := hB.str
      have hE : (l, st') = R := hI
      subst hE
      go_wp2
      go_ret
      exact Drew.intro rfl hCr hG

end Go.Proofs.YtmaoojdoiccgdaaGreatDoor
