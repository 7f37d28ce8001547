/-
  Walks and plain lemmas for the laws of this seat: what single Go functions return, for every argument.
-/
import Derived.Test.YtakflmaeclneiaaDoorPosF
import Derived.Test.YtakflmaeclneiaaDoorPosS
import Derived.Test.YtakflmaeclneiaaDoorFmtS
import Derived.Test.YtakflmaeclneiaaDoorAft
namespace Go.Proofs.YtakflmaeclneiaaDoor
open Go.RowKit

set_option maxHeartbeats 3200000 in
set_option maxRecDepth 100000 in
theorem specFormatPosition_any (v : Value) (l : List Rel) (p : Int) (w : World) (hl : RelsAt w w.heap.size v l) (_ : -9223372036854775808 ≤ p ∧ p ≤ 9223372036854775807) :
    Calls Tryd.prog 17 #[v, .int .i64 p] w fun e w' => e = .returned (.string (fmtPosS l p)) ∧ Below w.heap.size w w' := by
  have HL := Lib.hid hl
  obtain ⟨A, c, rfl, hlc, hcm, -⟩ := hl
  unfold maxLen at hcm
  go_enter Tryd.func17, Tryd.ntmps17
  go_wp2
  go_loopw [5, 6] (fun i _ wr => ∃ k : Nat, k ≤ l.length ∧ i = .int .i64 (k : Int) ∧ Hid (0 ≤ p → NoPos l p k) ∧ Hid (Below w.heap.size w wr)) (fun i _ _ => l.length - (intOf i).toNat)
  case atStart => exact ⟨0, by omega, rfl, Lib.hid (fun _ => NoPos.zero l p), Lib.hid (Below.refl _ _)⟩
  case round =>
    obtain ⟨k, hk, rfl, HT, HW⟩ := hrel
    by_cases hlt : k < l.length
    · go_wp2
      go_loopw [6] (fun i wr => ∃ m : Nat, m ≤ 3 ∧ i = .int .i64 (m : Int) ∧ Hid (0 ≤ p → ∀ i : Nat, i < m → posIx l k i ≠ p) ∧ Hid (Below w.heap.size w wr)) (fun i _ => 3 - (intOf i).toNat)
      case atStart => exact ⟨0, by omega, rfl, Lib.hid (fun _ i h => absurd h (by omega)), HW⟩
      case round =>
        obtain ⟨m, hm, rfl, HI, HW2⟩ := hrel
        have hz := HW2.out.size
        by_cases hlm : m < 3
        · by_cases h0 : 0 ≤ p
          · have hd : decide (p ≥ 0) = true := decide_eq_true h0
            have hpi := specPositionIndex_any (.slice A l.length c) l (k : Int) (m : Int) wr ((HL.out.below HW2.out (Nat.le_refl _)).more hz) (by omega) (by omega)
            by_cases he : posIx l (k : Int) (m : Int) = p
            · have hq : (posIx l (k : Int) (m : Int) == p) = true := beq_iff_eq.2 he
              have hat := pos_at k m hlt h0 he
              have HV := Lib.hid (fmtPosS_some hat.2)
              have hN1 := (relOk_bd _ _ (validRels_at l hat.1 k hlt)).1
              obtain ⟨b, off, rfl, hb, c0, -, -⟩ := RelsAt.elem (HL.out.below HW2.out (Nat.le_refl _)) k hlt
              have hB : ByteArray.size ⟨(Lib.itoa (m : Int)).toArray⟩ ≤ 2 := by rw [size_mk]; exact itoa_le2 _ (by omega) (by omega)
              have hfi := fun w => specFormatInt_any (m : Int) w (by omega) (by omega)
              have C0 := Lib.hid c0
              clear he hat c0
              generalize l[k].name = N at *
              generalize (⟨(Lib.itoa (m : Int)).toArray⟩ : ByteArray) = B at *
              generalize posIx l (k : Int) (m : Int) = z at *
              go_wp2_with fail
              refine hpi.mono ?_
              rintro e w1 ⟨rfl, hb1⟩
              have hz1 := hb1.size
              have G0 := Aft.cell (B := w1.heap.size) (w := w1) (by omega) ((hb1.cell (p := ⟨b, off + k * 3, none⟩) (by show b < _; omega)).trans C0.out)
              have HW1 := Lib.hid (HW2.out.trans (hb1.mono hz))
              clear hpi hb1
              go_upto_region 8 with fail
              refine wp_region_aft (Below.refl w1.heap.size w1) (by kernel_rfl) (by kernel_rfl) ?_
              repeat (go_big_quiet_step (((go_at_call 15; exact calls_aft (Nat.le_refl _) (hfi _)))))
              refine wpQuiet_nil ?_
              refine aft_end ?_
              intro w2 hh
              have HF := Lib.hid (HW1.out.trans (hh.mono (by omega)))
              clear hh G0
              go_wp2
              go_ret
              exact ⟨ret_str HV.out.symm, HF.out⟩
            · have hq : (posIx l (k : Int) (m : Int) == p) = false := beq_eq_false_iff_ne.2 he
              have HN := Lib.hid (fun (_ : 0 ≤ p) (i : Nat) (hi : i < m + 1) => (show posIx l k i ≠ p from by
                by_cases e : i = m
                · subst e; exact he
                · exact HI.out h0 i (by omega)))
              clear he
              generalize posIx l (k : Int) (m : Int) = z at *
              go_wp2_with fail
              refine hpi.mono ?_
              rintro e w1 ⟨rfl, hb1⟩
              have HW1 := Lib.hid (HW2.out.trans (hb1.mono hz))
              clear hpi hb1
              go_wp2
              go_roundw
              case rel => exact ⟨m + 1, by omega, by go_num, HN, HW1⟩
              case measure => simp [intOf]; omega
          · have hd : decide (p ≥ 0) = false := decide_eq_false h0
            have HN := Lib.hid (fun (h : 0 ≤ p) (i : Nat) (_ : i < m + 1) => (show posIx l k i ≠ p from absurd h h0))
            clear h0
            go_wp2
            go_roundw
            case rel => exact ⟨m + 1, by omega, by go_num, HN, HW2⟩
            case measure => simp [intOf]; omega
        · obtain rfl : m = 3 := by omega
          have HN := Lib.hid (fun h => (HT.out h).next (HI.out h))
          go_wp2
          go_roundw
          case rel => exact ⟨k + 1, by omega, by go_num, HN, HW2⟩
          case measure => simp [intOf]; omega
    · obtain rfl : k = l.length := by omega
      have HV := Lib.hid (fmtPosS_none (posOf_no HT.out))
      go_wp2
      go_ret
      exact ⟨ret_str HV.out.symm, HW.out⟩
theorem specFormatPosition_c (v : Value) (l : List Rel) (p : Int) (w : World) (hl : RelationS_at w w.heap.size v l) (_ : RelationS_wf l) (_ : RelationS_sz l ≤ 1048576) (hp0 : -9223372036854775808 ≤ p ∧ p ≤ 9223372036854775807) :
    Calls Tryd.prog 17 #[v, .int .i64 p] w fun e w' => e = .returned (.string (fmtPosS l p)) ∧ Below w.heap.size w w' := specFormatPosition_any v l p w hl hp0

end Go.Proofs.YtakflmaeclneiaaDoor
