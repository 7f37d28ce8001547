/-
  Walks and plain lemmas for the laws of this seat: what single Go functions return, for every argument.
-/
import Derived.Test.YtakflmaeclneiaaGreatInts
import Derived.Test.YtakflmaeclneiaaGreatTyAtom
import Derived.Test.YtakflmaeclneiaaGreatGraph
import Derived.Test.YtakflmaeclneiaaGreatPosI
namespace Go.Proofs.YtakflmaeclneiaaGreat
open Go.RowKit

set_option maxHeartbeats 3200000 in
set_option maxRecDepth 100000 in
theorem implVarPos_any (v u : Value) (l : List Rel) (ts : List Atm) (x : Int) (w : World) (hl : RelsAt w w.heap.size v l) (h : AtomS_at w w.heap.size u ts) (hw : AtomS_wf ts) (hs : AtomS_sz ts ≤ 1048576) :
    Calls Tryz.prog 44 #[v, u, .int .i64 x] w fun e w' => ∃ V, e = .returned V ∧ OwnInts w.heap.size V (varPos l ts x) w' ∧ Below w.heap.size w w' := by
  obtain ⟨P, c, rfl, hc1, hc2⟩ := h.form
  unfold maxLen at hc2
  have HL := Lib.hid h
  have HR := Lib.hid hl
  clear h hl
  go_enter Tryz.func44, Tryz.ntmps44
  go_wp2
  go_loopw [7, 14] (fun o i wr => ∃ k : Nat, k ≤ ts.length ∧ i = .int .i64 (k : Int) ∧ Hid (OwnInts w.heap.size o (varPos l (ts.take k) x) wr) ∧ Hid (Below w.heap.size w wr)) (fun _ i _ => ts.length - (intOf i).toNat)
  case atStart => exact ⟨0, by omega, rfl, Lib.hid (by simpa [varPos] using OwnInts.nil w w.heap.size), Lib.hid (Below.refl _ _)⟩
  case round =>
    obtain ⟨k, hk, rfl, HO, HW⟩ := hrel
    have hz := HW.out.size
    by_cases hlt : k < ts.length
    · obtain ⟨b, off, V, rfl, hb, c0, c1, hV⟩ := AtomS_at.elem HL.out k hlt
      obtain ⟨P', c', rfl, hp1, hp2, _⟩ := id hV
      unfold maxLen at hp2
      have HV := Lib.hid (show IntsAt w w.heap.size (.slice P' ts[k].vals.length c') ts[k].vals from hV)
      replace c0 := (HW.out.cell (p := ⟨b, off + k * 2, none⟩) hb).trans c0
      replace c1 := (HW.out.cell (p := ⟨b, off + k * 2 + 1, none⟩) hb).trans c1
      have HN := Lib.hid (varPos_take l ts x k hlt)
      have hwr := (hw k hlt).1
      have hl1 := varPos_len l (ts.take k) x
      have hl2 := avalsLen_take ts k hlt
      have hl3 := avalsLen_le ts (k + 1)
      have hlb : (varPos l (ts.take k) x).length + ts[k].vals.length ≤ 1048576 := by unfold AtomS_sz at hs; omega
      clear hV hl1 hl2 hl3
      generalize ts[k] = a at *
      generalize varPos l (ts.take k) x = S at *
      obtain ⟨W1, hEq⟩ : ∃ W1, W1 = wr.alloc (.cells #[.int .i64 a.rel, .slice P' a.vals.length c'] 72) := ⟨_, rfl⟩
      have HB1 := Lib.hid (show Below w.heap.size w W1 by rw [hEq]; exact HW.out.alloc hz _)
      have HB0 := Lib.hid (show Below wr.heap.size wr W1 by rw [hEq]; exact below_more (Below.refl _ _) _)
      have HZ1 := Lib.hid (show W1.heap.size = wr.heap.size + 1 by rw [hEq]; simp)
      have X0 := Lib.hid (show W1.cell? ⟨wr.heap.size, 0, none⟩ = some (.int .i64 a.rel) by rw [hEq]; simp [go_sem])
      have HO1 := Lib.hid (HO.out.below HB0.out (Nat.le_refl _))
      have HOF := Lib.hid (fun g hg => show g ≠ wr.heap.size from Nat.ne_of_lt (HO.out.lt g hg).2)
      have HWZ := Lib.hid hz
      go_upto_region 6 with fail
      rw [← hEq]
      clear hEq c0 c1 HO HW hz HB0
      generalize wr.heap.size = bx at *
      go_loopw [7, 21] (fun o i wq => ∃ m : Nat, m ≤ a.vals.length ∧ i = .int .i64 (m : Int) ∧ Hid (OwnInts w.heap.size o (S ++ atPosTo l a x m) wq) ∧ Hid (∀ g, o.ownBlock = some g → g ≠ bx) ∧ Hid (wq.cell? ⟨bx, 0, none⟩ = some (.int .i64 a.rel)) ∧ Hid (W1.heap.size ≤ wq.heap.size) ∧ Hid (Below w.heap.size w wq)) (fun _ i _ => a.vals.length - (intOf i).toNat)
      case atStart => exact ⟨0, by omega, rfl, Lib.hid (by rw [atPosTo_zero, List.append_nil]; exact HO1.out), HOF, X0, Lib.hid (Nat.le_refl _), HB1⟩
      case round =>
        obtain ⟨m, hm, rfl, HO2, HF2, HX2, HZ2, HW2⟩ := hrel
        have hz2 := HW2.out.size
        have hz1 := HZ1.out
        have hz3 := HZ2.out
        by_cases hlm : m < a.vals.length
        · obtain ⟨b', off', rfl, hb', d0⟩ := IntsAt.elem HV.out m hlm
          replace d0 := (HW2.out.cell (p := ⟨b', off' + m, none⟩) hb').trans d0
          have hlen := atPosTo_len l a x m
          by_cases hp : a.vals[m] = x
          · have HA := Lib.hid (atPosTo_yes l a x m hlm hp)
            have hq : (a.vals[m] == x) = true := by rw [hp]; exact beq_self_eq_true x
            have hpi := implPositionIndex_any v l a.rel (m : Int) wr ((HR.out.below HW2.out (Nat.le_refl _)).more hz2) hwr (by omega)
            have hsl : (S ++ atPosTo l a x m).length ≤ 1048576 := by rw [List.length_append]; omega
            have c0 := HX2.out
            clear hp
            generalize posIx l a.rel (m : Int) = z at *
            generalize a.vals[m] = y at *
            generalize atPosTo l a x m = T at *
            go_wp2_with fail
            refine hpi.mono ?_
            rintro e w1 ⟨rfl, hb1⟩
            have hz4 := hb1.size
            have HAL := Lib.hid (show Below w1.heap.size w1 (w1.alloc (.cells #[.int .i64 z] 3)) from below_more (Below.refl _ _) _)
            have HO3 := Lib.hid ((HO2.out.below hb1 (Nat.le_refl _)).below HAL.out (Nat.le_refl _))
            have HONE := Lib.hid (show IntsAt (w1.alloc (.cells #[.int .i64 z] 3)) (w1.alloc (.cells #[.int .i64 z] 3)).heap.size (.slice (some ⟨w1.heap.size, 0, none⟩) [z].length 1) [z] from (OwnInts.one w1 w1.heap.size z (Nat.le_refl _)).at_)
            have HSZ := Lib.hid (show w.heap.size ≤ (w1.alloc (.cells #[.int .i64 z] 3)).heap.size by simp; omega)
            have HXA := Lib.hid ((HAL.out.cell (p := ⟨bx, 0, none⟩) (by show bx < _; omega)).trans ((hb1.cell (p := ⟨bx, 0, none⟩) (by show bx < _; omega)).trans c0))
            have HLA := Lib.hid (show bx < (w1.alloc (.cells #[.int .i64 z] 3)).heap.size by simp; omega)
            have HWA := Lib.hid ((HW2.out.trans (hb1.mono hz2)).trans (HAL.out.mono (by omega)))
            clear c0 d0 hpi
            go_wp2_with (at_builtin; refine ints_apps (r := [z]) HO3.out rfl _ _ rfl rfl (some ⟨w1.heap.size, 0, none⟩) 1 1 rfl rfl HONE.out (fun h => by cases h) (by simp; omega) HSZ.out ?_; intro v5 w5 hO5 hB5 hG5 hN5)
            have HX5 := Lib.hid ((hG5.cell_far ⟨bx, 0, none⟩ HLA.out (fun e => HF2.out bx e.symm rfl)).trans HXA.out)
            have HF5 := Lib.hid (show ∀ g, v5.ownBlock = some g → g ≠ bx from fun g hg => by
              rcases hN5 with h | h
              · exact HF2.out g (by rw [← h]; exact hg)
              · rw [h] at hg; injection hg with hg; have := HLA.out; omega)
            have HZ5 := Lib.hid (show W1.heap.size ≤ w5.heap.size by have := hG5.size; have := HAL.out.size; omega)
            go_roundw
            case rel => exact ⟨m + 1, by omega, by go_num, Lib.hid (by rw [HA.out, ← List.append_assoc]; exact hO5), HF5, HX5, HZ5, Lib.hid (HWA.out.trans hB5)⟩
            case measure => simp [intOf]; omega
          · have HA := Lib.hid (atPosTo_no l a x m hlm hp)
            have hq : (a.vals[m] == x) = false := beq_eq_false_iff_ne.2 hp
            clear hp
            generalize a.vals[m] = y at *
            go_wp2
            go_roundw
            case rel => exact ⟨m + 1, by omega, by go_num, Lib.hid (by rw [HA.out]; exact HO2.out), HF2, HX2, HZ2, HW2⟩
            case measure => simp [intOf]; omega
        · obtain rfl : m = a.vals.length := by omega
          go_wp2
          go_roundw
          case rel => exact ⟨k + 1, by omega, by go_num, Lib.hid (by rw [HN.out]; exact HO2.out), HW2⟩
          case measure => simp [intOf]; omega
    · obtain rfl : k = ts.length := by omega
      have he : varPos l (ts.take ts.length) x = varPos l ts x := by rw [List.take_of_length_le (Nat.le_refl _)]
      have HF := Lib.hid (show OwnInts w.heap.size _ (varPos l ts x) wr by rw [← he]; exact HO.out)
      clear he HO
      go_wp2
      go_ret
      exact ⟨_, rfl, HF.out, HW.out⟩

end Go.Proofs.YtakflmaeclneiaaGreat
