/-
  Walks and plain lemmas for the laws of this seat: what single Go functions return, for every argument.
-/
import Derived.Test.YtakflmaeclneiaaDoorMem
import Derived.Test.YtakflmaeclneiaaDoorPosI
import Derived.Test.YtakflmaeclneiaaDoorMatI
namespace Go.Proofs.YtakflmaeclneiaaDoor
open Go.RowKit

set_option maxRecDepth 100000 in
theorem zeroRow : (Tryd.prog.info? 57).map (·.zero) = some (some (.agg (bArr (List.replicate 30 false)))) := by kernel_rfl
set_option maxHeartbeats 6400000 in
set_option maxRecDepth 100000 in
theorem implIsReachable_any (n : Int) (v : Value) (E : List Edg) (a b : Int) (w : World) (hl : EdgsAt w w.heap.size v E) (hn0 : -9223372036854775808 ≤ n ∧ n ≤ 9223372036854775807) (ha0 : -9223372036854775808 ≤ a ∧ a ≤ 9223372036854775807) (hb0 : -9223372036854775808 ≤ b ∧ b ≤ 9223372036854775807) :
    Calls Tryd.prog 9 #[.int .i64 n, v, .int .i64 a, .int .i64 b] w fun e w' => e = .returned (.bool (reachB n E a b)) ∧ Below w.heap.size w w' := by
  by_cases hn : n ≤ 30
  · have hn2 : decide (n > 30) = false := decide_eq_false (by omega)
    have hn3 : decide (30 < n) = false := decide_eq_false (by omega)
    by_cases ha : 0 ≤ a ∧ a < n
    · have hin2 := fun w => implIsIndex_at a n true (decide_eq_true ha) w
      by_cases hb : 0 ≤ b ∧ b < n
      · have hin3 := fun w => implIsIndex_at b n true (decide_eq_true hb) w
        obtain ⟨m, rfl⟩ : ∃ m : Nat, n = (m : Int) := ⟨n.toNat, by omega⟩
        obtain ⟨p, rfl⟩ : ∃ p : Nat, a = (p : Int) := ⟨a.toNat, by omega⟩
        obtain ⟨q, rfl⟩ : ∃ q : Nat, b = (q : Int) := ⟨b.toNat, by omega⟩
        have hm : m ≤ 30 := by omega
        have hp : p < m := by omega
        have hq : q < m := by omega
        clear hn ha hb hn0 ha0 hb0
        have hmat := implEdgeMatrix_any m v E w hm hl
        obtain ⟨A, c, rfl, -, -, -⟩ := hl
        have HZM := Lib.hid zeroMat
        have HZR := Lib.hid zeroRow
        have HLM := Lib.hid (show (bArr (List.replicate 900 false)).size = 900 by rw [bArr_size]; exact List.length_replicate)
        have HLR := Lib.hid (show (List.replicate 30 false).length = 30 from List.length_replicate)
        have HR0 := Lib.hid (Rnd.start (E := E) hp 30 (by omega))
        have HR00 := Lib.hid (getD_rep 30 p)
        have HDN := Lib.hid (fun (F : List Bool) (h : Rnd E m p m fun j => F.getD j false) => reachB_done (E := E) hm hp hq h)
        generalize List.replicate 900 false = ZM at *
        generalize List.replicate 30 false = ZR at *
        go_enter Tryd.func9, Tryd.ntmps9
        go_wp2_with fail
        refine (hin2 w).mono ?_
        rintro e w2 ⟨rfl, rfl⟩
        go_wp2_with fail
        refine (hin3 w).mono ?_
        rintro e w2 ⟨rfl, rfl⟩
        clear hin2 hin3
        go_wp2_with fail
        refine hmat.mono ?_
        rintro e w1 ⟨M, rfl, hM, hb1⟩
        have hz1 := hb1.size
        clear hmat
        have HM := Lib.hid hM
        have HMs := Lib.hid (show (bArr M).size = 900 by rw [bArr_size, hM.len])
        clear hM
        obtain ⟨W2, h2⟩ : ∃ W2, W2 = w1.alloc (.cells (bArr ZM) 58) := ⟨_, rfl⟩
        have hG2 : BoxB 58 w1.heap.size ZM W2 := by rw [h2]; exact BoxB.new w1 _ ZM
        have hz2 : W2.heap.size = w1.heap.size + 1 := by rw [h2]; simp
        have hB2 : Below w.heap.size w W2 := by rw [h2]; exact hb1.alloc hz1 _
        go_upto_region 4 with (first
          | (refine wpList_alloc_row rfl 58 rfl (bArr ZM) HZM.out ?_; rw [← h2])
          | (refine wpList_store_row rfl 58 _ _ rfl w1.heap.size (bArr M) rfl rfl 58 (bArr ZM) hG2 (by rw [HMs.out]; exact sizeMat) (by rw [HMs.out, HLM.out]) (bools_one M) ?_))
        clear h2
        obtain ⟨W3, h3⟩ : ∃ W3, W3 = W2.setRow w1.heap.size (bArr M) := ⟨_, rfl⟩
        have hG3 : BoxB 58 w1.heap.size M W3 := by rw [h3]; exact hG2.row
        have hz3 : W3.heap.size = w1.heap.size + 1 := by rw [h3, size_setRow, hz2]
        have hB3 : Below w.heap.size w W3 := by rw [h3]; exact below_setRow hB2 hz1 _
        rw [← h3]
        clear h3 hG2 hz2 hB2
        obtain ⟨W4, h4⟩ : ∃ W4, W4 = W3.alloc (.cells (bArr ZR) 57) := ⟨_, rfl⟩
        have hG4 : BoxB 58 w1.heap.size M W4 := by rw [h4]; exact hG3.alloc _
        have hR4 : BoxB 57 (w1.heap.size + 1) ZR W4 := by rw [h4, ← hz3]; exact BoxB.new W3 _ ZR
        have hB4 : Below w.heap.size w W4 := by rw [h4]; exact hB3.alloc (by omega) _
        have HZ3 := Lib.hid hz3
        go_upto_region 5 with (refine wpList_alloc_row rfl 57 rfl (bArr ZR) HZR.out ?_; rw [← h4, HZ3.out])
        clear h4 hz3 HZ3 hG3 hB3
        have c0 := hR4.cell p (by rw [HLR.out]; omega)
        rw [HR00.out] at c0
        have f0 := hR4.frozen p
        have HG5 := Lib.hid (hG4.other (w1.heap.size + 1) p (.bool true) (by omega))
        have HR5 := Lib.hid (hR4.set p true)
        have HB5 := Lib.hid (hB4.setCell (p := ⟨w1.heap.size + 1, p, none⟩) (by show w.heap.size ≤ w1.heap.size + 1; omega) (.bool true))
        have HL5 := Lib.hid (show (ZR.set p true).length = 30 by rw [List.length_set, HLR.out])
        have hp30 : p < 30 := by omega
        have hq30 : q < 30 := by omega
        clear hG4 hR4 hB4
        generalize ZR.set p true = F0 at *
        go_wp2
        clear c0 f0
        have HGB : Hid (w.heap.size ≤ w1.heap.size) := Lib.hid hz1
        generalize w1.heap.size = gm at *
        go_loopw [33] (fun i wr => ∃ (k : Nat) (F : List Bool), k ≤ m ∧ i = .int .i64 (k : Int) ∧ Hid (F.length = 30) ∧ Hid (Rnd E m p k fun j => F.getD j false) ∧ Hid (BoxB 57 (gm + 1) F wr) ∧ Hid (BoxB 58 gm M wr) ∧ Hid (Below w.heap.size w wr)) (fun i _ => m - (intOf i).toNat)
        case atStart => exact ⟨0, F0, by omega, rfl, HL5, HR0, HR5, HG5, HB5⟩
        case round =>
          obtain ⟨k, F, hk, rfl, HFl, HR, HO, HG, HW⟩ := hrel
          clear HL5 HR0 HR5 HG5 HB5
          by_cases hlt : k < m
          · go_wp2
            go_loopw [36] (fun i wr => ∃ (t : Nat) (G : List Bool), t ≤ m ∧ i = .int .i64 (t : Int) ∧ Hid (Mid2 E m p F t 0 G) ∧ Hid (BoxB 57 (gm + 1) G wr) ∧ Hid (BoxB 58 gm M wr) ∧ Hid (Below w.heap.size w wr)) (fun i _ => m - (intOf i).toNat)
            case atStart => exact ⟨0, F, by omega, rfl, Lib.hid (Mid2.zero HFl.out HR.out), HO, HG, HW⟩
            case round =>
              obtain ⟨t, G, ht, rfl, HI, HO2, HG2, HW2⟩ := hrel
              by_cases htm : t < m
              · go_wp2
                go_loopw [40] (fun i wr => ∃ (x : Nat) (H : List Bool), x ≤ m ∧ i = .int .i64 (x : Int) ∧ Hid (Mid2 E m p F t x H) ∧ Hid (BoxB 57 (gm + 1) H wr) ∧ Hid (BoxB 58 gm M wr) ∧ Hid (Below w.heap.size w wr)) (fun i _ => m - (intOf i).toNat)
                case atStart => exact ⟨0, G, by omega, rfl, HI, HO2, HG2, HW2⟩
                case round =>
                  obtain ⟨x, H, hx, rfl, HJ, HO3, HG3, HW3⟩ := hrel
                  by_cases hxm : x < m
                  · have HS := Lib.hid (HJ.out.step HM.out hm htm hxm)
                    have HHl := Lib.hid HJ.out.len
                    have g0 := HO3.out.cell x (by rw [HHl.out]; omega)
                    have g1 := HO3.out.cell t (by rw [HHl.out]; omega)
                    have g2 := HG3.out.cell (t * 30 + x) (by rw [HM.out.len]; omega)
                    have g3 := HO3.out.frozen x
                    have HO4 := Lib.hid (fun b => HO3.out.set x b)
                    have HG4 := Lib.hid (fun b => HG3.out.other (gm + 1) x (.bool b) (by omega))
                    have HW4 := Lib.hid (fun b => HW3.out.setCell (p := ⟨gm + 1, x, none⟩) (by show w.heap.size ≤ gm + 1; have := HGB.out; omega) (.bool b))
                    have hx30 : x < 30 := by omega
                    have ht30 : t < 30 := by omega
                    generalize H.getD x false = bx at *
                    generalize H.getD t false = bt at *
                    generalize M.getD (t * 30 + x) false = bm at *
                    cases bx
                    · cases bt
                      · go_wp2
                        go_roundw
                        case rel => exact ⟨x + 1, _, by omega, by go_num, HS, Lib.hid (HO4.out _), Lib.hid (HG4.out _), Lib.hid (HW4.out _)⟩
                        case measure => simp [intOf]; omega
                      · go_wp2
                        go_roundw
                        case rel => exact ⟨x + 1, _, by omega, by go_num, HS, Lib.hid (HO4.out _), Lib.hid (HG4.out _), Lib.hid (HW4.out _)⟩
                        case measure => simp [intOf]; omega
                    · go_wp2
                      go_roundw
                      case rel => exact ⟨x + 1, _, by omega, by go_num, HS, Lib.hid (HO4.out _), Lib.hid (HG4.out _), Lib.hid (HW4.out _)⟩
                      case measure => simp [intOf]; omega
                  · obtain rfl : x = m := by omega
                    have HN := Lib.hid HJ.out.row
                    go_wp2
                    go_roundw
                    case rel => exact ⟨t + 1, H, by omega, by go_num, HN, HO3, HG3, HW3⟩
                    case measure => simp [intOf]; omega
              · obtain rfl : t = m := by omega
                have HN := Lib.hid (Mid2.full HR.out HI.out)
                have HGl := Lib.hid HI.out.len
                go_wp2
                go_roundw
                case rel => exact ⟨k + 1, G, by omega, by go_num, HGl, HN, HO2, HG2, HW2⟩
                case measure => simp [intOf]; omega
          · obtain rfl : k = m := by omega
            have g0 := HO.out.cell q (by rw [HFl.out]; exact hq30)
            have HV := Lib.hid (HDN.out F HR.out)
            generalize F.getD q false = r at *
            go_wp2
            go_ret
            exact ⟨ret_bool HV.out, HW.out⟩
      · have hin3 := fun w => implIsIndex_at b n false (decide_eq_false hb) w
        have HF := Lib.hid (reachB_no (E := E) (n := n) (a := a) (b := b) fun h => hb h.2.2)
        clear hb hl
        go_enter Tryd.func9, Tryd.ntmps9
        go_wp2_with fail
        refine (hin2 w).mono ?_
        rintro e w2 ⟨rfl, rfl⟩
        go_wp2_with fail
        refine (hin3 w).mono ?_
        rintro e w2 ⟨rfl, rfl⟩
        go_wp2
        go_ret
        exact ⟨ret_bool HF.out.symm, Below.refl _ _⟩
    · have hin2 := fun w => implIsIndex_at a n false (decide_eq_false ha) w
      have HF := Lib.hid (reachB_no (E := E) (n := n) (a := a) (b := b) fun h => ha h.2.1)
      clear ha hl
      go_enter Tryd.func9, Tryd.ntmps9
      go_wp2_with fail
      refine (hin2 w).mono ?_
      rintro e w2 ⟨rfl, rfl⟩
      go_wp2
      go_ret
      exact ⟨ret_bool HF.out.symm, Below.refl _ _⟩
  · have hn2 : decide (n > 30) = true := decide_eq_true (by omega)
    have hn3 : decide (30 < n) = true := decide_eq_true (by omega)
    have HF := Lib.hid (reachB_no (E := E) (n := n) (a := a) (b := b) fun h => hn h.1.2)
    clear hn hl
    go_enter Tryd.func9, Tryd.ntmps9
    go_wp2
    go_ret
    exact ⟨ret_bool HF.out.symm, Below.refl _ _⟩
theorem implIsReachable_c (n : Int) (v : Value) (E : List Edg) (a b : Int) (w : World) (hn0 : -9223372036854775808 ≤ n ∧ n ≤ 9223372036854775807) (hl : PositionEdgeS_at w w.heap.size v E) (_ : PositionEdgeS_wf E) (_ : PositionEdgeS_sz E ≤ 1048576) (ha0 : -9223372036854775808 ≤ a ∧ a ≤ 9223372036854775807) (hb0 : -9223372036854775808 ≤ b ∧ b ≤ 9223372036854775807) :
    Calls Tryd.prog 9 #[.int .i64 n, v, .int .i64 a, .int .i64 b] w fun e w' => e = .returned (.bool (reachB n E a b)) ∧ Below w.heap.size w w' := implIsReachable_any n v E a b w hl hn0 ha0 hb0

/-- a slice of bools of the call's own -/
def OwnBools (B : Nat) (v : Value) (l : List Bool) (w : World) : Prop := w.ownsRow B 4 1 v l.length (l.map Value.bool)
theorem infoBool : (Tryd.prog.info? 4).map (fun i => (i.zero, i.size, i.bytes)) = some (some (.bool false), 1, 1) := by kernel_rfl
theorem make_bools (w : World) (n : Nat) (hn : n ≤ 1048576) : (Instr.makeSlice 61 (.int .i64 (n : Int)) (.int .i64 (n : Int))).run Tryd.prog w = .ok (.slice (some ⟨w.heap.size, 0, none⟩) n n) (w.alloc (.cells (madeCells #[.bool false] n) 4)) := by
  obtain ⟨i0, hi, hz0, hz1, hz2⟩ := info_parts infoBool
  have hr := run_make (P := Tryd.prog) w 61 4 i0 _ Tryd.underlying61 hi hz0 .i64 .i64 (n : Int) (n : Int) (by omega) (by omega) (by rw [hz2]; omega) (by omega)
  simp only [Int.toNat_natCast, hz1, Nat.mul_one] at hr
  exact hr
theorem OwnBools.full (w : World) (n : Nat) (hn : n ≤ 1048576) (B : Nat) (hB : B ≤ w.heap.size) : OwnBools B (.slice (some ⟨w.heap.size, 0, none⟩) n n) (List.replicate n false) (w.alloc (.cells (madeCells #[.bool false] n) 4)) := by
  unfold OwnBools
  have e : (madeCells #[.bool false] n).toList = (List.replicate n false).map Value.bool := by rw [toList_madeCells_one, List.map_replicate]
  rw [← e, List.length_replicate]
  exact World.ownsRow_lit w _ n hB (by unfold maxLen; omega) (by rw [size_madeCells, Nat.mul_one])
theorem OwnBools.cell {B g n cap : Nat} {l : List Bool} {w : World} (h : OwnBools B (.slice (some ⟨g, 0, none⟩) n cap) l w) (hn : l.length = n) (j : Nat) (hj : j < l.length) : w.cell? ⟨g, j, none⟩ = some (.bool (l.getD j false)) := by
  subst hn
  rw [World.ownsRow.cellAt h j (by omega), List.getD_eq_getElem?_getD]; simp [hj]
theorem OwnBools.frozen {B g n cap : Nat} {l : List Bool} {w : World} (h : OwnBools B (.slice (some ⟨g, 0, none⟩) n cap) l w) (hn : l.length = n) (j : Nat) : w.frozen? ⟨g, j, none⟩ = false := by
  subst hn; exact World.ownsRow.frozenAt h j
theorem OwnBools.set {B g n cap : Nat} {l : List Bool} {w : World} (h : OwnBools B (.slice (some ⟨g, 0, none⟩) n cap) l w) (hn : l.length = n) (j : Nat) (x : Bool) :
    OwnBools B (.slice (some ⟨g, 0, none⟩) n cap) (l.set j x) (w.setCell ⟨g, j, none⟩ (.bool x)) := by
  subst hn
  have := (World.ownsRow.stored h j (.bool x)).1
  unfold OwnBools
  rw [List.length_set, List.map_set]
  exact this

end Go.Proofs.YtakflmaeclneiaaDoor
