/-
  Walks and plain lemmas for the laws of this seat: what single Go functions return, for every argument.
-/
import Derived.RegionTactic
import Derived.ChangeAlike
import Derived.Test.YtakflmaeclneiaaDoorBase
import Derived.Test.YtakflmaeclneiaaDoorEdge
import Derived.Test.YtakflmaeclneiaaDoorPosI
import Derived.Test.YtakflmaeclneiaaDoorReach
namespace Go.Proofs.YtakflmaeclneiaaDoor
open Go.RowKit

set_option maxRecDepth 100000 in
theorem zeroMat : (Tryd.prog.info? 58).map (·.zero) = some (some (.agg (bArr (List.replicate 900 false)))) := by kernel_rfl
theorem sizeMat : (Tryd.prog.info? 58).map (·.size) = some 900 := by kernel_rfl
set_option maxHeartbeats 6400000 in
set_option maxRecDepth 100000 in
theorem implEdgeMatrix_any (n : Nat) (v : Value) (E : List Edg) (w : World) (hn : n ≤ 30) (hl : EdgsAt w w.heap.size v E) :
    Calls Tryd.prog 29 #[.int .i64 (n : Int), v] w fun e w' => ∃ M, e = .returned (.agg (bArr M)) ∧ MatTo E n E.length M ∧ Below w.heap.size w w' := by
  have HL := Lib.hid hl
  obtain ⟨A, c, rfl, hlc, hcm, -⟩ := hl
  unfold maxLen at hcm
  have HZ := Lib.hid zeroMat
  have HM0 := Lib.hid (MatTo.zero E n)
  have HZl := Lib.hid (show (List.replicate 900 false).length = 900 from List.length_replicate)
  generalize List.replicate 900 false = Z at *
  obtain ⟨W1, hEq⟩ : ∃ W1, W1 = (w.alloc (.cells (bArr Z) 58)).alloc (.cells (bArr Z) 58) := ⟨_, rfl⟩
  have HB1 := Lib.hid (show Below w.heap.size w W1 by rw [hEq]; exact below_more (below_more (Below.refl _ _) _) _)
  have HR1 := Lib.hid (show BoxB 58 w.heap.size Z W1 by rw [hEq]; exact (BoxB.new w _ Z).alloc _)
  have HG1 := Lib.hid (show BoxB 58 (w.heap.size + 1) Z W1 by
    rw [hEq]
    have := BoxB.new (w.alloc (.cells (bArr Z) 58)) 58 Z
    simpa using this)
  go_enter Tryd.func29, Tryd.ntmps29
  go_upto_region 2 with (refine wpList_alloc_row rfl 58 rfl (bArr Z) HZ.out ?_)
  rw [← hEq]
  clear hEq
  go_wp2
  go_loopw [10] (fun i wr => ∃ (t : Nat) (M : List Bool), t ≤ E.length ∧ i = .int .i64 (t : Int) ∧ Hid (MatTo E n t M) ∧ Hid (BoxB 58 (w.heap.size + 1) M wr) ∧ Hid (BoxB 58 w.heap.size Z wr) ∧ Hid (Below w.heap.size w wr)) (fun i _ => E.length - (intOf i).toNat)
  case atStart => exact ⟨0, Z, by omega, rfl, HM0, HG1, HR1, HB1⟩
  case round =>
    obtain ⟨t, M, ht, rfl, HM, HG, HR, HW⟩ := hrel
    clear HG1 HR1 HB1
    have hz := HW.out.size
    by_cases hte : t < E.length
    · obtain ⟨eb, off, rfl, heb, d0, d1, d2⟩ := EdgsAt.elem (HL.out.below HW.out (Nat.le_refl _)) t hte
      have HSK := Lib.hid (fun hx => HM.out.skip hte hx)
      have HPT := Lib.hid (fun h1 => HM.out.put hn hte h1)
      obtain ⟨e, he⟩ : ∃ e, e = E[t] := ⟨_, rfl⟩
      rw [← he] at d0 d1 d2 HSK HPT
      clear he
      obtain ⟨W6, h6⟩ : ∃ W6, W6 = wr.alloc (.cells #[.int .i64 e.src, .int .i64 e.dst, .bool e.spec] 38) := ⟨_, rfl⟩
      have HW6 := Lib.hid (show Below w.heap.size w W6 by rw [h6]; exact HW.out.alloc hz _)
      have HG6 := Lib.hid (show BoxB 58 (w.heap.size + 1) M W6 by rw [h6]; exact HG.out.alloc _)
      have HR6 := Lib.hid (show BoxB 58 w.heap.size Z W6 by rw [h6]; exact HR.out.alloc _)
      have K0 := Lib.hid (show W6.cell? ⟨wr.heap.size, 0, none⟩ = some (.int .i64 e.src) by rw [h6]; simp [go_sem])
      have K1 := Lib.hid (show W6.cell? ⟨wr.heap.size, 1, none⟩ = some (.int .i64 e.dst) by rw [h6]; simp [go_sem])
      by_cases hs : 0 ≤ e.src ∧ e.src < n
      · have hi1 := fun w => implIsIndex_at e.src (n : Int) true (decide_eq_true hs) w
        by_cases hd : 0 ≤ e.dst ∧ e.dst < n
        · have hi2 := fun w => implIsIndex_at e.dst (n : Int) true (decide_eq_true hd) w
          obtain ⟨x, hx⟩ : ∃ x : Nat, e.src = (x : Int) := ⟨e.src.toNat, by omega⟩
          obtain ⟨y, hy⟩ : ∃ y : Nat, e.dst = (y : Int) := ⟨e.dst.toNat, by omega⟩
          have HPT2 := Lib.hid (HPT.out ⟨hs, hd⟩)
          rw [hx, hy] at HPT2
          simp only [Int.toNat_natCast] at HPT2
          rw [hx] at d0 hi1 h6
          rw [hy] at d1 hi2 h6
          rw [hx] at K0
          rw [hy] at K1
          have hxm : x < 30 := by omega
          have hym : y < 30 := by omega
          clear hs hd hx hy HSK HPT
          go_wp2_with fail
          refine (hi1 _).mono ?_
          rintro e1 w2 ⟨rfl, rfl⟩
          go_wp2_with fail
          refine (hi2 _).mono ?_
          rintro e1 w2 ⟨rfl, rfl⟩
          go_upto_region 6 with fail
          rw [← h6]
          clear h6 d0 d1 d2
          have k0 := K0.out
          have k1 := K1.out
          have g1 := HG6.out.cell (x * 30 + y) (by rw [HM.out.len]; omega)
          have g2 := HG6.out.frozen (x * 30 + y)
          have HG7 := Lib.hid (HG6.out.set (x * 30 + y) true).drew
          have HR7 := Lib.hid (HR6.out.other (w.heap.size + 1) (x * 30 + y) (.bool true) (by omega)).drew
          have HW7 := Lib.hid (HW6.out.setCell (p := ⟨w.heap.size + 1, x * 30 + y, none⟩) (by show w.heap.size ≤ w.heap.size + 1; omega) (.bool true)).drew
          go_region
          go_wp2
          go_roundw
          case rel => exact ⟨t + 1, M.set (x * 30 + y) true, by omega, by go_num, HPT2, HG7, HR7, HW7⟩
          case measure => simp [intOf]; omega
        · have hi2 := fun w => implIsIndex_at e.dst (n : Int) false (decide_eq_false hd) w
          have HSK2 := Lib.hid (HSK.out fun h => hd h.2)
          clear hd HSK HPT
          go_wp2_with fail
          refine (hi1 _).mono ?_
          rintro e1 w2 ⟨rfl, rfl⟩
          go_wp2_with fail
          refine (hi2 _).mono ?_
          rintro e1 w2 ⟨rfl, rfl⟩
          subst h6
          go_wp2
          go_roundw
          case rel => exact ⟨t + 1, M, by omega, by go_num, HSK2, HG6, HR6, HW6⟩
          case measure => simp [intOf]; omega
      · have hi1 := fun w => implIsIndex_at e.src (n : Int) false (decide_eq_false hs) w
        have HSK2 := Lib.hid (HSK.out fun h => hs h.1)
        clear hs HSK HPT
        go_wp2_with fail
        refine (hi1 _).mono ?_
        rintro e1 w2 ⟨rfl, rfl⟩
        subst h6
        go_wp2
        go_roundw
        case rel => exact ⟨t + 1, M, by omega, by go_num, HSK2, HG6, HR6, HW6⟩
        case measure => simp [intOf]; omega
    · obtain rfl : t = E.length := by omega
      have HMs := Lib.hid (show (bArr M).size = 900 by rw [bArr_size, HM.out.len])
      have HZs := Lib.hid (show (bArr Z).size = 900 by rw [bArr_size, HZl.out])
      go_wp2_with (first
        | (refine wpList_load_row rfl 58 _ rfl (w.heap.size + 1) rfl 58 (bArr M) (0, 0) _ HG.out Tryd.underlying58 rfl (by rw [HMs.out]; exact sizeMat) ?_)
        | (refine wpList_store_row rfl 58 _ _ rfl w.heap.size (bArr M) rfl rfl 58 (bArr Z) HR.out (by rw [HMs.out]; exact sizeMat) (by rw [HMs.out, HZs.out]) (bools_one M) ?_))
      have hRR : BoxB 58 w.heap.size M (wr.setRow w.heap.size (bArr M)) := HR.out.row
      exact bodyPost_ret (v := .agg (bArr M)) (results_cell_row Tryd.results29 _ _ w.heap.size 58 (bArr M) (0, 0) _ rfl hRR Tryd.underlying58 rfl (by rw [HMs.out]; exact sizeMat)) rfl ⟨M, rfl, HM.out, below_setRow HW.out (Nat.le_refl _) _⟩

end Go.Proofs.YtakflmaeclneiaaDoor
