/-
  Walks and plain lemmas for the laws of this seat: what single Go functions return, for every argument.
-/
import Derived.Test.YtakflmaeclneiaaDoorBase
import Derived.Test.YtakflmaeclneiaaDoorNum
import Derived.Test.YtakflmaeclneiaaDoorEdge
import Derived.Test.YtakflmaeclneiaaDoorReach
import Derived.Test.YtakflmaeclneiaaDoorReachI
namespace Go.Proofs.YtakflmaeclneiaaDoor
open Go.RowKit

set_option maxHeartbeats 3200000 in
set_option maxRecDepth 100000 in
theorem specIsReachable_any (n : Int) (v : Value) (E : List Edg) (a b : Int) (w : World) (hl : EdgsAt w w.heap.size v E) (hE : E.length ≤ 1048576) (hn0 : -9223372036854775808 ≤ n ∧ n ≤ 9223372036854775807) (ha0 : -9223372036854775808 ≤ a ∧ a ≤ 9223372036854775807) (hb0 : -9223372036854775808 ≤ b ∧ b ≤ 9223372036854775807) :
    Calls Tryd.prog 13 #[.int .i64 n, v, .int .i64 a, .int .i64 b] w fun e w' => e = .returned (.bool (reachB n E a b)) ∧ Below w.heap.size w w' := by
  have HL := Lib.hid hl
  obtain ⟨A, c, rfl, hlc, hcm, -⟩ := hl
  unfold maxLen at hcm
  by_cases hn : 0 ≤ n ∧ n ≤ 30
  · have hin1 := fun w => l1In_at n 0 30 true (by unfold inB; exact decide_eq_true (by omega)) w
    by_cases ha : 0 ≤ a ∧ a < n
    · have hin2 := fun w => l1In_at a 0 (n - 1) true (by unfold inB; exact decide_eq_true (by omega)) w
      by_cases hb : 0 ≤ b ∧ b < n
      · have hin3 := fun w => l1In_at b 0 (n - 1) true (by unfold inB; exact decide_eq_true (by omega)) w
        obtain ⟨m, rfl⟩ : ∃ m : Nat, n = (m : Int) := ⟨n.toNat, by omega⟩
        obtain ⟨p, rfl⟩ : ∃ p : Nat, a = (p : Int) := ⟨a.toNat, by omega⟩
        obtain ⟨q, rfl⟩ : ∃ q : Nat, b = (q : Int) := ⟨b.toNat, by omega⟩
        have hm : m ≤ 30 := by omega
        have hp : p < m := by omega
        have hq : q < m := by omega
        clear hn ha hb hn0 ha0 hb0
        have hmk := fun w => make_bools w m (by omega)
        obtain ⟨W1, hEq⟩ : ∃ W1, W1 = w.alloc (.cells (madeCells #[.bool false] m) 4) := ⟨_, rfl⟩
        have hO0 : OwnBools w.heap.size (.slice (some ⟨w.heap.size, 0, none⟩) m m) (List.replicate m false) W1 := by rw [hEq]; exact OwnBools.full w m (by omega) _ (Nat.le_refl _)
        have hB0 : Below w.heap.size w W1 := by rw [hEq]; exact (Below.refl _ _).alloc (Nat.le_refl _) _
        have c0 := hO0.cell List.length_replicate p (by rw [List.length_replicate]; exact hp)
        rw [getD_rep] at c0
        have f0 := hO0.frozen List.length_replicate p
        have HO1 := Lib.hid (hO0.set List.length_replicate p true)
        have HR0 := Lib.hid (Rnd.start (E := E) hp m hp)
        have HL0 := Lib.hid (show ((List.replicate m false).set p true).length = m by simp)
        have HB1 := Lib.hid (hB0.setCell (p := ⟨w.heap.size, p, none⟩) (Nat.le_refl _) (.bool true))
        have HDN := Lib.hid (fun (F : List Bool) (h : Rnd E m p m fun j => F.getD j false) => reachB_done (E := E) hm hp hq h)
        clear hB0 hO0
        generalize (List.replicate m false).set p true = F0 at *
        go_enter Tryd.func13, Tryd.ntmps13
        go_wp2_with fail
        refine (hin1 w).mono ?_
        rintro e w2 ⟨rfl, rfl⟩
        go_wp2_with fail
        refine (hin2 w).mono ?_
        rintro e w2 ⟨rfl, rfl⟩
        go_wp2_with fail
        refine (hin3 w).mono ?_
        rintro e w2 ⟨rfl, rfl⟩
        clear hin1 hin2 hin3
        go_upto_region 4 with fail
        rw [← hEq]
        clear hEq hmk
        go_wp2
        clear c0 f0
        go_loopw [10] (fun i wr => ∃ (k : Nat) (F : List Bool), k ≤ m ∧ i = .int .i64 (k : Int) ∧ Hid (F.length = m) ∧ Hid (Rnd E m p k fun j => F.getD j false) ∧ Hid (OwnBools w.heap.size (.slice (some ⟨w.heap.size, 0, none⟩) m m) F wr) ∧ Hid (Below w.heap.size w wr)) (fun i _ => m - (intOf i).toNat)
        case atStart => exact ⟨0, F0, by omega, rfl, HL0, HR0, HO1, HB1⟩
        case round =>
          obtain ⟨k, F, hk, rfl, HFl, HR, HO, HW⟩ := hrel
          clear HL0 HR0 HO1 HB1
          by_cases hlt : k < m
          · go_wp2
            go_loopw [11] (fun i wr => ∃ (t : Nat) (G : List Bool), t ≤ E.length ∧ i = .int .i64 (t : Int) ∧ Hid (Inn E m p F t G) ∧ Hid (OwnBools w.heap.size (.slice (some ⟨w.heap.size, 0, none⟩) m m) G wr) ∧ Hid (Below w.heap.size w wr)) (fun i _ => E.length - (intOf i).toNat)
            case atStart => exact ⟨0, F, by omega, rfl, Lib.hid (Inn.zero HFl.out HR.out), HO, HW⟩
            case round =>
              obtain ⟨t, G, ht, rfl, HI, HO2, HW2⟩ := hrel
              by_cases hte : t < E.length
              · obtain ⟨eb, off, rfl, heb, d0, d1, -⟩ := EdgsAt.elem (HL.out.below HW2.out (Nat.le_refl _)) t hte
                have HSK := Lib.hid (fun hn => HI.out.skip hte hn)
                have HPT := Lib.hid (fun h1 h2 => HI.out.put hte h1 h2)
                have HGl := Lib.hid HI.out.len
                obtain ⟨e, he⟩ : ∃ e, e = E[t] := ⟨_, rfl⟩
                rw [← he] at d0 d1 HSK HPT
                clear he
                by_cases hs : 0 ≤ e.src ∧ e.src < m
                · have hi1 := fun w => l1In_at e.src 0 ((m : Int) - 1) true (by unfold inB; exact decide_eq_true (by omega)) w
                  by_cases hd : 0 ≤ e.dst ∧ e.dst < m
                  · have hi2 := fun w => l1In_at e.dst 0 ((m : Int) - 1) true (by unfold inB; exact decide_eq_true (by omega)) w
                    obtain ⟨x, hx⟩ : ∃ x : Nat, e.src = (x : Int) := ⟨e.src.toNat, by omega⟩
                    obtain ⟨y, hy⟩ : ∃ y : Nat, e.dst = (y : Int) := ⟨e.dst.toNat, by omega⟩
                    have hxm : x < m := by omega
                    have hym : y < m := by omega
                    have HX := Lib.hid (show e.src.toNat = x by omega)
                    have HY := Lib.hid (show e.dst.toNat = y by omega)
                    have HIN : Hid (EdgIn m e) := Lib.hid ⟨hs, hd⟩
                    rw [hx] at d0 hi1
                    rw [hy] at d1 hi2
                    clear hs hd hx hy
                    have g0 := HO2.out.cell HGl.out x (by rw [HGl.out]; exact hxm)
                    cases hg : G.getD x false with
                    | true =>
                      rw [hg] at g0
                      have HPT2 := Lib.hid (HPT.out HIN.out (by rw [HX.out]; exact hg))
                      have g1 := HO2.out.cell HGl.out y (by rw [HGl.out]; exact hym)
                      have g2 := HO2.out.frozen HGl.out y
                      have HO3 := Lib.hid (HO2.out.set HGl.out y true)
                      have HW3 := Lib.hid (HW2.out.setCell (p := ⟨w.heap.size, y, none⟩) (Nat.le_refl _) (.bool true))
                      rw [HY.out] at HPT2
                      clear hg HSK HPT
                      generalize G.getD y false = gy at *
                      go_wp2_with fail
                      refine (hi1 wr).mono ?_
                      rintro e1 w2 ⟨rfl, rfl⟩
                      go_wp2_with fail
                      refine (hi2 wr).mono ?_
                      rintro e1 w2 ⟨rfl, rfl⟩
                      go_wp2
                      go_roundw
                      case rel => exact ⟨t + 1, G.set y true, by omega, by go_num, HPT2, HO3, HW3⟩
                      case measure => simp [intOf]; omega
                    | false =>
                      rw [hg] at g0
                      have HSK2 := Lib.hid (HSK.out fun h => by rw [HX.out, hg] at h; cases h.2)
                      clear hg HSK HPT
                      go_wp2_with fail
                      refine (hi1 wr).mono ?_
                      rintro e1 w2 ⟨rfl, rfl⟩
                      go_wp2_with fail
                      refine (hi2 wr).mono ?_
                      rintro e1 w2 ⟨rfl, rfl⟩
                      go_wp2
                      go_roundw
                      case rel => exact ⟨t + 1, G, by omega, by go_num, HSK2, HO2, HW2⟩
                      case measure => simp [intOf]; omega
                  · have hi2 := fun w => l1In_at e.dst 0 ((m : Int) - 1) false (by unfold inB; exact decide_eq_false (by omega)) w
                    have HSK2 := Lib.hid (HSK.out fun h => hd h.1.2)
                    clear hd HSK HPT
                    go_wp2_with fail
                    refine (hi1 wr).mono ?_
                    rintro e1 w2 ⟨rfl, rfl⟩
                    go_wp2_with fail
                    refine (hi2 wr).mono ?_
                    rintro e1 w2 ⟨rfl, rfl⟩
                    go_wp2
                    go_roundw
                    case rel => exact ⟨t + 1, G, by omega, by go_num, HSK2, HO2, HW2⟩
                    case measure => simp [intOf]; omega
                · have hi1 := fun w => l1In_at e.src 0 ((m : Int) - 1) false (by unfold inB; exact decide_eq_false (by omega)) w
                  have HSK2 := Lib.hid (HSK.out fun h => hs h.1.1)
                  clear hs HSK HPT
                  go_wp2_with fail
                  refine (hi1 wr).mono ?_
                  rintro e1 w2 ⟨rfl, rfl⟩
                  go_wp2
                  go_roundw
                  case rel => exact ⟨t + 1, G, by omega, by go_num, HSK2, HO2, HW2⟩
                  case measure => simp [intOf]; omega
              · obtain rfl : t = E.length := by omega
                have HN := Lib.hid (Inn.full HR.out HI.out)
                have HGl := Lib.hid HI.out.len
                go_wp2
                go_roundw
                case rel => exact ⟨k + 1, G, by omega, by go_num, HGl, HN, HO2, HW2⟩
                case measure => simp [intOf]; omega
          · obtain rfl : k = m := by omega
            have g0 := HO.out.cell HFl.out q (by rw [HFl.out]; exact hq)
            have HV := Lib.hid (HDN.out F HR.out)
            generalize F.getD q false = r at *
            go_wp2
            go_ret
            exact ⟨ret_bool HV.out, HW.out⟩
      · have hin3 := fun w => l1In_at b 0 (n - 1) false (by unfold inB; exact decide_eq_false (by omega)) w
        have HF := Lib.hid (reachB_no (E := E) (n := n) (a := a) (b := b) fun h => hb h.2.2)
        clear hb
        go_enter Tryd.func13, Tryd.ntmps13
        go_wp2_with fail
        refine (hin1 w).mono ?_
        rintro e w2 ⟨rfl, rfl⟩
        go_wp2_with fail
        refine (hin2 w).mono ?_
        rintro e w2 ⟨rfl, rfl⟩
        go_wp2_with fail
        refine (hin3 w).mono ?_
        rintro e w2 ⟨rfl, rfl⟩
        go_wp2
        go_ret
        exact ⟨ret_bool HF.out.symm, Below.refl _ _⟩
    · have hin2 := fun w => l1In_at a 0 (n - 1) false (by unfold inB; exact decide_eq_false (by omega)) w
      have HF := Lib.hid (reachB_no (E := E) (n := n) (a := a) (b := b) fun h => ha h.2.1)
      clear ha
      go_enter Tryd.func13, Tryd.ntmps13
      go_wp2_with fail
      refine (hin1 w).mono ?_
      rintro e w2 ⟨rfl, rfl⟩
      go_wp2_with fail
      refine (hin2 w).mono ?_
      rintro e w2 ⟨rfl, rfl⟩
      go_wp2
      go_ret
      exact ⟨ret_bool HF.out.symm, Below.refl _ _⟩
  · have hin1 := fun w => l1In_at n 0 30 false (by unfold inB; exact decide_eq_false (by omega)) w
    have HF := Lib.hid (reachB_no (E := E) (n := n) (a := a) (b := b) fun h => hn h.1)
    clear hn
    go_enter Tryd.func13, Tryd.ntmps13
    go_wp2_with fail
    refine (hin1 w).mono ?_
    rintro e w2 ⟨rfl, rfl⟩
    go_wp2
    go_ret
    exact ⟨ret_bool HF.out.symm, Below.refl _ _⟩
theorem specIsReachable_c (n : Int) (v : Value) (E : List Edg) (a b : Int) (w : World) (hn0 : -9223372036854775808 ≤ n ∧ n ≤ 9223372036854775807) (hl : PositionEdgeS_at w w.heap.size v E) (_ : PositionEdgeS_wf E) (hE : PositionEdgeS_sz E ≤ 1048576) (ha0 : -9223372036854775808 ≤ a ∧ a ≤ 9223372036854775807) (hb0 : -9223372036854775808 ≤ b ∧ b ≤ 9223372036854775807) :
    Calls Tryd.prog 13 #[.int .i64 n, v, .int .i64 a, .int .i64 b] w fun e w' => e = .returned (.bool (reachB n E a b)) ∧ Below w.heap.size w w' := specIsReachable_any n v E a b w hl hE hn0 ha0 hb0

end Go.Proofs.YtakflmaeclneiaaDoor
