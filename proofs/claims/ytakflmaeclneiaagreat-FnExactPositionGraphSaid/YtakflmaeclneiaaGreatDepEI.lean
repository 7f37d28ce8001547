/-
  Walks and plain lemmas for the laws of this seat: what single Go functions return, for every argument.
-/
import Derived.Test.YtakflmaeclneiaaGreatTyAtom
import Derived.Test.YtakflmaeclneiaaGreatGst
import Derived.Test.YtakflmaeclneiaaGreatHeadVI
import Derived.Test.YtakflmaeclneiaaGreatExPI
namespace Go.Proofs.YtakflmaeclneiaaGreat
open Go.RowKit

set_option maxHeartbeats 6400000 in
set_option maxRecDepth 100000 in
theorem implDepEdges_any (v u : Value) (l : List Rel) (d : Dep) (w : World) (hl : RelsAt w w.heap.size v l) (h : Dependency_at w w.heap.size u d) (hw : Dependency_wf d) (hs : Dependency_sz d ≤ 1048576) (hok : depOk l d = true) :
    Calls Tryz.prog 27 #[v, u] w fun e w' => ∃ V, e = .returned V ∧ OwnEdgs w.heap.size V (depEdgs l d) w' ∧ Below w.heap.size w w' := by
  obtain ⟨-, -, hbd, hh⟩ := depOk_small hok
  obtain ⟨P, c, Q, f, rfl⟩ := Dependency_form h
  obtain ⟨E, hEq⟩ : ∃ E, E = w.alloc (.cells #[.slice P d.body.length c, .slice Q d.head.length f, .bool d.egd, .int .i64 d.left, .int .i64 d.right] 51) := ⟨_, rfl⟩
  have hE : Below w.heap.size w E := by rw [hEq]; exact below_more (Below.refl _ _) _
  have HEz := Lib.hid (show E.heap.size = w.heap.size + 1 by rw [hEq]; simp)
  have K0 := Lib.hid (show E.cell? ⟨w.heap.size, 0, none⟩ = some (.slice P d.body.length c) by rw [hEq]; simp [go_sem])
  have K1 := Lib.hid (show E.cell? ⟨w.heap.size, 1, none⟩ = some (.slice Q d.head.length f) by rw [hEq]; simp [go_sem])
  have K2 := Lib.hid (show E.cell? ⟨w.heap.size, 2, none⟩ = some (.bool d.egd) by rw [hEq]; simp [go_sem])
  have K3 := Lib.hid (show E.cell? ⟨w.heap.size, 3, none⟩ = some (.int .i64 d.left) by rw [hEq]; simp [go_sem])
  have K4 := Lib.hid (show E.cell? ⟨w.heap.size, 4, none⟩ = some (.int .i64 d.right) by rw [hEq]; simp [go_sem])
  have HR := Lib.hid ((hl.below hE (Nat.le_refl _)).more hE.size)
  have hD := h.later hE
  have c1 := implFrontierVariables_c _ d E hD hw hs
  have HD := Lib.hid hD
  obtain ⟨V1, V2, hv, hBo, hF⟩ := hD
  simp only [Value.agg.injEq, Array.mk.injEq, List.cons.injEq, and_true] at hv
  obtain ⟨rfl, rfl⟩ := hv
  have HF := Lib.hid hF
  have HBo := Lib.hid hBo
  have hs1 : AtomS_sz d.body ≤ 1048576 := by unfold Dependency_sz at hs; omega
  have hs2 : AtomS_sz d.head ≤ 1048576 := by unfold Dependency_sz at hs; omega
  have hhv := headVars_len d true
  have HLA := Lib.hid (fun i => Nat.le_trans (flat_take_len (edgsOf l d) (headVars d true) i) (depEdgs_len hok))
  have HLB := Lib.hid (fun x j => Nat.le_trans (flat_take_len (edgsAt l d x) (varPos l d.body x) j) (edgsOf_len hh hbd x))
  have HLX := Lib.hid (exPos_len (l := l) (d := d) hh)
  have HW := Lib.hid hE
  clear hF hBo h hl hE
  go_enter Tryz.func27, Tryz.ntmps27
  go_upto_region 2 with fail
  rw [← hEq]
  clear hEq
  have k0 := K0.out
  have k1 := K1.out
  have k2 := K2.out
  have k3 := K3.out
  have k4 := K4.out
  go_wp2_with fail
  refine c1.mono ?_
  rintro e w1 ⟨u1, rfl, ho1, hn1, hb1⟩
  replace ho1 : OwnInts E.heap.size u1 (headVars d true) w1 := ho1.1
  obtain ⟨A1, d1, rfl, -, hcm1, -⟩ := ho1.at_
  unfold maxLen at hcm1
  clear c1 k0 k1 k2 k3 k4 hn1
  have HG1 := Lib.hid ((GSt.mk (OwnEdgs.nil E E.heap.size) (fun r hr => by cases hr) (Below.refl _ _) : GSt E.heap.size E (.slice none 0 0) [] [] E).add (Nat.le_refl _) hb1 ho1)
  clear ho1 hb1
  go_wp2
  go_loopw [5, 17] (fun o i wr => ∃ k : Nat, k ≤ (headVars d true).length ∧ i = .int .i64 (k : Int) ∧ Hid (GSt E.heap.size E o (((headVars d true).take k).flatMap (edgsOf l d)) [(.slice A1 (headVars d true).length d1, headVars d true)] wr)) (fun _ i _ => (headVars d true).length - (intOf i).toNat)
  case atStart => exact ⟨0, by omega, rfl, HG1⟩
  case round =>
    obtain ⟨k, hk, rfl, HG⟩ := hrel
    clear HG1
    have hz := HG.out.size (Nat.le_refl _)
    have HWr := Lib.hid HG.out.low
    by_cases hlt : k < (headVars d true).length
    · obtain ⟨b, off, rfl, hb, d0⟩ := HG.out.at0 k hlt
      have HN := Lib.hid (flat_take (edgsOf l d) (headVars d true) k hlt)
      have hS := HLA.out k
      generalize (headVars d true)[k] = x at *
      generalize ((headVars d true).take k).flatMap (edgsOf l d) = S at *
      have k0 := (HWr.out.cell (p := ⟨w.heap.size, 0, none⟩) (by show w.heap.size < _; have := HEz.out; omega)).trans K0.out
      have hcall := implVarPos_any v (.slice P d.body.length c) l d.body x wr ((HR.out.below HWr.out (Nat.le_refl _)).more hz) ((HBo.out.below HWr.out (Nat.le_refl _)).more hz) hw.1 hs1
      go_wp2_with fail
      refine hcall.mono ?_
      rintro e w2 ⟨u2, rfl, ho2, hb2⟩
      obtain ⟨A2, d2, rfl, -, hcm2, -⟩ := ho2.at_
      unfold maxLen at hcm2
      have HG2 := Lib.hid (HG.out.add hz hb2 ho2)
      have hvb := varPos_len l d.body x
      clear hcall d0 k0 ho2 hb2 HWr HG
      go_wp2
      go_loopw [5, 27] (fun o i wr => ∃ j : Nat, j ≤ (varPos l d.body x).length ∧ i = .int .i64 (j : Int) ∧ Hid (GSt E.heap.size E o (S ++ ((varPos l d.body x).take j).flatMap (edgsAt l d x)) [(.slice A2 (varPos l d.body x).length d2, varPos l d.body x), (.slice (some ⟨b, off, none⟩) (headVars d true).length d1, headVars d true)] wr)) (fun _ i _ => (varPos l d.body x).length - (intOf i).toNat)
      case atStart => exact ⟨0, by omega, rfl, Lib.hid (HG2.out.eq (by simp))⟩
      case round =>
        obtain ⟨j, hj, rfl, HG⟩ := hrel
        clear HG2
        have hz := HG.out.size (Nat.le_refl _)
        have HWr := Lib.hid HG.out.low
        by_cases hlj : j < (varPos l d.body x).length
        · obtain ⟨b2, off2, rfl, hb2, d0⟩ := HG.out.at0 j hlj
          have HN2 := Lib.hid (flat_take (edgsAt l d x) (varPos l d.body x) j hlj)
          have hT := HLB.out x j
          generalize (varPos l d.body x)[j] = fr at *
          generalize ((varPos l d.body x).take j).flatMap (edgsAt l d x) = T at *
          have k1 := (HWr.out.cell (p := ⟨w.heap.size, 1, none⟩) (by show w.heap.size < _; have := HEz.out; omega)).trans K1.out
          have hcall := implVarPos_any v (.slice Q d.head.length f) l d.head x wr ((HR.out.below HWr.out (Nat.le_refl _)).more hz) ((HF.out.below HWr.out (Nat.le_refl _)).more hz) hw.2.1 hs2
          go_wp2_with fail
          refine hcall.mono ?_
          rintro e w3 ⟨u3, rfl, ho3, hb3⟩
          obtain ⟨A3, d3, rfl, -, hcm3, -⟩ := ho3.at_
          unfold maxLen at hcm3
          have HG3 := Lib.hid (HG.out.add hz hb3 ho3)
          have hvh := varPos_len l d.head x
          clear hcall d0 k1 ho3 hb3 HWr HG
          go_wp2
          go_loopw [5, 37] (fun o i wr => ∃ m : Nat, m ≤ (varPos l d.head x).length ∧ i = .int .i64 (m : Int) ∧ Hid (GSt E.heap.size E o (S ++ T ++ ((varPos l d.head x).take m).map fun t => ⟨fr, t, false⟩) [(.slice A3 (varPos l d.head x).length d3, varPos l d.head x), (.slice (some ⟨b2, off2, none⟩) (varPos l d.body x).length d2, varPos l d.body x), (.slice (some ⟨b, off, none⟩) (headVars d true).length d1, headVars d true)] wr)) (fun _ i _ => (varPos l d.head x).length - (intOf i).toNat)
          case atStart => exact ⟨0, by omega, rfl, Lib.hid (HG3.out.eq (by simp))⟩
          case round =>
            obtain ⟨m, hm, rfl, HG⟩ := hrel
            clear HG3
            have hz := HG.out.size (Nat.le_refl _)
            by_cases hlm : m < (varPos l d.head x).length
            · obtain ⟨b3, off3, rfl, hb3, d0⟩ := HG.out.at0 m hlm
              have HN3 := Lib.hid (map_take_snoc (fun t => (⟨fr, t, false⟩ : Edg)) (varPos l d.head x) m hlm)
              have hU : (((varPos l d.head x).take m).map fun t => (⟨fr, t, false⟩ : Edg)).length ≤ m := by rw [List.length_map, List.length_take]; omega
              generalize (varPos l d.head x)[m] = tz at *
              generalize ((varPos l d.head x).take m).map (fun t => (⟨fr, t, false⟩ : Edg)) = U at *
              have HAL := Lib.hid (show Below wr.heap.size wr (wr.alloc (.cells #[.int .i64 fr, .int .i64 tz, .bool false] 55)) from below_more (Below.refl _ _) _)
              have HG4 := Lib.hid (HG.out.call hz HAL.out)
              have HONE := Lib.hid (show EdgsAt (wr.alloc (.cells #[.int .i64 fr, .int .i64 tz, .bool false] 55)) (wr.alloc (.cells #[.int .i64 fr, .int .i64 tz, .bool false] 55)).heap.size (.slice (some ⟨wr.heap.size, 0, none⟩) [(⟨fr, tz, false⟩ : Edg)].length 1) [⟨fr, tz, false⟩] from (OwnEdgs.one wr wr.heap.size ⟨fr, tz, false⟩ (Nat.le_refl _)).at_)
              have HSZ := Lib.hid (HG4.out.size (Nat.le_refl _))
              have hlen : (S ++ T ++ U).length + 1 ≤ 2097153 := by rw [List.length_append, List.length_append]; omega
              go_wp2_with (at_builtin; refine edgs_apps (r := [⟨fr, tz, false⟩]) HG4.out.out rfl _ _ rfl rfl (some ⟨wr.heap.size, 0, none⟩) 1 1 rfl rfl HONE.out (fun h => by cases h) hlen HSZ.out ?_; intro v5 w5 hO5 hB5 hG5 hN5)
              go_roundw
              case rel => exact ⟨m + 1, by omega, by go_num, Lib.hid ((HG4.out.put hO5 hB5 (grown_chg hG5)).eq (by rw [HN3.out, List.append_assoc (S ++ T)]))⟩
              case measure => simp [intOf]; omega
            · obtain rfl : m = (varPos l d.head x).length := by omega
              have HW3 := Lib.hid HG.out.low
              have k0 := (HW3.out.cell (p := ⟨w.heap.size, 0, none⟩) (by show w.heap.size < _; have := HEz.out; omega)).trans K0.out
              have k1 := (HW3.out.cell (p := ⟨w.heap.size, 1, none⟩) (by show w.heap.size < _; have := HEz.out; omega)).trans K1.out
              have k2 := (HW3.out.cell (p := ⟨w.heap.size, 2, none⟩) (by show w.heap.size < _; have := HEz.out; omega)).trans K2.out
              have k3 := (HW3.out.cell (p := ⟨w.heap.size, 3, none⟩) (by show w.heap.size < _; have := HEz.out; omega)).trans K3.out
              have k4 := (HW3.out.cell (p := ⟨w.heap.size, 4, none⟩) (by show w.heap.size < _; have := HEz.out; omega)).trans K4.out
              have hcall := implExPos_any v _ l d wr ((HR.out.below HW3.out (Nat.le_refl _)).more hz) ((HD.out.below HW3.out (Nat.le_refl _)).more hz) hw hs hh
              have HGD := Lib.hid (HG.out.drop.eq (S' := S ++ T ++ (varPos l d.head x).map fun t => (⟨fr, t, false⟩ : Edg)) (by rw [List.take_length]))
              clear HG
              go_wp2_with fail
              refine hcall.mono ?_
              rintro e w4 ⟨u4, rfl, ho4, hb4⟩
              obtain ⟨A4, d4, rfl, -, hcm4, -⟩ := ho4.at_
              unfold maxLen at hcm4
              have HG4 := Lib.hid (HGD.out.add hz hb4 ho4)
              have hxl := HLX.out
              have hmap : ((varPos l d.head x).map fun t => (⟨fr, t, false⟩ : Edg)).length ≤ 6 := by rw [List.length_map]; omega
              clear hcall k0 k1 k2 k3 k4 ho4 hb4 HW3 HGD
              generalize hUdef : ((varPos l d.head x).map fun t => (⟨fr, t, false⟩ : Edg)) = U at *
              have HUdef := Lib.hid hUdef
              clear hUdef
              go_wp2
              go_loopw [5, 52] (fun o i wr => ∃ m : Nat, m ≤ (exPos l d).length ∧ i = .int .i64 (m : Int) ∧ Hid (GSt E.heap.size E o (S ++ T ++ U ++ ((exPos l d).take m).map fun t => ⟨fr, t, true⟩) [(.slice A4 (exPos l d).length d4, exPos l d), (.slice (some ⟨b2, off2, none⟩) (varPos l d.body x).length d2, varPos l d.body x), (.slice (some ⟨b, off, none⟩) (headVars d true).length d1, headVars d true)] wr)) (fun _ i _ => (exPos l d).length - (intOf i).toNat)
              case atStart => exact ⟨0, by omega, rfl, Lib.hid (HG4.out.eq (by simp))⟩
              case round =>
                obtain ⟨m, hm, rfl, HG⟩ := hrel
                clear HG4
                have hz := HG.out.size (Nat.le_refl _)
                by_cases hlm : m < (exPos l d).length
                · obtain ⟨b3, off3, rfl, hb3, d0⟩ := HG.out.at0 m hlm
                  have HN3 := Lib.hid (map_take_snoc (fun t => (⟨fr, t, true⟩ : Edg)) (exPos l d) m hlm)
                  have hX : (((exPos l d).take m).map fun t => (⟨fr, t, true⟩ : Edg)).length ≤ m := by rw [List.length_map, List.length_take]; omega
                  generalize (exPos l d)[m] = tz at *
                  generalize ((exPos l d).take m).map (fun t => (⟨fr, t, true⟩ : Edg)) = X at *
                  have HAL := Lib.hid (show Below wr.heap.size wr (wr.alloc (.cells #[.int .i64 fr, .int .i64 tz, .bool true] 55)) from below_more (Below.refl _ _) _)
                  have HG4 := Lib.hid (HG.out.call hz HAL.out)
                  have HONE := Lib.hid (show EdgsAt (wr.alloc (.cells #[.int .i64 fr, .int .i64 tz, .bool true] 55)) (wr.alloc (.cells #[.int .i64 fr, .int .i64 tz, .bool true] 55)).heap.size (.slice (some ⟨wr.heap.size, 0, none⟩) [(⟨fr, tz, true⟩ : Edg)].length 1) [⟨fr, tz, true⟩] from (OwnEdgs.one wr wr.heap.size ⟨fr, tz, true⟩ (Nat.le_refl _)).at_)
                  have HSZ := Lib.hid (HG4.out.size (Nat.le_refl _))
                  have hlen : (S ++ T ++ U ++ X).length + 1 ≤ 2097153 := by rw [List.length_append, List.length_append, List.length_append]; omega
                  go_wp2_with (at_builtin; refine edgs_apps (r := [⟨fr, tz, true⟩]) HG4.out.out rfl _ _ rfl rfl (some ⟨wr.heap.size, 0, none⟩) 1 1 rfl rfl HONE.out (fun h => by cases h) hlen HSZ.out ?_; intro v5 w5 hO5 hB5 hG5 hN5)
                  go_roundw
                  case rel => exact ⟨m + 1, by omega, by go_num, Lib.hid ((HG4.out.put hO5 hB5 (grown_chg hG5)).eq (by rw [HN3.out, List.append_assoc (S ++ T ++ U)]))⟩
                  case measure => simp [intOf]; omega
                · obtain rfl : m = (exPos l d).length := by omega
                  have HGF := Lib.hid (HG.out.drop.eq (S' := S ++ ((varPos l d.body x).take (j + 1)).flatMap (edgsAt l d x)) (by rw [List.take_length, HN2.out, ← HUdef.out]; unfold edgsAt; simp only [List.append_assoc]))
                  clear HG
                  go_wp2
                  go_roundw
                  case rel => exact ⟨j + 1, by omega, by go_num, HGF⟩
                  case measure => simp [intOf]; omega
        · obtain rfl : j = (varPos l d.body x).length := by omega
          have HGF := Lib.hid (HG.out.drop.eq (S' := ((headVars d true).take (k + 1)).flatMap (edgsOf l d)) (by rw [List.take_length, HN.out]; rfl))
          clear HG HWr
          go_wp2
          go_roundw
          case rel => exact ⟨k + 1, by omega, by go_num, HGF⟩
          case measure => simp [intOf]; omega
    · obtain rfl : k = (headVars d true).length := by omega
      have HO := Lib.hid (show OwnEdgs E.heap.size _ (depEdgs l d) wr by have := HG.out.out; rwa [List.take_length] at this)
      clear HG
      go_wp2
      go_ret
      exact ⟨_, rfl, HO.out.mono (by have := HEz.out; omega), HW.out.trans (HWr.out.mono (by have := HEz.out; omega))⟩

end Go.Proofs.YtakflmaeclneiaaGreat
