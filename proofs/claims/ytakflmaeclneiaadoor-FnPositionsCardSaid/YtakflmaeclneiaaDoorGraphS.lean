/-
  Walks and plain lemmas for the laws of this seat: what single Go functions return, for every argument.
-/
import Derived.Test.YtakflmaeclneiaaDoorTyDepS
import Derived.Test.YtakflmaeclneiaaDoorPlan
import Derived.Test.YtakflmaeclneiaaDoorAft
import Derived.Test.YtakflmaeclneiaaDoorEdge
import Derived.Test.YtakflmaeclneiaaDoorGst
import Derived.Test.YtakflmaeclneiaaDoorPlcS
import Derived.Test.YtakflmaeclneiaaDoorDepsV
import Derived.Test.YtakflmaeclneiaaDoorHeadV
namespace Go.Proofs.YtakflmaeclneiaaDoor
open Go.RowKit

theorem GSt.atIn {B : Nat} {E0 : World} {o : Value} {S : List Edg} {A : Option Addr} {c : Nat} {l : List Int} {rs : List (Value × List Int)} {w : World} (h : GSt B E0 o S rs w) (hm : (.slice A l.length c, l) ∈ rs) (j : Nat) (hj : j < l.length) :
    ∃ b off, A = some ⟨b, off, none⟩ ∧ b < w.heap.size ∧ w.cell? ⟨b, off + j, none⟩ = some (.int .i64 l[j]) := IntsAt.elem (h.ints _ hm).at_ j hj
theorem putEs_bd {S X Y : List Edg} {a b c : Nat} (h1 : S.length ≤ a) (h2 : X.length ≤ b) (h3 : Y.length ≤ c) (h : a + b + c ≤ 1048576) : (putEs S (X ++ Y)).length ≤ 1048576 := by
  have := putEs_len S (X ++ Y)
  rw [List.length_append] at this; omega
set_option maxHeartbeats 12800000 in
set_option maxRecDepth 100000 in
theorem specPositionGraph_any (v u : Value) (l : List Rel) (ds : List Dep) (w : World) (hl : RelsAt w w.heap.size v l) (hln : l.length ≤ 1048576) (h : DependencyS_at w w.heap.size u ds) (hw : DependencyS_wf ds) (hs : DependencyS_sz ds ≤ 1048576) :
    Calls Tryd.prog 26 #[v, u] w fun e w' => ∃ V, e = .returned V ∧ OwnEdgs w.heap.size V (PositionGraph_r0 l ds) w' ∧ Below w.heap.size w w' := by
  have HR := Lib.hid hl
  have HX := Lib.hid h
  obtain ⟨A', c, rfl, hc1, hc2⟩ := h.form
  unfold maxLen at hc2
  clear hl h
  have HCV := Lib.hid (fun w' (hb : Below w.heap.size w w') => specAreValidDeps_any v l (.slice A' ds.length c) ds w' ((HR.out.below hb (Nat.le_refl _)).more hb.size) hln ((HX.out.below hb (Nat.le_refl _)).more hb.size) hw)
  have HG0 := Lib.hid (show GSt w.heap.size w (.slice (some ⟨w.heap.size, 0, none⟩) 0 0) (graphTo l (ds.take 0)) [] (w.alloc (.cells #[] 38)) from ⟨OwnEdgs.empty w w.heap.size (Nat.le_refl _), fun r hr => (by cases hr), (Below.refl _ _).alloc (Nat.le_refl _) _⟩)
  cases hok : depsOk l ds with
  | false =>
    have HP := Lib.hid (show PositionGraph_r0 l ds = [] from if_neg (by rw [hok]; simp))
    rw [hok] at HCV
    clear hok
    go_enter Tryd.func26, Tryd.ntmps26
    go_wp2
    go_loopw [5, 6] (fun o i wr => o = .slice (some ⟨w.heap.size, 0, none⟩) 0 0 ∧ i = .int .i64 0 ∧ Hid (GSt w.heap.size w o (graphTo l (ds.take 0)) [] wr)) (fun _ _ _ => 0)
    case atStart => exact ⟨rfl, rfl, HG0⟩
    case round =>
      obtain ⟨rfl, rfl, HG⟩ := hrel
      clear HG0
      by_cases h0 : 0 < ds.length
      · have hcall := HCV.out wr HG.out.low
        go_wp2_with fail
        refine hcall.mono ?_
        rintro e w1 ⟨rfl, hb1⟩
        have HF := Lib.hid (HG.out.call HG.out.low.size hb1)
        clear hb1 hcall HG
        go_wp2
        go_ret
        exact ⟨_, rfl, by rw [HP.out]; exact HF.out.out, HF.out.low⟩
      · go_wp2
        go_ret
        exact ⟨_, rfl, by rw [HP.out]; exact HG.out.out, HG.out.low⟩
  | true =>
    obtain ⟨-, hd5, hdo⟩ := depsOk_parts hok
    have HP := Lib.hid (show PositionGraph_r0 l ds = graphTo l ds from if_pos hok)
    rw [hok] at HCV
    clear hok
    go_enter Tryd.func26, Tryd.ntmps26
    go_wp2
    go_loopw [5, 6] (fun o i wr => ∃ k : Nat, k ≤ ds.length ∧ i = .int .i64 (k : Int) ∧ Hid (GSt w.heap.size w o (graphTo l (ds.take k)) [] wr)) (fun _ i _ => ds.length - (intOf i).toNat)
    case atStart => exact ⟨0, by omega, rfl, HG0⟩
    case round =>
      obtain ⟨k, hk, rfl, HG⟩ := hrel
      clear HG0
      by_cases hlt : k < ds.length
      · have hz := HG.out.low.size
        obtain ⟨b, off, V, U, rfl, hb, c0, c1, c2, c3, c4, hV, hU⟩ := DependencyS_at.elem HX.out k hlt
        obtain ⟨PV, cV, rfl, -, -⟩ := hV.form
        obtain ⟨PU, cU, rfl, -, -⟩ := hU.form
        have HV := Lib.hid hV
        have HU := Lib.hid hU
        have C0 := Lib.hid c0
        have C1 := Lib.hid c1
        have C2 := Lib.hid c2
        have C3 := Lib.hid c3
        have C4 := Lib.hid c4
        have hwd := hw k hlt
        have hdk := hdo _ (List.getElem_mem hlt)
        have hsd : Dependency_sz ds[k] ≤ 1048576 := by
          have h1 := depsLen_take ds k hlt
          have h2 := depsLen_le ds (k + 1)
          unfold DependencyS_sz at hs; omega
        have HN := Lib.hid (graphTo_take l ds k hlt)
        have hgl := graphTo_len (l := l) (ds := ds.take k) fun d hd => hdo d (List.mem_of_mem_take hd)
        have hgl2 : (graphTo l (ds.take k)).length ≤ 7560 := by
          have h3 : (ds.take k).length * 1512 ≤ 5 * 1512 := Nat.mul_le_mul_right 1512 (by rw [List.length_take]; omega)
          omega
        clear hgl c0 c1 c2 c3 c4 hV hU
        generalize ds[k] = d at *
        generalize graphTo l (ds.take k) = S0 at *
        obtain ⟨-, -, hbd, hh⟩ := depOk_small hdk
        have hs1 : AtomS_sz d.body ≤ 1048576 := by unfold Dependency_sz at hsd; omega
        have hs2 : AtomS_sz d.head ≤ 1048576 := by unfold Dependency_sz at hsd; omega
        have hhv := headVars_len d true
        have hhe := headVars_len d false
        have HLA := Lib.hid (fun i => Nat.le_trans (flat_take_len (edgsOf l d) (headVars d true) i) (depEdgs_len hdk))
        have HLB := Lib.hid (fun x j => Nat.le_trans (flat_take_len (edgsAt l d x) (varPos l d.body x) j) (edgsOf_len hh hbd x))
        have HLX := Lib.hid (fun i => Nat.le_trans (flat_take_len (varPos l d.head) (headVars d false) i) (exPos_len (l := l) (d := d) hh))
        have hcall := HCV.out wr HG.out.low
        go_wp2_with fail
        refine hcall.mono ?_
        rintro e w1 ⟨rfl, hb1⟩
        have HG1 := Lib.hid (HG.out.call hz hb1)
        clear hcall hb1 HG
        have HW1 := Lib.hid HG1.out.low
        have hz1 := HW1.out.size
        have k0 := (HW1.out.cell (p := ⟨b, off + k * 5, none⟩) hb).trans C0.out
        have k1 := (HW1.out.cell (p := ⟨b, off + k * 5 + 1, none⟩) hb).trans C1.out
        have k2 := (HW1.out.cell (p := ⟨b, off + k * 5 + 2, none⟩) hb).trans C2.out
        have k3 := (HW1.out.cell (p := ⟨b, off + k * 5 + 3, none⟩) hb).trans C3.out
        have k4 := (HW1.out.cell (p := ⟨b, off + k * 5 + 4, none⟩) hb).trans C4.out
        have hcall := specFrontierVariables_any (.agg #[.slice PV d.body.length cV, .slice PU d.head.length cU, .bool d.egd, .int .i64 d.left, .int .i64 d.right]) d w1 ⟨_, _, rfl, (HV.out.below HW1.out (Nat.le_refl _)).more hz1, (HU.out.below HW1.out (Nat.le_refl _)).more hz1⟩ hsd
        go_wp2_with fail
        refine hcall.mono ?_
        rintro e w2 ⟨u2, rfl, ho2, hb2⟩
        clear k0 k1 k2 k3 k4 hcall
        obtain ⟨AP, dP, rfl, -, hcmP, -⟩ := ho2.at_
        unfold maxLen at hcmP
        have HG2 := Lib.hid (HG1.out.add hz1 hb2 ho2)
        clear ho2 hb2 HG1 HW1 hz1
        have HW2 := Lib.hid HG2.out.low
        have hz2 := HW2.out.size
        have k0 := (HW2.out.cell (p := ⟨b, off + k * 5, none⟩) hb).trans C0.out
        have k1 := (HW2.out.cell (p := ⟨b, off + k * 5 + 1, none⟩) hb).trans C1.out
        have k2 := (HW2.out.cell (p := ⟨b, off + k * 5 + 2, none⟩) hb).trans C2.out
        have k3 := (HW2.out.cell (p := ⟨b, off + k * 5 + 3, none⟩) hb).trans C3.out
        have k4 := (HW2.out.cell (p := ⟨b, off + k * 5 + 4, none⟩) hb).trans C4.out
        have hcall := specExistentialVariables_any (.agg #[.slice PV d.body.length cV, .slice PU d.head.length cU, .bool d.egd, .int .i64 d.left, .int .i64 d.right]) d w2 ⟨_, _, rfl, (HV.out.below HW2.out (Nat.le_refl _)).more hz2, (HU.out.below HW2.out (Nat.le_refl _)).more hz2⟩ hsd
        go_wp2_with fail
        refine hcall.mono ?_
        rintro e w3 ⟨u3, rfl, ho3, hb3⟩
        clear k0 k1 k2 k3 k4 hcall
        obtain ⟨AN, dN, rfl, -, hcmN, -⟩ := ho3.at_
        unfold maxLen at hcmN
        have HG3 := Lib.hid (HG2.out.add hz2 hb3 ho3)
        clear ho3 hb3 HG2 HW2 hz2
        go_wp2
        go_loopw [5, 9] (fun o i wr => ∃ m : Nat, m ≤ (headVars d true).length ∧ i = .int .i64 (m : Int) ∧ Hid (GSt w.heap.size w o (putEs S0 (((headVars d true).take m).flatMap (edgsOf l d))) [(.slice AN (headVars d false).length dN, headVars d false), (.slice AP (headVars d true).length dP, headVars d true)] wr)) (fun _ i _ => (headVars d true).length - (intOf i).toNat)
        case atStart => exact ⟨0, by omega, rfl, Lib.hid (HG3.out.eq rfl)⟩
        case round =>
          obtain ⟨m, hm, rfl, HG⟩ := hrel
          clear HG3
          have hz := HG.out.low.size
          by_cases hlm : m < (headVars d true).length
          · obtain ⟨bP, offP, rfl, hbP, dP0⟩ := HG.out.atIn (List.mem_cons_of_mem _ (List.mem_cons_self ..)) m hlm
            have HN1 := Lib.hid (flat_take (edgsOf l d) (headVars d true) m hlm)
            have hX1 := HLA.out m
            obtain ⟨x, hx⟩ : ∃ x, x = (headVars d true)[m] := ⟨_, rfl⟩
            rw [← hx] at dP0 HN1
            have HXX := Lib.hid hx
            clear hx
            generalize ((headVars d true).take m).flatMap (edgsOf l d) = X1 at *
            have HWr := Lib.hid HG.out.low
            have G0 := Aft.cell (B := wr.heap.size) (w := wr) (Nat.lt_of_lt_of_le hb hz) ((HWr.out.cell (p := ⟨b, off + k * 5, none⟩) hb).trans C0.out)
            have G1 := Aft.cell (B := wr.heap.size) (w := wr) hbP dP0
            have hcall := specPlaces_any v (.slice PV d.body.length cV) l d.body x wr.drew ((HR.out.below HWr.out.drew (Nat.le_refl _)).more hz) ((HV.out.below HWr.out.drew (Nat.le_refl _)).more hz) hwd.1 hs1
            go_upto_region 10 with fail
            refine wp_region_planL (C := fun w' => ∃ u : Aft wr.heap.size wr, w' = u.now) (.still 0 (.still 1 (.still 2 (.still 3 (.still 4 (.still 5 (.still 6 (.still 7 (.still 8 (.still 9 (.move true 10 (.still 11 .done) .none))))))))))) (by kernel_rfl) (by kernel_rfl) (by kernel_rfl) (fun _ => ⟨⟨_, (Below.refl _ _).drew⟩, rfl⟩) ?_
            iterate 10 (refine plan_look _ rfl rfl ?_; go_big_quiet_step (fail); refine wpQuiet_nil ?_)
            refine plan_call _ 45 _ _ _ _ _ rfl _ Tryd.func45 (by kernel_rfl) (by kernel_rfl) ?_ True.intro
            show Calls Tryd.prog 45 #[v, .slice PV d.body.length cV, .int .i64 x] _ _
            refine hcall.mono ?_
            rintro e w4 ⟨u4, rfl, ho4, hb4⟩
            obtain ⟨AF, dF, rfl, -, hcmF, -⟩ := ho4.at_
            unfold maxLen at hcmF
            have HB4 := Lib.hid (show Below wr.heap.size wr w4 from (Below.refl _ _).drew.trans hb4)
            refine ⟨_, rfl, fun _ => ⟨⟨_, HB4.out⟩, rfl⟩, ?_⟩
            refine plan_put ?_ (by simp only [Act.put, List.setIfInBounds_toArray, List.set_cons_succ, List.set_cons_zero]; rfl)
            refine plan_look _ rfl rfl ?_
            go_big_quiet_step (fail)
            refine wpQuiet_nil ?_
            refine plan_done ?_
            have HG4 := Lib.hid (HG.out.add hz HB4.out (show OwnInts wr.heap.size _ _ w4 from ho4))
            clear hcall ho4 hb4 HB4 HG HWr G0 G1 dP0
            have HW4 := Lib.hid HG4.out.low
            have hz4 := HW4.out.size
            have dP1 := (HG4.out.atIn (A := some ⟨bP, offP, none⟩) (c := dP) (l := headVars d true) (List.mem_cons_of_mem _ (List.mem_cons_of_mem _ (List.mem_cons_self ..))) m hlm)
            obtain ⟨bP', offP', hA1, hbP4, dP4⟩ := dP1
            obtain ⟨rfl, rfl⟩ : bP = bP' ∧ offP = offP' := by simpa using hA1
            rw [← HXX.out] at dP4
            have G0 := Aft.cell (B := w4.heap.size) (w := w4) (Nat.lt_of_lt_of_le hb hz4) ((HW4.out.cell (p := ⟨b, off + k * 5 + 1, none⟩) hb).trans C1.out)
            have G1 := Aft.cell (B := w4.heap.size) (w := w4) hbP4 dP4
            have hcall := specPlaces_any v (.slice PU d.head.length cU) l d.head x w4.drew ((HR.out.below HW4.out.drew (Nat.le_refl _)).more hz4) ((HU.out.below HW4.out.drew (Nat.le_refl _)).more hz4) hwd.2.1 hs2
            clear hA1
            go_upto_region 11 with fail
            refine wp_region_planL (C := fun w' => ∃ u : Aft w4.heap.size w4, w' = u.now) (.still 0 (.still 1 (.still 2 (.still 3 (.still 4 (.still 5 (.still 6 (.still 7 (.still 8 (.still 9 (.move true 10 (.still 11 .done) .none))))))))))) (by kernel_rfl) (by kernel_rfl) (by kernel_rfl) (fun _ => ⟨⟨_, (Below.refl _ _).drew⟩, rfl⟩) ?_
            iterate 10 (refine plan_look _ rfl rfl ?_; go_big_quiet_step (fail); refine wpQuiet_nil ?_)
            refine plan_call _ 45 _ _ _ _ _ rfl _ Tryd.func45 (by kernel_rfl) (by kernel_rfl) ?_ True.intro
            show Calls Tryd.prog 45 #[v, .slice PU d.head.length cU, .int .i64 x] _ _
            refine hcall.mono ?_
            rintro e w5 ⟨u5, rfl, ho5, hb5⟩
            obtain ⟨AT, dT, rfl, -, hcmT, -⟩ := ho5.at_
            unfold maxLen at hcmT
            have HB5 := Lib.hid (show Below w4.heap.size w4 w5 from (Below.refl _ _).drew.trans hb5)
            refine ⟨_, rfl, fun _ => ⟨⟨_, HB5.out⟩, rfl⟩, ?_⟩
            refine plan_put ?_ (by simp only [Act.put, List.setIfInBounds_toArray, List.set_cons_succ, List.set_cons_zero]; rfl)
            refine plan_look _ rfl rfl ?_
            go_big_quiet_step (fail)
            refine wpQuiet_nil ?_
            refine plan_done ?_
            have HG5 := Lib.hid (HG4.out.add hz4 HB5.out (show OwnInts w4.heap.size _ _ w5 from ho5))
            have hvb := varPos_len l d.body x
            have hvh := varPos_len l d.head x
            clear hcall ho5 hb5 HB5 HG4 HW4 G0 G1 dP4 hbP hbP4 HXX
            go_wp2
            go_loopw [5, 12] (fun o i wr => ∃ a : Nat, a ≤ (varPos l d.body x).length ∧ i = .int .i64 (a : Int) ∧ Hid (GSt w.heap.size w o (putEs S0 (X1 ++ ((varPos l d.body x).take a).flatMap (edgsAt l d x))) [(.slice AT (varPos l d.head x).length dT, varPos l d.head x), (.slice AF (varPos l d.body x).length dF, varPos l d.body x), (.slice AN (headVars d false).length dN, headVars d false), (.slice (some ⟨bP, offP, none⟩) (headVars d true).length dP, headVars d true)] wr)) (fun _ i _ => (varPos l d.body x).length - (intOf i).toNat)
            case atStart => exact ⟨0, by omega, rfl, Lib.hid (HG5.out.eq (by simp))⟩
            case round =>
              obtain ⟨a, ha, rfl, HG⟩ := hrel
              clear HG5
              by_cases hla : a < (varPos l d.body x).length
              · have HN2 := Lib.hid (flat_take (edgsAt l d x) (varPos l d.body x) a hla)
                have hX2 := HLB.out x a
                obtain ⟨fr, hfr⟩ : ∃ fr, fr = (varPos l d.body x)[a] := ⟨_, rfl⟩
                rw [← hfr] at HN2
                have HFR := Lib.hid hfr
                clear hfr
                generalize ((varPos l d.body x).take a).flatMap (edgsAt l d x) = X2 at *
                have hX12 : (X1 ++ X2).length ≤ 1764 := by rw [List.length_append]; omega
                go_wp2
                go_loopw [5, 13] (fun o i wr => ∃ q : Nat, q ≤ (varPos l d.head x).length ∧ i = .int .i64 (q : Int) ∧ Hid (GSt w.heap.size w o (putEs S0 (X1 ++ X2 ++ ((varPos l d.head x).take q).map fun t => ⟨fr, t, false⟩)) [(.slice AT (varPos l d.head x).length dT, varPos l d.head x), (.slice AF (varPos l d.body x).length dF, varPos l d.body x), (.slice AN (headVars d false).length dN, headVars d false), (.slice (some ⟨bP, offP, none⟩) (headVars d true).length dP, headVars d true)] wr)) (fun _ i _ => (varPos l d.head x).length - (intOf i).toNat)
                case atStart => exact ⟨0, by omega, rfl, Lib.hid (HG.out.eq (by simp))⟩
                case round =>
                  obtain ⟨q, hq, rfl, HG4⟩ := hrel
                  clear HG
                  have hz := HG4.out.low.size
                  by_cases hlq : q < (varPos l d.head x).length
                  · obtain ⟨bF, oF, rfl, hbF, e0⟩ := HG4.out.atIn (A := AF) (c := dF) (l := varPos l d.body x) (List.mem_cons_of_mem _ (List.mem_cons_self ..)) a hla
                    obtain ⟨bT, oT, rfl, hbT, e1⟩ := HG4.out.atIn (A := AT) (c := dT) (l := varPos l d.head x) (List.mem_cons_self ..) q hlq
                    rw [← HFR.out] at e0
                    have HN3 := Lib.hid (map_take_snoc (fun t => (⟨fr, t, false⟩ : Edg)) (varPos l d.head x) q hlq)
                    have hU : (((varPos l d.head x).take q).map fun t => (⟨fr, t, false⟩ : Edg)).length ≤ 6 := by rw [List.length_map, List.length_take]; omega
                    generalize (varPos l d.head x)[q] = tz at *
                    generalize ((varPos l d.head x).take q).map (fun t => (⟨fr, t, false⟩ : Edg)) = Y at *
                    have G0 := Aft.cell (B := wr.heap.size) (w := wr) hbF e0
                    have G1 := Aft.cell (B := wr.heap.size) (w := wr) hbT e1
                    have HGd := Lib.hid (HG4.out.call hz (Below.refl wr.heap.size wr).drew)
                    have hcall := specL13Put_any w.heap.size _ _ ⟨fr, tz, false⟩ wr.drew HGd.out.out hz (putEs_bd hgl2 hX12 hU (by omega))
                    go_upto_region 18 with fail
                    refine wp_region_planL (C := fun w' => ∃ u : Aft wr.heap.size wr, w' = u.now) (.still 0 (.still 1 (.still 2 (.still 3 (.still 4 (.still 5 (.still 6 (.still 7 (.still 8 (.still 9 (.move false 10 (.still 11 .done) .none))))))))))) (by kernel_rfl) (by kernel_rfl) (by kernel_rfl) (fun _ => ⟨⟨_, (Below.refl _ _).drew⟩, rfl⟩) ?_
                    iterate 10 (refine plan_look _ rfl rfl ?_; go_big_quiet_step (fail); refine wpQuiet_nil ?_)
                    refine plan_call _ 46 _ _ _ _ _ rfl _ Tryd.func46 (by kernel_rfl) (by kernel_rfl) ?_ True.intro
                    show Calls Tryd.prog 46 #[_, .agg #[.int .i64 fr, .int .i64 tz, .bool false]] _ _
                    refine hcall.mono ?_
                    rintro e w6 ⟨u6, rfl, ho6, hb6, hc6⟩
                    refine ⟨_, rfl, (fun h => by cases h), ?_⟩
                    refine plan_put ?_ (by simp only [Act.put, List.setIfInBounds_toArray, List.set_cons_succ, List.set_cons_zero]; rfl)
                    refine plan_look _ rfl rfl ?_
                    go_big_quiet_step (fail)
                    refine wpQuiet_nil ?_
                    refine plan_done ?_
                    have HG6 := Lib.hid ((HGd.out.put ho6 hb6 hc6).eq (by rw [← putEs_snoc, List.append_assoc, ← HN3.out]))
                    clear hcall ho6 hb6 hc6 HGd HG4 G0 G1 e0 e1 hbF hbT
                    go_wp2
                    go_roundw
                    case rel => exact ⟨q + 1, by omega, by go_num, HG6⟩
                    case measure => simp [intOf]; omega
                  · obtain rfl : q = (varPos l d.head x).length := by omega
                    have HGD := Lib.hid (HG4.out.eq (S' := putEs S0 (X1 ++ X2 ++ (varPos l d.head x).map fun t => (⟨fr, t, false⟩ : Edg))) (by rw [List.take_length]))
                    have hmap : ((varPos l d.head x).map fun t => (⟨fr, t, false⟩ : Edg)).length ≤ 6 := by rw [List.length_map]; omega
                    clear HG4
                    generalize hUdef : ((varPos l d.head x).map fun t => (⟨fr, t, false⟩ : Edg)) = X3 at *
                    have HUdef := Lib.hid hUdef
                    clear hUdef
                    have hX123 : (X1 ++ X2 ++ X3).length ≤ 1770 := by rw [List.length_append]; omega
                    go_wp2
                    go_loopw [5, 14] (fun o i wr => ∃ j : Nat, j ≤ (headVars d false).length ∧ i = .int .i64 (j : Int) ∧ Hid (GSt w.heap.size w o (putEs S0 (X1 ++ X2 ++ X3 ++ (((headVars d false).take j).flatMap (varPos l d.head)).map fun t => ⟨fr, t, true⟩)) [(.slice AT (varPos l d.head x).length dT, varPos l d.head x), (.slice AF (varPos l d.body x).length dF, varPos l d.body x), (.slice AN (headVars d false).length dN, headVars d false), (.slice (some ⟨bP, offP, none⟩) (headVars d true).length dP, headVars d true)] wr)) (fun _ i _ => (headVars d false).length - (intOf i).toNat)
                    case atStart => exact ⟨0, by omega, rfl, Lib.hid (HGD.out.eq (by simp))⟩
                    case round =>
                      obtain ⟨j, hj, rfl, HG⟩ := hrel
                      clear HGD
                      have hz := HG.out.low.size
                      by_cases hlj : j < (headVars d false).length
                      · obtain ⟨bN, oN, rfl, hbN, e0⟩ := HG.out.atIn (A := AN) (c := dN) (l := headVars d false) (List.mem_cons_of_mem _ (List.mem_cons_of_mem _ (List.mem_cons_self ..))) j hlj
                        have HN4 := Lib.hid (show (((headVars d false).take (j + 1)).flatMap (varPos l d.head)).map (fun t => (⟨fr, t, true⟩ : Edg)) = (((headVars d false).take j).flatMap (varPos l d.head)).map (fun t => (⟨fr, t, true⟩ : Edg)) ++ (varPos l d.head (headVars d false)[j]).map (fun t => (⟨fr, t, true⟩ : Edg)) by rw [flat_take _ _ _ hlj, List.map_append])
                        have hX4 : ((((headVars d false).take j).flatMap (varPos l d.head)).map fun t => (⟨fr, t, true⟩ : Edg)).length ≤ 36 := by rw [List.length_map]; exact HLX.out j
                        generalize (headVars d false)[j] = y at *
                        generalize (((headVars d false).take j).flatMap (varPos l d.head)).map (fun t => (⟨fr, t, true⟩ : Edg)) = X4 at *
                        have hX1234 : (X1 ++ X2 ++ X3 ++ X4).length ≤ 1806 := by rw [List.length_append]; omega
                        have HWr := Lib.hid HG.out.low
                        have G0 := Aft.cell (B := wr.heap.size) (w := wr) (Nat.lt_of_lt_of_le hb hz) ((HWr.out.cell (p := ⟨b, off + k * 5 + 1, none⟩) hb).trans C1.out)
                        have G1 := Aft.cell (B := wr.heap.size) (w := wr) hbN e0
                        have hcall := specPlaces_any v (.slice PU d.head.length cU) l d.head y wr.drew ((HR.out.below HWr.out.drew (Nat.le_refl _)).more hz) ((HU.out.below HWr.out.drew (Nat.le_refl _)).more hz) hwd.2.1 hs2
                        go_upto_region 22 with fail
                        refine wp_region_planL (C := fun w' => ∃ u : Aft wr.heap.size wr, w' = u.now) (.still 0 (.still 1 (.still 2 (.still 3 (.still 4 (.still 5 (.still 6 (.still 7 (.still 8 (.still 9 (.move true 10 (.still 11 .done) .none))))))))))) (by kernel_rfl) (by kernel_rfl) (by kernel_rfl) (fun _ => ⟨⟨_, (Below.refl _ _).drew⟩, rfl⟩) ?_
                        iterate 10 (refine plan_look _ rfl rfl ?_; go_big_quiet_step (fail); refine wpQuiet_nil ?_)
                        refine plan_call _ 45 _ _ _ _ _ rfl _ Tryd.func45 (by kernel_rfl) (by kernel_rfl) ?_ True.intro
                        show Calls Tryd.prog 45 #[v, .slice PU d.head.length cU, .int .i64 y] _ _
                        refine hcall.mono ?_
                        rintro e w7 ⟨u7, rfl, ho7, hb7⟩
                        obtain ⟨AS, dS, rfl, -, hcmS, -⟩ := ho7.at_
                        unfold maxLen at hcmS
                        have HB7 := Lib.hid (show Below wr.heap.size wr w7 from (Below.refl _ _).drew.trans hb7)
                        refine ⟨_, rfl, fun _ => ⟨⟨_, HB7.out⟩, rfl⟩, ?_⟩
                        refine plan_put ?_ (by simp only [Act.put, List.setIfInBounds_toArray, List.set_cons_succ, List.set_cons_zero]; rfl)
                        refine plan_look _ rfl rfl ?_
                        go_big_quiet_step (fail)
                        refine wpQuiet_nil ?_
                        refine plan_done ?_
                        have HG7 := Lib.hid (HG.out.add hz HB7.out (show OwnInts wr.heap.size _ _ w7 from ho7))
                        have hvy := varPos_len l d.head y
                        clear hcall ho7 hb7 HB7 HG HWr G0 G1 e0 hbN
                        go_wp2
                        go_loopw [5, 16] (fun o i wr => ∃ q : Nat, q ≤ (varPos l d.head y).length ∧ i = .int .i64 (q : Int) ∧ Hid (GSt w.heap.size w o (putEs S0 (X1 ++ X2 ++ X3 ++ X4 ++ ((varPos l d.head y).take q).map fun t => ⟨fr, t, true⟩)) [(.slice AS (varPos l d.head y).length dS, varPos l d.head y), (.slice AT (varPos l d.head x).length dT, varPos l d.head x), (.slice AF (varPos l d.body x).length dF, varPos l d.body x), (.slice (some ⟨bN, oN, none⟩) (headVars d false).length dN, headVars d false), (.slice (some ⟨bP, offP, none⟩) (headVars d true).length dP, headVars d true)] wr)) (fun _ i _ => (varPos l d.head y).length - (intOf i).toNat)
                        case atStart => exact ⟨0, by omega, rfl, Lib.hid (HG7.out.eq (by simp))⟩
                        case round =>
                          obtain ⟨q, hq2, rfl, HG4⟩ := hrel
                          clear HG7
                          have hz := HG4.out.low.size
                          by_cases hlq : q < (varPos l d.head y).length
                          · obtain ⟨bF, oF, rfl, hbF, e0⟩ := HG4.out.atIn (A := AF) (c := dF) (l := varPos l d.body x) (List.mem_cons_of_mem _ (List.mem_cons_of_mem _ (List.mem_cons_self ..))) a hla
                            obtain ⟨bS, oS, rfl, hbS, e1⟩ := HG4.out.atIn (A := AS) (c := dS) (l := varPos l d.head y) (List.mem_cons_self ..) q hlq
                            rw [← HFR.out] at e0
                            have HN3 := Lib.hid (map_take_snoc (fun t => (⟨fr, t, true⟩ : Edg)) (varPos l d.head y) q hlq)
                            have hU : (((varPos l d.head y).take q).map fun t => (⟨fr, t, true⟩ : Edg)).length ≤ 6 := by rw [List.length_map, List.length_take]; omega
                            generalize (varPos l d.head y)[q] = tz at *
                            generalize ((varPos l d.head y).take q).map (fun t => (⟨fr, t, true⟩ : Edg)) = Y at *
                            have G0 := Aft.cell (B := wr.heap.size) (w := wr) hbF e0
                            have G1 := Aft.cell (B := wr.heap.size) (w := wr) hbS e1
                            have HGd := Lib.hid (HG4.out.call hz (Below.refl wr.heap.size wr).drew)
                            have hcall := specL13Put_any w.heap.size _ _ ⟨fr, tz, true⟩ wr.drew HGd.out.out hz (putEs_bd hgl2 hX1234 hU (by omega))
                            go_upto_region 26 with fail
                            refine wp_region_planL (C := fun w' => ∃ u : Aft wr.heap.size wr, w' = u.now) (.still 0 (.still 1 (.still 2 (.still 3 (.still 4 (.still 5 (.still 6 (.still 7 (.still 8 (.still 9 (.move false 10 (.still 11 .done) .none))))))))))) (by kernel_rfl) (by kernel_rfl) (by kernel_rfl) (fun _ => ⟨⟨_, (Below.refl _ _).drew⟩, rfl⟩) ?_
                            iterate 10 (refine plan_look _ rfl rfl ?_; go_big_quiet_step (fail); refine wpQuiet_nil ?_)
                            refine plan_call _ 46 _ _ _ _ _ rfl _ Tryd.func46 (by kernel_rfl) (by kernel_rfl) ?_ True.intro
                            show Calls Tryd.prog 46 #[_, .agg #[.int .i64 fr, .int .i64 tz, .bool true]] _ _
                            refine hcall.mono ?_
                            rintro e w6 ⟨u6, rfl, ho6, hb6, hc6⟩
                            refine ⟨_, rfl, (fun h => by cases h), ?_⟩
                            refine plan_put ?_ (by simp only [Act.put, List.setIfInBounds_toArray, List.set_cons_succ, List.set_cons_zero]; rfl)
                            refine plan_look _ rfl rfl ?_
                            go_big_quiet_step (fail)
                            refine wpQuiet_nil ?_
                            refine plan_done ?_
                            have HG6 := Lib.hid ((HGd.out.put ho6 hb6 hc6).eq (by rw [← putEs_snoc, List.append_assoc, ← HN3.out]))
                            clear hcall ho6 hb6 hc6 HGd HG4 G0 G1 e0 e1 hbF hbS
                            go_wp2
                            go_roundw
                            case rel => exact ⟨q + 1, by omega, by go_num, HG6⟩
                            case measure => simp [intOf]; omega
                          · obtain rfl : q = (varPos l d.head y).length := by omega
                            have HGF := Lib.hid (HG4.out.drop.eq (S' := putEs S0 (X1 ++ X2 ++ X3 ++ (((headVars d false).take (j + 1)).flatMap (varPos l d.head)).map fun t => (⟨fr, t, true⟩ : Edg))) (by rw [List.take_length, HN4.out, ← List.append_assoc]))
                            clear HG4
                            go_wp2
                            go_roundw
                            case rel => exact ⟨j + 1, by omega, by go_num, HGF⟩
                            case measure => simp [intOf]; omega
                      · obtain rfl : j = (headVars d false).length := by omega
                        have HGF := Lib.hid (HG.out.eq (S' := putEs S0 (X1 ++ ((varPos l d.body x).take (a + 1)).flatMap (edgsAt l d x))) (by rw [List.take_length, HN2.out, ← HUdef.out]; unfold edgsAt exPos; simp only [List.append_assoc]))
                        clear HG
                        go_wp2
                        go_roundw
                        case rel => exact ⟨a + 1, by omega, by go_num, HGF⟩
                        case measure => simp [intOf]; omega
              · obtain rfl : a = (varPos l d.body x).length := by omega
                have HGF := Lib.hid (HG.out.drop.drop.eq (S' := putEs S0 (((headVars d true).take (m + 1)).flatMap (edgsOf l d))) (by rw [List.take_length, HN1.out]; rfl))
                clear HG
                go_wp2
                go_roundw
                case rel => exact ⟨m + 1, by omega, by go_num, HGF⟩
                case measure => simp [intOf]; omega
          · obtain rfl : m = (headVars d true).length := by omega
            have HGF := Lib.hid (HG.out.drop.drop.eq (S' := graphTo l (ds.take (k + 1))) (by rw [List.take_length, HN.out]; rfl))
            clear HG
            go_wp2
            go_roundw
            case rel => exact ⟨k + 1, by omega, by go_num, HGF⟩
            case measure => simp [intOf]; omega
      · obtain rfl : k = ds.length := by omega
        have HF := Lib.hid (HG.out.eq (S' := PositionGraph_r0 l ds) (by rw [List.take_length, ← HP.out]))
        clear HG
        go_wp2
        go_ret
        exact ⟨_, rfl, HF.out.out, HF.out.low⟩
theorem specPositionGraph_c (v : Value) (l : List Rel) (u : Value) (ds : List Dep) (w : World) (hl : RelationS_at w w.heap.size v l) (_ : RelationS_wf l) (hln : RelationS_sz l ≤ 1048576) (h : DependencyS_at w w.heap.size u ds) (hw : DependencyS_wf ds) (hs : DependencyS_sz ds ≤ 1048576) :
    Calls Tryd.prog 26 #[v, u] w fun e w' => ∃ V, e = .returned V ∧ PositionEdgeS_at w' w'.heap.size V (PositionGraph_r0 l ds) ∧ Below w.heap.size w w' :=
  (specPositionGraph_any v u l ds w hl (by unfold RelationS_sz at hln; omega) h hw hs).mono fun _ _ ⟨V, he, ho, hb⟩ => ⟨V, he, ho.at_, hb⟩

end Go.Proofs.YtakflmaeclneiaaDoor
