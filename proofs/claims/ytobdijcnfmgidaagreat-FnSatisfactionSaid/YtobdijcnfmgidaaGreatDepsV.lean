/- Walks and plain lemmas for the laws of this seat. -/
import Derived.Deep.Quiet
import Derived.Laws.StructEq
import Derived.Deep.RegionHeld3
import Derived.Test.YtobdijcnfmgidaaGreatBase
import Derived.Test.YtobdijcnfmgidaaGreatInts
import Derived.Test.YtobdijcnfmgidaaGreatPlan
import Derived.Test.YtobdijcnfmgidaaGreatAft
import Derived.Test.YtobdijcnfmgidaaGreatParInI
import Derived.Test.YtobdijcnfmgidaaGreatFactV
import Derived.Test.YtobdijcnfmgidaaGreatInstV
import Derived.Test.YtobdijcnfmgidaaGreatTrigM
import Derived.Test.YtobdijcnfmgidaaGreatDepVI
import Derived.Test.YtobdijcnfmgidaaGreatActsI
import Derived.Test.YtobdijcnfmgidaaGreatDepK
import Derived.Test.YtobdijcnfmgidaaGreatFindS
namespace Go.Proofs.YtobdijcnfmgidaaGreat
open Go.RowKit
set_option maxHeartbeats 3200000 in
set_option maxRecDepth 100000 in
theorem specAreValidDeps_any (v : Value) (l : List Rel) (u : Value) (xs : List Dep) (w : World) (hl : RelsAt w w.heap.size v l) (hln : l.length ≤ 1048576) (h : DependencyS_at w w.heap.size u xs) (hw : DependencyS_wf xs) :
 Calls Tryz.prog 15 #[v,u] w fun e w' => e = .returned (.bool (depsOk l xs)) ∧ Below w.heap.size w w' := by
 have HL := Lib.hid hl
 have HX := Lib.hid h
 obtain ⟨A,a0,rfl,hlc,hcm,-⟩ := hl
 obtain ⟨A',c,rfl,hc1,hc2⟩ := h.form
 unfold maxLen at hc2
 clear h
 go_enter Tryz.func15,Tryz.ntmps15
 go_wp2
 go_loopw [5] (fun i wr => ∃ j : Nat,j ≤ xs.length ∧ i = .int .i64 j ∧ Hid (AllTo (depOk l) xs j) ∧ Below w.heap.size w wr) (fun i _ => xs.length - (intOf i).toNat)
 case atStart => exact ⟨0,by omega,rfl,Lib.hid (AllTo.zero _ _),Below.refl _ _⟩
 case round =>
  obtain ⟨j,hj,rfl,HT,hW⟩ := hrel
  have hz := hW.size
  by_cases hlt : j < xs.length
  · obtain ⟨b,off,V,U,rfl,hb,c0,c1,c2,c3,c4,hV,hU⟩ := DependencyS_at.elem HX.out j hlt
    obtain ⟨PV,cV,rfl,-,-⟩ := hV.form
    obtain ⟨PU,cU,rfl,-,-⟩ := hU.form
    replace c0 := (hW.cell (p := ⟨b,off + j * 5,none⟩) hb).trans c0
    replace c1 := (hW.cell (p := ⟨b,off + j * 5 + 1,none⟩) hb).trans c1
    replace c2 := (hW.cell (p := ⟨b,off + j * 5 + 2,none⟩) hb).trans c2
    replace c3 := (hW.cell (p := ⟨b,off + j * 5 + 3,none⟩) hb).trans c3
    replace c4 := (hW.cell (p := ⟨b,off + j * 5 + 4,none⟩) hb).trans c4
    have hcon := fun (q : Bool) (hq : depOk l xs[j] = q) => specIsValidDependency_at (.slice A l.length a0) l (.agg #[.slice PV xs[j].body.length cV,.slice PU xs[j].head.length cU,.bool xs[j].egd,.int .i64 xs[j].left,.int .i64 xs[j].right]) xs[j] q hq wr ((HL.out.below hW (Nat.le_refl _)).more hz) hln ⟨_,_,rfl,(hV.below hW (Nat.le_refl _)).more hz,(hU.below hW (Nat.le_refl _)).more hz⟩ (hw j hlt)
    clear hV hU
    cases hv : depOk l xs[j] with
    | false =>
      have HV := Lib.hid (show depsOk l xs = false by unfold depsOk; rw [all_no hlt hv]; simp)
      replace hcon := hcon false hv
      clear hv
      go_wp2_with (go_at_call 39; refine hcon.mono ?_; rintro e w3 ⟨rfl,hb3⟩)
      go_ret
      exact ⟨ret_bool HV.out.symm,hW.trans (hb3.mono hz)⟩
    | true =>
      have HN := Lib.hid (HT.out.next hlt hv)
      replace hcon := hcon true hv
      clear hv
      go_wp2_with (go_at_call 39; refine hcon.mono ?_; rintro e w3 ⟨rfl,hb3⟩)
      go_roundw
      case rel => exact ⟨j + 1,by omega,by go_num,HN,hW.trans (hb3.mono hz)⟩
      case measure => simp [intOf]; omega
  · obtain rfl : j = xs.length := by omega
    have HA := Lib.hid (show depsOk l xs = (validRels l && decide (((xs.length : Nat) : Int) ≤ 5)) by
     unfold depsOk; rw [HT.out.full,Bool.and_true]
     congr 1
     exact decide_eq_decide.2 (by omega))
    cases hr : validRels l with
    | false =>
      have hcon := specAreValid_at2 l false hr (.slice A l.length a0) wr ((HL.out.below hW (Nat.le_refl _)).more hz)
      have HV := Lib.hid (HA.out.trans (by rw [hr]; rfl : _ = false))
      clear hr
      go_wp2_with (go_at_call 38; refine hcon.mono ?_; rintro e w3 ⟨rfl,hb3⟩)
      go_ret
      exact ⟨ret_bool HV.out.symm,hW.trans (hb3.mono hz)⟩
    | true =>
      have hcon := specAreValid_at2 l true hr (.slice A l.length a0) wr ((HL.out.below hW (Nat.le_refl _)).more hz)
      have HV := Lib.hid (HA.out.trans (by rw [hr]; rfl : _ = decide (((xs.length : Nat) : Int) ≤ 5)))
      clear hr
      go_wp2_with (go_at_call 38; refine hcon.mono ?_; rintro e w3 ⟨rfl,hb3⟩)
      go_ret
      exact ⟨ret_bool HV.out.symm,hW.trans (hb3.mono hz)⟩
set_option maxHeartbeats 6400000 in
set_option maxRecDepth 100000 in
theorem specFirst_any (v u : Value) (x : Inst) (l : List Dep) (w : World) (hx : Instance_at w w.heap.size v x) (hxw : Instance_wf x) (hxn : x.rels.length ≤ 1048576) (hd : DependencyS_at w w.heap.size u l) (hdw : DependencyS_wf l) (hn : DependencyS_sz l ≤ 1048576) :
 Calls Tryz.prog 10 #[v,u] w fun e w' => ∃ r,e = .returned (.tuple #[.int .i64 (FirstViolation_r0 x l),r,.bool (FirstViolation_r2 x l)]) ∧ IntS_own w.heap.size w'.heap.size r (FirstViolation_r1 x l) w' ∧ Below w.heap.size w w' := by
 have HX := Lib.hid hx
 have HD := Lib.hid hd
 obtain ⟨P,c,Q,d1,rfl⟩ := Instance_form hx
 have HR := Lib.hid (show RelationS_at w w.heap.size (.slice P x.rels.length c) x.rels by
  obtain ⟨V1,V2,hv,hR,hF⟩ := hx
  simp only [Value.agg.injEq,Array.mk.injEq,List.cons.injEq,and_true] at hv
  obtain ⟨rfl,rfl⟩ := hv
  exact hR)
 obtain ⟨A,c0,rfl,hc1,hc2⟩ := hd.form
 unfold maxLen at hc2
 have HEL := Lib.hid (show ∀ k (h : k < l.length),Dependency_sz l[k] ≤ 1048576 from fun k h => by
  have h1 := depsLen_take l k h
  have h2 := depsLen_le l (k + 1)
  unfold DependencyS_sz at hn; omega)
 clear hx hd
 obtain ⟨E,hEq⟩ : ∃ E,E = w.alloc (.cells #[.slice P x.rels.length c,.slice Q x.facts.length d1] 27) := ⟨_,rfl⟩
 have hE : Below w.heap.size w E := by rw [hEq]; exact below_more (Below.refl _ _) _
 have hzE : w.heap.size < E.heap.size := by rw [hEq]; simp
 have X0 := Lib.hid (show E.cell? ⟨w.heap.size,0,none⟩ = some (.slice P x.rels.length c) by rw [hEq]; simp [go_sem])
 have X1 := Lib.hid (show E.cell? ⟨w.heap.size,1,none⟩ = some (.slice Q x.facts.length d1) by rw [hEq]; simp [go_sem])
 have HE := Lib.hid hE
 have HNo := Lib.hid (fun h : firstV x l = none => firstV_none h)
 have HVD := Lib.hid (fun (W : World) (hW : Below w.heap.size w W) => specAreValidDeps_any (.slice P x.rels.length c) x.rels (.slice A l.length c0) l W ((HR.out.below hW (Nat.le_refl _)).more hW.size) hxn ((HD.out.below hW (Nat.le_refl _)).more hW.size) hdw)
 have HVI := Lib.hid (fun (W : World) (hW : Below w.heap.size w W) => specIsValidInstance_at1 x _ rfl (.agg #[.slice P x.rels.length c,.slice Q x.facts.length d1]) W ((HX.out.below hW (Nat.le_refl _)).more hW.size) hxw hxn)
 clear hE
 go_enter Tryz.func10,Tryz.ntmps10
 go_wp2_with fail
 rw [← hEq]
 clear hEq
 go_loopw [7] (fun i wr => ∃ j : Nat,j ≤ l.length ∧ i = .int .i64 j ∧ Hid (AllTo (calm x) l j) ∧ Hid (Below E.heap.size E wr)) (fun i _ => l.length - (intOf i).toNat)
 case atStart => exact ⟨0,by omega,rfl,Lib.hid (AllTo.zero _ _),Lib.hid (Below.refl _ _)⟩
 case round =>
  obtain ⟨j,hj,rfl,HT,HW⟩ := hrel
  have HWr := Lib.hid (HE.out.trans (HW.out.mono HE.out.size))
  have hzr := HWr.out.size
  by_cases hlt : j < l.length
  · have hd : decide ((j : Int) < (l.length : Int)) = true := decide_eq_true (by omega)
    have x0 := (HW.out.cell (p := ⟨w.heap.size,0,none⟩) hzE).trans X0.out
    have x1 := (HW.out.cell (p := ⟨w.heap.size,1,none⟩) hzE).trans X1.out
    cases kd : depsOk x.rels l with
    | false =>
      have HV := Lib.hid (HNo.out (firstV_off kd))
      have hvd := HVD.out wr HWr.out
      rw [kd] at hvd
      clear kd
      go_wp2_with fail
      refine hvd.mono ?_
      rintro e w2 ⟨rfl,hb2⟩
      have HZ := Lib.hid (HWr.out.trans (hb2.mono hzr))
      clear hvd hb2 x0 x1
      go_wp2
      refine bodyPost_ret (v := .tuple #[.int .i64 0,.slice (some ⟨w2.heap.size,0,none⟩) 0 0,.bool false]) (by simp [results,Tryz.results10,go_sem]) rfl ⟨_,ret_viol HV.out.1 HV.out.2.2,by rw [HV.out.2.1]; exact ⟨OwnInts.empty _ _ HZ.out.size,fun g hg => by obtain rfl : g = w2.heap.size := (by simpa [Value.ownBlock] using hg.symm); simp⟩,HZ.out.alloc HZ.out.size _⟩
    | true =>
      have HK := Lib.hid kd
      have hvd := HVD.out wr HWr.out
      rw [kd] at hvd
      clear kd
      cases ki : instOk x with
      | false =>
        have HV := Lib.hid (HNo.out (firstV_bad ki))
        go_wp2_with fail
        refine hvd.mono ?_
        rintro e w2 ⟨rfl,hb2⟩
        have HZ := Lib.hid (HWr.out.trans (hb2.mono hzr))
        have hvi := HVI.out w2 HZ.out
        rw [ki] at hvi
        have hzw2 : w.heap.size < wr.heap.size := by have := HW.out.size; omega
        replace x0 := (hb2.cell (p := ⟨w.heap.size,0,none⟩) hzw2).trans x0
        replace x1 := (hb2.cell (p := ⟨w.heap.size,1,none⟩) hzw2).trans x1
        clear ki hvd hb2
        go_wp2_with fail
        refine hvi.mono ?_
        rintro e w3 ⟨rfl,hb3⟩
        have HZ3 := Lib.hid (HZ.out.trans (hb3.mono HZ.out.size))
        clear hvi hb3 x0 x1 HZ
        go_wp2
        refine bodyPost_ret (v := .tuple #[.int .i64 0,.slice (some ⟨w3.heap.size,0,none⟩) 0 0,.bool false]) (by simp [results,Tryz.results10,go_sem]) rfl ⟨_,ret_viol HV.out.1 HV.out.2.2,by rw [HV.out.2.1]; exact ⟨OwnInts.empty _ _ HZ3.out.size,fun g hg => by obtain rfl : g = w3.heap.size := (by simpa [Value.ownBlock] using hg.symm); simp⟩,HZ3.out.alloc HZ3.out.size _⟩
      | true =>
        go_wp2_with fail
        refine hvd.mono ?_
        rintro e w2 ⟨rfl,hb2⟩
        have HZ := Lib.hid (HWr.out.trans (hb2.mono hzr))
        have hvi := HVI.out w2 HZ.out
        rw [ki] at hvi
        have hzw2 : w.heap.size < wr.heap.size := by have := HW.out.size; omega
        replace x0 := (hb2.cell (p := ⟨w.heap.size,0,none⟩) hzw2).trans x0
        replace x1 := (hb2.cell (p := ⟨w.heap.size,1,none⟩) hzw2).trans x1
        have HW2 := Lib.hid (HW.out.trans (hb2.mono HW.out.size))
        clear ki hvd hb2
        go_wp2_with fail
        refine hvi.mono ?_
        rintro e w3 ⟨rfl,hb3⟩
        have HZ3 := Lib.hid (HZ.out.trans (hb3.mono HZ.out.size))
        have HW3 := Lib.hid (HW2.out.trans (hb3.mono HW2.out.size))
        have hzw3 : w.heap.size < w3.heap.size := by have := HW3.out.size; omega
        have hz3 : w.heap.size ≤ w3.heap.size := HZ3.out.size
        clear hvi hb3 x0 x1 HZ HW2 hzw2
        have B0 := Aft.cell (B := w3.heap.size) (w := w3) hzw3 ((HW3.out.cell (p := ⟨w.heap.size,0,none⟩) hzE).trans X0.out)
        have B1 := Aft.cell (B := w3.heap.size) (w := w3) hzw3 ((HW3.out.cell (p := ⟨w.heap.size,1,none⟩) hzE).trans X1.out)
        obtain ⟨q,off,V,U,rfl,hq,c0,c1,c2,c3,c4,hV,hU⟩ := DependencyS_at.elem HD.out j hlt
        obtain ⟨PV,cV,rfl,-,-⟩ := hV.form
        obtain ⟨PU,cU,rfl,-,-⟩ := hU.form
        have hq3 : q < w3.heap.size := Nat.lt_of_lt_of_le hq hz3
        have C0 := Aft.cell (B := w3.heap.size) (w := w3) hq3 ((HZ3.out.cell (p := ⟨q,off + j * 5,none⟩) hq).trans c0)
        have C1 := Aft.cell (B := w3.heap.size) (w := w3) hq3 ((HZ3.out.cell (p := ⟨q,off + j * 5 + 1,none⟩) hq).trans c1)
        have C2 := Aft.cell (B := w3.heap.size) (w := w3) hq3 ((HZ3.out.cell (p := ⟨q,off + j * 5 + 2,none⟩) hq).trans c2)
        have C3 := Aft.cell (B := w3.heap.size) (w := w3) hq3 ((HZ3.out.cell (p := ⟨q,off + j * 5 + 3,none⟩) hq).trans c3)
        have C4 := Aft.cell (B := w3.heap.size) (w := w3) hq3 ((HZ3.out.cell (p := ⟨q,off + j * 5 + 4,none⟩) hq).trans c4)
        have hac := fun (u : Aft w3.heap.size w3) => specActs_any (.agg #[.slice P x.rels.length c,.slice Q x.facts.length d1]) (.agg #[.slice PV l[j].body.length cV,.slice PU l[j].head.length cU,.bool l[j].egd,.int .i64 l[j].left,.int .i64 l[j].right]) x l[j] u.now ((HX.out.below (HZ3.out.trans (u.is.mono hz3)) (Nat.le_refl _)).more (HZ3.out.trans (u.is.mono hz3)).size) hxw hxn ⟨_,_,rfl,(hV.below (HZ3.out.trans (u.is.mono hz3)) (Nat.le_refl _)).more (HZ3.out.trans (u.is.mono hz3)).size,(hU.below (HZ3.out.trans (u.is.mono hz3)) (Nat.le_refl _)).more (HZ3.out.trans (u.is.mono hz3)).size⟩ (hdw j hlt) (HEL.out j hlt)
        have HNX := Lib.hid (fun h => HT.out.next hlt (calm_iff.2 h))
        have HAT := Lib.hid (fun (bb : List Int) (t : List (List Int)) (hA : ActiveTriggers_r0 x l[j] = bb :: t) => firstV_some (firstV_at HK.out HT.out hlt hA))
        obtain ⟨M,hM⟩ : ∃ M,ActiveTriggers_r0 x l[j] = M := ⟨_,rfl⟩
        rw [hM] at hac HNX HAT
        clear hV hU c0 c1 c2 c3 c4 hM hd
        generalize l[j] = dd at *
        go_wp2_with fail
        have hb := (Below.refl w3.heap.size w3).drew
        refine wp_region_planL (C := fun w' => ∃ u : Aft w3.heap.size w3,w' = u.now) (.still 0 (.still 1 (.still 2 (.still 3 (.still 4 (.move true 5 (.still 6 .done) .none)))))) (by kernel_rfl) (by kernel_rfl) (by kernel_rfl) (fun _ => ⟨⟨w3.drew,hb⟩,rfl⟩) ?_
        iterate 5
         refine plan_look _ rfl rfl ?_
         go_big_quiet_step (fail)
         refine wpQuiet_nil ?_
        refine plan_call _ 33 _ _ _ _ _ rfl _ Tryz.func33 (by kernel_rfl) (by kernel_rfl) ?_ True.intro
        refine (hac ⟨_,hb⟩).mono ?_
        rintro _ w4 ⟨r4,rfl,hO,hb4⟩
        have HO := Lib.hid (hO.mono (Nat.le_refl w3.heap.size) (Nat.le_refl _))
        have HB4 := Lib.hid (hb.trans (hb4.mono hb.size))
        obtain ⟨A4,c4,rfl,-,hcm4⟩ := (hO.at_ (Nat.le_refl _)).form
        unfold maxLen at hcm4
        refine ⟨_,rfl,fun _ => ⟨⟨_,HB4.out⟩,rfl⟩,?_⟩
        refine plan_put ?_ (by simp only [Act.put,putA,putB,putC]; rfl)
        refine plan_look _ rfl rfl ?_
        go_big_quiet_step (fail)
        refine wpQuiet_nil ?_
        refine plan_done ?_
        have HZ4 := Lib.hid (HZ3.out.trans (HB4.out.mono hz3))
        have HW4 := Lib.hid (HW3.out.trans (HB4.out.mono HW3.out.size))
        clear hO hb4 hb hac B0 B1 C0 C1 C2 C3 C4
        cases M with
        | nil =>
          have HN := Lib.hid (HNX.out rfl)
          clear HNX HAT
          rw [show ([] : List (List Int)).length = 0 from rfl]
          go_wp2
          go_roundw
          case rel => exact ⟨j + 1,by omega,by go_num,HN,HW4⟩
          case measure => simp [intOf]; omega
        | cons bb t =>
          have HV := Lib.hid (HAT.out bb t rfl)
          obtain ⟨g,a3,U3,hv,hg,hm3,cc,hR⟩ := HO.out.first
          injection hv with e3 e4 e5
          subst e3 e5
          have hgd : decide ((0 : Int) < (((bb :: t).length : Nat) : Int)) = true := decide_eq_true (by simp only [List.length_cons]; omega)
          have HR3 := Lib.hid (IntS_own.mono hR hz3 (Nat.le_refl _))
          have G0 := Aft.cell (B := w4.heap.size) (w := w4) hg cc
          clear HNX HAT cc hR
          go_wp2_with fail
          refine wp_region_aft (Below.refl w4.heap.size w4) (by kernel_rfl) (by kernel_rfl) ?_
          repeat (go_big_quiet_step (fail))
          refine wpQuiet_nil ?_
          refine aft_end ?_
          intro w5 hh
          have HR5 := Lib.hid (IntS_own.mono (IntS_own.below HR3.out hh (Nat.le_refl _)) (Nat.le_refl _) hh.size)
          have HZ5 := Lib.hid (HZ4.out.trans (hh.mono HZ4.out.size))
          go_wp2
          refine bodyPost_ret (v := .tuple #[.int .i64 ((j : Nat) : Int),U3,.bool true]) (by simp [results,Tryz.results10,go_sem]) rfl ⟨_,ret_viol HV.out.1 HV.out.2.2,by rw [HV.out.2.1]; exact HR5.out,HZ5.out⟩
  · obtain rfl : j = l.length := by omega
    have HV := Lib.hid (HNo.out (firstV_end HT.out))
    have hd : decide ((l.length : Int) < (l.length : Int)) = false := decide_eq_false (by omega)
    go_wp2
    refine bodyPost_ret (v := .tuple #[.int .i64 0,.slice (some ⟨wr.heap.size,0,none⟩) 0 0,.bool false]) (by simp [results,Tryz.results10,go_sem]) rfl ⟨_,ret_viol HV.out.1 HV.out.2.2,by rw [HV.out.2.1]; exact ⟨OwnInts.empty _ _ HWr.out.size,fun g hg => by obtain rfl : g = wr.heap.size := (by simpa [Value.ownBlock] using hg.symm); simp⟩,HWr.out.alloc HWr.out.size _⟩
set_option maxHeartbeats 3200000 in
set_option maxRecDepth 100000 in
theorem implSat_any (v u : Value) (x : Inst) (l : List Dep) (w : World) (hx : Instance_at w w.heap.size v x) (hxw : Instance_wf x) (hd : DependencyS_at w w.heap.size u l) (hdw : DependencyS_wf l) (hn : DependencyS_sz l ≤ 1048576) :
 Calls Tryz.prog 11 #[v,u] w fun e w' => e = .returned (.bool (satM x l)) ∧ Below w.heap.size w w' := by
 have HX := Lib.hid hx
 have HD := Lib.hid hd
 obtain ⟨P,c,Q,d1,rfl⟩ := Instance_form hx
 have HR := Lib.hid (show RelationS_at w w.heap.size (.slice P x.rels.length c) x.rels by
  obtain ⟨V1,V2,hv,hR,hF⟩ := hx
  simp only [Value.agg.injEq,Array.mk.injEq,List.cons.injEq,and_true] at hv
  obtain ⟨rfl,rfl⟩ := hv
  exact hR)
 obtain ⟨A,c0,rfl,hc1,hc2⟩ := hd.form
 unfold maxLen at hc2
 clear hx hd
 obtain ⟨E,hEq⟩ : ∃ E,E = w.alloc (.cells #[.slice P x.rels.length c,.slice Q x.facts.length d1] 27) := ⟨_,rfl⟩
 have hE : Below w.heap.size w E := by rw [hEq]; exact below_more (Below.refl _ _) _
 have hzE : w.heap.size < E.heap.size := by rw [hEq]; simp
 have X0 := Lib.hid (show E.cell? ⟨w.heap.size,0,none⟩ = some (.slice P x.rels.length c) by rw [hEq]; simp [go_sem])
 have X1 := Lib.hid (show E.cell? ⟨w.heap.size,1,none⟩ = some (.slice Q x.facts.length d1) by rw [hEq]; simp [go_sem])
 have HE := Lib.hid hE
 have HVI := Lib.hid (fun (W : World) (hW : Below w.heap.size w W) => implIsValidInstance_at x _ rfl (.agg #[.slice P x.rels.length c,.slice Q x.facts.length d1]) W ((HX.out.below hW (Nat.le_refl _)).more hW.size) hxw)
 have HVD := Lib.hid (fun (W : World) (hW : Below w.heap.size w W) => implAreValidDeps_any (.slice P x.rels.length c) x.rels (.slice A l.length c0) l W ((HR.out.below hW (Nat.le_refl _)).more hW.size) ((HD.out.below hW (Nat.le_refl _)).more hW.size) hn)
 have HFV := Lib.hid (fun (W : World) (hW : Below w.heap.size w W) => implFirst_any (.agg #[.slice P x.rels.length c,.slice Q x.facts.length d1]) (.slice A l.length c0) x l W ((HX.out.below hW (Nat.le_refl _)).more hW.size) hxw ((HD.out.below hW (Nat.le_refl _)).more hW.size) hdw hn)
 have hvi := HVI.out E hE
 rw [hEq] at hvi
 clear hE
 cases k1 : instOk x with
 | false =>
   have HG := Lib.hid (satM_no1 (l := l) k1)
   rw [k1] at hvi
   clear k1
   go_enter Tryz.func11,Tryz.ntmps11
   go_wp2_with fail
   refine hvi.mono ?_
   rintro e w1 ⟨rfl,hb1⟩
   rw [← hEq] at hb1
   have HZ := Lib.hid (HE.out.trans (hb1.mono HE.out.size))
   go_wp2
   go_ret
   exact ⟨ret_bool HG.out.symm,HZ.out⟩
 | true =>
   rw [k1] at hvi
   cases k2 : depsOk x.rels l with
   | false =>
     have HG := Lib.hid (satM_no2 k2)
     have HVD := Lib.hid (show ∀ W,Below w.heap.size w W → Calls Tryz.prog 32 #[.slice P x.rels.length c,(.slice A l.length c0)] W fun e w' => e = .returned (.bool false) ∧ Below W.heap.size W w' from fun W hW => k2 ▸ HVD.out W hW)
     clear k1 k2
     go_enter Tryz.func11,Tryz.ntmps11
     go_wp2_with fail
     refine hvi.mono ?_
     rintro e w1 ⟨rfl,hb1⟩
     rw [← hEq] at hb1
     have HZ := Lib.hid (HE.out.trans (hb1.mono HE.out.size))
     have x0 := (hb1.cell (p := ⟨w.heap.size,0,none⟩) hzE).trans X0.out
     have x1 := (hb1.cell (p := ⟨w.heap.size,1,none⟩) hzE).trans X1.out
     clear hvi hEq hb1
     go_wp2_with fail
     refine (HVD.out _ HZ.out).mono ?_
     rintro e w2 ⟨rfl,hb2⟩
     have HZ2 := Lib.hid (HZ.out.trans (hb2.mono HZ.out.size))
     clear hb2 x0 x1
     go_wp2
     go_ret
     exact ⟨ret_bool HG.out.symm,HZ2.out⟩
   | true =>
     have HG := Lib.hid (satM_on k1 k2)
     have HVD := Lib.hid (show ∀ W,Below w.heap.size w W → Calls Tryz.prog 32 #[.slice P x.rels.length c,(.slice A l.length c0)] W fun e w' => e = .returned (.bool true) ∧ Below W.heap.size W w' from fun W hW => k2 ▸ HVD.out W hW)
     clear k1 k2
     go_enter Tryz.func11,Tryz.ntmps11
     go_wp2_with fail
     refine hvi.mono ?_
     rintro e w1 ⟨rfl,hb1⟩
     rw [← hEq] at hb1
     have HB1 := Lib.hid hb1
     have HZ := Lib.hid (HE.out.trans (hb1.mono HE.out.size))
     have x0 := (hb1.cell (p := ⟨w.heap.size,0,none⟩) hzE).trans X0.out
     have x1 := (hb1.cell (p := ⟨w.heap.size,1,none⟩) hzE).trans X1.out
     clear hvi hEq hb1
     go_wp2_with fail
     refine (HVD.out _ HZ.out).mono ?_
     rintro e w2 ⟨rfl,hb2⟩
     have HB2 := Lib.hid (HB1.out.trans (hb2.mono HB1.out.size))
     have HZ2 := Lib.hid (HZ.out.trans (hb2.mono HZ.out.size))
     clear hb2 x0 x1
     have x0 := (HB2.out.cell (p := ⟨w.heap.size,0,none⟩) hzE).trans X0.out
     have x1 := (HB2.out.cell (p := ⟨w.heap.size,1,none⟩) hzE).trans X1.out
     go_wp2_with fail
     refine (HFV.out _ HZ2.out).mono ?_
     rintro e w3 ⟨r,rfl,-,hb3⟩
     have HZ3 := Lib.hid (HZ2.out.trans (hb3.mono HZ2.out.size))
     clear hb3 x0 x1
     generalize FirstViolation_r2 x l = bb at *
     go_wp2
     go_ret
     exact ⟨ret_bool HG.out.symm,HZ3.out⟩
set_option maxHeartbeats 3200000 in
set_option maxRecDepth 100000 in
theorem specSat_any (v u : Value) (x : Inst) (l : List Dep) (w : World) (hx : Instance_at w w.heap.size v x) (hxw : Instance_wf x) (hxn : x.rels.length ≤ 1048576) (hd : DependencyS_at w w.heap.size u l) (hdw : DependencyS_wf l) (hn : DependencyS_sz l ≤ 1048576) :
 Calls Tryz.prog 13 #[v,u] w fun e w' => e = .returned (.bool (satM x l)) ∧ Below w.heap.size w w' := by
 have HX := Lib.hid hx
 have HD := Lib.hid hd
 obtain ⟨P,c,Q,d1,rfl⟩ := Instance_form hx
 have HR := Lib.hid (show RelationS_at w w.heap.size (.slice P x.rels.length c) x.rels by
  obtain ⟨V1,V2,hv,hR,hF⟩ := hx
  simp only [Value.agg.injEq,Array.mk.injEq,List.cons.injEq,and_true] at hv
  obtain ⟨rfl,rfl⟩ := hv
  exact hR)
 obtain ⟨A,c0,rfl,hc1,hc2⟩ := hd.form
 unfold maxLen at hc2
 clear hx hd
 obtain ⟨E,hEq⟩ : ∃ E,E = w.alloc (.cells #[.slice P x.rels.length c,.slice Q x.facts.length d1] 27) := ⟨_,rfl⟩
 have hE : Below w.heap.size w E := by rw [hEq]; exact below_more (Below.refl _ _) _
 have hzE : w.heap.size < E.heap.size := by rw [hEq]; simp
 have X0 := Lib.hid (show E.cell? ⟨w.heap.size,0,none⟩ = some (.slice P x.rels.length c) by rw [hEq]; simp [go_sem])
 have X1 := Lib.hid (show E.cell? ⟨w.heap.size,1,none⟩ = some (.slice Q x.facts.length d1) by rw [hEq]; simp [go_sem])
 have HE := Lib.hid hE
 have HVI := Lib.hid (fun (W : World) (hW : Below w.heap.size w W) => specIsValidInstance_at1 x _ rfl (.agg #[.slice P x.rels.length c,.slice Q x.facts.length d1]) W ((HX.out.below hW (Nat.le_refl _)).more hW.size) hxw hxn)
 have HVD := Lib.hid (fun (W : World) (hW : Below w.heap.size w W) => specAreValidDeps_any (.slice P x.rels.length c) x.rels (.slice A l.length c0) l W ((HR.out.below hW (Nat.le_refl _)).more hW.size) hxn ((HD.out.below hW (Nat.le_refl _)).more hW.size) hdw)
 have hfv := specFirst_any (.agg #[.slice P x.rels.length c,.slice Q x.facts.length d1]) (.slice A l.length c0) x l E ((HX.out.below hE (Nat.le_refl _)).more hE.size) hxw hxn ((HD.out.below hE (Nat.le_refl _)).more hE.size) hdw hn
 have HNo1 := Lib.hid (fun h => satM_no1 (x := x) (l := l) h)
 have HNo2 := Lib.hid (fun h => satM_no2 (x := x) (l := l) h)
 have HOn := Lib.hid (fun h h2 => satM_on (x := x) (l := l) h h2)
 rw [hEq] at hfv
 clear hE
 obtain ⟨bb,hbb⟩ : ∃ bb,FirstViolation_r2 x l = bb := ⟨_,rfl⟩
 rw [hbb] at hfv HOn
 clear hbb
 go_enter Tryz.func13,Tryz.ntmps13
 go_wp2_with fail
 refine hfv.mono ?_
 rintro e w1 ⟨r,rfl,-,hb1⟩
 rw [← hEq] at hb1
 have HB1 := Lib.hid hb1
 have HZ := Lib.hid (HE.out.trans (hb1.mono HE.out.size))
 have x0 := (hb1.cell (p := ⟨w.heap.size,0,none⟩) hzE).trans X0.out
 have x1 := (hb1.cell (p := ⟨w.heap.size,1,none⟩) hzE).trans X1.out
 clear hfv hEq hb1
 have hvi := HVI.out _ HZ.out
 cases k1 : instOk x with
 | false =>
   have HG := Lib.hid (HNo1.out k1)
   rw [k1] at hvi
   clear k1
   go_wp2_with fail
   refine hvi.mono ?_
   rintro e w2 ⟨rfl,hb2⟩
   have HZ2 := Lib.hid (HZ.out.trans (hb2.mono HZ.out.size))
   clear hb2 x0 x1 hvi
   go_wp2
   go_ret
   exact ⟨ret_bool HG.out.symm,HZ2.out⟩
 | true =>
   rw [k1] at hvi
   cases k2 : depsOk x.rels l with
   | false =>
     have HG := Lib.hid (HNo2.out k2)
     have HVD := Lib.hid (show ∀ W,Below w.heap.size w W → Calls Tryz.prog 15 #[.slice P x.rels.length c,(.slice A l.length c0)] W fun e w' => e = .returned (.bool false) ∧ Below W.heap.size W w' from fun W hW => k2 ▸ HVD.out W hW)
     clear k1 k2
     go_wp2_with fail
     refine hvi.mono ?_
     rintro e w2 ⟨rfl,hb2⟩
     have HB2 := Lib.hid (HB1.out.trans (hb2.mono HB1.out.size))
     have HZ2 := Lib.hid (HZ.out.trans (hb2.mono HZ.out.size))
     clear hb2 x0 x1 hvi
     have x0 := (HB2.out.cell (p := ⟨w.heap.size,0,none⟩) hzE).trans X0.out
     have x1 := (HB2.out.cell (p := ⟨w.heap.size,1,none⟩) hzE).trans X1.out
     go_wp2_with fail
     refine (HVD.out _ HZ2.out).mono ?_
     rintro e w3 ⟨rfl,hb3⟩
     have HZ3 := Lib.hid (HZ2.out.trans (hb3.mono HZ2.out.size))
     clear hb3 x0 x1
     go_wp2
     go_ret
     exact ⟨ret_bool HG.out.symm,HZ3.out⟩
   | true =>
     have HG := Lib.hid (HOn.out k1 k2)
     have HVD := Lib.hid (show ∀ W,Below w.heap.size w W → Calls Tryz.prog 15 #[.slice P x.rels.length c,(.slice A l.length c0)] W fun e w' => e = .returned (.bool true) ∧ Below W.heap.size W w' from fun W hW => k2 ▸ HVD.out W hW)
     clear k1 k2
     go_wp2_with fail
     refine hvi.mono ?_
     rintro e w2 ⟨rfl,hb2⟩
     have HB2 := Lib.hid (HB1.out.trans (hb2.mono HB1.out.size))
     have HZ2 := Lib.hid (HZ.out.trans (hb2.mono HZ.out.size))
     clear hb2 x0 x1 hvi
     have x0 := (HB2.out.cell (p := ⟨w.heap.size,0,none⟩) hzE).trans X0.out
     have x1 := (HB2.out.cell (p := ⟨w.heap.size,1,none⟩) hzE).trans X1.out
     go_wp2_with fail
     refine (HVD.out _ HZ2.out).mono ?_
     rintro e w3 ⟨rfl,hb3⟩
     have HZ3 := Lib.hid (HZ2.out.trans (hb3.mono HZ2.out.size))
     clear hb3 x0 x1
     go_wp2
     go_ret
     exact ⟨ret_bool HG.out.symm,HZ3.out⟩
theorem take_eq_next {α : Type} (l m : List α) (k : Nat) (h : k < l.length) (h' : k < m.length) (he : l[k] = m[k]) (ht : l.take k = m.take k) : l.take (k + 1) = m.take (k + 1) := by
 rw [List.take_succ_eq_append_getElem h,List.take_succ_eq_append_getElem h',ht,he]
theorem take_eq_not {α : Type} (l m : List α) (k : Nat) (h : k < l.length) (h' : k < m.length) (he : ¬ l[k] = m[k]) : ¬ l = m := by
 rintro rfl; exact he rfl
instance : DecidableEq Rel := fun a b => by
 cases a; cases b; rw [Rel.mk.injEq]; exact inferInstance
theorem guardRel : Tryz.prog.eqGuardType Tryz.prog.depth 70 = false := by kernel_rfl
theorem stoodRel : Tryz.prog.stoodInHeld 70 = false := by kernel_rfl
theorem run_neq_rel (r r' : Rel) (w : World) : (binOp .neq 70 (.agg #[.string r.name, .int .i64 r.arity, .bool r.source]) (.agg #[.string r'.name, .int .i64 r'.arity, .bool r'.source])).run Tryz.prog w = .ok (.bool (!(decide (r = r')))) w := by
 rw [run_neq_struct]
 rw [run_equalIn_struct w 9999 70 _ _ (by kernel_rfl) stoodRel]
 simp [go_sem,Tryz.underlying70,Tryz.underlying9,Tryz.underlying3,Tryz.underlying4]
 have key : (r = r') ↔ (r.name.toList = r'.name.toList ∧ r.arity = r'.arity ∧ r.source = r'.source) := by
  constructor
  · rintro rfl; exact ⟨rfl,rfl,rfl⟩
  · rintro ⟨h1,h2,h3⟩
    have h4 : r.name = r'.name := by
     have := h1
     rw [ByteArray.toList_eq,ByteArray.toList_eq] at this
     exact ByteArray.ext (Array.ext' this)
    cases r; cases r'; simp_all
 by_cases h1 : r.name.toList = r'.name.toList <;> by_cases h2 : r.arity = r'.arity <;> by_cases h3 : r.source = r'.source <;> simp [key,h1,h2,h3]
theorem run_guard_rel (r r' : Rel) (w : World) (x y : Operand) : (eqGuard .neq 70 x y (.agg #[.string r.name, .int .i64 r.arity, .bool r.source]) (.agg #[.string r'.name, .int .i64 r'.arity, .bool r'.source])).run Tryz.prog w = .ok () w := run_eqGuard_agg w _ _ x y _ _ guardRel
theorem quiet_neq_rel {C : World → Prop} {K : Act → Prop} {a : Act} {o : Oper} (r r' : Rel) (x y : Operand) (t : TypeId) (ho : o.op = .binOp .neq 70 x y t) (hx : a.eval x = .agg #[.string r.name, .int .i64 r.arity, .bool r.source]) (hy : a.eval y = .agg #[.string r'.name, .int .i64 r'.arity, .bool r'.source]) (q : Bool) (hq : decide (r = r') = q)
 (h : K (a.put o.dst (.bool (!q)))) : o.quiet Tryz.prog a C K := by
 subst hq
 refine ⟨_,fun w _ => ?_,h⟩
 unfold Oper.quietAt execOp
 simp only [ho,hx,hy,Sem.run_bind,run_guard_rel,run_neq_rel,Result.andThen_ok,Sem.run_pure]
 exact ⟨rfl,rfl⟩
set_option maxHeartbeats 1600000 in
set_option maxRecDepth 100000 in
theorem specL5Sigs_any (v u : Value) (l m : List Rel) (w : World) (hl : RelsAt w w.heap.size v l) (hm : RelsAt w w.heap.size u m) :
 Calls Tryz.prog 103 #[v,u] w fun e w' => e = .returned (.bool (decide (l = m))) ∧ Below w.heap.size w w' := by
 have HL := Lib.hid hl
 have HM := Lib.hid hm
 obtain ⟨A,c,rfl,hlc,hcm,-⟩ := hl
 obtain ⟨A',c',rfl,hlc',hcm',-⟩ := hm
 unfold maxLen at hcm hcm'
 by_cases hn : l.length = m.length
 · have hnb : ((l.length : Int) != (m.length : Int)) = false := by rw [hn]; simp
   have HN := Lib.hid hn
   clear hn
   go_enter Tryz.func103,Tryz.ntmps103
   go_wp2
   go_loopw [5] (fun i wr => ∃ k : Nat,k ≤ l.length ∧ i = .int .i64 k ∧ Hid (l.take k = m.take k) ∧ Below w.heap.size w wr) (fun i _ => l.length - (intOf i).toNat)
   case atStart => exact ⟨0,by omega,rfl,Lib.hid (by simp),Below.refl _ _⟩
   case round =>
    obtain ⟨k,hk,rfl,HT,hW⟩ := hrel
    have hz := hW.size
    by_cases hlt : k < l.length
    · have hlt' : k < m.length := by have := HN.out; omega
      obtain ⟨b,off,rfl,hb,c0,c1,c2⟩ := RelsAt.elem HL.out k hlt
      obtain ⟨b',off',rfl,hb',d0,d1,d2⟩ := RelsAt.elem HM.out k hlt'
      have HE := Lib.hid (take_eq_next l m k hlt hlt')
      have HF := Lib.hid (fun h => take_eq_not l m k hlt hlt' h)
      generalize l[k] = r at *
      generalize m[k] = r' at *
      have C0 := Aft.cell hb c0
      have C1 := Aft.cell hb c1
      have C2 := Aft.cell hb c2
      have D0 := Aft.cell hb' d0
      have D1 := Aft.cell hb' d1
      have D2 := Aft.cell hb' d2
      clear c0 c1 c2 d0 d1 d2
      cases hd : decide (r = r') with
      | true =>
        have HE' := Lib.hid (HE.out (of_decide_eq_true hd) HT.out)
        go_wp2
        refine wp_region_aft hW (by kernel_rfl) (by kernel_rfl) ?_
        repeat (go_big_quiet_step (fail))
        go_big_quiet_want
        refine quiet_neq_rel r r' _ _ _ rfl rfl rfl true hd ?_
        go_big_quiet_on
        refine wpQuiet_nil ?_
        refine aft_end ?_
        intro w1 hh
        go_wp2
        go_roundw
        case rel => exact ⟨k + 1,by omega,by go_num,HE',hh⟩
        case measure => simp [intOf]; omega
      | false =>
        have HE' := Lib.hid (decide_eq_false (HF.out (of_decide_eq_false hd)))
        go_wp2
        refine wp_region_aft hW (by kernel_rfl) (by kernel_rfl) ?_
        repeat (go_big_quiet_step (fail))
        go_big_quiet_want
        refine quiet_neq_rel r r' _ _ _ rfl rfl rfl false hd ?_
        go_big_quiet_on
        refine wpQuiet_nil ?_
        refine aft_end ?_
        intro w1 hh
        go_wp2
        go_ret
        exact ⟨by rw [HE'.out]; rfl,hh⟩
    · obtain rfl : k = l.length := by omega
      have HE' := Lib.hid (decide_eq_true (show l = m by have := HT.out; rwa [List.take_of_length_le (Nat.le_refl _),List.take_of_length_le (by rw [HN.out]; exact Nat.le_refl _)] at this))
      go_wp2
      go_ret
      exact ⟨by rw [HE'.out]; rfl,hW⟩
 · have hnb : ((l.length : Int) != (m.length : Int)) = true := by rw [bne_iff_ne]; omega
   have HE' := Lib.hid (decide_eq_false (show ¬ l = m by rintro rfl; exact hn rfl))
   clear hn
   go_enter Tryz.func103,Tryz.ntmps103
   go_wp2
   go_ret
   exact ⟨by rw [HE'.out]; rfl,Below.refl _ _⟩
end Go.Proofs.YtobdijcnfmgidaaGreat
