/- Walks and plain lemmas for the laws of this seat. -/
import Derived.Deep.Quiet
import Derived.Test.YtobdijcnfmgidaaGreatPlan
import Derived.Test.YtobdijcnfmgidaaGreatAft
import Derived.Test.YtobdijcnfmgidaaGreatDrawA9
import Derived.Test.YtobdijcnfmgidaaGreatInstV
import Derived.Test.YtobdijcnfmgidaaGreatDrawSat
import Derived.Test.YtobdijcnfmgidaaGreatTrigM
import Derived.Test.YtobdijcnfmgidaaGreatActsI
import Derived.Test.YtobdijcnfmgidaaGreatDepsV
import Derived.Test.YtobdijcnfmgidaaGreatEqRI
import Derived.Test.YtobdijcnfmgidaaGreatLift
namespace Go.Proofs.YtobdijcnfmgidaaGreat
open Go.RowKit
theorem atms_wf {l : List Atm} (h : ∀ a ∈ l, AtmSmall a) : AtomS_wf l := by
 intro i hi
 have ha := h _ (List.getElem_mem hi)
 refine ⟨by have := ha.1; omega,fun j hj => ?_⟩
 have := ha.2.2 _ (List.getElem_mem hj)
 omega
theorem deps_wf {l : List Dep} (h : ∀ y ∈ l, DepSmall 3 y) : DependencyS_wf l := by
 intro i hi
 have hd := h _ (List.getElem_mem hi)
 exact ⟨atms_wf hd.1.2.2,atms_wf hd.2.1.2,by have := hd.2.2; omega,by have := hd.2.2; omega⟩
theorem deps_sz {l : List Dep} (hl : l.length ≤ 6) (h : ∀ y ∈ l, DepSmall 3 y) : DependencyS_sz l ≤ 1048576 := by
 have key : ∀ (m : List Dep),(∀ y ∈ m,DepSmall 3 y) → depsLen m ≤ m.length * 100 := by
  intro m
  induction m with
  | nil => intro _; exact Nat.zero_le _
  | cons d t ih =>
    intro hm
    have h0 := ih (fun y hy => hm y (List.mem_cons_of_mem _ hy))
    have hd := hm d List.mem_cons_self
    have h1 := AtmSmall.sz hd.1.2.2
    have h2 := AtmSmall.sz hd.2.1.2
    have h3 := hd.1.2.1
    have h4 := hd.2.1.1
    have h5 : Dependency_sz d ≤ 100 := by unfold Dependency_sz; omega
    simp only [depsLen,List.length_cons]
    omega
 have := key l h
 unfold DependencyS_sz
 omega
set_option maxHeartbeats 12800000 in
set_option maxRecDepth 100000 in
theorem walkSA (q : Option Addr) (code : List UInt8) (c : Nat) (_ : code.length ≤ maxLen) (w : World) (hc : CodeAt w w.heap.size (.slice q code.length c) code) :
 Calls Tryz.prog 3 #[.slice q code.length c] w fun e w' => e = .returned (.bool true) ∧ Below w.heap.size w w' := by
 by_cases hbig : 1048576 < code.length
 · have hd : decide (1048576 < ((code.length : Nat) : Int)) = true := by simp; omega
   go_enter Tryz.func3,Tryz.ntmps3
   go_wp2_with fail
   refine (big_any q _ c _).mono ?_; rintro e w1 ⟨rfl,rfl⟩
   go_wp2_with fail
   go_ret
   exact ⟨rfl,Below.refl _ _⟩
 · have hlen : code.length ≤ 1048576 := by omega
   have hd : decide (1048576 < ((code.length : Nat) : Int)) = false := by simp; omega
   have HCO := Lib.hid hc
   clear hbig
   go_enter Tryz.func3,Tryz.ntmps3
   go_wp2_with fail
   refine (big_any q _ c _).mono ?_; rintro e w1 ⟨rfl,rfl⟩
   go_wp2_with fail
   refine (drawFV_c _ code _ hc hlen).mono ?_
   rintro e w2 ⟨V,x,U,l,rfl,hI,hIs,hU,hl,hls,hb2⟩
   obtain ⟨P,c1,Q,d1,rfl⟩ := Instance_form hI.at_
   obtain ⟨R,cR,rfl,-,hcR⟩ := hU.form
   unfold maxLen at hcR
   obtain ⟨g,hg⟩ : ∃ g,g = w2.heap.size := ⟨_,rfl⟩
   obtain ⟨W,hWq⟩ : ∃ W,W = w2.alloc (.cells #[.slice P x.rels.length c1,.slice Q x.facts.length d1] 27) := ⟨_,rfl⟩
   have hAl : Below w2.heap.size w2 W := by rw [hWq]; exact (Below.refl _ _).alloc (Nat.le_refl _) _
   have hgW : g < W.heap.size := by rw [hWq,hg]; simp
   have X0 := Lib.hid (show W.cell? ⟨g,0,none⟩ = some (.slice P x.rels.length c1) by rw [hWq,hg]; simp [go_sem])
   have X1 := Lib.hid (show W.cell? ⟨g,1,none⟩ = some (.slice Q x.facts.length d1) by rw [hWq,hg]; simp [go_sem])
   have HX := Lib.hid (hI.later hAl).at_
   have HRL := Lib.hid (show RelationS_at W W.heap.size (.slice P x.rels.length c1) x.rels by
    obtain ⟨V1,V2,hv,hR,hF⟩ := HX.out
    simp only [Value.agg.injEq,Array.mk.injEq,List.cons.injEq,and_true] at hv
    obtain ⟨rfl,rfl⟩ := hv
    exact hR)
   have HU := Lib.hid ((hU.below hAl (Nat.le_refl _)).more hAl.size)
   have HW := Lib.hid (hb2.trans (hAl.mono hb2.size))
   have HXW := Lib.hid hIs.wf
   have HRN := Lib.hid (show x.rels.length ≤ 1048576 by have := hIs.1.1; omega)
   have HDW := Lib.hid (deps_wf hls)
   have HDN := Lib.hid (deps_sz (by omega) hls)
   have HLEN := Lib.hid hlen
   have HSL := Lib.hid (sumA_le x l)
   have hl6 : l.length ≤ 6 := by omega
   clear hI hIs hU hls hb2 hd hc hlen hAl hl
   have hf1 := implFirst_any (.agg #[.slice P x.rels.length c1,.slice Q x.facts.length d1]) (.slice R l.length cR) x l W HX.out HXW.out HU.out HDW.out HDN.out
   have HF2 := Lib.hid (fun W' (hb : Below W.heap.size W W') => specFirst_any (.agg #[.slice P x.rels.length c1,.slice Q x.facts.length d1]) (.slice R l.length cR) x l W' (((HX.out.below hb (Nat.le_refl _)).more hb.size)) HXW.out HRN.out (((HU.out.below hb (Nat.le_refl _)).more hb.size)) HDW.out HDN.out)
   have HS1 := Lib.hid (fun W' (hb : Below W.heap.size W W') => implSat_any (.agg #[.slice P x.rels.length c1,.slice Q x.facts.length d1]) (.slice R l.length cR) x l W' (((HX.out.below hb (Nat.le_refl _)).more hb.size)) HXW.out (((HU.out.below hb (Nat.le_refl _)).more hb.size)) HDW.out HDN.out)
   have HS2 := Lib.hid (fun W' (hb : Below W.heap.size W W') => specSat_any (.agg #[.slice P x.rels.length c1,.slice Q x.facts.length d1]) (.slice R l.length cR) x l W' (((HX.out.below hb (Nat.le_refl _)).more hb.size)) HXW.out HRN.out (((HU.out.below hb (Nat.le_refl _)).more hb.size)) HDW.out HDN.out)
   have HV1 := Lib.hid (fun W' (hb : Below W.heap.size W W') => specIsValidInstance_at1 x _ rfl (.agg #[.slice P x.rels.length c1,.slice Q x.facts.length d1]) W' (((HX.out.below hb (Nat.le_refl _)).more hb.size)) HXW.out HRN.out)
   have HV2 := Lib.hid (fun W' (hb : Below W.heap.size W W') => specAreValidDeps_any (.slice P x.rels.length c1) x.rels (.slice R l.length cR) l W' (((HRL.out.below hb (Nat.le_refl _)).more hb.size)) HRN.out (((HU.out.below hb (Nat.le_refl _)).more hb.size)) HDW.out)
   have HBAD := Lib.hid (fun h : instOk x = false => And.intro (firstV_none (firstV_bad (l := l) h)).2.2 (satM_no1 (l := l) h))
   have HOFF := Lib.hid (fun h : depsOk x.rels l = false => And.intro (firstV_none (firstV_off h)).2.2 (satM_no2 h))
   have HSUM := Lib.hid (fun (h : instOk x = true) (h2 : depsOk x.rels l = true) => And.intro (viol_sum h2) (sat_sum h h2))
   obtain ⟨I,hIq⟩ : ∃ I,FirstViolation_r0 x l = I := ⟨_,rfl⟩
   obtain ⟨BB,hBq⟩ : ∃ I,FirstViolation_r1 x l = I := ⟨_,rfl⟩
   obtain ⟨IS,hISq⟩ : ∃ I,FirstViolation_r2 x l = I := ⟨_,rfl⟩
   obtain ⟨OK,hOKq⟩ : ∃ I,satM x l = I := ⟨_,rfl⟩
   rw [hIq,hBq,hISq] at hf1 HF2
   rw [hOKq] at HS1 HS2
   rw [hISq,hOKq] at HBAD HOFF HSUM
   clear hIq hBq hISq hOKq
   have x0 := X0.out
   have x1 := X1.out
   go_upto_region 4 with fail
   rw [← hg,← hWq]
   clear hg hWq
   go_wp2_with fail
   refine hf1.mono ?_
   rintro e w3 ⟨r3,rfl,hO3,hb3⟩
   obtain ⟨A3,c3,rfl,-,hc3,-⟩ := id (hO3.at_ (Nat.le_refl _))
   have HB3 := Lib.hid hb3
   have HO3 := Lib.hid (hO3.at_ (Nat.le_refl _))
   clear x0 x1 hb3 hO3 hf1
   have x0 := (HB3.out.cell (p := ⟨g,0,none⟩) hgW).trans X0.out
   have x1 := (HB3.out.cell (p := ⟨g,1,none⟩) hgW).trans X1.out
   go_wp2_with fail
   refine (HF2.out _ HB3.out).mono ?_
   rintro e w4 ⟨r4,rfl,hO4,hb4⟩
   obtain ⟨A4,c4,rfl,-,hc4,-⟩ := id (hO4.at_ (Nat.le_refl _))
   have HB4 := Lib.hid (HB3.out.trans (hb4.mono HB3.out.size))
   have HO4 := Lib.hid (hO4.at_ (Nat.le_refl _))
   have HP4 := Lib.hid (((HO3.out.below hb4 (Nat.le_refl _)).more hb4.size))
   clear x0 x1 hb4 hO4
   have x0 := (HB4.out.cell (p := ⟨g,0,none⟩) hgW).trans X0.out
   have x1 := (HB4.out.cell (p := ⟨g,1,none⟩) hgW).trans X1.out
   go_wp2_with fail
   refine (HS1.out _ HB4.out).mono ?_
   rintro e w5 ⟨rfl,hb5⟩
   have HB5 := Lib.hid (HB4.out.trans (hb5.mono HB4.out.size))
   have HO5 := Lib.hid (((HO4.out.below hb5 (Nat.le_refl _)).more hb5.size))
   have HP5 := Lib.hid (((HP4.out.below hb5 (Nat.le_refl _)).more hb5.size))
   have hII : (I != I) = false := by simp
   have hSS : (IS != IS) = false := by simp
   have hKK : (OK != OK) = false := by simp
   clear x0 x1 hb5
   go_wp2_with fail
   refine (sameInts_any _ _ BB w5 HP5.out HO5.out).mono ?_
   rintro e w6 ⟨rfl,hb6⟩
   have HB6 := Lib.hid (HB5.out.trans (hb6.mono HB5.out.size))
   clear hb6
   have x0 := (HB6.out.cell (p := ⟨g,0,none⟩) hgW).trans X0.out
   have x1 := (HB6.out.cell (p := ⟨g,1,none⟩) hgW).trans X1.out
   go_wp2_with fail
   refine (HS2.out _ HB6.out).mono ?_
   rintro e w7 ⟨rfl,hb7⟩
   have HB7 := Lib.hid (HB6.out.trans (hb7.mono HB6.out.size))
   clear hb7 x0 x1
   have x0 := (HB7.out.cell (p := ⟨g,0,none⟩) hgW).trans X0.out
   have x1 := (HB7.out.cell (p := ⟨g,1,none⟩) hgW).trans X1.out
   have hv1 := HV1.out _ HB7.out
   cases k1 : instOk x with
   | false =>
     obtain ⟨rfl,rfl⟩ := HBAD.out k1
     rw [k1] at hv1
     clear k1
     go_wp2_with fail
     refine hv1.mono ?_
     rintro e w8 ⟨rfl,hb8⟩
     have HZ := Lib.hid (HW.out.trans ((HB7.out.trans (hb8.mono HB7.out.size)).mono HW.out.size))
     clear hb8 x0 x1 hv1
     go_wp2
     go_ret
     exact ⟨rfl,HZ.out⟩
   | true =>
     rw [k1] at hv1
     go_wp2_with fail
     refine hv1.mono ?_
     rintro e w8 ⟨rfl,hb8⟩
     have HB8 := Lib.hid (HB7.out.trans (hb8.mono HB7.out.size))
     clear hb8 x0 x1 hv1
     have x0 := (HB8.out.cell (p := ⟨g,0,none⟩) hgW).trans X0.out
     have x1 := (HB8.out.cell (p := ⟨g,1,none⟩) hgW).trans X1.out
     have hv2 := HV2.out _ HB8.out
     cases k2 : depsOk x.rels l with
     | false =>
       obtain ⟨rfl,rfl⟩ := HOFF.out k2
       rw [k2] at hv2
       clear k1 k2
       go_wp2_with fail
       refine hv2.mono ?_
       rintro e w9 ⟨rfl,hb9⟩
       have HZ := Lib.hid (HW.out.trans ((HB8.out.trans (hb9.mono HB8.out.size)).mono HW.out.size))
       clear hb9 x0 x1 hv2
       go_wp2
       go_ret
       exact ⟨rfl,HZ.out⟩
     | true =>
       obtain ⟨hIS,hOK⟩ := HSUM.out k1 k2
       have HISQ := Lib.hid hIS
       have HOKQ := Lib.hid hOK
       rw [k2] at hv2
       clear k1 k2 hIS hOK
       go_wp2_with fail
       refine hv2.mono ?_
       rintro e w9 ⟨rfl,hb9⟩
       have HB9 := Lib.hid (HB8.out.trans (hb9.mono HB8.out.size))
       clear hb9 x0 x1 hv2
       go_wp2
       go_loopw [12,13] (fun nv jv wr => ∃ j : Nat,j ≤ l.length ∧ jv = .int .i64 (j : Nat) ∧ nv = .int .i64 ((sumA x (l.take j) : Nat) : Int) ∧ Hid (Below w9.heap.size w9 wr)) (fun _ jv _ => l.length - (intOf jv).toNat)
       case atStart => exact ⟨0,by omega,rfl,rfl,Lib.hid (Below.refl _ _)⟩
       case round =>
        obtain ⟨j,hj,rfl,rfl,HC⟩ := hrel
        have HBr := Lib.hid (HB9.out.trans (HC.out.mono HB9.out.size))
        have hgr : g < wr.heap.size := Nat.lt_of_lt_of_le hgW HBr.out.size
        have HNB := Lib.hid (show sumA x (l.take j) ≤ 6 * 27000 from Nat.le_trans (sumA_le x _) (Nat.mul_le_mul_right _ (by rw [List.length_take]; omega)))
        by_cases hlt : j < l.length
        · obtain ⟨b,off,V,U,rfl,hb,a0,a1,a2,a3,a4,hV,hU⟩ := DependencyS_at.elem HU.out j hlt
          obtain ⟨PV,cV,rfl,-,-⟩ := hV.form
          obtain ⟨PU,cU,rfl,-,-⟩ := hU.form
          have hbr : b < wr.heap.size := Nat.lt_of_lt_of_le hb HBr.out.size
          have C0 := Aft.cell (B := wr.heap.size) (w := wr) hbr ((HBr.out.cell (p := ⟨b,off + j * 5,none⟩) hb).trans a0)
          have C1 := Aft.cell (B := wr.heap.size) (w := wr) hbr ((HBr.out.cell (p := ⟨b,off + j * 5 + 1,none⟩) hb).trans a1)
          have C2 := Aft.cell (B := wr.heap.size) (w := wr) hbr ((HBr.out.cell (p := ⟨b,off + j * 5 + 2,none⟩) hb).trans a2)
          have C3 := Aft.cell (B := wr.heap.size) (w := wr) hbr ((HBr.out.cell (p := ⟨b,off + j * 5 + 3,none⟩) hb).trans a3)
          have C4 := Aft.cell (B := wr.heap.size) (w := wr) hbr ((HBr.out.cell (p := ⟨b,off + j * 5 + 4,none⟩) hb).trans a4)
          have B0 := Aft.cell (B := wr.heap.size) (w := wr) hgr ((HBr.out.cell (p := ⟨g,0,none⟩) hgW).trans X0.out)
          have B1 := Aft.cell (B := wr.heap.size) (w := wr) hgr ((HBr.out.cell (p := ⟨g,1,none⟩) hgW).trans X1.out)
          have hac := fun (u : Aft wr.heap.size wr) => implActs_any (.agg #[.slice P x.rels.length c1,.slice Q x.facts.length d1]) (.agg #[.slice PV l[j].body.length cV,.slice PU l[j].head.length cU,.bool l[j].egd,.int .i64 l[j].left,.int .i64 l[j].right]) x l[j] u.now ((HX.out.below (HBr.out.trans (u.is.mono HBr.out.size)) (Nat.le_refl _)).more (HBr.out.trans (u.is.mono HBr.out.size)).size) HXW.out ⟨_,_,rfl,(hV.below (HBr.out.trans (u.is.mono HBr.out.size)) (Nat.le_refl _)).more (HBr.out.trans (u.is.mono HBr.out.size)).size,(hU.below (HBr.out.trans (u.is.mono HBr.out.size)) (Nat.le_refl _)).more (HBr.out.trans (u.is.mono HBr.out.size)).size⟩ (HDW.out j hlt)
          have HNX := Lib.hid (sumA_take x l j hlt)
          have hal := acts_le x l[j]
          clear a0 a1 a2 a3 a4 hV hU
          generalize ActiveTriggers_r0 x l[j] = M at *
          generalize l[j] = dd at *
          obtain ⟨n0,hn0⟩ : ∃ n,sumA x (l.take j) = n := ⟨_,rfl⟩
          rw [hn0] at HNX HNB ⊢
          clear hn0
          have hnb := HNB.out
          go_wp2_with fail
          have hb := (Below.refl wr.heap.size wr).drew
          refine wp_region_planL (C := fun w' => ∃ u : Aft wr.heap.size wr,w' = u.now) (.still 0 (.still 1 (.still 2 (.still 3 (.still 4 (.still 5 (.move true 6 (.still 7 (.still 8 (.still 9 .done))) .none))))))) (by kernel_rfl) (by kernel_rfl) (by kernel_rfl) (fun _ => ⟨⟨wr.drew,hb⟩,rfl⟩) ?_
          iterate 6
           refine plan_look _ rfl rfl ?_
           go_big_quiet_step (fail)
           refine wpQuiet_nil ?_
          refine plan_call _ 16 _ _ _ _ _ rfl _ Tryz.func16 (by kernel_rfl) (by kernel_rfl) ?_ True.intro
          refine (hac ⟨_,hb⟩).mono ?_
          rintro _ wn ⟨r9,rfl,hO9,hbn⟩
          obtain ⟨A9,c9,rfl,-,-⟩ := (hO9.at_ (Nat.le_refl _)).form
          replace hb := hb.trans (hbn.mono hb.size)
          clear hbn hO9
          refine ⟨_,rfl,fun _ => ⟨⟨_,hb⟩,rfl⟩,?_⟩
          refine plan_put ?_ (by simp only [Act.put,putA,putB,putC]; rfl)
          generalize M.length = mm at *
          iterate 3
           refine plan_look _ rfl rfl ?_
           go_big_quiet_step (fail)
           refine wpQuiet_nil ?_
          refine plan_done ?_
          have HCn := Lib.hid (HC.out.trans (hb.mono HC.out.size))
          clear hb hac B0 B1 C0 C1 C2 C3 C4
          go_wp2
          go_roundw
          case rel => exact ⟨j + 1,by omega,by go_num,by rw [HNX.out]; go_num,HCn⟩
          case measure => simp [intOf]; omega
        · obtain rfl : j = l.length := by omega
          have HZr := Lib.hid (HW.out.trans (HBr.out.mono HW.out.size))
          rw [List.take_length] at HNB ⊢
          generalize sumA x l = N at *
          have hnb := HNB.out
          have hq1 : (OK == ((N : Int) == 0)) = true := by rw [HOKQ.out]; by_cases h0 : N = 0 <;> simp [h0]
          have hq1' : (OK == decide ((N : Int) = 0)) = true := by rw [HOKQ.out]; by_cases h0 : N = 0 <;> simp [h0]
          have hq2 : (IS == decide ((0 : Int) < (N : Int))) = true := by rw [HISQ.out]; by_cases h0 : 0 < N <;> simp [h0] <;> omega
          have hq2' : (IS == decide (0 < N)) = true := by rw [HISQ.out]; simp
          clear hlt
          go_wp2_with fail
          refine (drawSol_c _ code _ (HCO.out.later HZr.out) HLEN.out).mono ?_
          rintro e w11 ⟨S,s,V,y,U,m,rfl,hS,hSs,hI,hIs,hU,hl,hls,hb11⟩
          obtain ⟨P0,c0,Q0,d0,rfl⟩ := Instance_form hS.at_
          obtain ⟨P',c1',Q',d1',rfl⟩ := Instance_form hI.at_
          obtain ⟨R',cR',rfl,-,hcR'⟩ := hU.form
          obtain ⟨g',hg'⟩ : ∃ g,g = w11.heap.size := ⟨_,rfl⟩
          obtain ⟨W12,hW12⟩ : ∃ W,W = (w11.alloc (.cells #[.slice P0 s.rels.length c0,.slice Q0 s.facts.length d0] 27)).alloc (.cells #[.slice P' y.rels.length c1',.slice Q' y.facts.length d1'] 27) := ⟨_,rfl⟩
          have hAl : Below w11.heap.size w11 W12 := by rw [hW12]; exact ((Below.refl _ _).alloc (Nat.le_refl _) _).alloc (by simp) _
          have hg0 : g' < W12.heap.size := by rw [hW12,hg']; simp; omega
          have hg1 : g' + 1 < W12.heap.size := by rw [hW12,hg']; simp
          have M0 := Aft.cell (B := W12.heap.size) (w := W12) hg0 (show W12.cell? ⟨g',0,none⟩ = some (.slice P0 s.rels.length c0) by rw [hW12,hg']; simp [go_sem])
          have M1 := Aft.cell (B := W12.heap.size) (w := W12) hg0 (show W12.cell? ⟨g',1,none⟩ = some (.slice Q0 s.facts.length d0) by rw [hW12,hg']; simp [go_sem])
          have M2 := Aft.cell (B := W12.heap.size) (w := W12) hg1 (show W12.cell? ⟨g' + 1,0,none⟩ = some (.slice P' y.rels.length c1') by rw [hW12,hg']; simp [go_sem])
          have M3 := Aft.cell (B := W12.heap.size) (w := W12) hg1 (show W12.cell? ⟨g' + 1,1,none⟩ = some (.slice Q' y.facts.length d1') by rw [hW12,hg']; simp [go_sem])
          have HS := Lib.hid (hS.later hAl).at_
          have HY := Lib.hid (hI.later hAl).at_
          have HM := Lib.hid ((hU.below hAl (Nat.le_refl _)).more hAl.size)
          have HZ12 := Lib.hid ((HZr.out.trans (hb11.mono HZr.out.size)).trans (hAl.mono (HZr.out.trans (hb11.mono HZr.out.size)).size))
          have hsi := fun (u : Aft W12.heap.size W12) => implSol_any (.agg #[.slice P0 s.rels.length c0,.slice Q0 s.facts.length d0]) (.agg #[.slice P' y.rels.length c1',.slice Q' y.facts.length d1']) (.slice R' m.length cR') s y m u.now (((HS.out.below u.is (Nat.le_refl _)).more u.is.size)) hSs.wf (by have := hSs.sz (by decide); omega) (((HY.out.below u.is (Nat.le_refl _)).more u.is.size)) hIs.wf (by have := hIs.sz (by decide); omega) (((HM.out.below u.is (Nat.le_refl _)).more u.is.size)) (deps_wf hls) (deps_sz (by omega) hls)
          have hss := fun (u : Aft W12.heap.size W12) => specSol_any (.agg #[.slice P0 s.rels.length c0,.slice Q0 s.facts.length d0]) (.agg #[.slice P' y.rels.length c1',.slice Q' y.facts.length d1']) (.slice R' m.length cR') s y m u.now (((HS.out.below u.is (Nat.le_refl _)).more u.is.size)) hSs.wf (by have := hSs.sz (by decide); omega) (((HY.out.below u.is (Nat.le_refl _)).more u.is.size)) hIs.wf (by have := hIs.sz (by decide); omega) (((HM.out.below u.is (Nat.le_refl _)).more u.is.size)) (deps_wf hls) (deps_sz (by omega) hls)
          generalize solM s y m = qq at *
          have hqq : (qq == qq) = true := by simp
          clear hS hSs hI hIs hU hl hls hb11 hAl
          go_upto_region 17 with fail
          rw [← hg',← hW12]
          clear hg' hW12
          refine wp_region_aft (Below.refl W12.heap.size W12) (by kernel_rfl) (by kernel_rfl) ?_
          repeat (go_big_quiet_step (((first | (go_at_call 18; exact calls_aft (Nat.le_refl _) (hsi _)) | (go_at_call 19; exact calls_aft (Nat.le_refl _) (hss _))))))
          refine wpQuiet_nil ?_
          refine aft_end ?_
          intro w19 hh
          have HZ := Lib.hid (HZ12.out.trans (hh.mono HZ12.out.size))
          clear M0 M1 M2 M3 hsi hss hh
          go_wp2
          go_ret
          exact ⟨rfl,HZ.out⟩
end Go.Proofs.YtobdijcnfmgidaaGreat
