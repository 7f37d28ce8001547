/- Walks and plain lemmas for the laws of this seat. -/
import Derived.Test.YtobdijcnfmgidaaGreatInts
import Derived.Test.YtobdijcnfmgidaaGreatPlan
import Derived.Test.YtobdijcnfmgidaaGreatAft
namespace Go.Proofs.YtobdijcnfmgidaaGreat
open Go.RowKit
set_option maxHeartbeats 1600000 in
set_option maxRecDepth 100000 in
theorem specL5Fact_any (v : Value) (x : Fct) (w : World) (h : Fact_at w w.heap.size v x) (hn : Fact_sz x ≤ 1048576) :
 Calls Tryz.prog 92 #[v] w fun e w' => ∃ u,e = .returned u ∧ Fact_own w.heap.size w'.heap.size u x w' ∧ Below w.heap.size w w' := by
 obtain ⟨V,rfl,hV⟩ := h
 have HV := Lib.hid hV
 obtain ⟨A,c,rfl,hlc,hcm,-,hA⟩ := hV
 unfold Fact_sz at hn
 unfold maxLen at hcm
 have hE : Below w.heap.size w ((w.alloc (.cells #[.int .i64 x.rel,.slice A x.vals.length c] 66)).alloc (.cells #[.int .i64 0,.slice none 0 0] 66)) := below_more (below_more (Below.refl _ _) _) _
 have hEz : w.heap.size + 2 = ((w.alloc (.cells #[.int .i64 x.rel,.slice A x.vals.length c] 66)).alloc (.cells #[.int .i64 0,.slice none 0 0] 66)).heap.size := by simp
 have G0 := Aft.cell (B := ((w.alloc (.cells #[.int .i64 x.rel,.slice A x.vals.length c] 66)).alloc (.cells #[.int .i64 0,.slice none 0 0] 66)).heap.size) (by omega) (show ((w.alloc (.cells #[.int .i64 x.rel,.slice A x.vals.length c] 66)).alloc (.cells #[.int .i64 0,.slice none 0 0] 66)).cell? ⟨w.heap.size,0,none⟩ = some (.int .i64 x.rel) by simp [go_sem])
 have G1 := Aft.cell (B := ((w.alloc (.cells #[.int .i64 x.rel,.slice A x.vals.length c] 66)).alloc (.cells #[.int .i64 0,.slice none 0 0] 66)).heap.size) (by omega) (show ((w.alloc (.cells #[.int .i64 x.rel,.slice A x.vals.length c] 66)).alloc (.cells #[.int .i64 0,.slice none 0 0] 66)).cell? ⟨w.heap.size,1,none⟩ = some (.slice A x.vals.length c) by simp [go_sem])
 have HB1 := Lib.hid (show Below ((w.alloc (.cells #[.int .i64 x.rel,.slice A x.vals.length c] 66)).alloc (.cells #[.int .i64 0,.slice none 0 0] 66)).heap.size ((w.alloc (.cells #[.int .i64 x.rel,.slice A x.vals.length c] 66)).alloc (.cells #[.int .i64 0,.slice none 0 0] 66)) (((w.alloc (.cells #[.int .i64 x.rel,.slice A x.vals.length c] 66)).alloc (.cells #[.int .i64 0,.slice none 0 0] 66)).drew.alloc (.cells #[] 3)) from (Below.refl ((w.alloc (.cells #[.int .i64 x.rel,.slice A x.vals.length c] 66)).alloc (.cells #[.int .i64 0,.slice none 0 0] 66)).heap.size ((w.alloc (.cells #[.int .i64 x.rel,.slice A x.vals.length c] 66)).alloc (.cells #[.int .i64 0,.slice none 0 0] 66))).drew.alloc (show ((w.alloc (.cells #[.int .i64 x.rel,.slice A x.vals.length c] 66)).alloc (.cells #[.int .i64 0,.slice none 0 0] 66)).heap.size ≤ ((w.alloc (.cells #[.int .i64 x.rel,.slice A x.vals.length c] 66)).alloc (.cells #[.int .i64 0,.slice none 0 0] 66)).drew.heap.size from Nat.le_refl _) _)
 have HA := Lib.hid hA
 have HE := Lib.hid hEz
 clear hA hEz
 go_enter Tryz.func92,Tryz.ntmps92
 go_wp2
 refine wp_region_plan (C := fun w' => ∃ u : Aft ((w.alloc (.cells #[.int .i64 x.rel,.slice A x.vals.length c] 66)).alloc (.cells #[.int .i64 0,.slice none 0 0] 66)).heap.size ((w.alloc (.cells #[.int .i64 x.rel,.slice A x.vals.length c] 66)).alloc (.cells #[.int .i64 0,.slice none 0 0] 66)),w' = u.now) (.still 0 (.still 1 (.move true 2 (.still 3 (.still 4 (.move true 5 (.still 6 (.move false 7 .done .none)) .none))) .none))) (by kernel_rfl) (by kernel_rfl) (by kernel_rfl) (fun _ => ⟨⟨_,(Below.refl _ _).drew⟩,rfl⟩) ?_
 refine plan_look _ rfl rfl ?_
 go_big_quiet_step (fail)
 refine wpQuiet_nil ?_
 refine plan_look _ rfl rfl ?_
 go_big_quiet_step (fail)
 refine wpQuiet_nil ?_
 refine plan_value (u := .slice (some ⟨((w.alloc (.cells #[.int .i64 x.rel,.slice A x.vals.length c] 66)).alloc (.cells #[.int .i64 0,.slice none 0 0] 66)).heap.size,0,none⟩) 0 0) (w' := ((w.alloc (.cells #[.int .i64 x.rel,.slice A x.vals.length c] 66)).alloc (.cells #[.int .i64 0,.slice none 0 0] 66)).drew.alloc (.cells #[] 3)) _ rfl rfl rfl (by simp [go_sem]) (fun _ => ⟨⟨_,HB1.out⟩,rfl⟩) ?_ True.intro
 refine plan_put ?_ (by simp only [Act.put,putA,putB,putC]; rfl)
 refine plan_look _ rfl rfl ?_
 go_big_quiet_step (fail)
 refine wpQuiet_nil ?_
 refine plan_look _ rfl rfl ?_
 go_big_quiet_step (fail)
 refine wpQuiet_nil ?_
 have hb1 := HB1.out
 have hB1 := hE.trans (hb1.mono hE.size)
 have hO := OwnInts.empty ((w.alloc (.cells #[.int .i64 x.rel,.slice A x.vals.length c] 66)).alloc (.cells #[.int .i64 0,.slice none 0 0] 66)).drew ((w.alloc (.cells #[.int .i64 x.rel,.slice A x.vals.length c] 66)).alloc (.cells #[.int .i64 0,.slice none 0 0] 66)).heap.size (Nat.le_refl _)
 unfold OwnInts at hO
 rw [← flat_int] at hO
 refine plan_apps intCell 1 8 (fun x _ u hu => by simp [intCell] at hu; subst hu; rfl) (fun _ => rfl) (r := x.vals) _ rfl rfl Tryz.underlying31 infoInt rfl (by decide) hO _ _ rfl rfl A x.vals.length c rfl rfl (HV.out.below hB1 (Nat.le_refl _)) (by simp; omega) (by simp; omega) (by simp [World.drew]) ?_ True.intro
 intro v2 w2 hO2 hB2 _ _
 refine ⟨fun _ => ⟨⟨_,hb1.trans hB2⟩,rfl⟩,?_⟩
 have hO3 : OwnInts ((w.alloc (.cells #[.int .i64 x.rel,.slice A x.vals.length c] 66)).alloc (.cells #[.int .i64 0,.slice none 0 0] 66)).heap.size v2 x.vals w2 := by
  have := hO2
  rw [flat_int] at this
  simpa [OwnInts] using this
 obtain ⟨P2,c2,rfl,-⟩ := hO3.at_
 have hb2 := hb1.trans hB2
 have m0 := (hb2.cell (p := ⟨w.heap.size + 1,0,none⟩) (by show w.heap.size + 1 < _; have := HE.out; omega)).trans (show ((w.alloc (.cells #[.int .i64 x.rel,.slice A x.vals.length c] 66)).alloc (.cells #[.int .i64 0,.slice none 0 0] 66)).cell? ⟨w.heap.size + 1,0,none⟩ = some (.int .i64 0) by simp [go_sem])
 have m1 := (hb2.cell (p := ⟨w.heap.size + 1,1,none⟩) (by show w.heap.size + 1 < _; have := HE.out; omega)).trans (show ((w.alloc (.cells #[.int .i64 x.rel,.slice A x.vals.length c] 66)).alloc (.cells #[.int .i64 0,.slice none 0 0] 66)).cell? ⟨w.heap.size + 1,1,none⟩ = some (.slice none 0 0) by simp [go_sem])
 have mz := fun o => (hb2.frozen (p := ⟨w.heap.size + 1,o,none⟩) (by show w.heap.size + 1 < _; have := HE.out; omega)).trans (show ((w.alloc (.cells #[.int .i64 x.rel,.slice A x.vals.length c] 66)).alloc (.cells #[.int .i64 0,.slice none 0 0] 66)).frozen? ⟨w.heap.size + 1,o,none⟩ = false by simp [go_sem])
 have HO := Lib.hid hO3
 have HB2 := Lib.hid hb2
 clear hO hO2 hO3 hB2 hb1 hb2 G0 G1
 refine plan_put ?_ (by simp only [Act.put,putA,putB,putC]; rfl)
 refine plan_look _ rfl rfl ?_
 go_big_quiet_step (fail)
 refine wpQuiet_nil ?_
 refine plan_skip (w' := (w2.setCell ⟨w.heap.size + 1,0,none⟩ (.int .i64 x.rel)).setCell ⟨w.heap.size + 1,1,none⟩ (.slice P2 x.vals.length c2)) _ rfl rfl rfl (by simp [go_sem,m0,m1,mz]) (fun e => by cases e) ?_ True.intro
 refine plan_put ?_ (by simp only [Act.put]; rfl)
 refine plan_done ?_
 go_wp2
 refine bodyPost_ret (v := .agg #[.int .i64 x.rel,.slice P2 x.vals.length c2]) (by simp [results,Tryz.results92,go_sem,m0,m1]) rfl ⟨_,rfl,⟨_,rfl,?_,?_⟩,?_⟩
 · refine (HO.out.chg (((Chg.refl (fun q => q = w.heap.size + 1) w2).setCell (p := ⟨w.heap.size + 1,0,none⟩) rfl _).setCell (p := ⟨w.heap.size + 1,1,none⟩) rfl _) (fun g hg e => ?_)).mono hE.size
   have h1 := (HO.out.lt g hg).1
   have h2 := HE.out
   omega
 · intro g hg
   have := (HO.out.lt g hg).2
   simpa [World.setCell] using this
 · exact ((hE.trans (HB2.out.mono hE.size)).setCell (p := ⟨w.heap.size + 1,0,none⟩) (by show w.heap.size ≤ w.heap.size + 1; omega) _).setCell (p := ⟨w.heap.size + 1,1,none⟩) (by show w.heap.size ≤ w.heap.size + 1; omega) _
set_option maxHeartbeats 3200000 in
set_option maxRecDepth 100000 in
theorem specL5Copy_len (v : Value) (x : Inst) (w : World) (h : Instance_at w w.heap.size v x) (hn1 : x.rels.length ≤ 1048576) (hn2 : x.facts.length ≤ 1048576) (hn3 : ∀ f ∈ x.facts, Fact_sz f ≤ 1048576) :
 Calls Tryz.prog 96 #[v] w fun e w' => ∃ u,e = .returned u ∧ Instance_own w.heap.size w'.heap.size u x w' ∧ Below w.heap.size w w' := by
 obtain ⟨P,c,Q,d,rfl⟩ := Instance_form h
 obtain ⟨V1,V2,hv,hR,hF⟩ := h
 simp only [Value.agg.injEq,Array.mk.injEq,List.cons.injEq,and_true] at hv
 obtain ⟨rfl,rfl⟩ := hv
 obtain ⟨_,_,hv2,hd1,hd2⟩ := hF.form
 injection hv2 with e1 _ e2
 subst e1 e2
 unfold maxLen at hd2
 have HA := Lib.hid (show P = none → c = 0 by obtain ⟨A',c',hv,_,_,_,hA⟩ := hR; injection hv with e1 _ e2; subst e1 e2; exact hA)
 have HF := Lib.hid hF
 have HR := Lib.hid hR
 clear hF hR
 have hE : Below w.heap.size w ((w.alloc (.cells #[.slice P x.rels.length c,.slice Q x.facts.length d] 27)).alloc (.cells #[.slice none 0 0,.slice none 0 0] 27)) := below_more (below_more (Below.refl _ _) _) _
 have HE := Lib.hid (show w.heap.size + 2 = ((w.alloc (.cells #[.slice P x.rels.length c,.slice Q x.facts.length d] 27)).alloc (.cells #[.slice none 0 0,.slice none 0 0] 27)).heap.size by simp)
 have K1 := Lib.hid (show ((w.alloc (.cells #[.slice P x.rels.length c,.slice Q x.facts.length d] 27)).alloc (.cells #[.slice none 0 0,.slice none 0 0] 27)).cell? ⟨w.heap.size,1,none⟩ = some (.slice Q x.facts.length d) by simp [go_sem])
 have L0 := Lib.hid (show ((w.alloc (.cells #[.slice P x.rels.length c,.slice Q x.facts.length d] 27)).alloc (.cells #[.slice none 0 0,.slice none 0 0] 27)).cell? ⟨w.heap.size + 1,0,none⟩ = some (.slice none 0 0) by simp [go_sem])
 have L1 := Lib.hid (show ((w.alloc (.cells #[.slice P x.rels.length c,.slice Q x.facts.length d] 27)).alloc (.cells #[.slice none 0 0,.slice none 0 0] 27)).cell? ⟨w.heap.size + 1,1,none⟩ = some (.slice none 0 0) by simp [go_sem])
 have LZ := fun o => Lib.hid (show ((w.alloc (.cells #[.slice P x.rels.length c,.slice Q x.facts.length d] 27)).alloc (.cells #[.slice none 0 0,.slice none 0 0] 27)).frozen? ⟨w.heap.size + 1,o,none⟩ = false by simp [go_sem])
 have HRE := Lib.hid ((HR.out.below hE (Nat.le_refl _)).below ((Below.refl ((w.alloc (.cells #[.slice P x.rels.length c,.slice Q x.facts.length d] 27)).alloc (.cells #[.slice none 0 0,.slice none 0 0] 27)).heap.size ((w.alloc (.cells #[.slice P x.rels.length c,.slice Q x.facts.length d] 27)).alloc (.cells #[.slice none 0 0,.slice none 0 0] 27))).alloc (Nat.le_refl _) (.cells #[] 70)) hE.size)
 have HOE := Lib.hid (OwnRels.empty ((w.alloc (.cells #[.slice P x.rels.length c,.slice Q x.facts.length d] 27)).alloc (.cells #[.slice none 0 0,.slice none 0 0] 27)) ((w.alloc (.cells #[.slice P x.rels.length c,.slice Q x.facts.length d] 27)).alloc (.cells #[.slice none 0 0,.slice none 0 0] 27)).heap.size (Nat.le_refl _))
 go_enter Tryz.func96,Tryz.ntmps96
 go_wp2_with (at_builtin; refine rels_apps (r := x.rels) HOE.out rfl _ _ rfl (by simp [go_sem]) P x.rels.length c rfl rfl HRE.out HA.out (by simp; omega) (by simp) ?_; intro v1 w1 hO1 hW1 _ _; obtain ⟨P1,c1,hv1,-⟩ := hO1.at_; simp only [List.nil_append] at hv1; subst hv1)
 obtain ⟨Y,hY⟩ : ∃ Y,Y = w1.heap.size := ⟨_,rfl⟩
 have hHE := HE.out
 have hz1 : ((w.alloc (.cells #[.slice P x.rels.length c,.slice Q x.facts.length d] 27)).alloc (.cells #[.slice none 0 0,.slice none 0 0] 27)).heap.size + 1 ≤ w1.heap.size := by have := hW1.size; simpa using this
 have hsY : w.heap.size + 2 < Y := by omega
 have hbE : Below (w.heap.size + 2) ((w.alloc (.cells #[.slice P x.rels.length c,.slice Q x.facts.length d] 27)).alloc (.cells #[.slice none 0 0,.slice none 0 0] 27)) w1 := ((Below.refl _ _).alloc (by omega) (.cells #[] 70)).trans (hW1.mono (by omega))
 have k1 : w1.cell? ⟨w.heap.size,1,none⟩ = some (.slice Q x.facts.length d) := (hbE.cell (p := ⟨w.heap.size,1,none⟩) (by show w.heap.size < _; omega)).trans K1.out
 have l0 : w1.cell? ⟨w.heap.size + 1,0,none⟩ = some (.slice none 0 0) := (hbE.cell (p := ⟨w.heap.size + 1,0,none⟩) (by show w.heap.size + 1 < _; omega)).trans L0.out
 have l1 : w1.cell? ⟨w.heap.size + 1,1,none⟩ = some (.slice none 0 0) := (hbE.cell (p := ⟨w.heap.size + 1,1,none⟩) (by show w.heap.size + 1 < _; omega)).trans L1.out
 have lz : ∀ o,w1.frozen? ⟨w.heap.size + 1,o,none⟩ = false := fun o => (hbE.frozen (p := ⟨w.heap.size + 1,o,none⟩) (by show w.heap.size + 1 < _; omega)).trans (LZ o).out
 have hbW : Below w.heap.size w w1 := hE.trans (hbE.mono (by omega))
 have HW := Lib.hid hbW
 have HO1 := Lib.hid (show RelationS_own (w.heap.size + 2) Y (.slice P1 x.rels.length c1) x.rels w1 from ⟨(by simpa using hO1.mono (show w.heap.size + 2 ≤ _ by omega)),row_inside hO1 (by omega)⟩)
 clear hO1 hW1 hbE HE K1 L0 L1 LZ HRE HOE HR HA hbW hHE hz1 hE
 have y0 : (w1.alloc (.cells #[.slice P1 x.rels.length c1,.slice none 0 0] 27)).cell? ⟨Y,0,none⟩ = some (.slice P1 x.rels.length c1) := by rw [hY]; simp [go_sem]
 have y1 : (w1.alloc (.cells #[.slice P1 x.rels.length c1,.slice none 0 0] 27)).cell? ⟨Y,1,none⟩ = some (.slice none 0 0) := by rw [hY]; simp [go_sem]
 have yz : ∀ o,(w1.alloc (.cells #[.slice P1 x.rels.length c1,.slice none 0 0] 27)).frozen? ⟨Y,o,none⟩ = false := by intro o; rw [hY]; simp [go_sem]
 have hAl : Below Y w1 (w1.alloc (.cells #[.slice P1 x.rels.length c1,.slice none 0 0] 27)) := (Below.refl _ _).alloc (by omega) _
 have hsz : (w1.alloc (.cells #[.slice P1 x.rels.length c1,.slice none 0 0] 27)).heap.size = Y + 1 := by rw [hY]; simp
 rw [← hY]
 generalize w1.alloc (.cells #[.slice P1 x.rels.length c1,.slice none 0 0] 27) = W at y0 y1 yz hAl hsz ⊢
 have HSZ := Lib.hid hsz
 have HY := Lib.hid hY
 have HAL := Lib.hid hAl
 clear hsz hY hAl
 go_loopw [4] (fun i wr => ∃ k V Vs,k ≤ x.facts.length ∧ i = .int .i64 k ∧ wr.cell? ⟨Y,0,none⟩ = some (.slice P1 x.rels.length c1) ∧ wr.cell? ⟨Y,1,none⟩ = some V ∧ (∀ o,wr.frozen? ⟨Y,o,none⟩ = false) ∧ FactSO 66 (Y + 1) wr.heap.size V Vs (x.facts.take k) wr ∧ Hid (Chg (fun g => g = Y) W wr)) (fun i _ => x.facts.length - (intOf i).toNat)
 case atStart => exact ⟨0,_,[],by omega,rfl,y0,y1,yz,⟨rfl,World.ownsRow_nil _ _ _ _,(fun g hg => by cases hg),(fun i h => by simp at h),List.Pairwise.nil⟩,Lib.hid (Chg.refl _ _)⟩
 case round =>
  clear y0 y1 yz
  obtain ⟨k,V,Vs,hk,rfl,y0,y1,yz,hO,HC⟩ := hrel
  have HO := Lib.hid hO
  clear hO
  have hC := HC.out
  have hYw : Y + 1 ≤ wr.heap.size := by have h1 := hC.size; rw [HSZ.out] at h1; exact h1
  have hwW : Below w.heap.size w wr := (HW.out.trans (HAL.out.mono (by omega))).trans (hC.below (fun g hg => by subst hg; omega) (by rw [HSZ.out]; omega))
  have kr : wr.cell? ⟨w.heap.size,1,none⟩ = some (.slice Q x.facts.length d) := ((hC.cell (o := 1) (show w.heap.size < _ by rw [HSZ.out]; omega) (by omega)).trans (HAL.out.cell (p := ⟨w.heap.size,1,none⟩) (by show w.heap.size < Y; omega))).trans k1
  by_cases hlt : k < x.facts.length
  · obtain ⟨b,off,E,rfl,hb,c0,c1',hE⟩ := FactS_at.elem (HF.out.below hwW (Nat.le_refl _)) k hlt
    have hEs : Fact_sz x.facts[k] ≤ 1048576 := hn3 _ (List.getElem_mem hlt)
    have hcon := fun wq (hq : Below wr.heap.size wr wq) => specL5Fact_any (.agg #[.int .i64 x.facts[k].rel,E]) x.facts[k] wq ⟨E,rfl,(hE.below hq (by omega)).more (by have := hq.size; omega)⟩ hEs
    have hS : Holds [(⟨Y,1,none⟩,V),(⟨w.heap.size,1,none⟩,.slice (some ⟨b,off,none⟩) x.facts.length d),(⟨b,off + k * 2,none⟩,.int .i64 x.facts[k].rel),(⟨b,off + k * 2 + 1,none⟩,E)] wr.drew := by
     intro p hp
     simp only [List.mem_cons,List.not_mem_nil,or_false] at hp
     rcases hp with rfl | rfl | rfl | rfl
     · exact y1
     · exact kr
     · exact c0
     · exact c1'
    have hSb : ∀ p ∈ [((⟨Y,1,none⟩ : Addr),V),(⟨w.heap.size,1,none⟩,.slice (some ⟨b,off,none⟩) x.facts.length d),(⟨b,off + k * 2,none⟩,.int .i64 x.facts[k].rel),(⟨b,off + k * 2 + 1,none⟩,E)],p.1.block < Y + 1 := by
     intro p hp
     simp only [List.mem_cons,List.not_mem_nil,or_false] at hp
     rcases hp with rfl | rfl | rfl | rfl <;> simp <;> omega
    have g0 := Keep.cell (h0 := hS) (a := ⟨Y,1,none⟩) (v := V) (by simp)
    have g1 := Keep.cell (h0 := hS) (a := ⟨w.heap.size,1,none⟩) (v := .slice (some ⟨b,off,none⟩) x.facts.length d) (by simp)
    have g2 := Keep.cell (h0 := hS) (a := ⟨b,off + k * 2,none⟩) (v := .int .i64 x.facts[k].rel) (by simp)
    have g3 := Keep.cell (h0 := hS) (a := ⟨b,off + k * 2 + 1,none⟩) (v := E) (by simp)
    have HX := Lib.hid (And.intro hE hcon)
    clear hE hcon
    go_wp2_with fail
    refine wp_region_plan (C := fun w' => ∃ u : Keep _ wr.drew hS,w' = u.now) (.still 0 (.still 1 (.still 2 (.still 3 (.still 4 (.still 5 (.still 6 (.move true 7 (.move true 8 (.move true 9 (.still 10 (.move false 11 .done .none)) .none) .none) .none)))))))) (by kernel_rfl) (by kernel_rfl) (by kernel_rfl) (fun _ => ⟨⟨_,hS⟩,rfl⟩) ?_
    iterate 7
     refine plan_look _ rfl rfl ?_
     go_big_quiet_step (fail)
     refine wpQuiet_nil ?_
    refine plan_call _ 92 _ _ _ _ _ rfl _ Tryz.func92 (by kernel_rfl) (by kernel_rfl) ?_ True.intro
    refine (HX.out.2 wr.drew (Below.refl _ _).drew).mono ?_
    rintro _ w2 ⟨u,rfl,⟨U,rfl,hU⟩,hb2⟩
    have hb2' : Below wr.heap.size wr w2 := (Below.refl _ _).drew.trans hb2
    refine ⟨_,rfl,fun _ => ⟨⟨_,hS.below hb2 (fun p hp => by have := hSb p hp; show _ < wr.heap.size; omega)⟩,rfl⟩,?_⟩
    refine plan_put ?_ (by simp only [Act.put,putA,putB,putC]; rfl)
    have hz2 := hb2'.size
    obtain ⟨PU,cu,rfl,-⟩ := hU.1.at_
    have HB2 := Lib.hid hb2'
    have HD := Lib.hid hb2
    have HU := Lib.hid hU
    clear hb2 hb2' hU
    have hK : ∀ wq,Below (Y + 1) wr.drew wq → Holds _ wq := fun wq hq => hS.below hq hSb
    refine plan_value (u := .slice (some ⟨w2.heap.size,0,none⟩) 1 1) (w' := w2.alloc (.cells #[.int .i64 x.facts[k].rel,.slice PU x.facts[k].vals.length cu] 66)) _ rfl rfl rfl (by simp [go_sem]) (fun _ => ⟨⟨_,hK _ ((HD.out.alloc hz2 _).mono hYw)⟩,rfl⟩) ?_ True.intro
    refine plan_put ?_ (by simp only [Act.put,putA,putB,putC]; rfl)
    have HO3 := Lib.hid ((HO.out.below HB2.out (Nat.le_refl _)).below ((Below.refl wr.heap.size w2).alloc hz2 (.cells #[.int .i64 x.facts[k].rel,.slice PU x.facts[k].vals.length cu] 66)) (Nat.le_refl _))
    have hVl := HO.out.len
    have hr : SliceAt pairCells (w2.alloc (.cells #[.int .i64 x.facts[k].rel,.slice PU x.facts[k].vals.length cu] 66)) (w2.heap.size + 1) (.slice (some ⟨w2.heap.size,0,none⟩) [(x.facts[k].rel,Value.slice PU x.facts[k].vals.length cu)].length 1) [(x.facts[k].rel,Value.slice PU x.facts[k].vals.length cu)] := by
     refine ⟨_,_,rfl,Nat.le_refl _,by simp [maxLen],?_,fun h => by cases h⟩
     intro _
     refine ⟨_,_,rfl,by omega,?_⟩
     intro j u hu
     rw [Nat.zero_add,box_cell]
     simpa [pairCells] using hu
    refine plan_app pairCells 2 32 (r := [(x.facts[k].rel,Value.slice PU x.facts[k].vals.length cu)]) (fun p hp u hu => by simp only [List.mem_singleton] at hp; subst hp; simp [pairCells] at hu; rcases hu with rfl | rfl <;> rfl) pairCells_len _ rfl rfl Tryz.underlying25 infoFct rfl (by decide) HO3.out.row _ _ rfl rfl ⟨w2.heap.size,0,none⟩ 1 1 rfl rfl hr (by have := pairs_len hVl; simp at *; omega) (by have := pairs_len hVl; simp at *; omega) (by simp; omega) ?_ True.intro
    intro v4 w4 hrow hB4 hg4 _
    have hbA : Below (Y + 1) wr w4 := ((HB2.out.mono hYw).alloc (by omega) _).trans hB4
    have hbD : Below (Y + 1) wr.drew w4 := ((HD.out.mono hYw).alloc (by omega) _).trans hB4
    have hz4 : w2.heap.size + 1 ≤ w4.heap.size := by have := hB4.size; simpa using this
    have hFS := FactSO.snoc (e := 66) (by decide) (x := x.facts[k]) (C' := w4.heap.size) HO3.out (by omega) hrow hg4 (row_inside hrow (Nat.le_refl _)) ((HU.out.below ((Below.refl w2.heap.size w2).alloc (Nat.le_refl _) _) (Nat.le_refl _)).mono hYw (by omega)) (fun i hi g h1 h2 => by
     have q1 : wr.heap.size ≤ g := (HU.out.1.lt g h2).1
     have q2 := (HO.out.el i (by have := HO.out.len; omega) hi).2 g h1
     omega)
    have hlk : (x.facts.take k ++ [x.facts[k]]).length = k + 1 := by rw [← List.take_succ_eq_append_getElem hlt]; simp; omega
    obtain ⟨P4,c4,rfl,-⟩ := (hFS.at_ (Nat.le_refl _)).form
    have z0 := (hbA.cell (p := ⟨Y,0,none⟩) (Nat.lt_succ_self _)).trans y0
    have z1 := (hbA.cell (p := ⟨Y,1,none⟩) (Nat.lt_succ_self _)).trans y1
    have zz := fun o => (hbA.frozen (p := ⟨Y,o,none⟩) (Nat.lt_succ_self _)).trans (yz o)
    have HFS := Lib.hid hFS
    have HBA := Lib.hid hbA
    have HLK := Lib.hid hlk
    refine ⟨fun _ => ⟨⟨_,hK _ hbD⟩,rfl⟩,?_⟩
    clear hFS hbA hbD hrow hB4 hg4 hr hK g0 g1 g2 g3 hVl y0 y1 yz kr c0 c1' hlk
    refine plan_put ?_ (by simp only [Act.put,putA,putB,putC]; rfl)
    refine plan_look _ rfl rfl ?_
    go_big_quiet_step (fail)
    refine wpQuiet_nil ?_
    refine plan_skip (w' := w4.setCell ⟨Y,1,none⟩ (.slice P4 (x.facts.take k ++ [x.facts[k]]).length c4)) _ rfl rfl rfl (by simp [go_sem,z1,zz]) (fun e => by cases e) ?_ True.intro
    refine plan_put ?_ (by simp only [Act.put]; rfl)
    refine plan_done ?_
    go_wp2
    go_roundw
    case rel =>
     refine ⟨k + 1,.slice P4 (min (k + 1) x.facts.length) c4,Vs ++ [.slice PU x.facts[k].vals.length cu],by omega,by go_num,by simp [go_sem,z0],by simp [go_sem,z1],fun o => by simp [zz],?_,Lib.hid ((HC.out.then_below (by rw [HSZ.out]; exact HBA.out)).setCell (p := ⟨Y,1,none⟩) rfl _)⟩
     rw [show min (k + 1) x.facts.length = (x.facts.take k ++ [x.facts[k]]).length by rw [HLK.out]; omega,List.take_succ_eq_append_getElem hlt]
     exact (HFS.out.chg (((Chg.refl (Mid Y (Y + 1)) w4).setCell (p := ⟨Y,1,none⟩) ⟨Nat.le_refl _,Nat.lt_succ_self _⟩ _)) (.inr (Nat.le_refl _))).mono (Nat.le_refl _) (by simp [World.setCell])
    case measure => simp [intOf]; omega
  · obtain rfl : k = x.facts.length := by omega
    have hO' : FactSO 66 (Y + 1) wr.heap.size V Vs x.facts wr := by simpa using HO.out
    obtain ⟨Q2,d2,rfl,-⟩ := (hO'.at_ (Nat.le_refl _)).form
    have m0 : wr.cell? ⟨w.heap.size + 1,0,none⟩ = some (.slice none 0 0) := ((hC.cell (o := 0) (show w.heap.size + 1 < _ by rw [HSZ.out]; omega) (by omega)).trans (HAL.out.cell (p := ⟨w.heap.size + 1,0,none⟩) (by show w.heap.size + 1 < Y; omega))).trans l0
    have m1 : wr.cell? ⟨w.heap.size + 1,1,none⟩ = some (.slice none 0 0) := ((hC.cell (o := 1) (show w.heap.size + 1 < _ by rw [HSZ.out]; omega) (by omega)).trans (HAL.out.cell (p := ⟨w.heap.size + 1,1,none⟩) (by show w.heap.size + 1 < Y; omega))).trans l1
    have mz : ∀ o,wr.frozen? ⟨w.heap.size + 1,o,none⟩ = false := fun o => ((hC.frozen (o := o) (show w.heap.size + 1 < _ by rw [HSZ.out]; omega) (by omega)).trans (HAL.out.frozen (p := ⟨w.heap.size + 1,o,none⟩) (by show w.heap.size + 1 < Y; omega))).trans (lz o)
    have HO' := Lib.hid hO'
    have HwW := Lib.hid hwW
    have HST : ∀ u1 u2,Chg (Mid (w.heap.size + 1) (w.heap.size + 2)) wr ((wr.setCell ⟨w.heap.size + 1,0,none⟩ u1).setCell ⟨w.heap.size + 1,1,none⟩ u2) := fun u1 u2 => ((Chg.refl _ wr).setCell (p := ⟨w.heap.size + 1,0,none⟩) (show w.heap.size + 1 ≤ w.heap.size + 1 ∧ w.heap.size + 1 < w.heap.size + 2 by omega) _).setCell (p := ⟨w.heap.size + 1,1,none⟩) (show w.heap.size + 1 ≤ w.heap.size + 1 ∧ w.heap.size + 1 < w.heap.size + 2 by omega) _
    clear hO' hwW hC
    go_wp2
    refine bodyPost_ret (v := .agg #[.slice P1 x.rels.length c1,.slice Q2 x.facts.length d2]) (by simp [results,Tryz.results96,go_sem,m0,m1]) rfl ⟨_,rfl,⟨_,_,rfl,?_,?_⟩,?_⟩
    · exact (((HO1.out.below HAL.out (Nat.le_refl _)).chg (B' := Y) (C' := Y + 1) (HC.out.mono fun g hg => by subst hg; exact ⟨Nat.le_refl _,Nat.lt_succ_self _⟩) (.inl (Nat.le_refl _))).chg (HST _ _) (.inr (Nat.le_refl _))).mono (by omega) (by simp [World.setCell]; omega)
    · exact (FactS_own.chg ⟨Vs,HO'.out⟩ (HST _ _) (.inr (by omega))).mono (by omega) (by simp [World.setCell])
    · exact (HwW.out.setCell (p := ⟨w.heap.size + 1,0,none⟩) (by show w.heap.size ≤ w.heap.size + 1; omega) _).setCell (p := ⟨w.heap.size + 1,1,none⟩) (by show w.heap.size ≤ w.heap.size + 1; omega) _
theorem factSz_le (l : List Fct) : ∀ f ∈ l, Fact_sz f ≤ valsLen l := by
 intro f hf
 obtain ⟨i,hi,rfl⟩ := List.getElem_of_mem hf
 have h1 := valsLen_take l i hi
 have h2 := valsLen_le l (i + 1)
 unfold Fact_sz; omega
theorem specL5Copy_any (v : Value) (x : Inst) (w : World) (h : Instance_at w w.heap.size v x) (hn : Instance_sz x ≤ 1048576) :
 Calls Tryz.prog 96 #[v] w fun e w' => ∃ u,e = .returned u ∧ Instance_own w.heap.size w'.heap.size u x w' ∧ Below w.heap.size w w' := by
 have hsz : x.rels.length ≤ 1048576 ∧ x.facts.length + valsLen x.facts ≤ 1048576 := by unfold Instance_sz RelationS_sz FactS_sz at hn; omega
 exact specL5Copy_len v x w h hsz.1 (by omega) (fun f hf => by have := factSz_le x.facts f hf; omega)
end Go.Proofs.YtobdijcnfmgidaaGreat
