/- Walks and plain lemmas for the laws of this seat. -/
import Derived.Test.YtobdijcnfmgidaaGreatAft
import Derived.Test.YtobdijcnfmgidaaGreatTyAtom
import Derived.Test.YtobdijcnfmgidaaGreatParInI
import Derived.Test.YtobdijcnfmgidaaGreatFactV
import Derived.Test.YtobdijcnfmgidaaGreatDrawK
import Derived.Test.YtobdijcnfmgidaaGreatInstV
import Derived.Test.YtobdijcnfmgidaaGreatMatK
import Derived.Test.YtobdijcnfmgidaaGreatTrigM
import Derived.Test.YtobdijcnfmgidaaGreatActsI
import Derived.Test.YtobdijcnfmgidaaGreatDepK
namespace Go.Proofs.YtobdijcnfmgidaaGreat
open Go.RowKit
set_option maxHeartbeats 6400000 in
set_option maxRecDepth 100000 in
theorem specIsTrigger_any (v u : Value) (x : Inst) (d : Dep) (bv : Value) (b : List Int) (w : World) (hx : Instance_at w w.heap.size v x) (hxw : Instance_wf x) (hxn : x.rels.length ≤ 1048576) (hd : Dependency_at w w.heap.size u d) (hdw : Dependency_wf d) (hn : Dependency_sz d ≤ 1048576) (hb : IntsAt w w.heap.size bv b) (hbw : IntsWf b) :
 Calls Tryz.prog 125 #[v,u,bv] w fun e w' => e = .returned (.bool (trigOk x d b)) ∧ Below w.heap.size w w' := by
 have HX := Lib.hid hx
 have HD := Lib.hid hd
 have HB := Lib.hid hb
 obtain ⟨P,c,Q,d1,rfl⟩ := Instance_form hx
 have HR := Lib.hid (show RelationS_at w w.heap.size (.slice P x.rels.length c) x.rels by
  obtain ⟨V1,V2,hv,hR,hF⟩ := hx
  simp only [Value.agg.injEq,Array.mk.injEq,List.cons.injEq,and_true] at hv
  obtain ⟨rfl,rfl⟩ := hv
  exact hR)
 obtain ⟨R,q,S,t,rfl⟩ := Dependency_form hd
 have HBD := Lib.hid (show AtomS_at w w.heap.size (.slice R d.body.length q) d.body by
  obtain ⟨V1,V2,hv,h1,h2⟩ := hd
  simp only [Value.agg.injEq,Array.mk.injEq,List.cons.injEq,and_true] at hv
  obtain ⟨rfl,rfl⟩ := hv
  exact h1)
 obtain ⟨_,_,hv9,hq1,hq2⟩ := HBD.out.form
 injection hv9 with e1 _ e2
 subst e1 e2
 obtain ⟨T,tc,rfl,ht1,ht2,-,-⟩ := id hb
 unfold maxLen at hq2 ht2
 clear hx hd hb
 obtain ⟨E,hEq⟩ : ∃ E,E = (w.alloc (.cells #[.slice P x.rels.length c,.slice Q x.facts.length d1] 27)).alloc (.cells #[.slice R d.body.length q,.slice S d.head.length t,.bool d.egd,.int .i64 d.left,.int .i64 d.right] 42) := ⟨_,rfl⟩
 have hE : Below w.heap.size w E := by rw [hEq]; exact below_more (below_more (Below.refl _ _) _) _
 have hEz : E.heap.size = w.heap.size + 2 := by rw [hEq]; simp
 have X0 : E.cell? ⟨w.heap.size,0,none⟩ = some (.slice P x.rels.length c) := by rw [hEq]; simp [go_sem]
 have X1 : E.cell? ⟨w.heap.size,1,none⟩ = some (.slice Q x.facts.length d1) := by rw [hEq]; simp [go_sem]
 have D0 : E.cell? ⟨w.heap.size + 1,0,none⟩ = some (.slice R d.body.length q) := by rw [hEq]; simp [go_sem]
 have D1 : E.cell? ⟨w.heap.size + 1,1,none⟩ = some (.slice S d.head.length t) := by rw [hEq]; simp [go_sem]
 have D2 : E.cell? ⟨w.heap.size + 1,2,none⟩ = some (.bool d.egd) := by rw [hEq]; simp [go_sem]
 have D3 : E.cell? ⟨w.heap.size + 1,3,none⟩ = some (.int .i64 d.left) := by rw [hEq]; simp [go_sem]
 have D4 : E.cell? ⟨w.heap.size + 1,4,none⟩ = some (.int .i64 d.right) := by rw [hEq]; simp [go_sem]
 have hvi := fun qq (hq : instOk x = qq) => specIsValidInstance_at1 x qq hq _ E ((HX.out.below hE (Nat.le_refl _)).more hE.size) hxw hxn
 rw [hEq] at hvi
 have hz0 : w.heap.size < E.heap.size := by omega
 have hz1 : w.heap.size + 1 < E.heap.size := by omega
 cases k1 : instOk x with
 | false =>
   have HF := Lib.hid (show trigOk x d b = false by unfold trigOk; rw [k1]; rfl)
   replace hvi := hvi false k1
   clear k1 X0 X1 D0 D1 D2 D3 D4
   go_enter Tryz.func125,Tryz.ntmps125
   go_wp2_with (go_at_call 14; refine hvi.mono ?_; rintro e w1 ⟨rfl,hb1⟩)
   rw [← hEq] at hb1
   go_ret
   exact ⟨ret_bool HF.out.symm,hE.trans (hb1.mono hE.size)⟩
 | true =>
   replace hvi := hvi true k1
   have HVD := Lib.hid (fun (qq : Bool) (hq : depOk x.rels d = qq) (W : World) (hW : Below w.heap.size w W) => specIsValidDependency_at (.slice P x.rels.length c) x.rels _ d qq hq W ((HR.out.below hW (Nat.le_refl _)).more hW.size) hxn ((HD.out.below hW (Nat.le_refl _)).more hW.size) hdw)
   go_enter Tryz.func125,Tryz.ntmps125
   go_wp2_with fail
   refine hvi.mono ?_
   rintro e w1 ⟨rfl,hb1⟩
   rw [← hEq] at hb1
   have hw1 := hE.trans (hb1.mono hE.size)
   have x0 := (hb1.cell (p := ⟨w.heap.size,0,none⟩) hz0).trans X0
   have y0 := (hb1.cell (p := ⟨w.heap.size + 1,0,none⟩) hz1).trans D0
   have y1 := (hb1.cell (p := ⟨w.heap.size + 1,1,none⟩) hz1).trans D1
   have y2 := (hb1.cell (p := ⟨w.heap.size + 1,2,none⟩) hz1).trans D2
   have y3 := (hb1.cell (p := ⟨w.heap.size + 1,3,none⟩) hz1).trans D3
   have y4 := (hb1.cell (p := ⟨w.heap.size + 1,4,none⟩) hz1).trans D4
   clear hvi hEq D1 D2 D3 D4
   cases k2 : depOk x.rels d with
   | false =>
     have HF := Lib.hid (show trigOk x d b = false by unfold trigOk; rw [k1,k2]; rfl)
     have hvd := HVD.out false k2 w1 hw1
     clear k1 k2
     go_wp2_with (go_at_call 39; refine hvd.mono ?_; rintro e w2 ⟨rfl,hb2⟩)
     go_ret
     exact ⟨ret_bool HF.out.symm,hw1.trans (hb2.mono hw1.size)⟩
   | true =>
     have hvd := HVD.out true k2 w1 hw1
     by_cases hb5 : b.length = 5
     · have d5 : ((b.length : Int) != 5) = false := by rw [hb5]; rfl
       have HT := Lib.hid (show trigOk x d b = (bindsOk b (varsOf d.body) && d.body.all (instIn x b)) by unfold trigOk; rw [k1,k2,decide_eq_true hb5]; rfl)
       have hbs : AtomS_sz d.body ≤ 1048576 := by unfold Dependency_sz at hn; omega
       have HV := Lib.hid (fun (W : World) (hW : Below w.heap.size w W) => specVariables_any (.slice R d.body.length q) d.body W ((HBD.out.below hW (Nat.le_refl _)).more hW.size) hbs)
       have HSZ := Lib.hid (show ∀ (i : Nat) (hi : i < d.body.length),Atom_sz d.body[i] ≤ 1048576 from fun i hi => by
        have h1 := avals_le d.body i hi
        unfold AtomS_sz at hbs
        unfold Atom_sz
        omega)
       clear k1 k2 hb5 hbs hn
       go_wp2_with (go_at_call 39; refine hvd.mono ?_; clear hvd; rintro e w2 ⟨rfl,hb2⟩; have hb12 : Below E.heap.size E w2 := hb1.trans (hb2.mono hb1.size); have hw2 := hw1.trans (hb2.mono hw1.size); have z0 := (hb12.cell (p := ⟨w.heap.size + 1,0,none⟩) hz1).trans D0)
       have hv2 := HV.out w2 hw2
       clear x0 y0 y1 y2 y3 y4 d5
       refine hv2.mono ?_
       rintro e w3 ⟨vv,rfl,hO3,hb3⟩
       have hb13 : Below E.heap.size E w3 := hb12.trans (hb3.mono hb12.size)
       have hw3 := hw2.trans (hb3.mono hw2.size)
       obtain ⟨U,uc,rfl,-⟩ := id hO3.at_
       have HO3 := Lib.hid hO3.at_
       clear hv2 hO3 z0
       go_wp2
       go_loopw [8] (fun i wr => ∃ k : Nat,k ≤ b.length ∧ i = .int .i64 k ∧ Hid (∀ j,j < k → (decide ((j : Int) ∈ varsOf d.body) != decide (b.getD j 0 = 10)) = true) ∧ Below w3.heap.size w3 wr) (fun i _ => b.length - (intOf i).toNat)
       case atStart => exact ⟨0,by omega,rfl,Lib.hid (fun j hj => by omega),Below.refl _ _⟩
       case round =>
        obtain ⟨k,hk,rfl,HTo,hW⟩ := hrel
        have hzr := hW.size
        have hWw := hw3.trans (hW.mono hw3.size)
        have hWE : Below E.heap.size E wr := hb13.trans (hW.mono hb13.size)
        by_cases hlt : k < b.length
        · obtain ⟨p0,off,e9,hp0,c0⟩ := IntsAt.elem HB.out k hlt
          subst e9
          replace c0 := (hWw.cell (p := ⟨p0,off + k,none⟩) hp0).trans c0
          have hgd : b.getD k 0 = b[k] := by simp [List.getD,hlt]
          obtain ⟨z,hz⟩ : ∃ z,z = b[k] := ⟨_,rfl⟩
          rw [← hz] at c0 hgd
          clear hz
          have G1 := Aft.cell (B := wr.heap.size) (Nat.lt_of_lt_of_le hp0 hWw.size) c0
          have hhas := fun (bb : Bool) (hq : decide ((k : Int) ∈ varsOf d.body) = bb) (u : Aft wr.heap.size wr) => specHas_at (.slice U (varsOf d.body).length uc) (varsOf d.body) (k : Int) bb hq u.now ((HO3.out.below (hW.trans (u.is.mono hzr)) (Nat.le_refl _)).more (Nat.le_trans hzr u.is.size))
          clear c0
          cases hin : decide ((k : Int) ∈ varsOf d.body) with
          | true =>
            replace hhas := hhas true hin
            by_cases h10 : z = 10
            · have d1' : (z == 10) = true := by rw [h10]; rfl
              have HF := Lib.hid (show trigOk x d b = false by rw [HT.out,bindsOk_no k hlt (by rw [hin,hgd,decide_eq_true h10]; rfl)]; rfl)
              clear h10 hgd hin
              go_wp2
              refine wp_region_aft (Below.refl wr.heap.size wr) (by kernel_rfl) (by kernel_rfl) ?_
              repeat (go_big_quiet_step (first | (go_at_call 82; exact calls_aft_same (hhas _)) | (go_at_call 154; exact calls_aft_same (specL11None_c _))))
              refine wpQuiet_nil ?_
              refine aft_end ?_
              intro w4 hh
              go_wp2
              go_ret
              exact ⟨ret_bool HF.out.symm,hWw.trans (hh.mono hWw.size)⟩
            · have d1' : (z == 10) = false := beq_eq_false_iff_ne.2 h10
              have HN := Lib.hid (binds_next HTo.out (by rw [hin,hgd,decide_eq_false h10]; rfl))
              clear h10 hgd hin
              go_wp2
              refine wp_region_aft (Below.refl wr.heap.size wr) (by kernel_rfl) (by kernel_rfl) ?_
              repeat (go_big_quiet_step (first | (go_at_call 82; exact calls_aft_same (hhas _)) | (go_at_call 154; exact calls_aft_same (specL11None_c _))))
              refine wpQuiet_nil ?_
              refine aft_end ?_
              intro w4 hh
              go_wp2
              go_roundw
              case rel => exact ⟨k + 1,by omega,by go_num,HN,hW.trans (hh.mono hzr)⟩
              case measure => simp [intOf]; omega
          | false =>
            replace hhas := hhas false hin
            by_cases h10 : z = 10
            · have d1' : (z == 10) = true := by rw [h10]; rfl
              have HN := Lib.hid (binds_next HTo.out (by rw [hin,hgd,decide_eq_true h10]; rfl))
              clear h10 hgd hin
              go_wp2
              refine wp_region_aft (Below.refl wr.heap.size wr) (by kernel_rfl) (by kernel_rfl) ?_
              repeat (go_big_quiet_step (first | (go_at_call 82; exact calls_aft_same (hhas _)) | (go_at_call 154; exact calls_aft_same (specL11None_c _))))
              refine wpQuiet_nil ?_
              refine aft_end ?_
              intro w4 hh
              go_wp2
              go_roundw
              case rel => exact ⟨k + 1,by omega,by go_num,HN,hW.trans (hh.mono hzr)⟩
              case measure => simp [intOf]; omega
            · have d1' : (z == 10) = false := beq_eq_false_iff_ne.2 h10
              have HF := Lib.hid (show trigOk x d b = false by rw [HT.out,bindsOk_no k hlt (by rw [hin,hgd,decide_eq_false h10]; rfl)]; rfl)
              clear h10 hgd hin
              go_wp2
              refine wp_region_aft (Below.refl wr.heap.size wr) (by kernel_rfl) (by kernel_rfl) ?_
              repeat (go_big_quiet_step (first | (go_at_call 82; exact calls_aft_same (hhas _)) | (go_at_call 154; exact calls_aft_same (specL11None_c _))))
              refine wpQuiet_nil ?_
              refine aft_end ?_
              intro w4 hh
              go_wp2
              go_ret
              exact ⟨ret_bool HF.out.symm,hWw.trans (hh.mono hWw.size)⟩
        · obtain rfl : k = b.length := by omega
          have HT2 := Lib.hid (show trigOk x d b = d.body.all (instIn x b) by rw [HT.out,bindsOk_yes HTo.out]; rfl)
          have HWE := Lib.hid hWE
          clear hWw hW hzr HTo
          go_wp2
          go_loopw [9] (fun i wq => ∃ k : Nat,k ≤ d.body.length ∧ i = .int .i64 k ∧ Hid (AllTo (instIn x b) d.body k) ∧ Hid (Below E.heap.size E wq)) (fun i _ => d.body.length - (intOf i).toNat)
          case atStart => exact ⟨0,by omega,rfl,Lib.hid (AllTo.zero _ _),HWE⟩
          case round =>
           obtain ⟨i,hi,rfl,HA,HQ⟩ := hrel
           have hQz := HQ.out.size
           have hWq := hE.trans (HQ.out.mono hE.size)
           have z0 := (HQ.out.cell (p := ⟨w.heap.size + 1,0,none⟩) hz1).trans D0
           by_cases hlt2 : i < d.body.length
           · obtain ⟨p0,off,V,rfl,hp0,c0,c1,hV⟩ := AtomS_at.elem HBD.out i hlt2
             replace c0 := (hWq.cell (p := ⟨p0,off + i * 2,none⟩) hp0).trans c0
             replace c1 := (hWq.cell (p := ⟨p0,off + i * 2 + 1,none⟩) hp0).trans c1
             obtain ⟨PV,cV,rfl,-⟩ := id hV
             have hin := specInstantiate_any (.agg #[.int .i64 d.body[i].rel,.slice PV d.body[i].vals.length cV]) d.body[i] (.slice T b.length tc) b wr ⟨_,rfl,(hV.below hWq (Nat.le_refl _)).more hWq.size⟩ (hdw.1 i hlt2) (HSZ.out i hlt2) ((HB.out.below hWq (Nat.le_refl _)).more hWq.size) hbw
             clear hV
             cases hok : Instantiate_ok d.body[i] b with
             | false =>
               have HF := Lib.hid (show trigOk x d b = false by rw [HT2.out]; exact all_no hlt2 (instIn_no hok))
               rw [hok] at hin
               clear hok
               go_wp2_with fail
               refine hin.mono ?_
               rintro e w5 ⟨VR,rfl,hOR,hb5⟩
               obtain ⟨PR,cR,rfl,-⟩ := id hOR.at_
               clear hin c0 c1 z0
               go_wp2
               go_ret
               exact ⟨ret_bool HF.out.symm,hWq.trans ((hb5.mono hWq.size).alloc (Nat.le_trans hWq.size hb5.size) _)⟩
             | true =>
               have hyes := instIn_yes (x := x) hok
               rw [hok] at hin
               clear hok
               go_upto_region 13 with (go_at_call 155; refine hin.mono ?_; clear hin; rintro e w5 ⟨VR,rfl,hOR,hb5⟩; obtain ⟨PR,cR,rfl,-⟩ := id hOR.at_)
               obtain ⟨f,hf⟩ : ∃ f,f = Instantiate_r0 d.body[i] b := ⟨_,rfl⟩
               rw [← hf] at hyes hOR ⊢
               clear hf
               obtain ⟨W6,e6⟩ : ∃ W6,W6 = w5.alloc (.cells #[.int .i64 f.rel,.slice PR f.vals.length cR] 66) := ⟨_,rfl⟩
               have hb6 : Below w5.heap.size w5 W6 := by rw [e6]; exact (Below.refl _ _).alloc (Nat.le_refl _) _
               have hE6 : Below E.heap.size E W6 := HQ.out.trans ((hb5.mono hQz).trans (hb6.mono (Nat.le_trans hQz hb5.size)))
               have hw6 := hE.trans (hE6.mono hE.size)
               have x0 := (hE6.cell (p := ⟨w.heap.size,0,none⟩) hz0).trans X0
               have x1 := (hE6.cell (p := ⟨w.heap.size,1,none⟩) hz0).trans X1
               have f0 : W6.cell? ⟨w5.heap.size,0,none⟩ = some (.int .i64 f.rel) := by rw [e6]; simp [go_sem]
               have f1 : W6.cell? ⟨w5.heap.size,1,none⟩ = some (.slice PR f.vals.length cR) := by rw [e6]; simp [go_sem]
               rw [← e6]
               have hpl := specL5Place_any _ (.agg #[.int .i64 f.rel,.slice PR f.vals.length cR]) x f W6 ((HX.out.below hw6 (Nat.le_refl _)).more hw6.size) ⟨_,rfl,(hOR.at_.below hb6 (Nat.le_refl _)).more hb6.size⟩
               obtain ⟨z,hz⟩ : ∃ z,z = placeF f x.facts := ⟨_,rfl⟩
               rw [← hz] at hpl hyes
               clear hz e6 hb6 hb5 hOR
               by_cases hz : 0 ≤ z
               · have dz : decide (z < 0) = false := decide_eq_false (by omega)
                 have HN := Lib.hid (HA.out.next hlt2 (by rw [hyes]; exact decide_eq_true hz))
                 clear hz hyes
                 go_wp2_with (go_at_call 140; refine hpl.mono ?_; clear hpl; rintro e w7 ⟨rfl,hb7⟩)
                 go_roundw
                 case rel => exact ⟨i + 1,by omega,by go_num,HN,Lib.hid (hE6.trans (hb7.mono hE6.size))⟩
                 case measure => simp [intOf]; omega
               · have dz : decide (z < 0) = true := decide_eq_true (by omega)
                 have HF := Lib.hid (show trigOk x d b = false by rw [HT2.out]; exact all_no hlt2 (by rw [hyes]; exact decide_eq_false hz))
                 clear hz hyes
                 go_wp2_with (go_at_call 140; refine hpl.mono ?_; clear hpl; rintro e w7 ⟨rfl,hb7⟩)
                 go_ret
                 exact ⟨ret_bool HF.out.symm,hw6.trans (hb7.mono hw6.size)⟩
           · obtain rfl : i = d.body.length := by omega
             have HF := Lib.hid (show trigOk x d b = true by rw [HT2.out]; exact HA.out.full)
             go_wp2
             go_ret
             exact ⟨ret_bool HF.out.symm,hWq⟩
     · have d5 : ((b.length : Int) != 5) = true := bne_iff_ne.2 (by omega)
       have HF := Lib.hid (show trigOk x d b = false by unfold trigOk; rw [decide_eq_false hb5]; simp)
       clear k1 k2 hb5
       go_wp2_with (go_at_call 39; refine hvd.mono ?_; rintro e w2 ⟨rfl,hb2⟩)
       go_ret
       exact ⟨ret_bool HF.out.symm,hw1.trans (hb2.mono hw1.size)⟩
theorem active_egd {x : Inst} {d : Dep} {b : List Int} (h : trigOk x d b = true) (hg : d.egd = true) : activeOk x d b = decide (b.getD d.left.toNat 0 ≠ b.getD d.right.toNat 0) := by unfold activeOk; rw [h, if_pos hg]; rfl
theorem active_tgd {x : Inst} {d : Dep} {b : List Int} (h : trigOk x d b = true) (hg : d.egd = false) : activeOk x d b = !hasExt x d.head b := by unfold activeOk; rw [h, if_neg (by rw [hg]; simp)]; rfl
theorem active_off {x : Inst} {d : Dep} {b : List Int} (h : trigOk x d b = false) : activeOk x d b = false := by unfold activeOk; rw [h]; rfl
theorem trig_three {x : Inst} {d : Dep} {b : List Int} (h : trigOk x d b = true) : instOk x = true ∧ depOk x.rels d = true ∧ b.length = 5 := by
 unfold trigOk at h
 simp only [Bool.and_eq_true,decide_eq_true_eq] at h
 exact ⟨h.1,h.2.1,h.2.2.1⟩
set_option maxHeartbeats 3200000 in
set_option maxRecDepth 100000 in
theorem specIsActive_any (v u : Value) (x : Inst) (d : Dep) (bv : Value) (b : List Int) (w : World) (hx : Instance_at w w.heap.size v x) (hxw : Instance_wf x) (hxn : x.rels.length ≤ 1048576) (hd : Dependency_at w w.heap.size u d) (hdw : Dependency_wf d) (hn : Dependency_sz d ≤ 1048576) (hb : IntsAt w w.heap.size bv b) (hbw : IntsWf b) :
 Calls Tryz.prog 71 #[v,u,bv] w fun e w' => e = .returned (.bool (activeOk x d b)) ∧ Below w.heap.size w w' := by
 have HX := Lib.hid hx
 have HD := Lib.hid hd
 have HB := Lib.hid hb
 obtain ⟨P,c,Q,d1,rfl⟩ := Instance_form hx
 obtain ⟨R,q,S,t,rfl⟩ := Dependency_form hd
 have HH := Lib.hid (show AtomS_at w w.heap.size (.slice S d.head.length t) d.head by
  obtain ⟨V1,V2,hv,h1,h2⟩ := hd
  simp only [Value.agg.injEq,Array.mk.injEq,List.cons.injEq,and_true] at hv
  obtain ⟨rfl,rfl⟩ := hv
  exact h2)
 obtain ⟨T,tc,rfl,ht1,ht2,-,-⟩ := id hb
 unfold maxLen at ht2
 clear hx hd hb
 obtain ⟨E,hEq⟩ : ∃ E,E = (w.alloc (.cells #[.slice P x.rels.length c,.slice Q x.facts.length d1] 27)).alloc (.cells #[.slice R d.body.length q,.slice S d.head.length t,.bool d.egd,.int .i64 d.left,.int .i64 d.right] 42) := ⟨_,rfl⟩
 have hE : Below w.heap.size w E := by rw [hEq]; exact below_more (below_more (Below.refl _ _) _) _
 have hEz : E.heap.size = w.heap.size + 2 := by rw [hEq]; simp
 have X0 : E.cell? ⟨w.heap.size,0,none⟩ = some (.slice P x.rels.length c) := by rw [hEq]; simp [go_sem]
 have X1 : E.cell? ⟨w.heap.size,1,none⟩ = some (.slice Q x.facts.length d1) := by rw [hEq]; simp [go_sem]
 have D1 : E.cell? ⟨w.heap.size + 1,1,none⟩ = some (.slice S d.head.length t) := by rw [hEq]; simp [go_sem]
 have D2 : E.cell? ⟨w.heap.size + 1,2,none⟩ = some (.bool d.egd) := by rw [hEq]; simp [go_sem]
 have D3 : E.cell? ⟨w.heap.size + 1,3,none⟩ = some (.int .i64 d.left) := by rw [hEq]; simp [go_sem]
 have D4 : E.cell? ⟨w.heap.size + 1,4,none⟩ = some (.int .i64 d.right) := by rw [hEq]; simp [go_sem]
 have htr := specIsTrigger_any _ _ x d (.slice T b.length tc) b E ((HX.out.below hE (Nat.le_refl _)).more hE.size) hxw hxn ((HD.out.below hE (Nat.le_refl _)).more hE.size) hdw hn ((HB.out.below hE (Nat.le_refl _)).more hE.size) hbw
 rw [hEq] at htr
 have hz0 : w.heap.size < E.heap.size := by omega
 have hz1 : w.heap.size + 1 < E.heap.size := by omega
 cases h1 : trigOk x d b with
 | false =>
   have HA := Lib.hid (active_off h1)
   rw [h1] at htr
   clear h1 D1 D2 D3 D4 X1 X0
   go_enter Tryz.func71,Tryz.ntmps71
   go_wp2_with (go_at_call 125; refine htr.mono ?_; rintro e w1 ⟨rfl,hb1⟩)
   rw [← hEq] at hb1
   go_ret
   exact ⟨ret_bool HA.out.symm,hE.trans (hb1.mono hE.size)⟩
 | true =>
   obtain ⟨p1,p2,p3⟩ := trig_three h1
   cases hg : d.egd with
   | true =>
     obtain ⟨⟨v1,v2⟩,v3,v4⟩ := depOk_vars p2 hg
     have HA := Lib.hid (active_egd h1 hg)
     obtain ⟨jl,hjl⟩ : ∃ j : Nat,d.left = (j : Int) := ⟨d.left.toNat,by omega⟩
     obtain ⟨jr,hjr⟩ : ∃ j : Nat,d.right = (j : Int) := ⟨d.right.toNat,by omega⟩
     rw [hjl,hjr] at HA
     have hl5 : jl < b.length := by omega
     have hr5 : jr < b.length := by omega
     have HV := Lib.hid (show (b[jl] != b[jr]) = activeOk x d b by
      rw [HA.out]
      have e1 : b.getD (jl : Int).toNat 0 = b[jl] := by simp [List.getD,hl5]
      have e2 : b.getD (jr : Int).toNat 0 = b[jr] := by simp [List.getD,hr5]
      rw [Bool.eq_iff_iff,bne_iff_ne,decide_eq_true_iff,e1,e2])
     obtain ⟨q0,off,e9,hq0,k1⟩ := IntsAt.elem HB.out jl hl5
     subst e9
     obtain ⟨q',off',e9,-,k2⟩ := IntsAt.elem HB.out jr hr5
     cases e9
     rw [h1] at htr
     rw [hjl] at D3
     rw [hjr] at D4
     rw [hg] at D2
     rw [hg,hjl,hjr] at htr hEq
     rw [hjl,hjr]
     clear h1 p1 p2 p3 v1 v2 v3 v4 HA hjl hjr D1 X0 X1
     go_enter Tryz.func71,Tryz.ntmps71
     go_wp2_with fail
     refine htr.mono ?_
     rintro e w1 ⟨rfl,hb1⟩
     rw [← hEq] at hb1
     have hw1 := hE.trans (hb1.mono hE.size)
     have d2 := (hb1.cell (p := ⟨w.heap.size + 1,2,none⟩) hz1).trans D2
     clear htr hEq
     have hzw : w.heap.size + 1 < w1.heap.size := Nat.lt_of_lt_of_le hz1 hb1.size
     have G1 := Aft.cell (B := w1.heap.size) hzw ((hb1.cell (p := ⟨w.heap.size + 1,3,none⟩) hz1).trans D3)
     have G2 := Aft.cell (B := w1.heap.size) hzw ((hb1.cell (p := ⟨w.heap.size + 1,4,none⟩) hz1).trans D4)
     have G3 := Aft.cell (B := w1.heap.size) (Nat.lt_of_lt_of_le hq0 hw1.size) ((hw1.cell (p := ⟨q0,off + jl,none⟩) hq0).trans k1)
     have G4 := Aft.cell (B := w1.heap.size) (Nat.lt_of_lt_of_le hq0 hw1.size) ((hw1.cell (p := ⟨q0,off + jr,none⟩) hq0).trans k2)
     clear D2 D3 D4 k1 k2
     go_upto_region 4 with fail
     refine wp_region_aft (Below.refl w1.heap.size w1) (by kernel_rfl) (by kernel_rfl) ?_
     repeat (go_big_quiet_step (fail))
     refine wpQuiet_nil ?_
     refine aft_end ?_
     intro w2 hh2
     go_wp2
     go_ret
     exact ⟨ret_bool HV.out,hw1.trans (hh2.mono hw1.size)⟩
   | false =>
     have HA := Lib.hid (active_tgd h1 hg)
     rw [h1] at htr
     rw [hg] at D2 htr hEq
     have HHE := Lib.hid (fun (W : World) (hW : Below w.heap.size w W) => specHasExt_any _ (.slice S d.head.length t) x d.head (.slice T b.length tc) b W ((HX.out.below hW (Nat.le_refl _)).more hW.size) hxw hxn ((HH.out.below hW (Nat.le_refl _)).more hW.size) hdw.2.1 ((HB.out.below hW (Nat.le_refl _)).more hW.size))
     clear h1 p1 p2 p3 D3 D4
     go_enter Tryz.func71,Tryz.ntmps71
     go_wp2_with fail
     refine htr.mono ?_
     rintro e w1 ⟨rfl,hb1⟩
     rw [← hEq] at hb1
     have hw1 := hE.trans (hb1.mono hE.size)
     have x0 := (hb1.cell (p := ⟨w.heap.size,0,none⟩) hz0).trans X0
     have x1 := (hb1.cell (p := ⟨w.heap.size,1,none⟩) hz0).trans X1
     have d1' := (hb1.cell (p := ⟨w.heap.size + 1,1,none⟩) hz1).trans D1
     have d2 := (hb1.cell (p := ⟨w.heap.size + 1,2,none⟩) hz1).trans D2
     have hh := HHE.out w1 hw1
     clear htr hEq D1 D2 X0 X1
     go_wp2_with (go_at_call 126; refine hh.mono ?_; rintro e w2 ⟨rfl,hb2⟩)
     go_ret
     exact ⟨ret_bool HA.out.symm,hw1.trans (hb2.mono hw1.size)⟩
end Go.Proofs.YtobdijcnfmgidaaGreat
