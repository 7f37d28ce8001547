/- Walks and plain lemmas for the laws of this seat. -/
import Derived.Deep.Quiet
import Derived.Test.YtobdijcnfmgidaaGreatBase
import Derived.Test.YtobdijcnfmgidaaGreatInts
import Derived.Test.YtobdijcnfmgidaaGreatDraw
import Derived.Test.YtobdijcnfmgidaaGreatPlan
import Derived.Test.YtobdijcnfmgidaaGreatAft
import Derived.Test.YtobdijcnfmgidaaGreatInstR
import Derived.Test.YtobdijcnfmgidaaGreatDepsV
import Derived.Test.YtobdijcnfmgidaaGreatInstEqS
import Derived.Test.YtobdijcnfmgidaaGreatDelF
namespace Go.Proofs.YtobdijcnfmgidaaGreat
open Go.RowKit
set_option maxHeartbeats 1600000 in
set_option maxRecDepth 100000 in
theorem implEqualRels_at (l m : List Rel) (q : Bool) (hq : decide (l = m) = q) (v u : Value) (w : World) (hl : RelsAt w w.heap.size v l) (hm : RelsAt w w.heap.size u m) :
 Calls Tryz.prog 97 #[v,u] w fun e w' => e = .returned (.bool q) ∧ Below w.heap.size w w' := by
 subst hq
 have HL := Lib.hid hl
 have HM := Lib.hid hm
 obtain ⟨A,c,rfl,hlc,hcm,-⟩ := hl
 obtain ⟨A',c',rfl,hlc',hcm',-⟩ := hm
 unfold maxLen at hcm hcm'
 by_cases hn : l.length = m.length
 · have hnb : ((l.length : Int) != (m.length : Int)) = false := by rw [hn]; simp
   have HN := Lib.hid hn
   clear hn
   go_enter Tryz.func97,Tryz.ntmps97
   go_wp2
   go_loopw [13] (fun i wr => ∃ k : Nat,k ≤ l.length ∧ i = .int .i64 k ∧ Hid (l.take k = m.take k) ∧ Below w.heap.size w wr) (fun i _ => l.length - (intOf i).toNat)
   case atStart => exact ⟨0,by omega,rfl,Lib.hid (by simp),Below.refl _ _⟩
   case round =>
    obtain ⟨k,hk,rfl,HT,hW⟩ := hrel
    have hz := hW.size
    by_cases hlt : k < l.length
    · have hlt' : k < m.length := by have := HN.out; omega
      obtain ⟨b,off,rfl,hb,c0,c1,c2⟩ := RelsAt.elem HL.out k hlt
      obtain ⟨b',off',rfl,hb',d0,d1,d2⟩ := RelsAt.elem HM.out k hlt'
      have HE := Lib.hid (take_eq_next l m k hlt hlt')
      have HF := Lib.hid (fun h => take_eq_not l m k hlt hlt' h)
      generalize l[k] = r at *
      generalize m[k] = r' at *
      have C0 := Aft.cell hb c0
      have C1 := Aft.cell hb c1
      have C2 := Aft.cell hb c2
      have D0 := Aft.cell hb' d0
      have D1 := Aft.cell hb' d1
      have D2 := Aft.cell hb' d2
      clear c0 c1 c2 d0 d1 d2
      cases hd : decide (r = r') with
      | true =>
        have HE' := Lib.hid (HE.out (of_decide_eq_true hd) HT.out)
        go_wp2
        refine wp_region_aft hW (by kernel_rfl) (by kernel_rfl) ?_
        repeat (go_big_quiet_step (fail))
        go_big_quiet_want
        refine quiet_neq_rel r r' _ _ _ rfl rfl rfl true hd ?_
        go_big_quiet_on
        refine wpQuiet_nil ?_
        refine aft_end ?_
        intro w1 hh
        go_wp2
        go_roundw
        case rel => exact ⟨k + 1,by omega,by go_num,HE',hh⟩
        case measure => simp [intOf]; omega
      | false =>
        have HE' := Lib.hid (decide_eq_false (HF.out (of_decide_eq_false hd)))
        go_wp2
        refine wp_region_aft hW (by kernel_rfl) (by kernel_rfl) ?_
        repeat (go_big_quiet_step (fail))
        go_big_quiet_want
        refine quiet_neq_rel r r' _ _ _ rfl rfl rfl false hd ?_
        go_big_quiet_on
        refine wpQuiet_nil ?_
        refine aft_end ?_
        intro w1 hh
        go_wp2
        go_ret
        exact ⟨by rw [HE'.out]; rfl,hh⟩
    · obtain rfl : k = l.length := by omega
      have HE' := Lib.hid (decide_eq_true (show l = m by have := HT.out; rwa [List.take_of_length_le (Nat.le_refl _),List.take_of_length_le (by rw [HN.out]; exact Nat.le_refl _)] at this))
      go_wp2
      go_ret
      exact ⟨by rw [HE'.out]; rfl,hW⟩
 · have hnb : ((l.length : Int) != (m.length : Int)) = true := by rw [bne_iff_ne]; omega
   have HE' := Lib.hid (decide_eq_false (show ¬ l = m by rintro rfl; exact hn rfl))
   clear hn
   go_enter Tryz.func97,Tryz.ntmps97
   go_wp2
   go_ret
   exact ⟨by rw [HE'.out]; rfl,Below.refl _ _⟩
set_option maxHeartbeats 1600000 in
set_option maxRecDepth 100000 in
theorem implEqualFacts_at (l m : List Fct) (q : Bool) (hq : decide (l = m) = q) (v u : Value) (w : World) (hl : FactS_at w w.heap.size v l) (hm : FactS_at w w.heap.size u m) :
 Calls Tryz.prog 98 #[v,u,.func (.func 99) #[] #[]] w fun e w' => e = .returned (.bool q) ∧ Below w.heap.size w w' := by
 subst hq
 have HL := Lib.hid hl
 have HM := Lib.hid hm
 obtain ⟨A,c,rfl,hlc,hcm⟩ := hl.form
 obtain ⟨A',c',rfl,hlc',hcm'⟩ := hm.form
 unfold maxLen at hcm hcm'
 clear hl hm
 have eg : ∀ args w,(callFunc 99 args).run Tryz.prog w = .ok (.enter 99 args) w := enters_of Tryz.func99 (by kernel_rfl) rfl
 by_cases hn : l.length = m.length
 · have hnb : ((l.length : Int) != (m.length : Int)) = false := by rw [hn]; simp
   have HN := Lib.hid hn
   clear hn
   go_enter Tryz.func98,Tryz.ntmps98
   go_wp2
   go_loopw [17] (fun i wr => ∃ k : Nat,k ≤ l.length ∧ i = .int .i64 k ∧ Hid (l.take k = m.take k) ∧ Below w.heap.size w wr) (fun i _ => l.length - (intOf i).toNat)
   case atStart => exact ⟨0,by omega,rfl,Lib.hid (by simp),Below.refl _ _⟩
   case round =>
    obtain ⟨k,hk,rfl,HT,hW⟩ := hrel
    have hz := hW.size
    by_cases hlt : k < l.length
    · have hlt' : k < m.length := by have := HN.out; omega
      obtain ⟨b,off,V,rfl,hb,c0,c1,hV⟩ := FactS_at.elem HL.out k hlt
      obtain ⟨b',off',U,rfl,hb',d0,d1,hU⟩ := FactS_at.elem HM.out k hlt'
      obtain ⟨PV,cV,rfl,-⟩ := id hV
      obtain ⟨PU,cU,rfl,-⟩ := id hU
      replace c0 := (hW.cell (p := ⟨b,off + k * 2,none⟩) hb).trans c0
      replace c1 := (hW.cell (p := ⟨b,off + k * 2 + 1,none⟩) hb).trans c1
      replace d0 := ((hW.trans ((below_more (Below.refl wr.heap.size wr) (.cells #[.int .i64 l[k].rel,.slice PV l[k].vals.length cV] 66)).mono hz)).cell (p := ⟨b',off' + k * 2,none⟩) hb').trans d0
      replace d1 := ((hW.trans ((below_more (Below.refl wr.heap.size wr) (.cells #[.int .i64 l[k].rel,.slice PV l[k].vals.length cV] 66)).mono hz)).cell (p := ⟨b',off' + k * 2 + 1,none⟩) hb').trans d1
      have HE := Lib.hid (take_eq_next l m k hlt hlt')
      have HF := Lib.hid (fun h => take_eq_not l m k hlt hlt' h)
      have hcon := fun (q : Bool) (hq : sameP m[k] l[k] = q) (W : World) (hb : Below wr.heap.size wr W) => implSameFacts_at l[k] m[k] q hq (.agg #[.int .i64 l[k].rel,.slice PV l[k].vals.length cV]) (.agg #[.int .i64 m[k].rel,.slice PU m[k].vals.length cU]) W ⟨_,rfl,((hV.later hW).later hb)⟩ ⟨_,rfl,((hU.later hW).later hb)⟩
      cases hd : sameP m[k] l[k] with
      | true =>
        have HE' := Lib.hid (HE.out (of_decide_eq_true hd) HT.out)
        replace hcon := hcon true hd
        clear hd hV hU
        go_wp2_with fail
        refine (hcon _ (below_more (below_more (Below.refl _ _) _) _)).mono ?_
        rintro e w2 ⟨rfl,hb2⟩
        have hb3 : Below wr.heap.size wr w2 := (below_more (below_more (Below.refl _ _) _) _).trans (hb2.mono (by simp; omega))
        go_wp2
        go_roundw
        case rel => exact ⟨k + 1,by omega,by go_num,HE',hW.trans (hb3.mono hz)⟩
        case measure => simp [intOf]; omega
      | false =>
        have HE' := Lib.hid (decide_eq_false (HF.out (of_decide_eq_false hd)))
        replace hcon := hcon false hd
        clear hd hV hU
        go_wp2_with fail
        refine (hcon _ (below_more (below_more (Below.refl _ _) _) _)).mono ?_
        rintro e w2 ⟨rfl,hb2⟩
        have hb3 : Below wr.heap.size wr w2 := (below_more (below_more (Below.refl _ _) _) _).trans (hb2.mono (by simp; omega))
        go_wp2
        go_ret
        exact ⟨ret_bool HE'.out.symm,hW.trans (hb3.mono hz)⟩
    · obtain rfl : k = l.length := by omega
      have HE' := Lib.hid (decide_eq_true (show l = m by have := HT.out; rwa [List.take_of_length_le (Nat.le_refl _),List.take_of_length_le (by rw [HN.out]; exact Nat.le_refl _)] at this))
      go_wp2
      go_ret
      exact ⟨ret_bool HE'.out.symm,hW⟩
 · have hnb : ((l.length : Int) != (m.length : Int)) = true := by rw [bne_iff_ne]; omega
   have HE' := Lib.hid (decide_eq_false (show ¬ l = m by rintro rfl; exact hn rfl))
   clear hn
   go_enter Tryz.func98,Tryz.ntmps98
   go_wp2
   go_ret
   exact ⟨ret_bool HE'.out.symm,Below.refl _ _⟩
set_option maxHeartbeats 1600000 in
set_option maxRecDepth 100000 in
theorem implEqualInstances_any (v u : Value) (x y : Inst) (w : World) (h : Instance_at w w.heap.size v x) (h' : Instance_at w w.heap.size u y) :
 Calls Tryz.prog 48 #[v,u] w fun e w' => e = .returned (.bool (eqInst x y)) ∧ Below w.heap.size w w' := by
 obtain ⟨P,c,Q,d,rfl⟩ := Instance_form h
 obtain ⟨P',c',Q',d',rfl⟩ := Instance_form h'
 obtain ⟨V1,V2,hv,hR,hF⟩ := h
 obtain ⟨U1,U2,hu,hR',hF'⟩ := h'
 simp only [Value.agg.injEq,Array.mk.injEq,List.cons.injEq,and_true] at hv hu
 obtain ⟨rfl,rfl⟩ := hv
 obtain ⟨rfl,rfl⟩ := hu
 have HF := Lib.hid hF
 have HF' := Lib.hid hF'
 have HR := Lib.hid hR
 have HR' := Lib.hid hR'
 clear hR hF hR' hF'
 obtain ⟨E,hEq⟩ : ∃ E,E = ((w.alloc (.cells #[.slice P x.rels.length c,.slice Q x.facts.length d] 27)).alloc (.cells #[.slice P' y.rels.length c',.slice Q' y.facts.length d'] 27)) := ⟨_,rfl⟩
 have hE : Below w.heap.size w E := by rw [hEq]; exact below_more (below_more (Below.refl _ _) _) _
 have HE := Lib.hid (show w.heap.size + 2 = E.heap.size by rw [hEq]; simp)
 have K1 := Lib.hid (show E.cell? ⟨w.heap.size,1,none⟩ = some (.slice Q x.facts.length d) by rw [hEq]; simp [go_sem])
 have L1 := Lib.hid (show E.cell? ⟨w.heap.size + 1,1,none⟩ = some (.slice Q' y.facts.length d') by rw [hEq]; simp [go_sem])
 have hrl := fun (q : Bool) (hq : decide (x.rels = y.rels) = q) => implEqualRels_at x.rels y.rels q hq (.slice P x.rels.length c) (.slice P' y.rels.length c') E ((HR.out.below hE (Nat.le_refl _)).more hE.size) ((HR'.out.below hE (Nat.le_refl _)).more hE.size)
 rw [hEq] at hrl
 cases hd : decide (x.rels = y.rels) with
 | false =>
   have HV := Lib.hid (show eqInst x y = false by unfold eqInst; rw [hd]; rfl)
   replace hrl := hrl false hd
   clear hd
   go_enter Tryz.func48,Tryz.ntmps48
   go_wp2_with (go_at_call 97; refine hrl.mono ?_; rintro e w1 ⟨rfl,hb1⟩)
   rw [← hEq] at hb1
   go_ret
   exact ⟨ret_bool HV.out.symm,hE.trans (hb1.mono hE.size)⟩
 | true =>
   have HV := Lib.hid (show eqInst x y = decide (x.facts = y.facts) by unfold eqInst; rw [hd]; rfl)
   replace hrl := hrl true hd
   have hfl := fun (W : World) (hb : Below w.heap.size w W) => implEqualFacts_at x.facts y.facts _ rfl (.slice Q x.facts.length d) (.slice Q' y.facts.length d') W (HF.out.later hb) (HF'.out.later hb)
   clear hd
   go_enter Tryz.func48,Tryz.ntmps48
   go_wp2_with fail
   refine hrl.mono ?_
   rintro e w1 ⟨rfl,hb1⟩
   rw [← hEq] at hb1
   have hW1 := hE.trans (hb1.mono hE.size)
   have f1 := (hb1.cell (p := ⟨w.heap.size,1,none⟩) (by show w.heap.size < _; have := HE.out; omega)).trans K1.out
   have g1 := (hb1.cell (p := ⟨w.heap.size + 1,1,none⟩) (by show w.heap.size + 1 < _; have := HE.out; omega)).trans L1.out
   replace hfl := hfl w1 hW1
   clear hrl hEq
   go_wp2_with (go_at_call 98; refine hfl.mono ?_; rintro e w2 ⟨rfl,hb2⟩)
   go_ret
   exact ⟨ret_bool HV.out.symm,hW1.trans (hb2.mono hW1.size)⟩
set_option maxHeartbeats 3200000 in
set_option maxRecDepth 100000 in
theorem implSol_any (t v u : Value) (s x : Inst) (l : List Dep) (w : World) (hs : Instance_at w w.heap.size t s) (hsw : Instance_wf s) (hsn : Instance_sz s ≤ 1048576) (hx : Instance_at w w.heap.size v x) (hxw : Instance_wf x) (hxn : Instance_sz x ≤ 1048576) (hd : DependencyS_at w w.heap.size u l) (hdw : DependencyS_wf l) (hn : DependencyS_sz l ≤ 1048576) :
 Calls Tryz.prog 18 #[t,v,u] w fun e w' => e = .returned (.bool (solM s x l)) ∧ Below w.heap.size w w' := by
 have HS := Lib.hid hs
 have HX := Lib.hid hx
 have HD := Lib.hid hd
 obtain ⟨P',c',Q',d1',rfl⟩ := Instance_form hs
 obtain ⟨P,c,Q,d1,rfl⟩ := Instance_form hx
 obtain ⟨A,c0,rfl,hc1,hc2⟩ := hd.form
 unfold maxLen at hc2
 clear hs hx hd
 obtain ⟨E,hEq⟩ : ∃ E,E = (w.alloc (.cells #[.slice P' s.rels.length c',.slice Q' s.facts.length d1'] 27)).alloc (.cells #[.slice P x.rels.length c,.slice Q x.facts.length d1] 27) := ⟨_,rfl⟩
 have hE : Below w.heap.size w E := by rw [hEq]; exact below_more (below_more (Below.refl _ _) _) _
 have hzE : w.heap.size + 1 < E.heap.size := by rw [hEq]; simp
 have hzE0 : w.heap.size < E.heap.size := by omega
 have S0 := Lib.hid (show E.cell? ⟨w.heap.size,0,none⟩ = some (.slice P' s.rels.length c') by rw [hEq]; simp [go_sem])
 have S1 := Lib.hid (show E.cell? ⟨w.heap.size,1,none⟩ = some (.slice Q' s.facts.length d1') by rw [hEq]; simp [go_sem])
 have X0 := Lib.hid (show E.cell? ⟨w.heap.size + 1,0,none⟩ = some (.slice P x.rels.length c) by rw [hEq]; simp [go_sem])
 have X1 := Lib.hid (show E.cell? ⟨w.heap.size + 1,1,none⟩ = some (.slice Q x.facts.length d1) by rw [hEq]; simp [go_sem])
 have HE := Lib.hid hE
 have hvi := implIsValidInstance_at s _ rfl (.agg #[.slice P' s.rels.length c',.slice Q' s.facts.length d1']) E ((HS.out.below hE (Nat.le_refl _)).more hE.size) hsw
 have HSA := Lib.hid (fun (W : World) (hW : Below w.heap.size w W) => implSat_any (.agg #[.slice P x.rels.length c,.slice Q x.facts.length d1]) (.slice A l.length c0) x l W ((HX.out.below hW (Nat.le_refl _)).more hW.size) hxw ((HD.out.below hW (Nat.le_refl _)).more hW.size) hdw hn)
 have HRS := Lib.hid (fun (W : World) (hW : Below w.heap.size w W) => implRestrict_any (.agg #[.slice P' s.rels.length c',.slice Q' s.facts.length d1']) s true W ((HS.out.below hW (Nat.le_refl _)).more hW.size) hsw hsn)
 have HRX := Lib.hid (fun (W : World) (hW : Below w.heap.size w W) => implRestrict_any (.agg #[.slice P x.rels.length c,.slice Q x.facts.length d1]) x true W ((HX.out.below hW (Nat.le_refl _)).more hW.size) hxw hxn)
 have HNO := Lib.hid (show instOk s = false → solM s x l = false from fun h => by unfold solM; rw [h]; simp)
 have HNO2 := Lib.hid (show satM x l = false → solM s x l = false from fun h => by unfold solM; rw [h]; rfl)
 have HOK := Lib.hid (show satM x l = true → instOk s = true → solM s x l = eqInst (restrictI s true) (restrictI x true) from fun h h2 => by unfold solM; rw [h,h2,eqInst_comm]; rfl)
 rw [hEq] at hvi
 clear hE
 cases k1 : instOk s with
 | false =>
   have HG := Lib.hid (HNO.out k1)
   rw [k1] at hvi
   clear k1
   go_enter Tryz.func18,Tryz.ntmps18
   go_wp2_with fail
   refine hvi.mono ?_
   rintro e w1 ⟨rfl,hb1⟩
   rw [← hEq] at hb1
   have HZ := Lib.hid (HE.out.trans (hb1.mono HE.out.size))
   go_wp2
   go_ret
   exact ⟨ret_bool HG.out.symm,HZ.out⟩
 | true =>
   rw [k1] at hvi
   cases k2 : satM x l with
   | false =>
     have HG := Lib.hid (HNO2.out k2)
     have HSA := Lib.hid (show ∀ W,Below w.heap.size w W → Calls Tryz.prog 11 #[(.agg #[.slice P x.rels.length c,.slice Q x.facts.length d1]),(.slice A l.length c0)] W fun e w' => e = .returned (.bool false) ∧ Below W.heap.size W w' from fun W hW => k2 ▸ HSA.out W hW)
     clear k1 k2
     go_enter Tryz.func18,Tryz.ntmps18
     go_wp2_with fail
     refine hvi.mono ?_
     rintro e w1 ⟨rfl,hb1⟩
     rw [← hEq] at hb1
     have HZ := Lib.hid (HE.out.trans (hb1.mono HE.out.size))
     have x0 := (hb1.cell (p := ⟨w.heap.size + 1,0,none⟩) hzE).trans X0.out
     have x1 := (hb1.cell (p := ⟨w.heap.size + 1,1,none⟩) hzE).trans X1.out
     clear hvi hEq hb1
     go_wp2_with fail
     refine (HSA.out _ HZ.out).mono ?_
     rintro e w2 ⟨rfl,hb2⟩
     have HZ2 := Lib.hid (HZ.out.trans (hb2.mono HZ.out.size))
     clear hb2 x0 x1
     go_wp2
     go_ret
     exact ⟨ret_bool HG.out.symm,HZ2.out⟩
   | true =>
     have HG := Lib.hid (HOK.out k2 k1)
     have HSA := Lib.hid (show ∀ W,Below w.heap.size w W → Calls Tryz.prog 11 #[(.agg #[.slice P x.rels.length c,.slice Q x.facts.length d1]),(.slice A l.length c0)] W fun e w' => e = .returned (.bool true) ∧ Below W.heap.size W w' from fun W hW => k2 ▸ HSA.out W hW)
     clear k1 k2
     go_enter Tryz.func18,Tryz.ntmps18
     go_wp2_with fail
     refine hvi.mono ?_
     rintro e w1 ⟨rfl,hb1⟩
     rw [← hEq] at hb1
     have HB1 := Lib.hid hb1
     have HZ := Lib.hid (HE.out.trans (hb1.mono HE.out.size))
     have x0 := (hb1.cell (p := ⟨w.heap.size + 1,0,none⟩) hzE).trans X0.out
     have x1 := (hb1.cell (p := ⟨w.heap.size + 1,1,none⟩) hzE).trans X1.out
     clear hvi hEq hb1
     go_wp2_with fail
     refine (HSA.out _ HZ.out).mono ?_
     rintro e w2 ⟨rfl,hb2⟩
     have HB2 := Lib.hid (HB1.out.trans (hb2.mono HB1.out.size))
     have HZ2 := Lib.hid (HZ.out.trans (hb2.mono HZ.out.size))
     have hz2 := HZ2.out.size
     clear hb2 x0 x1
     have hw0 : w.heap.size < w2.heap.size := Nat.lt_of_lt_of_le hzE0 HB2.out.size
     have hw1 : w.heap.size + 1 < w2.heap.size := Nat.lt_of_lt_of_le hzE HB2.out.size
     have G0 := Aft.cell (B := w2.heap.size) (w := w2) hw0 ((HB2.out.cell (p := ⟨w.heap.size,0,none⟩) hzE0).trans S0.out)
     have G1 := Aft.cell (B := w2.heap.size) (w := w2) hw0 ((HB2.out.cell (p := ⟨w.heap.size,1,none⟩) hzE0).trans S1.out)
     have G2 := Aft.cell (B := w2.heap.size) (w := w2) hw1 ((HB2.out.cell (p := ⟨w.heap.size + 1,0,none⟩) hzE).trans X0.out)
     have G3 := Aft.cell (B := w2.heap.size) (w := w2) hw1 ((HB2.out.cell (p := ⟨w.heap.size + 1,1,none⟩) hzE).trans X1.out)
     go_wp2_with fail
     have hb := (Below.refl w2.heap.size w2).drew
     refine wp_region_planL (C := fun w' => ∃ u : Aft w2.heap.size w2,w' = u.now) (.still 0 (.move true 1 (.still 2 (.move true 3 (.move true 4 (.still 5 .done) .none) .none)) .none)) (by kernel_rfl) (by kernel_rfl) (by kernel_rfl) (fun _ => ⟨⟨w2.drew,hb⟩,rfl⟩) ?_
     iterate 1
      refine plan_look _ rfl rfl ?_
      go_big_quiet_step (fail)
      refine wpQuiet_nil ?_
     refine plan_call _ 49 _ _ _ _ _ rfl _ Tryz.func49 (by kernel_rfl) (by kernel_rfl) ?_ True.intro
     refine (HRS.out _ (HZ2.out.trans (hb.mono hz2))).mono ?_
     rintro _ wn ⟨rs,rfl,hO1,hbn⟩
     have H1 := Lib.hid (hO1.at_ (Nat.le_refl _))
     clear hO1
     replace hb := hb.trans (hbn.mono hb.size)
     clear hbn
     refine ⟨_,rfl,fun _ => ⟨⟨_,hb⟩,rfl⟩,?_⟩
     refine plan_put ?_ (by simp only [Act.put,putA,putB,putC]; rfl)
     iterate 1
      refine plan_look _ rfl rfl ?_
      go_big_quiet_step (fail)
      refine wpQuiet_nil ?_
     refine plan_call _ 49 _ _ _ _ _ rfl _ Tryz.func49 (by kernel_rfl) (by kernel_rfl) ?_ True.intro
     refine (HRX.out _ (HZ2.out.trans (hb.mono hz2))).mono ?_
     rintro _ wn ⟨rx,rfl,hO2,hbn⟩
     have H2 := Lib.hid (hO2.at_ (Nat.le_refl _))
     have H1 := Lib.hid (H1.out.later hbn)
     clear hO2
     replace hb := hb.trans (hbn.mono hb.size)
     clear hbn
     refine ⟨_,rfl,fun _ => ⟨⟨_,hb⟩,rfl⟩,?_⟩
     refine plan_put ?_ (by simp only [Act.put,putA,putB,putC]; rfl)
     refine plan_call _ 48 _ _ _ _ _ rfl _ Tryz.func48 (by kernel_rfl) (by kernel_rfl) ?_ True.intro
     refine (implEqualInstances_any rs rx _ _ _ H1.out H2.out).mono ?_
     rintro _ wn ⟨rfl,hbn⟩
     replace hb := hb.trans (hbn.mono hb.size)
     clear hbn
     refine ⟨_,rfl,fun _ => ⟨⟨_,hb⟩,rfl⟩,?_⟩
     refine plan_put ?_ (by simp only [Act.put,putA,putB,putC]; rfl)
     iterate 1
      refine plan_look _ rfl rfl ?_
      go_big_quiet_step (fail)
      refine wpQuiet_nil ?_
     refine plan_done ?_
     clear G0 G1 G2 G3
     go_wp2
     go_ret
     exact ⟨ret_bool HG.out.symm,HZ2.out.trans (hb.mono hz2)⟩
set_option maxHeartbeats 3200000 in
set_option maxRecDepth 100000 in
theorem specSol_any (t v u : Value) (s x : Inst) (l : List Dep) (w : World) (hs : Instance_at w w.heap.size t s) (hsw : Instance_wf s) (hsn : Instance_sz s ≤ 1048576) (hx : Instance_at w w.heap.size v x) (hxw : Instance_wf x) (hxn : Instance_sz x ≤ 1048576) (hd : DependencyS_at w w.heap.size u l) (hdw : DependencyS_wf l) (hn : DependencyS_sz l ≤ 1048576) :
 Calls Tryz.prog 19 #[t,v,u] w fun e w' => e = .returned (.bool (solM s x l)) ∧ Below w.heap.size w w' := by
 have HS := Lib.hid hs
 have HX := Lib.hid hx
 have HD := Lib.hid hd
 obtain ⟨P',c',Q',d1',rfl⟩ := Instance_form hs
 obtain ⟨P,c,Q,d1,rfl⟩ := Instance_form hx
 obtain ⟨A,c0,rfl,hc1,hc2⟩ := hd.form
 unfold maxLen at hc2
 clear hs hx hd
 obtain ⟨E,hEq⟩ : ∃ E,E = (w.alloc (.cells #[.slice P' s.rels.length c',.slice Q' s.facts.length d1'] 27)).alloc (.cells #[.slice P x.rels.length c,.slice Q x.facts.length d1] 27) := ⟨_,rfl⟩
 have hE : Below w.heap.size w E := by rw [hEq]; exact below_more (below_more (Below.refl _ _) _) _
 have hzE : w.heap.size + 1 < E.heap.size := by rw [hEq]; simp
 have hzE0 : w.heap.size < E.heap.size := by omega
 have S0 := Lib.hid (show E.cell? ⟨w.heap.size,0,none⟩ = some (.slice P' s.rels.length c') by rw [hEq]; simp [go_sem])
 have S1 := Lib.hid (show E.cell? ⟨w.heap.size,1,none⟩ = some (.slice Q' s.facts.length d1') by rw [hEq]; simp [go_sem])
 have X0 := Lib.hid (show E.cell? ⟨w.heap.size + 1,0,none⟩ = some (.slice P x.rels.length c) by rw [hEq]; simp [go_sem])
 have X1 := Lib.hid (show E.cell? ⟨w.heap.size + 1,1,none⟩ = some (.slice Q x.facts.length d1) by rw [hEq]; simp [go_sem])
 have HE := Lib.hid hE
 have HVI := Lib.hid (fun (W : World) (hW : Below w.heap.size w W) => specIsValidInstance_any (.agg #[.slice P' s.rels.length c',.slice Q' s.facts.length d1']) s W ((HS.out.below hW (Nat.le_refl _)).more hW.size) hsw hsn)
 have HSA := Lib.hid (fun (W : World) (hW : Below w.heap.size w W) => specSat_any (.agg #[.slice P x.rels.length c,.slice Q x.facts.length d1]) (.slice A l.length c0) x l W ((HX.out.below hW (Nat.le_refl _)).more hW.size) hxw (by unfold Instance_sz RelationS_sz at hxn; omega) ((HD.out.below hW (Nat.le_refl _)).more hW.size) hdw hn)
 have HRS := Lib.hid (fun (W : World) (hW : Below w.heap.size w W) => specRestrict_any (.agg #[.slice P' s.rels.length c',.slice Q' s.facts.length d1']) s true W ((HS.out.below hW (Nat.le_refl _)).more hW.size) hsw hsn)
 have HRX := Lib.hid (fun (W : World) (hW : Below w.heap.size w W) => specRestrict_any (.agg #[.slice P x.rels.length c,.slice Q x.facts.length d1]) x true W ((HX.out.below hW (Nat.le_refl _)).more hW.size) hxw hxn)
 have HNO := Lib.hid (show instOk s = false → solM s x l = false from fun h => by unfold solM; rw [h]; simp)
 have HNO2 := Lib.hid (show satM x l = false → solM s x l = false from fun h => by unfold solM; rw [h]; rfl)
 have HOK := Lib.hid (show satM x l = true → instOk s = true → solM s x l = eqInst (restrictI x true) (restrictI s true) from fun h h2 => by unfold solM; rw [h,h2]; rfl)
 have G0 := Aft.cell (B := E.heap.size) (w := E) hzE0 S0.out
 have G1 := Aft.cell (B := E.heap.size) (w := E) hzE0 S1.out
 have G2 := Aft.cell (B := E.heap.size) (w := E) hzE X0.out
 have G3 := Aft.cell (B := E.heap.size) (w := E) hzE X1.out
 clear hE
 cases k1 : satM x l with
 | false =>
   have HG := Lib.hid (HNO2.out k1)
   have HSA := Lib.hid (show ∀ W,Below w.heap.size w W → Calls Tryz.prog 13 #[(.agg #[.slice P x.rels.length c,.slice Q x.facts.length d1]),(.slice A l.length c0)] W fun e w' => e = .returned (.bool false) ∧ Below W.heap.size W w' from fun W hW => k1 ▸ HSA.out W hW)
   clear k1
   go_enter Tryz.func19,Tryz.ntmps19
   go_wp2_with fail
   rw [← hEq]
   clear hEq
   have hb := (Below.refl E.heap.size E).drew
   refine wp_region_planL (C := fun w' => ∃ u : Aft E.heap.size E,w' = u.now) (.still 0 (.still 1 (.move true 2 (.still 3 (.still 4 (.move true 5 (.still 6 (.still 7 (.still 8 (.move true 9 (.still 10 (.move true 11 (.move true 12 (.still 13 (.still 14 .done)) .none) .none)) .none)))) .none))) .none))) (by kernel_rfl) (by kernel_rfl) (by kernel_rfl) (fun _ => ⟨⟨E.drew,hb⟩,rfl⟩) ?_
   iterate 2
    refine plan_look _ rfl rfl ?_
    go_big_quiet_step (fail)
    refine wpQuiet_nil ?_
   refine plan_call _ 13 _ _ _ _ _ rfl _ Tryz.func13 (by kernel_rfl) (by kernel_rfl) ?_ True.intro
   refine (HSA.out _ (HE.out.trans (hb.mono HE.out.size))).mono ?_
   rintro _ wn ⟨rfl,hbn⟩
   replace hb := hb.trans (hbn.mono hb.size)
   clear hbn
   refine ⟨_,rfl,fun _ => ⟨⟨_,hb⟩,rfl⟩,?_⟩
   refine plan_put ?_ (by simp only [Act.put,putA,putB,putC]; rfl)
   iterate 2
    refine plan_look _ rfl rfl ?_
    go_big_quiet_step (fail)
    refine wpQuiet_nil ?_
   refine plan_off _ rfl rfl rfl ?_ True.intro
   refine plan_put ?_ (by simp only [Act.put,putA,putB,putC]; rfl)
   iterate 3
    refine plan_look _ rfl rfl ?_
    go_big_quiet_step (fail)
    refine wpQuiet_nil ?_
   refine plan_off _ rfl rfl rfl ?_ True.intro
   refine plan_put ?_ (by simp only [Act.put,putA,putB,putC]; rfl)
   iterate 1
    refine plan_look _ rfl rfl ?_
    go_big_quiet_step (fail)
    refine wpQuiet_nil ?_
   refine plan_off _ rfl rfl rfl ?_ True.intro
   refine plan_put ?_ (by simp only [Act.put,putA,putB,putC]; rfl)
   refine plan_off _ rfl rfl rfl ?_ True.intro
   refine plan_put ?_ (by simp only [Act.put,putA,putB,putC]; rfl)
   iterate 2
    refine plan_look _ rfl rfl ?_
    go_big_quiet_step (fail)
    refine wpQuiet_nil ?_
   refine plan_done ?_
   clear G0 G1 G2 G3
   go_wp2
   go_ret
   exact ⟨ret_bool HG.out.symm,HE.out.trans (hb.mono HE.out.size)⟩
 | true =>
   have HSA := Lib.hid (show ∀ W,Below w.heap.size w W → Calls Tryz.prog 13 #[(.agg #[.slice P x.rels.length c,.slice Q x.facts.length d1]),(.slice A l.length c0)] W fun e w' => e = .returned (.bool true) ∧ Below W.heap.size W w' from fun W hW => k1 ▸ HSA.out W hW)
   cases k2 : instOk s with
   | false =>
     have HG := Lib.hid (HNO.out k2)
     have HVI := Lib.hid (show ∀ W,Below w.heap.size w W → Calls Tryz.prog 14 #[(.agg #[.slice P' s.rels.length c',.slice Q' s.facts.length d1'])] W fun e w' => e = .returned (.bool false) ∧ Below W.heap.size W w' from fun W hW => k2 ▸ HVI.out W hW)
     clear k1 k2
     go_enter Tryz.func19,Tryz.ntmps19
     go_wp2_with fail
     rw [← hEq]
     clear hEq
     have hb := (Below.refl E.heap.size E).drew
     refine wp_region_planL (C := fun w' => ∃ u : Aft E.heap.size E,w' = u.now) (.still 0 (.still 1 (.move true 2 (.still 3 (.still 4 (.move true 5 (.still 6 (.still 7 (.still 8 (.move true 9 (.still 10 (.move true 11 (.move true 12 (.still 13 (.still 14 .done)) .none) .none)) .none)))) .none))) .none))) (by kernel_rfl) (by kernel_rfl) (by kernel_rfl) (fun _ => ⟨⟨E.drew,hb⟩,rfl⟩) ?_
     iterate 2
      refine plan_look _ rfl rfl ?_
      go_big_quiet_step (fail)
      refine wpQuiet_nil ?_
     refine plan_call _ 13 _ _ _ _ _ rfl _ Tryz.func13 (by kernel_rfl) (by kernel_rfl) ?_ True.intro
     refine (HSA.out _ (HE.out.trans (hb.mono HE.out.size))).mono ?_
     rintro _ wn ⟨rfl,hbn⟩
     replace hb := hb.trans (hbn.mono hb.size)
     clear hbn
     refine ⟨_,rfl,fun _ => ⟨⟨_,hb⟩,rfl⟩,?_⟩
     refine plan_put ?_ (by simp only [Act.put,putA,putB,putC]; rfl)
     iterate 2
      refine plan_look _ rfl rfl ?_
      go_big_quiet_step (fail)
      refine wpQuiet_nil ?_
     refine plan_callG _ 14 _ _ _ _ _ _ rfl rfl _ Tryz.func14 (by kernel_rfl) (by kernel_rfl) ?_ True.intro
     refine (HVI.out _ (HE.out.trans (hb.mono HE.out.size))).mono ?_
     rintro _ wn ⟨rfl,hbn⟩
     replace hb := hb.trans (hbn.mono hb.size)
     clear hbn
     refine ⟨_,rfl,fun _ => ⟨⟨_,hb⟩,rfl⟩,?_⟩
     refine plan_put ?_ (by simp only [Act.put,putA,putB,putC]; rfl)
     iterate 3
      refine plan_look _ rfl rfl ?_
      go_big_quiet_step (fail)
      refine wpQuiet_nil ?_
     refine plan_off _ rfl rfl rfl ?_ True.intro
     refine plan_put ?_ (by simp only [Act.put,putA,putB,putC]; rfl)
     iterate 1
      refine plan_look _ rfl rfl ?_
      go_big_quiet_step (fail)
      refine wpQuiet_nil ?_
     refine plan_off _ rfl rfl rfl ?_ True.intro
     refine plan_put ?_ (by simp only [Act.put,putA,putB,putC]; rfl)
     refine plan_off _ rfl rfl rfl ?_ True.intro
     refine plan_put ?_ (by simp only [Act.put,putA,putB,putC]; rfl)
     iterate 2
      refine plan_look _ rfl rfl ?_
      go_big_quiet_step (fail)
      refine wpQuiet_nil ?_
     refine plan_done ?_
     clear G0 G1 G2 G3
     go_wp2
     go_ret
     exact ⟨ret_bool HG.out.symm,HE.out.trans (hb.mono HE.out.size)⟩
   | true =>
     have HG := Lib.hid (HOK.out k1 k2)
     have HVI := Lib.hid (show ∀ W,Below w.heap.size w W → Calls Tryz.prog 14 #[(.agg #[.slice P' s.rels.length c',.slice Q' s.facts.length d1'])] W fun e w' => e = .returned (.bool true) ∧ Below W.heap.size W w' from fun W hW => k2 ▸ HVI.out W hW)
     clear k1 k2
     go_enter Tryz.func19,Tryz.ntmps19
     go_wp2_with fail
     rw [← hEq]
     clear hEq
     have hb := (Below.refl E.heap.size E).drew
     refine wp_region_planL (C := fun w' => ∃ u : Aft E.heap.size E,w' = u.now) (.still 0 (.still 1 (.move true 2 (.still 3 (.still 4 (.move true 5 (.still 6 (.still 7 (.still 8 (.move true 9 (.still 10 (.move true 11 (.move true 12 (.still 13 (.still 14 .done)) .none) .none)) .none)))) .none))) .none))) (by kernel_rfl) (by kernel_rfl) (by kernel_rfl) (fun _ => ⟨⟨E.drew,hb⟩,rfl⟩) ?_
     iterate 2
      refine plan_look _ rfl rfl ?_
      go_big_quiet_step (fail)
      refine wpQuiet_nil ?_
     refine plan_call _ 13 _ _ _ _ _ rfl _ Tryz.func13 (by kernel_rfl) (by kernel_rfl) ?_ True.intro
     refine (HSA.out _ (HE.out.trans (hb.mono HE.out.size))).mono ?_
     rintro _ wn ⟨rfl,hbn⟩
     replace hb := hb.trans (hbn.mono hb.size)
     clear hbn
     refine ⟨_,rfl,fun _ => ⟨⟨_,hb⟩,rfl⟩,?_⟩
     refine plan_put ?_ (by simp only [Act.put,putA,putB,putC]; rfl)
     iterate 2
      refine plan_look _ rfl rfl ?_
      go_big_quiet_step (fail)
      refine wpQuiet_nil ?_
     refine plan_callG _ 14 _ _ _ _ _ _ rfl rfl _ Tryz.func14 (by kernel_rfl) (by kernel_rfl) ?_ True.intro
     refine (HVI.out _ (HE.out.trans (hb.mono HE.out.size))).mono ?_
     rintro _ wn ⟨rfl,hbn⟩
     replace hb := hb.trans (hbn.mono hb.size)
     clear hbn
     refine ⟨_,rfl,fun _ => ⟨⟨_,hb⟩,rfl⟩,?_⟩
     refine plan_put ?_ (by simp only [Act.put,putA,putB,putC]; rfl)
     iterate 3
      refine plan_look _ rfl rfl ?_
      go_big_quiet_step (fail)
      refine wpQuiet_nil ?_
     refine plan_callG _ 45 _ _ _ _ _ _ rfl rfl _ Tryz.func45 (by kernel_rfl) (by kernel_rfl) ?_ True.intro
     refine (HRX.out _ (HE.out.trans (hb.mono HE.out.size))).mono ?_
     rintro _ wn ⟨rx,rfl,hO1,hbn⟩
     have H1 := Lib.hid (hO1.at_ (Nat.le_refl _))
     clear hO1
     replace hb := hb.trans (hbn.mono hb.size)
     clear hbn
     refine ⟨_,rfl,fun _ => ⟨⟨_,hb⟩,rfl⟩,?_⟩
     refine plan_put ?_ (by simp only [Act.put,putA,putB,putC]; rfl)
     iterate 1
      refine plan_look _ rfl rfl ?_
      go_big_quiet_step (fail)
      refine wpQuiet_nil ?_
     refine plan_callG _ 45 _ _ _ _ _ _ rfl rfl _ Tryz.func45 (by kernel_rfl) (by kernel_rfl) ?_ True.intro
     refine (HRS.out _ (HE.out.trans (hb.mono HE.out.size))).mono ?_
     rintro _ wn ⟨rs,rfl,hO2,hbn⟩
     have H2 := Lib.hid (hO2.at_ (Nat.le_refl _))
     have H1 := Lib.hid (H1.out.later hbn)
     clear hO2
     replace hb := hb.trans (hbn.mono hb.size)
     clear hbn
     refine ⟨_,rfl,fun _ => ⟨⟨_,hb⟩,rfl⟩,?_⟩
     refine plan_put ?_ (by simp only [Act.put,putA,putB,putC]; rfl)
     refine plan_callG _ 50 _ _ _ _ _ _ rfl rfl _ Tryz.func50 (by kernel_rfl) (by kernel_rfl) ?_ True.intro
     refine (specEqualInstances_any rx rs _ _ _ H1.out H2.out).mono ?_
     rintro _ wn ⟨rfl,hbn⟩
     replace hb := hb.trans (hbn.mono hb.size)
     clear hbn
     refine ⟨_,rfl,fun _ => ⟨⟨_,hb⟩,rfl⟩,?_⟩
     refine plan_put ?_ (by simp only [Act.put,putA,putB,putC]; rfl)
     iterate 2
      refine plan_look _ rfl rfl ?_
      go_big_quiet_step (fail)
      refine wpQuiet_nil ?_
     refine plan_done ?_
     clear G0 G1 G2 G3
     go_wp2
     go_ret
     exact ⟨ret_bool HG.out.symm,HE.out.trans (hb.mono HE.out.size)⟩
set_option maxHeartbeats 800000 in
theorem sameInts_any (v u : Value) (l : List Int) (w : World) (hl : IntsAt w w.heap.size v l) (hm : IntsAt w w.heap.size u l) :
 Calls Tryz.prog 12 #[v,u] w fun e w' => e = .returned (.bool true) ∧ Below w.heap.size w w' := by
 have HL := Lib.hid hl
 have HM := Lib.hid hm
 obtain ⟨A,c,rfl,hlc,hcm,-⟩ := hl
 obtain ⟨A',c',rfl,hlc',hcm',-⟩ := hm
 unfold maxLen at hcm hcm'
 go_enter Tryz.func12,Tryz.ntmps12
 go_wp2
 go_loopw [5] (fun i wr => ∃ k : Nat,k ≤ l.length ∧ i = .int .i64 k ∧ Below w.heap.size w wr) (fun i _ => l.length - (intOf i).toNat)
 case atStart => exact ⟨0,by omega,rfl,Below.refl _ _⟩
 case round =>
  obtain ⟨k,hk,rfl,hW⟩ := hrel
  by_cases hlt : k < l.length
  · obtain ⟨b,off,rfl,hb,c0⟩ := IntsAt.elem HL.out k hlt
    obtain ⟨b',off',rfl,hb',d0⟩ := IntsAt.elem HM.out k hlt
    have C0 := Aft.cell hb c0
    have D0 := Aft.cell hb' d0
    clear c0 d0
    go_wp2
    refine wp_region_aft hW (by kernel_rfl) (by kernel_rfl) ?_
    repeat (go_big_quiet_step (fail))
    refine wpQuiet_nil ?_
    refine aft_end ?_
    intro w1 hh
    go_wp2
    go_roundw
    case rel => exact ⟨k + 1,by omega,by go_num,hh⟩
    case measure => simp [intOf]; omega
  · obtain rfl : k = l.length := by omega
    go_wp2
    go_ret
    exact ⟨rfl,hW⟩
theorem big_any (q : Option Addr) (n c : Nat) (w : World) :
 Calls Tryz.prog 7 #[.slice q n c] w fun e w' => e = .returned (.bool (decide (1048576 < (n : Int)))) ∧ w = w' := by
 go_enter Tryz.func7,Tryz.ntmps7
 go_wp2
 go_ret
 exact ⟨rfl,rfl⟩
end Go.Proofs.YtobdijcnfmgidaaGreat
