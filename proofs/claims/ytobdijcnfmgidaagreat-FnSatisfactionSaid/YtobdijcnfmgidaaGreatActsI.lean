/- Walks and plain lemmas for the laws of this seat. -/
import Derived.Test.YtobdijcnfmgidaaGreatBase
import Derived.Test.YtobdijcnfmgidaaGreatInts
import Derived.Test.YtobdijcnfmgidaaGreatAft
import Derived.Test.YtobdijcnfmgidaaGreatParInI
import Derived.Test.YtobdijcnfmgidaaGreatTrigM
import Derived.Test.YtobdijcnfmgidaaGreatYldI
import Derived.Test.YtobdijcnfmgidaaGreatDepVI
import Derived.Test.YtobdijcnfmgidaaGreatCanI
namespace Go.Proofs.YtobdijcnfmgidaaGreat
open Go.RowKit
theorem acts_no {x : Inst} {d : Dep} (h : depOk x.rels d = false) : ActiveTriggers_r0 x d = [] := by unfold ActiveTriggers_r0; rw [if_neg (by rw [h]; simp)]
theorem acts_keep {x : Inst} {d : Dep} (h : depOk x.rels d = true) : ActiveTriggers_r0 x d = keepN (holdsM x.facts d) (FindMatches_r0 x d.body) := active_filter h
set_option maxHeartbeats 3200000 in
set_option maxRecDepth 100000 in
theorem implActs_fn (x : Inst) (hxw : Instance_wf x) (d : Dep) (hdw : Dependency_wf d) (hdk : depOk x.rels d = true) (Q R S : Option Addr) (d1 q t g0 g1 D : Nat) (E : World) (hg0 : g0 < D) (hg1 : g1 < D)
 (X1 : E.cell? ⟨g0,1,none⟩ = some (.slice Q x.facts.length d1)) (D0 : E.cell? ⟨g1,0,none⟩ = some (.slice R d.body.length q)) (D1 : E.cell? ⟨g1,1,none⟩ = some (.slice S d.head.length t)) (D2 : E.cell? ⟨g1,2,none⟩ = some (.bool d.egd)) (D3 : E.cell? ⟨g1,3,none⟩ = some (.int .i64 d.left)) (D4 : E.cell? ⟨g1,4,none⟩ = some (.int .i64 d.right))
 (hF : FactS_at E D (.slice Q x.facts.length d1) x.facts) (hD : Dependency_at E D (.agg #[.slice R d.body.length q,.slice S d.head.length t,.bool d.egd,.int .i64 d.left,.int .i64 d.right]) d) :
 TellsR 43 #[.pointer (some ⟨g0,0,none⟩),.pointer (some ⟨g1,0,none⟩)] (fun W => Below D E W ∧ D ≤ W.heap.size) (holdsM x.facts d) (FindMatches_r0 x d.body) := by
 rintro W b V ⟨hW,hDW⟩ hb hV
 obtain ⟨p1,p3,p4⟩ := trig_found hdk hb
 obtain ⟨T,tc,rfl,-⟩ := id hV
 have x1 := (hW.cell (p := ⟨g0,1,none⟩) hg0).trans X1
 have d0 := (hW.cell (p := ⟨g1,0,none⟩) hg1).trans D0
 have d1' := (hW.cell (p := ⟨g1,1,none⟩) hg1).trans D1
 have d2 := (hW.cell (p := ⟨g1,2,none⟩) hg1).trans D2
 have d3 := (hW.cell (p := ⟨g1,3,none⟩) hg1).trans D3
 have d4 := (hW.cell (p := ⟨g1,4,none⟩) hg1).trans D4
 have hh := implHolds_any x.facts hxw.2 d b p3 (fun hg => depOk_vars hdk hg) (head_fit p1 hdk hdw.2.1) (.slice Q x.facts.length d1) _ (.slice T b.length tc) W ((hF.below hW (Nat.le_refl _)).more hDW) ((hD.below hW (Nat.le_refl _)).more hDW) hV
 clear hV X1 D0 D1 D2 D3 D4 hF hD p1 p3 p4
 go_enter Tryz.func43,Tryz.ntmps43
 go_wp2_with (go_at_call 44; refine hh.mono ?_; rintro e w2 ⟨rfl,hb2⟩)
 go_ret
 exact ⟨rfl,hb2⟩
set_option maxHeartbeats 3200000 in
set_option maxRecDepth 100000 in
theorem implActs_any (v u : Value) (x : Inst) (d : Dep) (w : World) (hx : Instance_at w w.heap.size v x) (hxw : Instance_wf x) (hd : Dependency_at w w.heap.size u d) (hdw : Dependency_wf d) :
 Calls Tryz.prog 16 #[v,u] w fun e w' => ∃ r,e = .returned r ∧ IntSS_own w.heap.size w'.heap.size r (ActiveTriggers_r0 x d) w' ∧ Below w.heap.size w w' := by
 have HX := Lib.hid hx
 have HD := Lib.hid hd
 obtain ⟨P,c,Q,d1,rfl⟩ := Instance_form hx
 have HRF := Lib.hid (show RelationS_at w w.heap.size (.slice P x.rels.length c) x.rels ∧ FactS_at w w.heap.size (.slice Q x.facts.length d1) x.facts by
  obtain ⟨V1,V2,hv,hR,hF⟩ := hx
  simp only [Value.agg.injEq,Array.mk.injEq,List.cons.injEq,and_true] at hv
  obtain ⟨rfl,rfl⟩ := hv
  exact ⟨hR,hF⟩)
 obtain ⟨R,q,S,t,rfl⟩ := Dependency_form hd
 have HBD := Lib.hid (show AtomS_at w w.heap.size (.slice R d.body.length q) d.body by
  obtain ⟨V1,V2,hv,h1,h2⟩ := hd
  simp only [Value.agg.injEq,Array.mk.injEq,List.cons.injEq,and_true] at hv
  obtain ⟨rfl,rfl⟩ := hv
  exact h1)
 clear hx hd
 obtain ⟨E,hEq⟩ : ∃ E,E = (w.alloc (.cells #[.slice P x.rels.length c,.slice Q x.facts.length d1] 27)).alloc (.cells #[.slice R d.body.length q,.slice S d.head.length t,.bool d.egd,.int .i64 d.left,.int .i64 d.right] 42) := ⟨_,rfl⟩
 have hE : Below w.heap.size w E := by rw [hEq]; exact below_more (below_more (Below.refl _ _) _) _
 have hEz : E.heap.size = w.heap.size + 2 := by rw [hEq]; simp
 have X0 : E.cell? ⟨w.heap.size,0,none⟩ = some (.slice P x.rels.length c) := by rw [hEq]; simp [go_sem]
 have X1 : E.cell? ⟨w.heap.size,1,none⟩ = some (.slice Q x.facts.length d1) := by rw [hEq]; simp [go_sem]
 have D0 : E.cell? ⟨w.heap.size + 1,0,none⟩ = some (.slice R d.body.length q) := by rw [hEq]; simp [go_sem]
 have D1 : E.cell? ⟨w.heap.size + 1,1,none⟩ = some (.slice S d.head.length t) := by rw [hEq]; simp [go_sem]
 have D2 : E.cell? ⟨w.heap.size + 1,2,none⟩ = some (.bool d.egd) := by rw [hEq]; simp [go_sem]
 have D3 : E.cell? ⟨w.heap.size + 1,3,none⟩ = some (.int .i64 d.left) := by rw [hEq]; simp [go_sem]
 have D4 : E.cell? ⟨w.heap.size + 1,4,none⟩ = some (.int .i64 d.right) := by rw [hEq]; simp [go_sem]
 have hvd := fun qq (hq : depOk x.rels d = qq) => implIsValidDependency_z x.rels d qq hq (.slice P x.rels.length c) _ E ((HRF.out.1.below hE (Nat.le_refl _)).more hE.size) ((HD.out.below hE (Nat.le_refl _)).more hE.size)
 rw [hEq] at hvd
 cases h1 : depOk x.rels d with
 | false =>
   have HF := Lib.hid (acts_no h1)
   replace hvd := hvd false h1
   clear h1
   go_enter Tryz.func16,Tryz.ntmps16
   go_wp2_with (go_at_call 40; refine hvd.mono ?_; rintro e w1 ⟨rfl,hb1⟩)
   rw [← hEq] at hb1
   go_ret
   exact ⟨_,rfl,by rw [HF.out]; exact ⟨[],rfl,World.ownsRow_nil _ _ _ _,(fun g hg => by cases hg),(fun i h => absurd h (by simp)),List.Pairwise.nil⟩,hE.trans (hb1.mono hE.size)⟩
 | true =>
   have HF := Lib.hid (acts_keep h1)
   have HT := Lib.hid (implActs_fn x hxw d hdw h1 Q R S d1 q t w.heap.size (w.heap.size + 1) E.heap.size E (by omega) (by omega) X1 D0 D1 D2 D3 D4 ((HRF.out.2.below hE (Nat.le_refl _)).more hE.size) ((HD.out.below hE (Nat.le_refl _)).more hE.size))
   replace hvd := hvd true h1
   have HSZ := Lib.hid (find_sz x d.body)
   clear h1
   go_enter Tryz.func16,Tryz.ntmps16
   go_wp2_with fail
   refine hvd.mono ?_
   rintro e w1 ⟨rfl,hb1⟩
   rw [← hEq] at hb1
   have hw1 := hE.trans (hb1.mono hE.size)
   have x0 := (hb1.cell (p := ⟨w.heap.size,0,none⟩) (by show w.heap.size < _; omega)).trans X0
   have x1 := (hb1.cell (p := ⟨w.heap.size,1,none⟩) (by show w.heap.size < _; omega)).trans X1
   have d0 := (hb1.cell (p := ⟨w.heap.size + 1,0,none⟩) (by show w.heap.size + 1 < _; omega)).trans D0
   have hfm := implFind_any _ (.slice R d.body.length q) x d.body w1 ((HX.out.below hw1 (Nat.le_refl _)).more hw1.size) hxw ((HBD.out.below hw1 (Nat.le_refl _)).more hw1.size) hdw.1
   clear hvd hEq X0 X1 D0 D1 D2 D3 D4
   go_wp2_with fail
   refine hfm.mono ?_
   rintro e w2 ⟨V,rfl,⟨Vs,hO⟩,hb2⟩
   have hb12 : Below E.heap.size E w2 := hb1.trans (hb2.mono hb1.size)
   have hz12 : E.heap.size ≤ w2.heap.size := hb12.size
   obtain ⟨A,cV,rfl,-⟩ := (hO.at_ (Nat.le_refl _)).form
   have hdel := implDelR_any 43 _ (enters_of Tryz.func43 (by kernel_rfl) rfl) (fun W => Below E.heap.size E W ∧ E.heap.size ≤ W.heap.size) (fun W W' h hb => ⟨h.1.trans (hb.mono h.2),Nat.le_trans h.2 hb.size⟩) (holdsM x.facts d) (FindMatches_r0 x d.body) w1.heap.size _ Vs w2 ⟨hb12,hz12⟩ HT.out (by have := HSZ.out; unfold IntSS_sz at this; omega) hb2.size (fun W q o u hq h => ⟨h.1.setCell (p := ⟨q,o,none⟩) (Nat.le_trans hb1.size hq) u,by rw [World.size_setCell]; exact h.2⟩) hO
   clear hfm x0 x1 d0
   go_wp2_with (go_at_call 41; refine hdel.mono ?_; rintro e w3 ⟨r,rfl,hO3,hb3⟩)
   go_ret
   exact ⟨_,rfl,by rw [HF.out]; exact IntSS_own.mono hO3 hw1.size (Nat.le_refl _),hw1.trans ((hb2.mono hw1.size).trans (hb3.mono hw1.size))⟩
set_option maxHeartbeats 3200000 in
set_option maxRecDepth 100000 in
theorem implAreValidDeps_any (v : Value) (l : List Rel) (u : Value) (xs : List Dep) (w : World) (hl : RelsAt w w.heap.size v l) (h : DependencyS_at w w.heap.size u xs) (hn : DependencyS_sz xs ≤ 1048576) :
 Calls Tryz.prog 32 #[v,u] w fun e w' => e = .returned (.bool (depsOk l xs)) ∧ Below w.heap.size w w' := by
 have HL := Lib.hid hl
 have HX := Lib.hid h
 obtain ⟨A,a0,rfl,hlc,hcm,-⟩ := hl
 obtain ⟨A',c,rfl,hc1,hc2⟩ := h.form
 unfold maxLen at hc2
 have hel : ∀ k (h : k < xs.length),Dependency_sz xs[k] ≤ 1048576 := fun k h => by
  have h1 := depsLen_take xs k h
  have h2 := depsLen_le xs (k + 1)
  unfold DependencyS_sz at hn; omega
 clear h
 have hcon := fun b h => implAreValid_at2 l b h (.slice A l.length a0) w HL.out
 cases hr : validRels l with
 | false =>
   have HV := Lib.hid (show depsOk l xs = false by unfold depsOk; rw [hr]; rfl)
   replace hcon := hcon false hr
   clear hr
   go_enter Tryz.func32,Tryz.ntmps32
   go_wp2_with (go_at_call 69; refine hcon.mono ?_; rintro e w1 ⟨rfl,hb1⟩)
   go_ret
   exact ⟨ret_bool HV.out.symm,hb1⟩
 | true =>
   replace hcon := hcon true hr
   by_cases h5 : (5 : Int) < xs.length
   · have HV := Lib.hid (show depsOk l xs = false by unfold depsOk; rw [hr,decide_eq_false (by omega)]; rfl)
     have hd5 : decide ((5 : Int) < xs.length) = true := decide_eq_true h5
     clear hr
     go_enter Tryz.func32,Tryz.ntmps32
     go_wp2_with (go_at_call 69; refine hcon.mono ?_; rintro e w1 ⟨rfl,hb1⟩)
     go_ret
     exact ⟨ret_bool HV.out.symm,hb1⟩
   · have HA := Lib.hid (show depsOk l xs = xs.all (depOk l) by unfold depsOk; rw [hr,decide_eq_true (by omega)]; rfl)
     have hd5 : decide ((5 : Int) < xs.length) = false := decide_eq_false h5
     have H5 := Lib.hid h5
     clear hr h5
     go_enter Tryz.func32,Tryz.ntmps32
     go_wp2_with (go_at_call 69; refine hcon.mono ?_; rintro e w1 ⟨rfl,hb1⟩)
     clear hcon
     go_loopw [17] (fun i wr => ∃ j : Nat,j ≤ xs.length ∧ i = .int .i64 j ∧ Hid (AllTo (depOk l) xs j) ∧ Below w.heap.size w wr) (fun i _ => xs.length - (intOf i).toNat)
     case atStart => exact ⟨0,by omega,rfl,Lib.hid (AllTo.zero _ _),hb1⟩
     case round =>
      obtain ⟨j,hj,rfl,HT,hW⟩ := hrel
      have hz := hW.size
      by_cases hlt : j < xs.length
      · obtain ⟨b,off,V,U,rfl,hb,c0,c1,c2,c3,c4,hV,hU⟩ := DependencyS_at.elem HX.out j hlt
        obtain ⟨PV,cV,rfl,-,-⟩ := hV.form
        obtain ⟨PU,cU,rfl,-,-⟩ := hU.form
        replace c0 := (hW.cell (p := ⟨b,off + j * 5,none⟩) hb).trans c0
        replace c1 := (hW.cell (p := ⟨b,off + j * 5 + 1,none⟩) hb).trans c1
        replace c2 := (hW.cell (p := ⟨b,off + j * 5 + 2,none⟩) hb).trans c2
        replace c3 := (hW.cell (p := ⟨b,off + j * 5 + 3,none⟩) hb).trans c3
        replace c4 := (hW.cell (p := ⟨b,off + j * 5 + 4,none⟩) hb).trans c4
        have hE : Below wr.heap.size wr (wr.alloc (.cells #[.slice PV xs[j].body.length cV,.slice PU xs[j].head.length cU,.bool xs[j].egd,.int .i64 xs[j].left,.int .i64 xs[j].right] 42)) := below_more (Below.refl _ _) _
        have hWE := hW.trans (hE.mono hz)
        have hcon := fun (q : Bool) (hq : depOk l xs[j] = q) => implIsValidDependency_at l xs[j] q hq (.slice A l.length a0) (.agg #[.slice PV xs[j].body.length cV,.slice PU xs[j].head.length cU,.bool xs[j].egd,.int .i64 xs[j].left,.int .i64 xs[j].right]) _ ((HL.out.below hWE (Nat.le_refl _)).more hWE.size) ⟨_,_,rfl,(hV.below hWE (Nat.le_refl _)).more hWE.size,(hU.below hWE (Nat.le_refl _)).more hWE.size⟩ (hel j hlt)
        have HWE := Lib.hid hWE
        clear hE hWE hV hU
        cases hv : depOk l xs[j] with
        | false =>
          have HV := Lib.hid (HA.out.trans (all_no hlt hv))
          replace hcon := hcon false hv
          clear hv
          go_wp2_with (go_at_call 40; refine hcon.mono ?_; rintro e w3 ⟨rfl,hb3⟩)
          go_ret
          exact ⟨ret_bool HV.out.symm,HWE.out.trans (hb3.mono HWE.out.size)⟩
        | true =>
          have HN := Lib.hid (HT.out.next hlt hv)
          replace hcon := hcon true hv
          clear hv
          go_wp2_with (go_at_call 40; refine hcon.mono ?_; rintro e w3 ⟨rfl,hb3⟩)
          go_roundw
          case rel => exact ⟨j + 1,by omega,by go_num,HN,HWE.out.trans (hb3.mono HWE.out.size)⟩
          case measure => simp [intOf]; omega
      · obtain rfl : j = xs.length := by omega
        have HV := Lib.hid (HA.out.trans HT.out.full)
        go_wp2
        go_ret
        exact ⟨ret_bool HV.out.symm,hW⟩
set_option maxHeartbeats 6400000 in
set_option maxRecDepth 100000 in
theorem implFirst_any (v u : Value) (x : Inst) (l : List Dep) (w : World) (hx : Instance_at w w.heap.size v x) (hxw : Instance_wf x) (hd : DependencyS_at w w.heap.size u l) (hdw : DependencyS_wf l) (hn : DependencyS_sz l ≤ 1048576) :
 Calls Tryz.prog 9 #[v,u] w fun e w' => ∃ r,e = .returned (.tuple #[.int .i64 (FirstViolation_r0 x l),r,.bool (FirstViolation_r2 x l)]) ∧ IntS_own w.heap.size w'.heap.size r (FirstViolation_r1 x l) w' ∧ Below w.heap.size w w' := by
 have HX := Lib.hid hx
 have HD := Lib.hid hd
 obtain ⟨P,c,Q,d1,rfl⟩ := Instance_form hx
 have HR := Lib.hid (show RelationS_at w w.heap.size (.slice P x.rels.length c) x.rels by
  obtain ⟨V1,V2,hv,hR,hF⟩ := hx
  simp only [Value.agg.injEq,Array.mk.injEq,List.cons.injEq,and_true] at hv
  obtain ⟨rfl,rfl⟩ := hv
  exact hR)
 obtain ⟨A,c0,rfl,hc1,hc2⟩ := hd.form
 unfold maxLen at hc2
 clear hx hd
 obtain ⟨E,hEq⟩ : ∃ E,E = w.alloc (.cells #[.slice P x.rels.length c,.slice Q x.facts.length d1] 27) := ⟨_,rfl⟩
 have hE : Below w.heap.size w E := by rw [hEq]; exact below_more (Below.refl _ _) _
 have hzE : w.heap.size < E.heap.size := by rw [hEq]; simp
 have X0 := Lib.hid (show E.cell? ⟨w.heap.size,0,none⟩ = some (.slice P x.rels.length c) by rw [hEq]; simp [go_sem])
 have X1 := Lib.hid (show E.cell? ⟨w.heap.size,1,none⟩ = some (.slice Q x.facts.length d1) by rw [hEq]; simp [go_sem])
 have HE := Lib.hid hE
 have hvd := implAreValidDeps_any _ x.rels (.slice A l.length c0) l E ((HR.out.below hE (Nat.le_refl _)).more hE.size) ((HD.out.below hE (Nat.le_refl _)).more hE.size) hn
 have HNo := Lib.hid (fun h : firstV x l = none => firstV_none h)
 rw [hEq] at hvd
 clear hE
 cases k1 : depsOk x.rels l with
 | false =>
   rw [k1] at hvd
   have HV := Lib.hid (HNo.out (firstV_off k1))
   clear k1
   go_enter Tryz.func9,Tryz.ntmps9
   go_wp2_with fail
   refine hvd.mono ?_
   rintro e w1 ⟨rfl,hb1⟩
   rw [← hEq] at hb1
   have HZ := Lib.hid (HE.out.trans (hb1.mono HE.out.size))
   go_wp2
   refine bodyPost_ret (v := .tuple #[.int .i64 0,.slice none 0 0,.bool false]) (by simp [results,Tryz.results9,go_sem]) rfl ⟨_,ret_viol HV.out.1 HV.out.2.2,by rw [HV.out.2.1]; exact IntsO.none _,HZ.out⟩
 | true =>
   rw [k1] at hvd
   have HK := Lib.hid k1
   clear k1
   go_enter Tryz.func9,Tryz.ntmps9
   go_wp2_with fail
   refine hvd.mono ?_
   rintro e w1 ⟨rfl,hb1⟩
   rw [← hEq] at hb1
   have HB1 := Lib.hid hb1
   clear hvd hEq hb1
   go_wp2
   go_loopw [17] (fun i wr => ∃ j : Nat,j ≤ l.length ∧ i = .int .i64 j ∧ Hid (AllTo (calm x) l j) ∧ Hid (Below E.heap.size E wr)) (fun i _ => l.length - (intOf i).toNat)
   case atStart => exact ⟨0,by omega,rfl,Lib.hid (AllTo.zero _ _),HB1⟩
   case round =>
    obtain ⟨j,hj,rfl,HT,HW⟩ := hrel
    have HWr := Lib.hid (HE.out.trans (HW.out.mono HE.out.size))
    have hzr := HWr.out.size
    by_cases hlt : j < l.length
    · obtain ⟨q,off,V,U,rfl,hq,c0,c1,c2,c3,c4,hV,hU⟩ := DependencyS_at.elem HD.out j hlt
      obtain ⟨PV,cV,rfl,-,-⟩ := hV.form
      obtain ⟨PU,cU,rfl,-,-⟩ := hU.form
      replace c0 := (HWr.out.cell (p := ⟨q,off + j * 5,none⟩) hq).trans c0
      replace c1 := (HWr.out.cell (p := ⟨q,off + j * 5 + 1,none⟩) hq).trans c1
      replace c2 := (HWr.out.cell (p := ⟨q,off + j * 5 + 2,none⟩) hq).trans c2
      replace c3 := (HWr.out.cell (p := ⟨q,off + j * 5 + 3,none⟩) hq).trans c3
      replace c4 := (HWr.out.cell (p := ⟨q,off + j * 5 + 4,none⟩) hq).trans c4
      have x0 := (HW.out.cell (p := ⟨w.heap.size,0,none⟩) hzE).trans X0.out
      have x1 := (HW.out.cell (p := ⟨w.heap.size,1,none⟩) hzE).trans X1.out
      obtain ⟨F,hFq⟩ : ∃ F,F = wr.alloc (.cells #[.slice PV l[j].body.length cV,.slice PU l[j].head.length cU,.bool l[j].egd,.int .i64 l[j].left,.int .i64 l[j].right] 42) := ⟨_,rfl⟩
      have hF : Below wr.heap.size wr F := by rw [hFq]; exact below_more (Below.refl _ _) _
      have HWF := Lib.hid (HWr.out.trans (hF.mono hzr))
      have hac := implActs_any (.agg #[.slice P x.rels.length c,.slice Q x.facts.length d1]) (.agg #[.slice PV l[j].body.length cV,.slice PU l[j].head.length cU,.bool l[j].egd,.int .i64 l[j].left,.int .i64 l[j].right]) x l[j] F ((HX.out.below HWF.out (Nat.le_refl _)).more HWF.out.size) hxw ⟨_,_,rfl,(hV.below HWF.out (Nat.le_refl _)).more HWF.out.size,(hU.below HWF.out (Nat.le_refl _)).more HWF.out.size⟩ (hdw j hlt)
      have HEF := Lib.hid (HW.out.trans (hF.mono HW.out.size))
      obtain ⟨qb,hqb⟩ : ∃ q,q = wr.heap.size := ⟨_,rfl⟩
      have hwb : w.heap.size < qb := by rw [hqb]; exact Nat.lt_of_lt_of_le hzE HW.out.size
      have y0 := (hF.cell (p := ⟨w.heap.size,0,none⟩) (hqb ▸ hwb)).trans x0
      have y1 := (hF.cell (p := ⟨w.heap.size,1,none⟩) (hqb ▸ hwb)).trans x1
      have d0 : F.cell? ⟨qb,0,none⟩ = some (.slice PV l[j].body.length cV) := by rw [hFq,hqb]; simp [go_sem]
      have d1' : F.cell? ⟨qb,1,none⟩ = some (.slice PU l[j].head.length cU) := by rw [hFq,hqb]; simp [go_sem]
      have d2 : F.cell? ⟨qb,2,none⟩ = some (.bool l[j].egd) := by rw [hFq,hqb]; simp [go_sem]
      have d3 : F.cell? ⟨qb,3,none⟩ = some (.int .i64 l[j].left) := by rw [hFq,hqb]; simp [go_sem]
      have d4 : F.cell? ⟨qb,4,none⟩ = some (.int .i64 l[j].right) := by rw [hFq,hqb]; simp [go_sem]
      clear hF hV hU x0 x1
      cases hA : ActiveTriggers_r0 x l[j] with
      | nil =>
        have HN := Lib.hid (HT.out.next hlt (calm_iff.2 hA))
        rw [hA] at hac
        clear hA
        go_upto_region 6 with fail
        rw [← hqb,← hFq]
        clear hqb hFq c0 c1 c2 c3 c4
        go_wp2_with fail
        refine hac.mono ?_
        rintro e w3 ⟨r,rfl,hO,hb3⟩
        obtain ⟨A3,a3,rfl,-,-⟩ := (hO.at_ (Nat.le_refl _)).form
        rw [show ([] : List (List Int)).length = 0 from rfl]
        have HB3 := Lib.hid (HEF.out.trans (hb3.mono HEF.out.size))
        clear hO hb3 hac y0 y1 d0 d1' d2 d3 d4
        go_wp2
        go_roundw
        case rel => exact ⟨j + 1,by omega,by go_num,HN,HB3⟩
        case measure => simp [intOf]; omega
      | cons bb t =>
        have HV := Lib.hid (firstV_some (firstV_at HK.out HT.out hlt hA))
        rw [hA] at hac
        clear hA
        go_upto_region 6 with fail
        rw [← hqb,← hFq]
        clear hqb hFq c0 c1 c2 c3 c4
        go_wp2_with fail
        refine hac.mono ?_
        rintro e w3 ⟨r,rfl,hO,hb3⟩
        obtain ⟨g,a3,U3,rfl,hg,hm3,cc,hR⟩ := hO.first
        unfold maxLen at hm3
        have HB3 := Lib.hid (HWF.out.trans (hb3.mono HWF.out.size))
        have HR3 := Lib.hid (IntS_own.mono hR HWF.out.size (Nat.le_refl _))
        have cc3 := Lib.hid cc
        clear hO hb3 hac y0 y1 d0 d1' d2 d3 d4 hR cc
        have G0 := Aft.cell (B := w3.heap.size) (w := w3) hg cc3.out
        go_wp2_with fail
        refine wp_region_aft (Below.refl w3.heap.size w3) (by kernel_rfl) (by kernel_rfl) ?_
        repeat (go_big_quiet_step (fail))
        refine wpQuiet_nil ?_
        refine aft_end ?_
        intro w5 hh
        have HR5 := Lib.hid (IntS_own.mono (IntS_own.below HR3.out hh (Nat.le_refl _)) (Nat.le_refl _) hh.size)
        have HZ5 := Lib.hid (HB3.out.trans (hh.mono HB3.out.size))
        go_wp2
        refine bodyPost_ret (v := .tuple #[.int .i64 ((j : Nat) : Int),U3,.bool true]) (by simp [results,Tryz.results9,go_sem]) rfl ⟨_,ret_viol HV.out.1 HV.out.2.2,by rw [HV.out.2.1]; exact HR5.out,HZ5.out⟩
    · obtain rfl : j = l.length := by omega
      have HV := Lib.hid (HNo.out (firstV_end HT.out))
      go_wp2
      refine bodyPost_ret (v := .tuple #[.int .i64 0,.slice none 0 0,.bool false]) (by simp [results,Tryz.results9,go_sem]) rfl ⟨_,ret_viol HV.out.1 HV.out.2.2,by rw [HV.out.2.1]; exact IntsO.none _,HWr.out⟩
set_option maxHeartbeats 800000 in
theorem specHas_any (v : Value) (l : List Int) (x : Int) (w : World) (hl : IntS_at w w.heap.size v l) :
 Calls Tryz.prog 82 #[v,.int .i64 x] w fun e w' => e = .returned (.bool (decide (x ∈ l))) ∧ w = w' := by
 have HL := Lib.hid hl
 obtain ⟨A,c,rfl,hlc,hcm,-⟩ := hl
 unfold maxLen at hcm
 go_enter Tryz.func82,Tryz.ntmps82
 go_wp2
 go_loop [5] (fun i => ∃ k : Nat,k ≤ l.length ∧ i = .int .i64 k ∧ Hid (x ∉ l.take k)) (fun i => l.length - (intOf i).toNat)
 case atStart => exact ⟨0,by omega,rfl,Lib.hid (by simp)⟩
 case round =>
  obtain ⟨k,hk,rfl,HT⟩ := hrel
  by_cases hlt : k < l.length
  · obtain ⟨b,off,rfl,hb,c0⟩ := IntsAt.elem HL.out k hlt
    by_cases he : l[k] = x
    · have HV := Lib.hid (decide_eq_true (show x ∈ l by rw [← he]; exact List.getElem_mem hlt))
      have hb2 : (l[k] == x) = true := by rw [he]; exact beq_self_eq_true x
      clear he
      go_wp2
      go_ret
      exact ⟨ret_bool HV.out.symm,rfl⟩
    · have HN := Lib.hid (show x ∉ l.take (k + 1) by
       rw [List.take_succ_eq_append_getElem hlt,List.mem_append,List.mem_singleton]
       exact fun h => h.elim HT.out (fun e => he e.symm))
      have hb2 : (l[k] == x) = false := beq_eq_false_iff_ne.2 he
      clear he
      go_wp2
      go_round
      case rel => exact ⟨k + 1,by omega,by go_num,HN⟩
      case measure => simp [intOf]; omega
  · obtain rfl : k = l.length := by omega
    have HV := Lib.hid (decide_eq_false (show x ∉ l by have := HT.out; rwa [List.take_of_length_le (Nat.le_refl _)] at this))
    go_wp2
    go_ret
    exact ⟨ret_bool HV.out.symm,rfl⟩
theorem specHas_at (v : Value) (l : List Int) (x : Int) (bb : Bool) (hq : decide (x ∈ l) = bb) (w : World) (hl : IntS_at w w.heap.size v l) :
 Calls Tryz.prog 82 #[v,.int .i64 x] w fun e w' => e = .returned (.bool bb) ∧ w = w' := by
 subst hq; exact specHas_any v l x w hl
end Go.Proofs.YtobdijcnfmgidaaGreat
