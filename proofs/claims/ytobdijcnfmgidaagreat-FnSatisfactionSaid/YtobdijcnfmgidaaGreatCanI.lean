/- Walks and plain lemmas for the laws of this seat. -/
import Derived.Laws.IdiomCopy
import Derived.Shelf.Abstract
import Derived.Test.YtobdijcnfmgidaaGreatBase
import Derived.Test.YtobdijcnfmgidaaGreatInts
import Derived.Test.YtobdijcnfmgidaaGreatDrawR
import Derived.Test.YtobdijcnfmgidaaGreatAft
import Derived.Test.YtobdijcnfmgidaaGreatTyAtom
import Derived.Test.YtobdijcnfmgidaaGreatTySS
import Derived.Test.YtobdijcnfmgidaaGreatMatB
import Derived.Test.YtobdijcnfmgidaaGreatCopI
import Derived.Test.YtobdijcnfmgidaaGreatMInst
import Derived.Test.YtobdijcnfmgidaaGreatMatK
import Derived.Test.YtobdijcnfmgidaaGreatTrigM
import Derived.Test.YtobdijcnfmgidaaGreatYldI
import Derived.Test.YtobdijcnfmgidaaGreatFactVI
import Derived.Test.YtobdijcnfmgidaaGreatDepVI
namespace Go.Proofs.YtobdijcnfmgidaaGreat
open Go.RowKit
theorem okM_false {x : Inst} {l : List Atm} (h : instOk x = false ∨ ¬ l.length ≤ 3) : okM x l = false := by
 unfold okM
 rcases h with h | h
 · rw [h]; simp
 · rw [decide_eq_false h]; simp
set_option maxHeartbeats 3200000 in
set_option maxRecDepth 100000 in
theorem implCan_any (v : Value) (x : Inst) (u : Value) (l : List Atm) (w : World) (h : Instance_at w w.heap.size v x) (hw : Instance_wf x) (h' : AtomS_at w w.heap.size u l) :
 Calls Tryz.prog 87 #[v,u] w fun e w' => e = .returned (.bool (okM x l)) ∧ Below w.heap.size w w' := by
 have HX := Lib.hid h
 have HL := Lib.hid h'
 obtain ⟨P,c,Q,d,rfl⟩ := Instance_form h
 have HR := Lib.hid (show RelationS_at w w.heap.size (.slice P x.rels.length c) x.rels by
  obtain ⟨V1,V2,hv,hR,hF⟩ := h
  simp only [Value.agg.injEq,Array.mk.injEq,List.cons.injEq,and_true] at hv
  obtain ⟨rfl,rfl⟩ := hv
  exact hR)
 obtain ⟨R,q,rfl,hq1,hq2⟩ := h'.form
 unfold maxLen at hq2
 clear h h'
 obtain ⟨E,hEq⟩ : ∃ E,E = w.alloc (.cells #[.slice P x.rels.length c,.slice Q x.facts.length d] 27) := ⟨_,rfl⟩
 have hE : Below w.heap.size w E := by rw [hEq]; exact below_more (Below.refl _ _) _
 have HEz := Lib.hid (show E.heap.size = w.heap.size + 1 by rw [hEq]; simp)
 have X0 := Lib.hid (show E.cell? ⟨w.heap.size,0,none⟩ = some (.slice P x.rels.length c) by rw [hEq]; simp [go_sem])
 have hvi := fun q hq => implIsValidInstance_at x q hq _ E ((HX.out.below hE (Nat.le_refl _)).more hE.size) hw
 rw [hEq] at hvi
 cases hx : instOk x with
 | false =>
   have HF := Lib.hid (okM_false (l := l) (.inl hx))
   replace hvi := hvi false hx
   clear hx
   go_enter Tryz.func87,Tryz.ntmps87
   go_wp2_with (go_at_call 34; refine hvi.mono ?_; rintro e w1 ⟨rfl,hb1⟩)
   rw [← hEq] at hb1
   go_ret
   exact ⟨ret_bool HF.out.symm,hE.trans (hb1.mono hE.size)⟩
 | true =>
   replace hvi := hvi true hx
   by_cases h3 : l.length ≤ 3
   · have d3 : decide ((3 : Int) < (l.length : Int)) = false := decide_eq_false (by omega)
     have HOK := Lib.hid (show ∀ k,OkTo x l k → k = l.length → okM x l = true from fun k hT e => by subst e; rw [okM_end hT,hx,decide_eq_true h3]; rfl)
     clear hx h3
     go_enter Tryz.func87,Tryz.ntmps87
     go_wp2_with (go_at_call 34; refine hvi.mono ?_; clear hvi; rintro e w1 ⟨rfl,hb1⟩)
     rw [← hEq] at hb1
     clear hEq d3
     go_loopw [17] (fun i wr => ∃ k : Nat,k ≤ l.length ∧ i = .int .i64 k ∧ Hid (OkTo x l k) ∧ Below E.heap.size E wr) (fun i _ => l.length - (intOf i).toNat)
     case atStart => exact ⟨0,by omega,rfl,Lib.hid (OkTo.zero x l),hb1⟩
     case round =>
      obtain ⟨k,hk,rfl,HT,hW⟩ := hrel
      have hz := hW.size
      have hWw := hE.trans (hW.mono hE.size)
      by_cases hlt : k < l.length
      · have x0 := (hW.cell (p := ⟨w.heap.size,0,none⟩) (by show w.heap.size < _; rw [HEz.out]; omega)).trans X0.out
        obtain ⟨b,off,V,rfl,hb,c0,c1,hV⟩ := AtomS_at.elem HL.out k hlt
        replace c0 := (hWw.cell (p := ⟨b,off + k * 2,none⟩) hb).trans c0
        replace c1 := (hWw.cell (p := ⟨b,off + k * 2 + 1,none⟩) hb).trans c1
        obtain ⟨PV,cV,rfl,-⟩ := id hV
        obtain ⟨W5,e5⟩ : ∃ W5,W5 = wr.alloc (.cells #[.int .i64 l[k].rel,.slice PV l[k].vals.length cV] 111) := ⟨_,rfl⟩
        have hb5 : Below wr.heap.size wr W5 := by rw [e5]; exact (Below.refl _ _).alloc (Nat.le_refl _) _
        have hwd := hWw.trans (hb5.mono hWw.size)
        have hcon := fun (qq : Bool) (hqq : atomB x.rels l[k] = qq) => implIsValidAtom_at x.rels l[k] qq hqq (.slice P x.rels.length c) (.agg #[.int .i64 l[k].rel,.slice PV l[k].vals.length cV]) W5 ((HR.out.below hwd (Nat.le_refl _)).more hwd.size) ⟨_,rfl,(hV.below hwd (Nat.le_refl _)).more hwd.size⟩
        rw [e5] at hcon
        have hlw : w.heap.size < wr.heap.size := by rw [HEz.out] at hz; omega
        have hbE : Below E.heap.size E W5 := hW.trans (hb5.mono hz)
        clear hV
        cases hr : atomB x.rels l[k] with
        | false =>
          have HF := Lib.hid (okM_no hlt hr)
          replace hcon := hcon false hr
          clear hr
          go_wp2_with (go_at_call 133; refine hcon.mono ?_; clear hcon; rintro e w2 ⟨rfl,hb2⟩)
          rw [← e5] at hb2
          go_ret
          exact ⟨ret_bool HF.out.symm,hwd.trans (hb2.mono hwd.size)⟩
        | true =>
          have HN := Lib.hid (HT.out.next hlt hr)
          replace hcon := hcon true hr
          clear hr
          go_wp2_with (go_at_call 133; refine hcon.mono ?_; clear hcon; rintro e w2 ⟨rfl,hb2⟩)
          rw [← e5] at hb2
          have hbW := hbE.trans (hb2.mono hbE.size)
          clear e5 c0 c1 x0
          go_roundw
          case rel => exact ⟨k + 1,by omega,by go_num,HN,hbW⟩
          case measure => simp [intOf]; omega
      · obtain rfl : k = l.length := by omega
        have HF := Lib.hid (HOK.out _ HT.out rfl)
        go_wp2
        go_ret
        exact ⟨ret_bool HF.out.symm,hWw⟩
   · have d3 : decide ((3 : Int) < (l.length : Int)) = true := decide_eq_true (by omega)
     have HF := Lib.hid (okM_false (x := x) (.inr h3))
     clear hx h3
     go_enter Tryz.func87,Tryz.ntmps87
     go_wp2_with (go_at_call 34; refine hvi.mono ?_; rintro e w1 ⟨rfl,hb1⟩)
     rw [← hEq] at hb1
     go_ret
     exact ⟨ret_bool HF.out.symm,hE.trans (hb1.mono hE.size)⟩
attribute [local go_sem] Oper.semAt_some
set_option maxHeartbeats 6400000 in
set_option maxRecDepth 100000 in
theorem implFind_any (v u : Value) (x : Inst) (l : List Atm) (w : World) (hx : Instance_at w w.heap.size v x) (hxw : Instance_wf x) (hl : AtomS_at w w.heap.size u l) (hlw : AtomS_wf l) :
 Calls Tryz.prog 42 #[v,u] w fun e w' => ∃ V,e = .returned V ∧ IntSS_own w.heap.size w'.heap.size V (FindMatches_r0 x l) w' ∧ Below w.heap.size w w' := by
 have HX := Lib.hid hx
 have HL := Lib.hid hl
 obtain ⟨P,c,Q,d,rfl⟩ := Instance_form hx
 have HFS := Lib.hid (show FactS_at w w.heap.size (.slice Q x.facts.length d) x.facts by
  obtain ⟨V1,V2,hv,hR,hF⟩ := hx
  simp only [Value.agg.injEq,Array.mk.injEq,List.cons.injEq,and_true] at hv
  obtain ⟨rfl,rfl⟩ := hv
  exact hF)
 obtain ⟨R,q,rfl,hq1,hq2⟩ := hl.form
 unfold maxLen at hq2
 clear hx hl
 obtain ⟨E,hEq⟩ : ∃ E,E = w.alloc (.cells #[.slice P x.rels.length c,.slice Q x.facts.length d] 27) := ⟨_,rfl⟩
 have hE : Below w.heap.size w E := by rw [hEq]; exact below_more (Below.refl _ _) _
 have X1 : E.cell? ⟨w.heap.size,1,none⟩ = some (.slice Q x.facts.length d) := by rw [hEq]; simp [go_sem]
 have hEz : w.heap.size < E.heap.size := by rw [hEq]; simp
 have hok := implCan_any _ x _ l E ((HX.out.below hE (Nat.le_refl _)).more hE.size) hxw ((HL.out.below hE (Nat.le_refl _)).more hE.size)
 rw [hEq] at hok
 obtain ⟨ok,hk⟩ : ∃ ok,okM x l = ok := ⟨_,rfl⟩
 rw [hk] at hok
 refine (callsIn_wide (n := 9)).1 (callsIn_of_wp_marks Tryz.func42 rfl trivial (wpIn_wide.2 ?_) rfl)
 simp only [Tryz.ntmps42,List.size_toArray,List.length_cons,List.length_nil,Nat.reduceAdd,Nat.reduceSub,Array.replicate_succ,Array.replicate_zero,List.push_toArray,List.append_toArray,List.nil_append,List.cons_append]
 cases ok with
 | false =>
   have HF := Lib.hid (find_no hk)
   clear hk
   go_wp2_with (go_at_call 87; refine hok.mono ?_; rintro e w1 ⟨rfl,hb1⟩)
   rw [← hEq] at hb1
   exact ⟨.slice none 0 0,by simp [results,Tryz.results42,go_sem],_,rfl,by rw [HF.out]; exact ⟨[],rfl,World.ownsRow_nil _ _ _ _,(fun g hg => by cases hg),(fun i h => absurd h (by simp)),List.Pairwise.nil⟩,hE.trans (hb1.mono hE.size)⟩
 | true =>
   have hfit := Lib.hid (okM_fit hlw hk)
   have HF := Lib.hid (find_walk hk)
   have HLEN := Lib.hid (show (walkM x.facts l blank5).length ≤ 27000 by
    obtain ⟨h30,h3,-⟩ := okM_parts hk
    refine Nat.le_trans (walkM_len x.facts h30 l blank5) ?_
    rcases (show l.length = 0 ∨ l.length = 1 ∨ l.length = 2 ∨ l.length = 3 by omega) with h | h | h | h <;> rw [h] <;> decide)
   clear hk
   go_upto_region 4 with (go_at_call 87; refine hok.mono ?_; rintro e w1 ⟨rfl,hb1⟩)
   rw [← hEq] at hb1
   have hw1 := hE.trans (hb1.mono hE.size)
   have hz1 : w.heap.size < w1.heap.size := Nat.lt_of_lt_of_le hEz hb1.size
   have x1 := (hb1.cell (p := ⟨w.heap.size,1,none⟩) hEz).trans X1
   obtain ⟨g5,hg5⟩ : ∃ g,g = w1.heap.size := ⟨_,rfl⟩
   obtain ⟨E2,hE2⟩ : ∃ E2,E2 = w1.alloc (.cells #[.slice none 0 0] 38) := ⟨_,rfl⟩
   have hb2 : Below w1.heap.size w1 E2 := by rw [hE2]; exact (Below.refl _ _).alloc (Nat.le_refl _) _
   have B5 : Boxed E2 g5 38 (.slice none 0 0) := by rw [hE2,hg5]; exact Boxed.new w1 _ _
   have hw2 := hw1.trans (hb2.mono hw1.size)
   have hz2 : w.heap.size < E2.heap.size := Nat.lt_of_lt_of_le hz1 hb2.size
   have hg5w : w.heap.size ≤ g5 := by omega
   have G1 := Aft.cell (B := E2.heap.size) hz2 ((hb2.cell (p := ⟨w.heap.size,1,none⟩) hz1).trans x1)
   have hd2 : Below E2.heap.size E2 E2.drew := (Below.refl _ _).drew
   rw [← hg5,← hE2]
   clear hE2 hok hEq X1 x1 hb1 hE hEz hg5
   refine wp_region_planL (C := fun w' => ∃ u : Aft E2.heap.size E2,w' = u.now) (.still 0 (.still 1 (.still 2 (.move true 3 (.move true 4 .done .none) .none)))) (by kernel_rfl) (by kernel_rfl) (by kernel_rfl) (fun _ => ⟨⟨E2.drew,hd2⟩,rfl⟩) ?_
   iterate 3
    refine plan_look _ rfl rfl ?_
    go_big_quiet_step (fail)
    refine wpQuiet_nil ?_
   clear G1
   refine plan_call _ 89 _ _ _ _ _ rfl _ Tryz.func89 (by kernel_rfl) (by kernel_rfl) ?_ True.intro
   refine (implNothingBound_any _).mono ?_
   rintro _ w3 ⟨rfl,hb3⟩
   have hb3' : Below E2.heap.size E2 w3 := hd2.trans hb3
   refine ⟨_,rfl,fun _ => ⟨⟨_,hb3'⟩,rfl⟩,?_⟩
   refine plan_put ?_ (by simp only [Act.put,putA,putB,putC]; rfl)
   refine plan_call _ 88 _ _ _ _ _ rfl _ Tryz.func88 (by kernel_rfl) (by kernel_rfl) ?_ True.intro
   refine (implExtensions_any _ _ _ _ _ _ blank5 _).mono ?_
   rintro _ w4 ⟨rfl,hw4⟩
   obtain ⟨W0,hW0⟩ : ∃ W0,W0 = w4 := ⟨_,rfl⟩
   have hb4 : Below w3.heap.size w3 W0 := by rw [hW0,hw4]; exact below_more (below_more (below_more (Below.refl _ _) _) _) _
   have hz4 : W0.heap.size = w3.heap.size + 3 := by rw [hW0,hw4]; simp
   have y0 : W0.cell? ⟨w3.heap.size,0,none⟩ = some (.slice Q x.facts.length d) := by rw [hW0,hw4]; simp [go_sem]
   have y1 : W0.cell? ⟨w3.heap.size + 1,0,none⟩ = some (.slice R l.length q) := by rw [hW0,hw4]; simp [go_sem]
   have y2 : BoxA (w3.heap.size + 2) blank5 W0 := by
    rw [hW0,hw4]
    have h9 := BoxA.new ((w3.alloc (.cells #[.slice Q x.facts.length d] 25)).alloc (.cells #[.slice R l.length q] 40)) blank5
    simpa using h9
   rw [← hW0]
   have hbF : Below E2.heap.size E2 W0 := hb3'.trans (hb4.mono hb3'.size)
   refine ⟨_,rfl,fun _ => ⟨⟨_,hbF⟩,rfl⟩,?_⟩
   refine plan_put ?_ (by simp only [Act.put,putA,putB,putC]; rfl)
   refine plan_done ?_
   clear hW0 hw4
   have hwF := hw2.trans (hbF.mono hw2.size)
   have hgE : g5 < E2.heap.size := B5.lt
   have B50 : Boxed W0 g5 38 (.slice none 0 0) := (hbF.block g5 hgE).trans B5
   have hz3 : E2.heap.size ≤ w3.heap.size := hb3'.size
   obtain ⟨z3,hz3e⟩ : ∃ z,z = w3.heap.size := ⟨_,rfl⟩
   rw [← hz3e] at hz4 y0 y1 y2 hz3 ⊢
   clear hz3e hb3 hb3' hb4 hbF hb2 hd2
   go_wp2
   refine (wpIn_wide (n := 9)).1 (wpIn_rangeFunc_ownH rfl (by decide) (gf := 138) (lb := #[.pointer (some ⟨z3,0,none⟩),.pointer (some ⟨z3 + 1,0,none⟩),.pointer (some ⟨z3 + 2,0,none⟩)]) rfl trivial (enters_of Tryz.func138 (by kernel_rfl) rfl)
    (implExtensions_stops (9 - 1) x.facts hxw.2 l hfit.out _ _ blank5 rfl w.heap.size z3 (z3 + 1) (z3 + 2) W0 hwF.size (HFS.out.below hwF (Nat.le_refl _)) (HL.out.below hwF (Nat.le_refl _)) (by omega) y0 (by omega) y1 y2) Kp.trans (Kp.book (by omega)) (Below.refl _ _) (fun _ => rfl)
    (fun (pre : List (List Int)) W => (∃ v Vs,Boxed W g5 38 v ∧ IntSSO w.heap.size W.heap.size v Vs (pre.map list5) W) ∧ Below w.heap.size w W)
    (fun _ _ _ => False)
    (OwnFrom.and (Own.from (box_ss_own w.heap.size g5 (fun (pre : List (List Int)) => pre.map list5)) _) (ownFrom_below (Nat.le_refl _) (by omega)))
    (fun _ _ _ _ _ hs _ _ => hs)
    ⟨⟨_,[],B50,⟨rfl,World.ownsRow_nil _ _ _ _,(fun g hg => by cases hg),(fun i h => absurd h (by simp)),List.Pairwise.nil⟩⟩,hwF⟩
    (fun y a' W => ∃ Bx,BoxA Bx y W ∧ a' = { tmps := #[.agg #[.slice P x.rels.length c,.slice Q x.facts.length d],.slice R l.length q,.pointer (some ⟨w.heap.size,0,none⟩),undef,.slice none 0 0,.pointer (some ⟨g5,0,none⟩),.pointer (some ⟨Bx,0,none⟩),.agg #[.slice P x.rels.length c,.slice Q x.facts.length d],.slice R l.length q,.bool true,.bool false,.pointer (some ⟨w.heap.size,1,none⟩),.slice Q x.facts.length d,.slice R l.length q,bAgg blank5,.func (.func 138) #[] #[.pointer (some ⟨z3,0,none⟩),.pointer (some ⟨z3 + 1,0,none⟩),.pointer (some ⟨z3 + 2,0,none⟩)],bAgg y,undef,undef,undef,undef,undef,undef],defers := [] })
    (fun y a' _ X Y row hs hg hr => by
     obtain ⟨Bx,h2,h3⟩ := hs
     exact ⟨Bx,(BoxA.own (β := Unit) Bx y).from _ () X Y row h2 hg hr,h3⟩) ?assign ?body ?done ?stop)
   case assign =>
    rintro lp pre y W K ⟨⟨v,Vs,hv,hS⟩,hB⟩ hK
    gi_wp2
    have ha := (Below.refl W.heap.size W).alloc (Nat.le_refl _) (.cells #[.int .i64 (at5 y 0),.int .i64 (at5 y 1),.int .i64 (at5 y 2),.int .i64 (at5 y 3),.int .i64 (at5 y 4)] 122)
    exact hK _ _ ((keeps_below ha).from _) (Kp.below ha hB.size) ⟨⟨v,Vs,hv.alloc _,(hS.below ha (Nat.le_refl _)).mono (Nat.le_refl _) ha.size⟩,hB.trans (ha.mono hB.size)⟩ ⟨W.heap.size,BoxA.new W y,rfl⟩
   case body =>
    rintro lp pre y a' W hlp _ ⟨⟨v,Vs,hv,hS⟩,hB⟩ ⟨Bx,hbx,rfl⟩ hlt
    have hlw : W.heap.size ≥ w.heap.size := hB.size
    have hVl : Vs.length = pre.length := by have := hS.len; rwa [List.length_map] at this
    have hlen := HLEN.out
    have G5 := Aft.cell (B := W.heap.size) hv.lt hv.cell
    have hd : Below W.heap.size W W.drew := (Below.refl _ _).drew
    gi_wp2
    refine wp_round_planL (C := fun w' => ∃ u : Aft W.heap.size W,w' = u.now) (.still 0 (.still 1 (.move true 2 (.move true 3 (.move false 4 (.move false 5 .done .none) .none) .none) .none))) (by kernel_rfl) (by kernel_rfl) (by kernel_rfl) (fun h => by obtain ⟨_,_,h⟩ := h; exact h) (by kernel_rfl) (fun _ => ⟨⟨W.drew,hd⟩,rfl⟩) ?_
    iterate 2
     refine plan_look _ rfl rfl ?_
     go_big_quiet_step (fail)
     refine wpQuiet_nil ?_
    clear G5
    refine plan_call _ 90 _ _ _ _ _ rfl _ Tryz.func90 (by kernel_rfl) (by kernel_rfl) ?_ True.intro
    refine (implCloneInts_any _ (list5 y) _ ((hbx.below hd).ints5 hbx.lt) (show 5 ≤ 1048576 by decide)).mono ?_
    rintro _ w6 ⟨U,rfl,hU,hb6⟩
    have hb6' : Below W.heap.size W w6 := hd.trans hb6
    refine ⟨_,rfl,fun _ => ⟨⟨_,hb6'⟩,rfl⟩,?_⟩
    refine plan_put ?_ (by simp only [Act.put,putA,putB,putC]; rfl)
    obtain ⟨PU,cU,rfl,-⟩ := id (hU.at_ (Nat.le_refl _))
    have hb7 := hb6'.alloc hb6'.size (.cells #[.slice PU (list5 y).length cU] 31)
    refine plan_value (u := .slice (some ⟨w6.heap.size,0,none⟩) 1 1) (w' := w6.alloc (.cells #[.slice PU (list5 y).length cU] 31)) _ rfl rfl rfl (by simp [go_sem]) (fun _ => ⟨⟨_,hb7⟩,rfl⟩) ?_ True.intro
    refine plan_put ?_ (by simp only [Act.put,putA,putB,putC]; rfl)
    have hr : SliceAt cell1 (w6.alloc (.cells #[.slice PU (list5 y).length cU] 31)) (w6.heap.size + 1) (.slice (some ⟨w6.heap.size,0,none⟩) [Value.slice PU (list5 y).length cU].length 1) [.slice PU (list5 y).length cU] :=
     ⟨_,1,rfl,by simp,by decide,fun _ => ⟨w6.heap.size,0,rfl,by omega,fun j z hz => by
      rw [flat1] at hz
      have hj : j = 0 := by
       rcases Nat.eq_zero_or_pos j with h0 | h0
       · exact h0
       · rw [List.getElem?_eq_none (by simp; omega)] at hz; cases hz
      subst hj
      simp only [List.getElem?_cons_zero,Option.some.injEq] at hz
      subst hz
      simp [go_sem]⟩,fun e => by cases e⟩
    have hU7 : IntS_own W.heap.size (w6.alloc (.cells #[.slice PU (list5 y).length cU] 31)).heap.size (.slice PU (list5 y).length cU) (list5 y) (w6.alloc (.cells #[.slice PU (list5 y).length cU] 31)) := (hU.below ((Below.refl w6.heap.size w6).alloc (Nat.le_refl _) _) (Nat.le_refl _)).mono (Nat.le_refl _) (by simp)
    have hw67 : w6.heap.size < (w6.alloc (.cells #[.slice PU (list5 y).length cU] 31)).heap.size := by simp
    obtain ⟨z6,hz6⟩ : ∃ z,z = w6.heap.size := ⟨_,rfl⟩
    rw [← hz6] at hr hw67 ⊢
    generalize w6.alloc (.cells #[.slice PU (list5 y).length cU] 31) = w7 at *
    have hS7 : IntSSO w.heap.size w7.heap.size v Vs (pre.map list5) w7 := (hS.below hb7 (Nat.le_refl _)).mono (Nat.le_refl _) hb7.size
    have hv7 : Boxed w7 g5 38 v := (hb7.block g5 hv.lt).trans hv
    have hrow2 : w7.ownsRow w.heap.size 31 1 v Vs.length (Vs.flatMap cell1) := by rw [flat1]; exact hS7.row
    have hKb7 := (keeps_below hb7)
    have hKp7 := Kp.below hb7 hlw
    have hB7 := hB.trans (hb7.mono hlw)
    have hz7 := hb7.size
    clear hz6 hb6 hb6' hU
    refine plan_app (xs := Vs) (r := [Value.slice PU (list5 y).length cU]) cell1 1 24 (fun X hX u hu => by
     rw [List.mem_singleton] at hX; subst hX
     simp only [cell1,List.mem_singleton] at hu; subst hu; rfl) cell1_len _ rfl rfl Tryz.underlying38 infoInts rfl (by decide) hrow2 _ _ rfl rfl ⟨z6,0,none⟩ 1 1 rfl rfl hr (by simp; omega) (by simp; omega) (by omega) ?_ True.intro
    intro v' w8 h1 h2 h3 h4
    refine ⟨(fun e => by cases e),?_⟩
    refine plan_put ?_ (by simp only [Act.put,putA,putB,putC]; rfl)
    rw [flat1] at h1
    obtain ⟨g8,cap8,rfl⟩ : ∃ g cap,v' = .slice (some ⟨g,0,none⟩) (Vs ++ [Value.slice PU (list5 y).length cU]).length cap := by
     rcases h1.2 with ⟨_,h0⟩ | ⟨g,cap,_,rfl,_⟩
     · simp at h0
     · exact ⟨g,cap,rfl⟩
    have hv8 : Boxed w8 g5 38 v := hv7.kept h3 (hv7.not_row (by decide) hrow2)
    have hc8 := hv8.cell
    have hf8 := hv8.frozen
    have hS8 : IntSSO w.heap.size w8.heap.size (.slice (some ⟨g8,0,none⟩) (Vs ++ [Value.slice PU (list5 y).length cU]).length cap8) (Vs ++ [Value.slice PU (list5 y).length cU]) ((pre ++ [y]).map list5) w8 := by
     rw [List.map_append]
     refine IntSSO.snoc hS7 h2.size h1 h3 (fun g hg => (World.ownsRow.lt h1 g hg).2) (hU7.mono hlw h2.size) (fun i hi g hg hg2 => ?_)
     have e1 := (hS.el i (by rw [← hS.len]; exact hi) hi).2 g hg
     have e2 := (hU7.1.lt g hg2).1
     omega
    have hcs : Chg (fun q => q = g5) w8 (w8.setCell ⟨g5,0,none⟩ (.slice (some ⟨g8,0,none⟩) (Vs ++ [Value.slice PU (list5 y).length cU]).length cap8)) := (Chg.refl (fun q => q = g5) w8).setCell (p := ⟨g5,0,none⟩) rfl _
    have hS9 := (hS8.chgN hcs (fun q c t f hq ht e => by
     subst e
     rw [show w8.heap[q]? = _ from hv8] at hq
     cases hq
     rcases ht with ht | ht <;> exact absurd ht (by decide))).mono (Nat.le_refl _) hcs.size
    have hv9 := hv8.set (.slice (some ⟨g8,0,none⟩) (Vs ++ [Value.slice PU (list5 y).length cU]).length cap8)
    have hK9 : KeepsOthers W (w8.setCell ⟨g5,0,none⟩ (.slice (some ⟨g8,0,none⟩) (Vs ++ [Value.slice PU (list5 y).length cU]).length cap8)) := (hKb7.trans (KeepsOthers.of_grownBy h3 fun j o ej hj => by
     obtain ⟨cc,hcc⟩ := ownsRow_cells hrow2 j ej
     rw [hcc] at hj; cases hj; rfl)).trans (KeepsOthers.setCell _ _ _)
    have hB9 : Below w.heap.size w7 (w8.setCell ⟨g5,0,none⟩ (.slice (some ⟨g8,0,none⟩) (Vs ++ [Value.slice PU (list5 y).length cU]).length cap8)) := h2.setCell (p := ⟨g5,0,none⟩) hg5w _
    have hP9 : Kp w.heap.size W (w8.setCell ⟨g5,0,none⟩ (.slice (some ⟨g8,0,none⟩) (Vs ++ [Value.slice PU (list5 y).length cU]).length cap8)) := hKp7.trans ⟨hB9,fun k c t f hk h34 h31 => by
     have hk8 : w8.heap[k]? = some (.cells c t f) := (h3.block k (Array.getElem?_eq_some_iff.1 hk).1 (fun e => by
      obtain ⟨cc,hcc⟩ := ownsRow_cells hrow2 k e.symm
      rw [hcc] at hk; cases hk; exact h34 rfl)).trans hk
     have hne : k ≠ g5 := fun e => by
      subst e
      rw [show w8.heap[k]? = _ from hv8] at hk8
      cases hk8
      exact h31 rfl
     exact (Below.heap_setCell _ _ _ k (fun e => hne (by first | exact e | exact e.symm))).trans hk8⟩
    refine plan_skip (w' := w8.setCell ⟨g5,0,none⟩ (.slice (some ⟨g8,0,none⟩) (Vs ++ [Value.slice PU (list5 y).length cU]).length cap8)) _ rfl rfl rfl (by simp [go_sem,hc8,hf8]) (fun e => by cases e) ?_ True.intro
    refine plan_put ?_ (by simp only [Act.put]; rfl)
    refine plan_done ?_
    exact ⟨hK9.from _,hP9,⟨_,_,hv9,hS9⟩,hB7.trans hB9⟩
   case done =>
    rintro D xs W hD rfl ⟨⟨v,Vs,hv,hS⟩,hB⟩ hK
    have hc := hv.cell
    obtain ⟨A,cV,rfl,-⟩ := (hS.at_ (Nat.le_refl _)).form
    have hchg := chg_row (grownBy_putObj' W D (.deferred none))
    have hS9 := (hS.chgN hchg (fun q c t f hq _ e => by cases e; rw [hK] at hq; cases hq)).mono (Nat.le_refl _) hchg.size
    rw [walk_list5 x.facts l blank5 rfl] at hS9
    go_wp2
    refine ⟨by simp,.inl ⟨_,_,rfl,run_takeDeferred hK,?_⟩⟩
    exact ⟨_,results_tmp rfl _ _ _,_,rfl,by rw [HF.out]; exact ⟨_,hS9⟩,hB.trans (belowK_b (w := w) (Nat.le_refl _) _ D _ _ (by omega) hK rfl rfl)⟩
   case stop =>
    rintro D c pre W _ _ h _
    exact h.elim
theorem lenSum_five (L : List (List Int)) (h : ∀ c ∈ L, c.length = 5) : lenSum L = 5 * L.length := by
 induction L with
 | nil => rfl
 | cons a t ih =>
   rw [lenSum,ih (fun c hc => h c (by simp [hc])),h a (by simp),List.length_cons]; omega
theorem find_sz (x : Inst) (l : List Atm) : IntSS_sz (FindMatches_r0 x l) ≤ 1048576 := by
 unfold IntSS_sz
 cases hk : okM x l with
 | false => rw [find_no hk]; decide
 | true =>
   rw [find_walk hk,lenSum_five _ (walkM_five x.facts l blank5 rfl)]
   obtain ⟨h30,h3,-⟩ := okM_parts hk
   have h1 := walkM_len x.facts h30 l blank5
   have h2 : 30 ^ l.length ≤ 27000 := by rcases (show l.length = 0 ∨ l.length = 1 ∨ l.length = 2 ∨ l.length = 3 by omega) with h | h | h | h <;> rw [h] <;> decide
   omega
def rowK {α : Type} (p : α → Bool) (l : List α) (j : Nat) : List α := keepN p (l.take j) ++ l.drop (keepN p (l.take j)).length
theorem keepK_le {α : Type} (p : α → Bool) (l : List α) (j : Nat) : (keepN p (l.take j)).length ≤ l.length ∧ (keepN p (l.take j)).length ≤ j := by
 have h := keepN_len p (l.take j)
 rw [List.length_take] at h; omega
theorem rowK_len {α : Type} (p : α → Bool) (l : List α) (j : Nat) : (rowK p l j).length = l.length := by
 have := keepK_le p l j
 unfold rowK
 rw [List.length_append,List.length_drop]; omega
theorem rowK_get {α : Type} (p : α → Bool) (l : List α) (j k : Nat) (h : j ≤ k) (hk : k < l.length) : (rowK p l j)[k]'(by rw [rowK_len]; exact hk) = l[k] := by
 have := keepK_le p l j
 unfold rowK
 rw [List.getElem_append_right (by omega),List.getElem_drop]
 congr 1; omega
theorem rowK_drop {α : Type} (p : α → Bool) (l : List α) (j : Nat) (hj : j < l.length) (h : p l[j] = true) : rowK p l (j + 1) = rowK p l j ∧ (keepN p (l.take (j + 1))).length = (keepN p (l.take j)).length := by
 have e : keepN p (l.take (j + 1)) = keepN p (l.take j) := by rw [keepN_take j hj,if_pos h,List.append_nil]
 unfold rowK; rw [e]; exact ⟨rfl,rfl⟩
theorem rowK_keep {α : Type} (p : α → Bool) (l : List α) (j : Nat) (hj : j < l.length) (h : p l[j] = false) : rowK p l (j + 1) = (rowK p l j).set (keepN p (l.take j)).length l[j] ∧ (keepN p (l.take (j + 1))).length = (keepN p (l.take j)).length + 1 := by
 have e : keepN p (l.take (j + 1)) = keepN p (l.take j) ++ [l[j]] := by rw [keepN_take j hj,if_neg (by rw [h]; simp)]
 have hl := keepK_le p l j
 unfold rowK; rw [e]
 refine ⟨?_,by simp⟩
 rw [List.set_append_right _ _ (Nat.le_refl _),Nat.sub_self,List.drop_eq_getElem_cons (show (keepN p (l.take j)).length < l.length by omega),List.set_cons_zero,List.length_append,List.length_singleton,List.append_assoc]
 rfl
theorem keepK_lt {α : Type} {p : α → Bool} {l : List α} (h : l.any p = true) : (keepN p l).length < l.length := by
 induction l with
 | nil => simp at h
 | cons y t ih =>
   have hle := keepN_len p t
   unfold keepN at *
   cases hy : p y with
   | true => rw [List.filter_cons_of_neg (by simp [hy]),List.length_cons]; omega
   | false =>
     rw [List.any_cons,hy,Bool.false_or] at h
     have := ih h
     rw [List.filter_cons_of_pos (by simp [hy]),List.length_cons,List.length_cons]; omega
def TellsR (g : Nat) (lb : Array Value) (G : World → Prop) (p : List Int → Bool) (l : List (List Int)) : Prop :=
 ∀ (W : World) (x : List Int) (V : Value),G W → x ∈ l → IntS_at W W.heap.size V x → Calls Tryz.prog g (#[V] ++ lb) W fun e w' => e = .returned (.bool (p x)) ∧ Below W.heap.size W w'
theorem zeroRow_val : ∀ w, (zeroValue 31).run Tryz.prog w = .ok (.slice none 0 0) w := by
 intro w
 obtain ⟨i0,hi,hz0,hz1,hz2⟩ := info_parts infoInts
 simp [zeroValue,typeInfo,hi,hz0]
theorem zeroCells_row (n : Nat) : (Builtin.zeroCells #[.slice none 0 0] n).toList = List.replicate n (Value.slice none 0 0) := by
 apply List.ext_getElem?
 intro i
 by_cases hi : i < n
 · simp [Builtin.zeroCells,hi,Nat.mod_one]
 · rw [List.getElem?_eq_none (by simp [Builtin.zeroCells]; omega),List.getElem?_eq_none (by simp; omega)]
theorem run_clear_rows {P : Program} {w : World} {t e ty : TypeId} (ht : P.underlying t = some (.slice e)) (hv : ∀ w, (zeroValue e).run P w = .ok (.slice none 0 0) w) (g o n c : Nat) (hn : 0 < n)
 (hc : ∀ j,j < n → (w.cell? ⟨g,o + j,none⟩).isSome = true) (hf : ∀ j,w.frozen? ⟨g,j,none⟩ = false) :
 (Builtin.clear_ #[t] ty #[.slice (some ⟨g,o,none⟩) n c]).run P w = .ok (.tuple #[]) (w.setCells g o (List.replicate n (.slice none 0 0))) := by
 have hst := run_storeCells_cells (P := P) g o (List.replicate n (Value.slice none 0 0)) 0 w (by simpa using hc) (fun j _ => hf _) (by
  intro v hv'
  rw [List.eq_of_mem_replicate hv']; rfl)
 simp only [Nat.add_zero] at hst
 have hz : (Value.slice none 0 0).cells = #[.slice none 0 0] := rfl
 obtain ⟨m,rfl⟩ : ∃ m,n = m + 1 := ⟨n - 1,by omega⟩
 simp [Builtin.clear_,run_underlying ht,hv,hz,zeroCells_row,hst]
set_option maxHeartbeats 1600000 in
set_option maxRecDepth 100000 in
theorem implIxR_any (g : Nat) (lb : Array Value) (eg : ∀ args w, (callFunc g args).run Tryz.prog w = .ok (.enter g args) w) (G : World → Prop) (hG : ∀ W W', G W → Below W.heap.size W W' → G W') (p : List Int → Bool) (v : Value) (l : List (List Int)) (w : World) (h0 : G w) (ht : TellsR g lb G p l) (hl : IntSS_at w w.heap.size v l) :
 Calls Tryz.prog 86 #[v,.func (.func g) #[] lb] w fun e w' => e = .returned (.int .i64 (ixOf p l)) ∧ Below w.heap.size w w' := by
 have HL := Lib.hid hl
 obtain ⟨A,c,rfl,hlc,hcm⟩ := hl.form
 unfold maxLen at hcm
 have HG := Lib.hid (fun wr (hW : Below w.heap.size w wr) => hG w wr h0 hW)
 have HT := Lib.hid ht
 clear hG h0 ht hl
 go_enter Tryz.func86,Tryz.ntmps86
 go_wp2
 go_loopw [8] (fun i wr => ∃ k : Nat,k ≤ l.length ∧ i = .int .i64 k ∧ Hid (IxTo p l k) ∧ Below w.heap.size w wr) (fun i _ => l.length - (intOf i).toNat)
 case atStart => exact ⟨0,by omega,rfl,Lib.hid (IxTo.zero _ _),Below.refl _ _⟩
 case round =>
  obtain ⟨k,hk,rfl,HI,hW⟩ := hrel
  have hz := hW.size
  by_cases hlt : k < l.length
  · obtain ⟨b,off,V,rfl,hb,c0,hV⟩ := IntSS_at.elem HL.out k hlt
    replace c0 := (hW.cell (p := ⟨b,off + k,none⟩) hb).trans c0
    have hcall := HT.out wr l[k] V (HG.out wr hW) (List.getElem_mem hlt) ((hV.below hW (Nat.le_refl _)).more hz)
    obtain ⟨PV,cV,rfl,-⟩ := id hV
    cases hp : p l[k] with
    | true =>
      have HV := Lib.hid (HI.out.hit hlt hp)
      rw [hp] at hcall
      clear hp hV
      go_wp2_with (go_at_fn g; refine hcall.mono ?_; rintro e w1 ⟨rfl,hb1⟩)
      go_ret
      exact ⟨ret_int HV.out.symm,hW.trans (hb1.mono hz)⟩
    | false =>
      have HV := Lib.hid (HI.out.next hlt hp)
      rw [hp] at hcall
      clear hp hV
      go_wp2_with (go_at_fn g; refine hcall.mono ?_; rintro e w1 ⟨rfl,hb1⟩)
      go_roundw
      case rel => exact ⟨k + 1,by omega,by go_num,HV,hW.trans (hb1.mono hz)⟩
      case measure => simp [intOf]; omega
  · obtain rfl : k = l.length := by omega
    have HV := Lib.hid HI.out.miss
    go_wp2
    go_ret
    exact ⟨ret_int HV.out.symm,hW⟩
def onR (p : List Int → Bool) (z : List Int × Value) : Bool := p z.1
theorem keepR_fst (p : List Int → Bool) (Z : List (List Int × Value)) : (keepN (onR p) Z).map Prod.fst = keepN p (Z.map Prod.fst) := by
 unfold keepN; rw [List.filter_map]; rfl
set_option maxHeartbeats 3200000 in
set_option maxRecDepth 100000 in
theorem implDelR_any (g : Nat) (lb : Array Value) (eg : ∀ args w, (callFunc g args).run Tryz.prog w = .ok (.enter g args) w) (G : World → Prop) (hG : ∀ W W', G W → Below W.heap.size W W' → G W') (p : List Int → Bool) (l : List (List Int)) (B : Nat) (v : Value) (Vs : List Value) (w : World) (h0 : G w) (ht : TellsR g lb G p l)
 (hn : l.length ≤ 1048576) (hB : B ≤ w.heap.size) (hS : ∀ W q o u,B ≤ q → G W → G (W.setCell ⟨q,o,none⟩ u)) (hO : IntSSO B w.heap.size v Vs l w) :
 Calls Tryz.prog 41 #[v,.func (.func g) #[] lb] w fun e w' => ∃ u,e = .returned u ∧ IntSS_own B w'.heap.size u (keepN p l) w' ∧ Below B w w' := by
 have hix := implIxR_any g lb eg G hG p v l w h0 ht (hO.at_ (Nat.le_refl _))
 rcases ixOf_form p l with ⟨hi,hany⟩ | ⟨k0,hk0,hi,hpk,hbef⟩
 · have HK := Lib.hid (keepN_none hany)
   have HO := Lib.hid hO
   rw [hi] at hix
   have hm1 : ((-1 : Int) == -1) = true := rfl
   obtain ⟨A,c,rfl,-⟩ := (hO.at_ (Nat.le_refl _)).form
   clear hi hany hO hS hG ht h0
   go_enter Tryz.func41,Tryz.ntmps41
   go_wp2_with (go_at_call 86; refine hix.mono ?_; rintro e w1 ⟨rfl,hb1⟩)
   go_ret
   exact ⟨_,rfl,by rw [HK.out]; exact ⟨Vs,(HO.out.below hb1 (Nat.le_refl _)).mono (Nat.le_refl _) hb1.size⟩,hb1.mono hB⟩
 · have hVl := hO.len
   obtain ⟨q,cap,rfl,hq0,hq1,hnc,hcm⟩ : ∃ q cap,v = .slice (some ⟨q,0,none⟩) l.length cap ∧ B ≤ q ∧ q < w.heap.size ∧ l.length ≤ cap ∧ cap ≤ maxLen := by
    obtain ⟨q,cap,rfl,h1,h2⟩ := World.ownsRow.form hO.row (by omega)
    obtain ⟨A,c,hv,h3,h4⟩ := (hO.at_ (Nat.le_refl _)).form
    injection hv with e1 e2 e3
    subst e3
    exact ⟨q,cap,by rw [hVl],h1,h2,h3,h4⟩
   unfold maxLen at hcm
   obtain ⟨Z,hZ⟩ : ∃ Z,Z = l.zip Vs := ⟨_,rfl⟩
   have hZl : Z.length = l.length := by rw [hZ,List.length_zip]; omega
   have hZ1 : Z.map Prod.fst = l := by rw [hZ]; exact List.map_fst_zip (by omega)
   have hZ2 : Z.map Prod.snd = Vs := by rw [hZ]; exact List.map_snd_zip (by omega)
   have hZe : ∀ z ∈ Z,IntS_own B w.heap.size z.2 z.1 w := fun z hz => by
    obtain ⟨i,hi,rfl⟩ := List.getElem_of_mem hz
    have h1 : i < l.length := by omega
    have h2 : i < Vs.length := by omega
    have e : Z[i] = (l[i],Vs[i]) := by subst hZ; exact List.getElem_zip
    rw [e]; exact hO.el i h1 h2
   have hZa : ∀ j (hj : j < Z.length),Z[j].1 = l[j]'(by omega) := fun j hj => by subst hZ; simp
   clear hZ
   have hn1 : ((k0 : Int) == -1) = false := beq_eq_false_iff_ne.2 (by omega)
   rw [hi] at hix
   have hstart : keepN (onR p) (Z.take (k0 + 1)) = Z.take k0 := keepN_first k0 (by omega) (by show p Z[k0].1 = true; rw [hZa k0 (by omega)]; exact hpk) (fun j hj hjk => by show p Z[j].1 = false; rw [hZa j hj]; exact hbef j (by omega) hjk)
   have HSt := Lib.hid hstart
   have hlt0 : (keepN (onR p) (Z.take Z.length)).length < Z.length := by
    rw [List.take_of_length_le (Nat.le_refl _)]
    exact keepK_lt (List.any_eq_true.2 ⟨Z[k0]'(by omega),List.getElem_mem _,by show p _ = true; rw [hZa k0 (by omega)]; exact hpk⟩)
   have HLT := Lib.hid hlt0
   have HO := Lib.hid hO
   have HT := Lib.hid ht
   have HGI := Lib.hid (And.intro hG hS)
   have H0 := Lib.hid h0
   have HZE := Lib.hid hZe
   have HZM := Lib.hid (fun z (hz : z ∈ Z) => (show z.1 ∈ l by rw [← hZ1]; exact List.mem_map_of_mem hz))
   have HZ12 := Lib.hid (And.intro hZ1 hZ2)
   have hrow0 : w.ownsRow B 31 1 (.slice (some ⟨q,0,none⟩) Z.length cap) Z.length (Z.map Prod.snd) := by
    have := hO.row
    rw [hVl,← hZl] at this
    rw [hZ2]; exact this
   have HR0 := Lib.hid hrow0
   have HQT := Lib.hid (ownsRow_cells hrow0 q rfl)
   have hkz : k0 < Z.length := by omega
   have hnz : Z.length ≤ 1048576 := by omega
   have hZc : Z.length ≤ cap := by omega
   rw [← hZl] at hix ⊢
   have HKL := Lib.hid (show (keepN (onR p) Z).map Prod.fst = keepN p l by rw [keepR_fst,hZ1])
   clear hi hstart hlt0 hO hS hG ht h0 hpk hbef hZe hZ1 hZ2 hZa hrow0 hVl hk0 hn hnc hZl
   go_enter Tryz.func41,Tryz.ntmps41
   go_wp2_with fail
   refine hix.mono ?_
   rintro e w1 ⟨rfl,hb1⟩
   go_wp2
   go_loopw [5,6] (fun i j wr => ∃ k : Nat,k ≤ Z.length ∧ j = .int .i64 k ∧ i = .int .i64 (keepN (onR p) (Z.take k)).length ∧ wr.ownsRow B 31 1 (.slice (some ⟨q,0,none⟩) Z.length cap) Z.length ((rowK (onR p) Z k).map Prod.snd) ∧ Hid (Chg (fun k => k = q) w wr) ∧ Hid (G wr)) (fun _ j _ => Z.length - (intOf j).toNat)
   case atStart =>
    refine ⟨k0 + 1,by omega,by go_num,?_,?_,Lib.hid (Chg.of_below hb1),Lib.hid (HGI.out.1 _ _ H0.out hb1)⟩
    · rw [HSt.out,List.length_take,Nat.min_eq_left (by omega)]
    · have e : rowK (onR p) Z (k0 + 1) = Z := by
       unfold rowK
       rw [HSt.out,List.length_take,Nat.min_eq_left (by omega),List.take_append_drop]
      rw [e]
      exact row_below HR0.out hb1 (Nat.le_refl _)
   case round =>
    obtain ⟨k,hk,rfl,rfl,hrow,HC,HGw⟩ := hrel
    have hz := HC.out.size
    have hik := keepK_le (onR p) Z k
    have hRl := rowK_len (onR p) Z k
    have HIK := Lib.hid hik
    have hqw : q < wr.heap.size := by omega
    have HEL := Lib.hid (show ∀ z ∈ Z,IntS_own B w.heap.size z.2 z.1 wr from fun z hzm => ⟨(HZE.out z hzm).1.chg HC.out (fun g hg e => by
     subst e
     obtain ⟨c1,h1⟩ := ownsRow_cells (HZE.out z hzm).1 g hg
     obtain ⟨c2,h2⟩ := HQT.out
     rw [h1] at h2; cases h2),(HZE.out z hzm).2⟩)
    by_cases hlt : k < Z.length
    · have hc0 : wr.cell? ⟨q,k,none⟩ = some Z[k].2 := by
       rw [World.ownsRow.cellAt hrow k (by omega),List.getElem?_map,List.getElem?_eq_getElem (by omega),rowK_get (onR p) Z k k (Nat.le_refl _) hlt]; rfl
      have HKp := Lib.hid (rowK_keep (onR p) Z k hlt)
      have HDr := Lib.hid (rowK_drop (onR p) Z k hlt)
      have hU := HEL.out Z[k] (List.getElem_mem hlt)
      have hcall := HT.out wr Z[k].1 Z[k].2 HGw.out (HZM.out Z[k] (List.getElem_mem hlt)) (hU.at_ hz)
      obtain ⟨PV,cV,hv,-⟩ := id (hU.at_ (Nat.le_refl _))
      rw [hv] at hc0 hcall
      have HV2 := Lib.hid hv
      have HROW := Lib.hid hrow
      have hil : (keepN (onR p) (Z.take k)).length < Z.length := by omega
      have HIL := Lib.hid hil
      clear hrow hRl hU hv
      cases hp : p Z[k].1 with
      | true =>
        have hd := HDr.out hp
        have HD := Lib.hid hd
        rw [hp] at hcall
        clear hd hp
        go_wp2_with fail
        refine hcall.mono ?_
        rintro e w2 ⟨rfl,hb2⟩
        clear hcall hc0
        go_wp2
        go_roundw
        case rel => exact ⟨k + 1,by omega,by go_num,by rw [HD.out.2],by rw [HD.out.1]; exact row_below HROW.out hb2 (Nat.le_refl _),Lib.hid (HC.out.then_below (hb2.mono hz)),Lib.hid (HGI.out.1 _ _ HGw.out hb2)⟩
        case measure => simp [intOf]; omega
      | false =>
        have hd := HKp.out hp
        have HD := Lib.hid hd
        rw [hp] at hcall
        clear hd hp
        go_wp2_with fail
        refine hcall.mono ?_
        rintro e w2 ⟨rfl,hb2⟩
        have hrow2 := row_below HROW.out hb2 (Nat.le_refl _)
        have d0 : (w2.cell? ⟨q,(keepN (onR p) (Z.take k)).length,none⟩) = some ((rowK (onR p) Z k)[(keepN (onR p) (Z.take k)).length]'(by rw [rowK_len]; exact HIL.out)).2 := by
         rw [World.ownsRow.cellAt hrow2 _ (by have := HIL.out; omega),List.getElem?_map,List.getElem?_eq_getElem (by rw [rowK_len]; exact HIL.out)]; rfl
        have dz := World.ownsRow.frozenAt hrow2
        have HROW2 := Lib.hid ((World.ownsRow.stored hrow2 (keepN (onR p) (Z.take k)).length Z[k].2).1)
        rw [← List.map_set,← HD.out.1,HV2.out] at HROW2
        have HB2 := Lib.hid hb2
        clear hcall hc0 hrow2 hb2
        go_wp2
        go_roundw
        case rel => exact ⟨k + 1,by omega,by go_num,by rw [HD.out.2]; go_num,HROW2.out,Lib.hid ((HC.out.then_below (HB2.out.mono hz)).setCell (p := ⟨q,(keepN (onR p) (Z.take k)).length,none⟩) rfl _),Lib.hid (HGI.out.2 _ _ _ _ hq0 (HGI.out.1 _ _ HGw.out HB2.out))⟩
        case measure => simp [intOf]; omega
    · obtain rfl : k = Z.length := by omega
      generalize hi0 : (keepN (onR p) (List.take Z.length Z)).length = i0 at *
      have hti : i0 < Z.length := HLT.out
      have hA : keepN (onR p) (Z.take Z.length) = keepN (onR p) Z := by rw [List.take_of_length_le (Nat.le_refl _)]
      have hi0' : (keepN (onR p) Z).length = i0 := by rw [← hA]; exact hi0
      have hcl : ∀ ty,(Builtin.clear_ #[38] ty #[.slice (some ⟨q,i0,none⟩) (Z.length - i0) (cap - i0)]).run Tryz.prog wr = .ok (.tuple #[]) (wr.setCells q i0 (List.replicate (Z.length - i0) (.slice none 0 0))) :=
       fun ty => run_clear_rows Tryz.underlying38 zeroRow_val q _ _ _ (by omega) (fun j hj => by
        rw [World.ownsRow.cellAt hrow _ (by omega),List.getElem?_eq_getElem (by rw [List.length_map,hRl]; omega)]; rfl) (World.ownsRow.frozenAt hrow)
      have hCF := HC.out.trans (chg_setCells (List.replicate (Z.length - i0) (Value.slice none 0 0)) i0 wr)
      have HFIN := Lib.hid (show IntSSO B w.heap.size (.slice (some ⟨q,0,none⟩) i0 cap) ((keepN (onR p) Z).map Prod.snd) ((keepN (onR p) Z).map Prod.fst) (wr.setCells q i0 (List.replicate (Z.length - i0) (.slice none 0 0))) by
       have h1 := ownsRow_cut (ownsRow_setCells (List.replicate (Z.length - i0) (Value.slice none 0 0)) i0 hrow) (i := i0) (by omega)
       rw [Nat.mul_one,setMany_take] at h1
       have e : ((rowK (onR p) Z Z.length).map Prod.snd).take i0 = (keepN (onR p) Z).map Prod.snd := by
        unfold rowK
        rw [hA,List.map_append,List.take_left' (by rw [List.length_map,hi0'])]
       rw [e] at h1
       refine ⟨by simp,by rw [List.length_map,hi0']; exact h1,(fun g hg => by cases hg; exact hq1),fun i h h' => ?_,?_⟩
       · simp only [List.getElem_map]
         have hm : (keepN (onR p) Z)[i]'(by simpa using h) ∈ Z := (List.mem_filter.1 (List.getElem_mem _)).1
         exact ⟨(HZE.out _ hm).1.chg hCF (fun g hg e => by
          subst e
          obtain ⟨c1,h1⟩ := ownsRow_cells (HZE.out _ hm).1 g hg
          obtain ⟨c2,h2⟩ := HQT.out
          rw [h1] at h2; cases h2),(HZE.out _ hm).2⟩
       · have h2 := HO.out.dis
         rw [← HZ12.out.2] at h2
         exact h2.sublist ((List.filter_sublist (l := Z)).map Prod.snd))
      have HCF := Lib.hid (hCF.below (B := B) (fun k hk => by subst hk; exact hq0) hB)
      have HCZ := Lib.hid hCF.size
      have hdk : ¬ (Z.length - i0 = 0) := by omega
      have hdk2 : ¬ (cap - i0 = 0) := by omega
      clear hrow hA hi0 hi0' hCF
      go_wp2
      go_ret
      exact ⟨_,rfl,by rw [← HKL.out]; exact ⟨_,HFIN.out.mono (Nat.le_refl _) HCZ.out⟩,HCF.out⟩
end Go.Proofs.YtobdijcnfmgidaaGreat
