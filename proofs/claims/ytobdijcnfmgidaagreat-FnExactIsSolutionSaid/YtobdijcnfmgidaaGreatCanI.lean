/-
  Walks and plain lemmas for the laws of this seat: what single Go functions return, for every argument.
-/
import Derived.Test.YtobdijcnfmgidaaGreatTyAtom
import Derived.Test.YtobdijcnfmgidaaGreatFact
import Derived.Test.YtobdijcnfmgidaaGreatKpM
import Derived.Test.YtobdijcnfmgidaaGreatCopI
import Derived.Test.YtobdijcnfmgidaaGreatMatK
import Derived.Test.YtobdijcnfmgidaaGreatDepsV
import Derived.Test.YtobdijcnfmgidaaGreatExtI
import Derived.Test.YtobdijcnfmgidaaGreatFactVI
import Derived.Test.YtobdijcnfmgidaaGreatDepVI
namespace Go.Proofs.YtobdijcnfmgidaaGreat
open Go.RowKit

theorem okM_false {x : Inst} {l : List Atm} (h : instOk x = false ∨ ¬ l.length ≤ 3) : okM x l = false := by
  unfold okM
  rcases h with h | h
  · rw [h]; simp
  · rw [decide_eq_false h]; simp
set_option maxHeartbeats 3200000 in
set_option maxRecDepth 100000 in
theorem implCan_any (v : Value) (x : Inst) (u : Value) (l : List Atm) (w : World) (h : Instance_at w w.heap.size v x) (hw : Instance_wf x) (h' : AtomS_at w w.heap.size u l) :
    Calls Tryz.prog 87 #[v, u] w fun e w' => e = .returned (.bool (okM x l)) ∧ Below w.heap.size w w' := by
  have HX := Lib.hid h
  have HL := Lib.hid h'
  obtain ⟨P, c, Q, d, rfl⟩ := Instance_form h
  have HR := Lib.hid (show RelationS_at w w.heap.size (.slice P x.rels.length c) x.rels by
    obtain ⟨V1, V2, hv, hR, hF⟩ := h
    simp only [Value.agg.injEq, Array.mk.injEq, List.cons.injEq, and_true] at hv
    obtain ⟨rfl, rfl⟩ := hv
    exact hR)
  obtain ⟨R, q, rfl, hq1, hq2⟩ := h'.form
  unfold maxLen at hq2
  clear h h'
  obtain ⟨E, hEq⟩ : ∃ E, E = w.alloc (.cells #[.slice P x.rels.length c, .slice Q x.facts.length d] 27) := ⟨_, rfl⟩
  have hE : Below w.heap.size w E := by rw [hEq]; exact below_more (Below.refl _ _) _
  have HEz := Lib.hid (show E.heap.size = w.heap.size + 1 by rw [hEq]; simp)
  have X0 := Lib.hid (show E.cell? ⟨w.heap.size, 0, none⟩ = some (.slice P x.rels.length c) by rw [hEq]; simp [go_sem])
  have hvi := fun q hq => implIsValidInstance_at x q hq _ E ((HX.out.below hE (Nat.le_refl _)).more hE.size) hw
  rw [hEq] at hvi
  cases hx : instOk x with
  | false =>
    have HF := Lib.hid (okM_false (l := l) (.inl hx))
    replace hvi := hvi false hx
    clear hx
    go_enter Tryz.func87, Tryz.ntmps87
    go_wp2_with (go_at_call 34; refine hvi.mono ?_; rintro e w1 ⟨rfl, hb1⟩)
    rw [← hEq] at hb1
    go_ret
    exact ⟨ret_bool HF.out.symm, hE.trans (hb1.mono hE.size)⟩
  | true =>
    replace hvi := hvi true hx
    by_cases h3 : l.length ≤ 3
    · have d3 : decide ((3 : Int) < (l.length : Int)) = false := decide_eq_false (by omega)
      have HOK := Lib.hid (show ∀ k, OkTo x l k → k = l.length → okM x l = true from fun k hT e => by subst e; rw [okM_end hT, hx, decide_eq_true h3]; rfl)
      clear hx h3
      go_enter Tryz.func87, Tryz.ntmps87
      go_wp2_with (go_at_call 34; refine hvi.mono ?_; clear hvi; rintro e w1 ⟨rfl, hb1⟩)
      rw [← hEq] at hb1
      clear hEq d3
      go_loopw [17] (fun i wr => ∃ k : Nat, k ≤ l.length ∧ i = .int .i64 k ∧ Hid (OkTo x l k) ∧ Below E.heap.size E wr) (fun i _ => l.length - (intOf i).toNat)
      case atStart => exact ⟨0, by omega, rfl, Lib.hid (OkTo.zero x l), hb1⟩
      case round =>
        obtain ⟨k, hk, rfl, HT, hW⟩ := hrel
        have hz := hW.size
        have hWw := hE.trans (hW.mono hE.size)
        by_cases hlt : k < l.length
        · have x0 := (hW.cell (p := ⟨w.heap.size, 0, none⟩) (by show w.heap.size < _; rw [HEz.out]; omega)).trans X0.out
          obtain ⟨b, off, V, rfl, hb, c0, c1, hV⟩ := AtomS_at.elem HL.out k hlt
          replace c0 := (hWw.cell (p := ⟨b, off + k * 2, none⟩) hb).trans c0
          replace c1 := (hWw.cell (p := ⟨b, off + k * 2 + 1, none⟩) hb).trans c1
          obtain ⟨PV, cV, rfl, -⟩ := id hV
          obtain ⟨W5, e5⟩ : ∃ W5, W5 = wr.alloc (.cells #[.int .i64 l[k].rel, .slice PV l[k].vals.length cV] 111) := ⟨_, rfl⟩
          have hb5 : Below wr.heap.size wr W5 := by rw [e5]; exact (Below.refl _ _).alloc (Nat.le_refl _) _
          have hwd := hWw.trans (hb5.mono hWw.size)
          have hcon := fun (qq : Bool) (hqq : atomB x.rels l[k] = qq) => implIsValidAtom_at x.rels l[k] qq hqq (.slice P x.rels.length c) (.agg #[.int .i64 l[k].rel, .slice PV l[k].vals.length cV]) W5 ((HR.out.below hwd (Nat.le_refl _)).more hwd.size) ⟨_, rfl, (hV.below hwd (Nat.le_refl _)).more hwd.size⟩
          rw [e5] at hcon
          have hlw : w.heap.size < wr.heap.size := by rw [HEz.out] at hz; omega
          have hbE : Below E.heap.size E W5 := hW.trans (hb5.mono hz)
          clear hV
          cases hr : atomB x.rels l[k] with
          | false =>
            have HF := Lib.hid (okM_no hlt hr)
            replace hcon := hcon false hr
            clear hr
            go_wp2_with (go_at_call 133; refine hcon.mono ?_; clear hcon; rintro e w2 ⟨rfl, hb2⟩)
            rw [← e5] at hb2
            go_ret
            exact ⟨ret_bool HF.out.symm, hwd.trans (hb2.mono hwd.size)⟩
          | true =>
            have HN := Lib.hid (HT.out.next hlt hr)
            replace hcon := hcon true hr
            clear hr
            go_wp2_with (go_at_call 133; refine hcon.mono ?_; clear hcon; rintro e w2 ⟨rfl, hb2⟩)
            rw [← e5] at hb2
            have hbW := hbE.trans (hb2.mono hbE.size)
            clear e5 c0 c1 x0
            go_roundw
            case rel => exact ⟨k + 1, by omega, by go_num, HN, hbW⟩
            case measure => simp [intOf]; omega
        · obtain rfl : k = l.length := by omega
          have HF := Lib.hid (HOK.out _ HT.out rfl)
          go_wp2
          go_ret
          exact ⟨ret_bool HF.out.symm, hWw⟩
    · have d3 : decide ((3 : Int) < (l.length : Int)) = true := decide_eq_true (by omega)
      have HF := Lib.hid (okM_false (x := x) (.inr h3))
      clear hx h3
      go_enter Tryz.func87, Tryz.ntmps87
      go_wp2_with (go_at_call 34; refine hvi.mono ?_; rintro e w1 ⟨rfl, hb1⟩)
      rw [← hEq] at hb1
      go_ret
      exact ⟨ret_bool HF.out.symm, hE.trans (hb1.mono hE.size)⟩

attribute [local go_sem] Oper.semAt_some
set_option maxHeartbeats 6400000 in
set_option maxRecDepth 100000 in
theorem implFind_any (v u : Value) (x : Inst) (l : List Atm) (w : World) (hx : Instance_at w w.heap.size v x) (hxw : Instance_wf x) (hl : AtomS_at w w.heap.size u l) (hlw : AtomS_wf l) :
    Calls Tryz.prog 42 #[v, u] w fun e w' => ∃ V, e = .returned V ∧ IntSS_own w.heap.size w'.heap.size V (FindMatches_r0 x l) w' ∧ Below w.heap.size w w' := by
  have HX := Lib.hid hx
  have HL := Lib.hid hl
  obtain ⟨P, c, Q, d, rfl⟩ := Instance_form hx
  have HFS := Lib.hid (show FactS_at w w.heap.size (.slice Q x.facts.length d) x.facts by
    obtain ⟨V1, V2, hv, hR, hF⟩ := hx
    simp only [Value.agg.injEq, Array.mk.injEq, List.cons.injEq, and_true] at hv
    obtain ⟨rfl, rfl⟩ := hv
    exact hF)
  obtain ⟨R, q, rfl, hq1, hq2⟩ := hl.form
  unfold maxLen at hq2
  clear hx hl
  obtain ⟨E, hEq⟩ : ∃ E, E = w.alloc (.cells #[.slice P x.rels.length c, .slice Q x.facts.length d] 27) := ⟨_, rfl⟩
  have hE : Below w.heap.size w E := by rw [hEq]; exact below_more (Below.refl _ _) _
  have X1 : E.cell? ⟨w.heap.size, 1, none⟩ = some (.slice Q x.facts.length d) := by rw [hEq]; simp [go_sem]
  have hEz : w.heap.size < E.heap.size := by rw [hEq]; simp
  have hok := implCan_any _ x _ l E ((HX.out.below hE (Nat.le_refl _)).more hE.size) hxw ((HL.out.below hE (Nat.le_refl _)).more hE.size)
  rw [hEq] at hok
  obtain ⟨ok, hk⟩ : ∃ ok, okM x l = ok := ⟨_, rfl⟩
  rw [hk] at hok
  refine (callsIn_wide (n := 9)).1 (callsIn_of_wp_marks Tryz.func42 rfl trivial (wpIn_wide.2 ?_) rfl)
  simp only [Tryz.ntmps42, List.size_toArray, List.length_cons, List.length_nil, Nat.reduceAdd, Nat.reduceSub, Array.replicate_succ, Array.replicate_zero, List.push_toArray, List.append_toArray, List.nil_append, List.cons_append]
  cases ok with
  | false =>
    have HF := Lib.hid (find_no hk)
    clear hk
    go_wp2_with (go_at_call 87; refine hok.mono ?_; rintro e w1 ⟨rfl, hb1⟩)
    rw [← hEq] at hb1
    exact ⟨.slice none 0 0, by simp [results, Tryz.results42, go_sem], _, rfl, by rw [HF.out]; exact ⟨[], rfl, World.ownsRow_nil _ _ _ _, (fun g hg => by cases hg), (fun i h => absurd h (by simp)), List.Pairwise.nil⟩, hE.trans (hb1.mono hE.size)⟩
  | true =>
    have hfit := Lib.hid (okM_fit hlw hk)
    have HF := Lib.hid (find_walk hk)
    have HLEN := Lib.hid (show (walkM x.facts l blank5).length ≤ 27000 by
      obtain ⟨h30, h3, -⟩ := okM_parts hk
      refine Nat.le_trans (walkM_len x.facts h30 l blank5) ?_
      rcases (show l.length = 0 ∨ l.length = 1 ∨ l.length = 2 ∨ l.length = 3 by omega) with h | h | h | h <;> rw [h] <;> decide)
    clear hk
    go_upto_region 4 with (go_at_call 87; refine hok.mono ?_; rintro e w1 ⟨rfl, hb1⟩)
    rw [← hEq] at hb1
    have hw1 := hE.trans (hb1.mono hE.size)
    have hz1 : w.heap.size < w1.heap.size := Nat.lt_of_lt_of_le hEz hb1.size
    have x1 := (hb1.cell (p := ⟨w.heap.size, 1, none⟩) hEz).trans X1
    obtain ⟨g5, hg5⟩ : ∃ g, g = w1.heap.size := ⟨_, rfl⟩
    obtain ⟨E2, hE2⟩ : ∃ E2, E2 = w1.alloc (.cells #[.slice none 0 0] 38) := ⟨_, rfl⟩
    have hb2 : Below w1.heap.size w1 E2 := by rw [hE2]; exact (Below.refl _ _).alloc (Nat.le_refl _) _
    have B5 : Boxed E2 g5 38 (.slice none 0 0) := by rw [hE2, hg5]; exact Boxed.new w1 _ _
    have hw2 := hw1.trans (hb2.mono hw1.size)
    have hz2 : w.heap.size < E2.heap.size := Nat.lt_of_lt_of_le hz1 hb2.size
    have hg5w : w.heap.size ≤ g5 := by omega
    have G1 := Aft.cell (B := E2.heap.size) hz2 ((hb2.cell (p := ⟨w.heap.size, 1, none⟩) hz1).trans x1)
    have hd2 : Below E2.heap.size E2 E2.drew := (Below.refl _ _).drew
    rw [← hg5, ← hE2]
    clear hE2 hok hEq X1 x1 hb1 hE hEz hg5
    refine wp_region_planL (C := fun w' => ∃ u : Aft E2.heap.size E2, w' = u.now) (.still 0 (.still 1 (.still 2 (.move true 3 (.move true 4 .done .none) .none)))) (by kernel_rfl) (by kernel_rfl) (by kernel_rfl) (fun _ => ⟨⟨E2.drew, hd2⟩, rfl⟩) ?_
    iterate 3
      refine plan_look _ rfl rfl ?_
      go_big_quiet_step (fail)
      refine wpQuiet_nil ?_
    clear G1
    refine plan_call _ 89 _ _ _ _ _ rfl _ Tryz.func89 (by kernel_rfl) (by kernel_rfl) ?_ True.intro
    refine (implNothingBound_any _).mono ?_
    rintro _ w3 ⟨rfl, hb3⟩
    have hb3' : Below E2.heap.size E2 w3 := hd2.trans hb3
    refine ⟨_, rfl, fun _ => ⟨⟨_, hb3'⟩, rfl⟩, ?_⟩
    refine plan_put ?_ (by simp only [Act.put, List.setIfInBounds_toArray, List.set_cons_succ, List.set_cons_zero]; rfl)
    refine plan_call _ 88 _ _ _ _ _ rfl _ Tryz.func88 (by kernel_rfl) (by kernel_rfl) ?_ True.intro
    refine (implExtensions_any _ _ _ _ _ _ blank5 _).mono ?_
    rintro _ w4 ⟨rfl, hw4⟩
    obtain ⟨W0, hW0⟩ : ∃ W0, W0 = w4 := ⟨_, rfl⟩
    have hb4 : Below w3.heap.size w3 W0 := by rw [hW0, hw4]; exact below_more (below_more (below_more (Below.refl _ _) _) _) _
    have hz4 : W0.heap.size = w3.heap.size + 3 := by rw [hW0, hw4]; simp
    have y0 : W0.cell? ⟨w3.heap.size, 0, none⟩ = some (.slice Q x.facts.length d) := by rw [hW0, hw4]; simp [go_sem]
    have y1 : W0.cell? ⟨w3.heap.size + 1, 0, none⟩ = some (.slice R l.length q) := by rw [hW0, hw4]; simp [go_sem]
    have y2 : BoxA (w3.heap.size + 2) blank5 W0 := by
      rw [hW0, hw4]
      have h9 := BoxA.new ((w3.alloc (.cells #[.slice Q x.facts.length d] 25)).alloc (.cells #[.slice R l.length q] 40)) blank5
      simpa using h9
    rw [← hW0]
    have hbF : Below E2.heap.size E2 W0 := hb3'.trans (hb4.mono hb3'.size)
    refine ⟨_, rfl, fun _ => ⟨⟨_, hbF⟩, rfl⟩, ?_⟩
    refine plan_put ?_ (by simp only [Act.put, List.setIfInBounds_toArray, List.set_cons_succ, List.set_cons_zero]; rfl)
    refine plan_done ?_
    clear hW0 hw4
    have hwF := hw2.trans (hbF.mono hw2.size)
    have hgE : g5 < E2.heap.size := B5.lt
    have B50 : Boxed W0 g5 38 (.slice none 0 0) := (hbF.block g5 hgE).trans B5
    have hz3 : E2.heap.size ≤ w3.heap.size := hb3'.size
    obtain ⟨z3, hz3e⟩ : ∃ z, z = w3.heap.size := ⟨_, rfl⟩
    rw [← hz3e] at hz4 y0 y1 y2 hz3 ⊢
    clear hz3e hb3 hb3' hb4 hbF hb2 hd2
    go_wp2
    refine (wpIn_wide (n := 9)).1 (wpIn_rangeFunc_ownH rfl (by decide) (gf := 138) (lb := #[.pointer (some ⟨z3, 0, none⟩), .pointer (some ⟨z3 + 1, 0, none⟩), .pointer (some ⟨z3 + 2, 0, none⟩)]) rfl trivial (enters_of Tryz.func138 (by kernel_rfl) rfl)
      (implExtensions_stops (9 - 1) x.facts hxw.2 l hfit.out _ _ blank5 rfl w.heap.size z3 (z3 + 1) (z3 + 2) W0 hwF.size (HFS.out.below hwF (Nat.le_refl _)) (HL.out.below hwF (Nat.le_refl _)) (by omega) y0 (by omega) y1 y2) Kp.trans (Kp.book (by omega)) (Below.refl _ _) (fun _ => rfl)
      (fun (pre : List (List Int)) W => (∃ v Vs, Boxed W g5 38 v ∧ IntSSO w.heap.size W.heap.size v Vs (pre.map list5) W) ∧ Below w.heap.size w W)
      (fun _ _ _ => False)
      (OwnFrom.and (Own.from (box_ss_own w.heap.size g5 (fun (pre : List (List Int)) => pre.map list5)) _) (ownFrom_below (Nat.le_refl _) (by omega)))
      (fun _ _ _ _ _ hs _ _ => hs)
      ⟨⟨_, [], B50, ⟨rfl, World.ownsRow_nil _ _ _ _, (fun g hg => by cases hg), (fun i h => absurd h (by simp)), List.Pairwise.nil⟩⟩, hwF⟩
      (fun y a' W => ∃ Bx, BoxA Bx y W ∧ a' = { tmps := #[.agg #[.slice P x.rels.length c, .slice Q x.facts.length d], .slice R l.length q, .pointer (some ⟨w.heap.size, 0, none⟩), undef, .slice none 0 0, .pointer (some ⟨g5, 0, none⟩), .pointer (some ⟨Bx, 0, none⟩), .agg #[.slice P x.rels.length c, .slice Q x.facts.length d], .slice R l.length q, .bool true, .bool false, .pointer (some ⟨w.heap.size, 1, none⟩), .slice Q x.facts.length d, .slice R l.length q, bAgg blank5, .func (.func 138) #[] #[.pointer (some ⟨z3, 0, none⟩), .pointer (some ⟨z3 + 1, 0, none⟩), .pointer (some ⟨z3 + 2, 0, none⟩)], bAgg y, undef, undef, undef, undef, undef, undef], defers := [] })
      (fun y a' _ X Y row hs hg hr => by
        obtain ⟨Bx, h2, h3⟩ := hs
        exact ⟨Bx, (BoxA.own (β := Unit) Bx y).from _ () X Y row h2 hg hr, h3⟩) ?assign ?body ?done ?stop)
    case assign =>
      rintro lp pre y W K ⟨⟨v, Vs, hv, hS⟩, hB⟩ hK
      gi_wp2
      have ha := (Below.refl W.heap.size W).alloc (Nat.le_refl _) (.cells #[.int .i64 (at5 y 0), .int .i64 (at5 y 1), .int .i64 (at5 y 2), .int .i64 (at5 y 3), .int .i64 (at5 y 4)] 122)
      exact hK _ _ ((keeps_below ha).from _) (Kp.below ha hB.size) ⟨⟨v, Vs, hv.alloc _, (hS.below ha (Nat.le_refl _)).mono (Nat.le_refl _) ha.size⟩, hB.trans (ha.mono hB.size)⟩ ⟨W.heap.size, BoxA.new W y, rfl⟩
    case body =>
      rintro lp pre y a' W hlp _ ⟨⟨v, Vs, hv, hS⟩, hB⟩ ⟨Bx, hbx, rfl⟩ hlt
      have hlw : W.heap.size ≥ w.heap.size := hB.size
      have hVl : Vs.length = pre.length := by have := hS.len; rwa [List.length_map] at this
      have hlen := HLEN.out
      have G5 := Aft.cell (B := W.heap.size) hv.lt hv.cell
      have hd : Below W.heap.size W W.drew := (Below.refl _ _).drew
      gi_wp2
      refine wp_round_planL (C := fun w' => ∃ u : Aft W.heap.size W, w' = u.now) (.still 0 (.still 1 (.move true 2 (.move true 3 (.move false 4 (.move false 5 .done .none) .none) .none) .none))) (by kernel_rfl) (by kernel_rfl) (by kernel_rfl) (fun h => by obtain ⟨_, _, h⟩ := h; exact h) (by kernel_rfl) (fun _ => ⟨⟨W.drew, hd⟩, rfl⟩) ?_
      iterate 2
        refine plan_look _ rfl rfl ?_
        go_big_quiet_step (fail)
        refine wpQuiet_nil ?_
      clear G5
      refine plan_call _ 90 _ _ _ _ _ rfl _ Tryz.func90 (by kernel_rfl) (by kernel_rfl) ?_ True.intro
      refine (implCloneInts_any _ (list5 y) _ ((hbx.below hd).ints5 hbx.lt) (show 5 ≤ 1048576 by decide)).mono ?_
      rintro _ w6 ⟨U, rfl, hU, hb6⟩
      have hb6' : Below W.heap.size W w6 := hd.trans hb6
      refine ⟨_, rfl, fun _ => ⟨⟨_, hb6'⟩, rfl⟩, ?_⟩
      refine plan_put ?_ (by simp only [Act.put, List.setIfInBounds_toArray, List.set_cons_succ, List.set_cons_zero]; rfl)
      obtain ⟨PU, cU, rfl, -⟩ := id (hU.at_ (Nat.le_refl _))
      have hb7 := hb6'.alloc hb6'.size (.cells #[.slice PU (list5 y).length cU] 31)
      refine plan_value (u := .slice (some ⟨w6.heap.size, 0, none⟩) 1 1) (w' := w6.alloc (.cells #[.slice PU (list5 y).length cU] 31)) _ rfl rfl rfl (by simp [go_sem]) (fun _ => ⟨⟨_, hb7⟩, rfl⟩) ?_ True.intro
      refine plan_put ?_ (by simp only [Act.put, List.setIfInBounds_toArray, List.set_cons_succ, List.set_cons_zero]; rfl)
      have hr : SliceAt cell1 (w6.alloc (.cells #[.slice PU (list5 y).length cU] 31)) (w6.heap.size + 1) (.slice (some ⟨w6.heap.size, 0, none⟩) [Value.slice PU (list5 y).length cU].length 1) [.slice PU (list5 y).length cU] :=
        ⟨_, 1, rfl, by simp, by decide, fun _ => ⟨w6.heap.size, 0, rfl, by omega, fun j z hz => by
          rw [flat1] at hz
          have hj : j = 0 := by
            rcases Nat.eq_zero_or_pos j with h0 | h0
            · exact h0
            · rw [List.getElem?_eq_none (by simp; omega)] at hz; cases hz
          subst hj
          simp only [List.getElem?_cons_zero, Option.some.injEq] at hz
          subst hz
          simp [go_sem]⟩, fun e => by cases e⟩
      have hU7 : IntS_own W.heap.size (w6.alloc (.cells #[.slice PU (list5 y).length cU] 31)).heap.size (.slice PU (list5 y).length cU) (list5 y) (w6.alloc (.cells #[.slice PU (list5 y).length cU] 31)) := (hU.below ((Below.refl w6.heap.size w6).alloc (Nat.le_refl _) _) (Nat.le_refl _)).mono (Nat.le_refl _) (by simp)
      have hw67 : w6.heap.size < (w6.alloc (.cells #[.slice PU (list5 y).length cU] 31)).heap.size := by simp
      obtain ⟨z6, hz6⟩ : ∃ z, z = w6.heap.size := ⟨_, rfl⟩
      rw [← hz6] at hr hw67 ⊢
      generalize w6.alloc (.cells #[.slice PU (list5 y).length cU] 31) = w7 at *
      have hS7 : IntSSO w.heap.size w7.heap.size v Vs (pre.map list5) w7 := (hS.below hb7 (Nat.le_refl _)).mono (Nat.le_refl _) hb7.size
      have hv7 : Boxed w7 g5 38 v := (hb7.block g5 hv.lt).trans hv
      have hrow2 : w7.ownsRow w.heap.size 31 1 v Vs.length (Vs.flatMap cell1) := by rw [flat1]; exact hS7.row
      have hKb7 := (keeps_below hb7)
      have hKp7 := Kp.below hb7 hlw
      have hB7 := hB.trans (hb7.mono hlw)
      have hz7 := hb7.size
      clear hz6 hb6 hb6' hU
      refine plan_app (xs := Vs) (r := [Value.slice PU (list5 y).length cU]) cell1 1 24 (fun X hX u hu => by
        rw [List.mem_singleton] at hX; subst hX
        simp only [cell1, List.mem_singleton] at hu; subst hu; rfl) cell1_len _ rfl rfl Tryz.underlying38 infoInts rfl (by decide) hrow2 _ _ rfl rfl ⟨z6, 0, none⟩ 1 1 rfl rfl hr (by simp; omega) (by simp; omega) (by omega) ?_ True.intro
      intro v' w8 h1 h2 h3 h4
      refine ⟨(fun e => by cases e), ?_⟩
      refine plan_put ?_ (by simp only [Act.put, List.setIfInBounds_toArray, List.set_cons_succ, List.set_cons_zero]; rfl)
      rw [flat1] at h1
      obtain ⟨g8, cap8, rfl⟩ : ∃ g cap, v' = .slice (some ⟨g, 0, none⟩) (Vs ++ [Value.slice PU (list5 y).length cU]).length cap := by
        rcases h1.2 with ⟨_, h0⟩ | ⟨g, cap, _, rfl, _⟩
        · simp at h0
        · exact ⟨g, cap, rfl⟩
      have hv8 : Boxed w8 g5 38 v := hv7.kept h3 (hv7.not_row (by decide) hrow2)
      have hc8 := hv8.cell
      have hf8 := hv8.frozen
      have hS8 : IntSSO w.heap.size w8.heap.size (.slice (some ⟨g8, 0, none⟩) (Vs ++ [Value.slice PU (list5 y).length cU]).length cap8) (Vs ++ [Value.slice PU (list5 y).length cU]) ((pre ++ [y]).map list5) w8 := by
        rw [List.map_append]
        refine IntSSO.snoc hS7 h2.size h1 h3 (fun g hg => (World.ownsRow.lt h1 g hg).2) (hU7.mono hlw h2.size) (fun i hi g hg hg2 => ?_)
        have e1 := (hS.el i (by rw [← hS.len]; exact hi) hi).2 g hg
        have e2 := (hU7.1.lt g hg2).1
        omega
      have hcs : Chg (fun q => q = g5) w8 (w8.setCell ⟨g5, 0, none⟩ (.slice (some ⟨g8, 0, none⟩) (Vs ++ [Value.slice PU (list5 y).length cU]).length cap8)) := (Chg.refl (fun q => q = g5) w8).setCell (p := ⟨g5, 0, none⟩) rfl _
      have hS9 := (hS8.chgN hcs (fun q c t f hq ht e => by
        subst e
        rw [show w8.heap[q]? = _ from hv8] at hq
        cases hq
        rcases ht with ht | ht <;> exact absurd ht (by decide))).mono (Nat.le_refl _) hcs.size
      have hv9 := hv8.set (.slice (some ⟨g8, 0, none⟩) (Vs ++ [Value.slice PU (list5 y).length cU]).length cap8)
      have hK9 : KeepsOthers W (w8.setCell ⟨g5, 0, none⟩ (.slice (some ⟨g8, 0, none⟩) (Vs ++ [Value.slice PU (list5 y).length cU]).length cap8)) := (hKb7.trans (KeepsOthers.of_grownBy h3 fun j o ej hj => by
        obtain ⟨cc, hcc⟩ := ownsRow_cells hrow2 j ej
        rw [hcc] at hj; cases hj; rfl)).trans (KeepsOthers.setCell _ _ _)
      have hB9 : Below w.heap.size w7 (w8.setCell ⟨g5, 0, none⟩ (.slice (some ⟨g8, 0, none⟩) (Vs ++ [Value.slice PU (list5 y).length cU]).length cap8)) := h2.setCell (p := ⟨g5, 0, none⟩) hg5w _
      have hP9 : Kp w.heap.size W (w8.setCell ⟨g5, 0, none⟩ (.slice (some ⟨g8, 0, none⟩) (Vs ++ [Value.slice PU (list5 y).length cU]).length cap8)) := hKp7.trans ⟨hB9, fun k c t f hk h34 h31 => by
        have hk8 : w8.heap[k]? = some (.cells c t f) := (h3.block k (Array.getElem?_eq_some_iff.1 hk).1 (fun e => by
          obtain ⟨cc, hcc⟩ := ownsRow_cells hrow2 k e.symm
          rw [hcc] at hk; cases hk; exact h34 rfl)).trans hk
        have hne : k ≠ g5 := fun e => by
          subst e
          rw [show w8.heap[k]? = _ from hv8] at hk8
          cases hk8
          exact h31 rfl
        exact (Below.heap_setCell _ _ _ k (fun e => hne (by first | exact e | exact e.symm))).trans hk8⟩
      refine plan_skip (w' := w8.setCell ⟨g5, 0, none⟩ (.slice (some ⟨g8, 0, none⟩) (Vs ++ [Value.slice PU (list5 y).length cU]).length cap8)) _ rfl rfl rfl (by simp [go_sem, hc8, hf8]) (fun e => by cases e) ?_ True.intro
      refine plan_put ?_ (by simp only [Act.put]; rfl)
      refine plan_done ?_
      exact ⟨hK9.from _, hP9, ⟨_, _, hv9, hS9⟩, hB7.trans hB9⟩
    case done =>
      rintro D xs W hD rfl ⟨⟨v, Vs, hv, hS⟩, hB⟩ hK
      have hc := hv.cell
      obtain ⟨A, cV, rfl, -⟩ := (hS.at_ (Nat.le_refl _)).form
      have hchg := chg_row (grownBy_putObj' W D (.deferred none))
      have hS9 := (hS.chgN hchg (fun q c t f hq _ e => by cases e; rw [hK] at hq; cases hq)).mono (Nat.le_refl _) hchg.size
      rw [walk_list5 x.facts l blank5 rfl] at hS9
      go_wp2
      refine ⟨by simp, .inl ⟨_, _, rfl, run_takeDeferred hK, ?_⟩⟩
      exact ⟨_, results_tmp rfl _ _ _, _, rfl, by rw [HF.out]; exact ⟨_, hS9⟩, hB.trans (belowK_b (w := w) (Nat.le_refl _) _ D _ _ (by omega) hK rfl rfl)⟩
    case stop =>
      rintro D c pre W _ _ h _
      exact h.elim
theorem lenSum_five (L : List (List Int)) (h : ∀ c ∈ L, c.length = 5) : lenSum L = 5 * L.length := by
  induction L with
  | nil => rfl
  | cons a t ih =>
    rw [lenSum, ih (fun c hc => h c (by simp [hc])), h a (by simp), List.length_cons]; omega
theorem find_sz (x : Inst) (l : List Atm) : IntSS_sz (FindMatches_r0 x l) ≤ 1048576 := by
  unfold IntSS_sz
  cases hk : okM x l with
  | false => rw [find_no hk]; decide
  | true =>
    rw [find_walk hk, lenSum_five _ (walkM_five x.facts l blank5 rfl)]
    obtain ⟨h30, h3, -⟩ := okM_parts hk
    have h1 := walkM_len x.facts h30 l blank5
    have h2 : 30 ^ l.length ≤ 27000 := by rcases (show l.length = 0 ∨ l.length = 1 ∨ l.length = 2 ∨ l.length = 3 by omega) with h | h | h | h <;> rw [h] <;> decide
    omega
theorem implFindMatches_c (v : Value) (x : Inst) (u : Value) (l : List Atm) (w : World) (h : Instance_at w w.heap.size v x) (hw : Instance_wf x) (_ : Instance_sz x ≤ 1048576) (h' : AtomS_at w w.heap.size u l) (hw' : AtomS_wf l) (_ : AtomS_sz l ≤ 1048576) :
    Calls Tryz.prog 42 #[v, u] w fun e w' => ∃ r, e = .returned r ∧ IntSS_own w.heap.size w'.heap.size r (FindMatches_r0 x l) w' ∧ IntSS_sz (FindMatches_r0 x l) ≤ 1048576 ∧ Below w.heap.size w w' :=
  (implFind_any v u x l w h hw h' hw').mono fun _ _ ⟨r, he, ho, hb⟩ => ⟨r, he, ho, find_sz x l, hb⟩

end Go.Proofs.YtobdijcnfmgidaaGreat
