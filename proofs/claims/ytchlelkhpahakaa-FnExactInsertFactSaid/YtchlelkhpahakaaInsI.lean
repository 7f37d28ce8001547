/-
  Walks and plain lemmas for the laws of this seat: what single Go functions return, for every argument.
-/
import Derived.Test.YtchlelkhpahakaaTyInst
import Derived.Test.YtchlelkhpahakaaMInst
import Derived.Test.YtchlelkhpahakaaValInI
import Derived.Test.YtchlelkhpahakaaCopI
import Derived.Test.YtchlelkhpahakaaDelF
import Derived.Test.YtchlelkhpahakaaInsG
import Derived.Test.YtchlelkhpahakaaInstI2
import Derived.Test.YtchlelkhpahakaaSaveW
namespace Go.Proofs.Ytchlelkhpahakaa
open Go.RowKit

theorem row_not {w : World} {B k n b : Nat} {e e' : TypeId} {v : Value} {xs : List Value} {cs : Array Value} (h : w.ownsRow B e k v n xs) (hb : w.heap[b]? = some (.cells cs e' (0, 0))) (hne : e ≠ e') : v.ownBlock ≠ some b := by
  rcases h.2 with ⟨rfl, _⟩ | ⟨g, cap, cur, rfl, _, hh, _⟩
  · simp [Value.ownBlock]
  · intro e1
    simp only [Value.ownBlock, Option.some.injEq] at e1
    subst e1
    rw [hh] at hb
    injection hb with h1
    injection h1 with _ h2 _
    exact hne h2
theorem FactSO.off {B C b : Nat} {v : Value} {Vs : List Value} {l : List Fct} {w w' : World} {cs : Array Value} (h : FactSO 31 B C v Vs l w) (hb : w.heap[b]? = some (.cells cs 43 (0, 0))) (hc : Chg (fun k => k = b) w w') : FactSO 31 B C v Vs l w' :=
  ⟨h.len, hc.row h.row (fun g hg e => by have e' : g = b := e; subst e'; exact row_not h.row hb (by decide) hg), h.ins, fun i h1 h2 => ⟨(h.el i h1 h2).1.chg hc (fun g hg e => by have e' : g = b := e; subst e'; exact row_not (k := 1) (e := 3) (h.el i h1 h2).1 hb (by decide) hg), (h.el i h1 h2).2⟩, h.dis⟩
theorem Chg.ofBelow {S : Nat → Prop} {w w' : World} (hb : Below w.heap.size w w') : Chg S w w' := ⟨hb.os, hb.tape, hb.output, hb.size, fun k hk _ => hb.block k hk⟩
theorem insAt_wf {x : Inst} {f : Fct} {p : Nat} (hw : Instance_wf x) (hf : Fact_wf f) : Instance_wf (insAt x f p) := by
  refine ⟨hw.1, fun i hi => ?_⟩
  have hm : (insAt x f p).facts[i] ∈ x.facts.take p ++ f :: x.facts.drop p := List.getElem_mem hi
  rcases List.mem_append.1 hm with h | h
  · obtain ⟨j, hj, e⟩ := List.getElem_of_mem (List.mem_of_mem_take h)
    rw [← e]; exact hw.2 j hj
  · rcases List.mem_cons.1 h with h | h
    · rw [h]; exact hf
    · obtain ⟨j, hj, e⟩ := List.getElem_of_mem (List.mem_of_mem_drop h)
      rw [← e]; exact hw.2 j hj
set_option maxHeartbeats 3200000 in
set_option maxRecDepth 100000 in
theorem implInsertFact_any (v u : Value) (x : Inst) (f : Fct) (w : World) (h : Instance_at w w.heap.size v x) (hw : Instance_wf x) (hn : Instance_sz x ≤ 1048576) (h' : Fact_at w w.heap.size u f) (hf : Fact_wf f) (hfn : Fact_sz f ≤ 1048576) :
    Calls Try.prog 26 #[v, u] w (GivesIns x f w) := by
  obtain ⟨P, c, Q, d, rfl⟩ := Instance_form h
  obtain ⟨P', c', rfl⟩ := Fact_form h'
  have HX := Lib.hid h
  have HY := Lib.hid h'
  have HF := Lib.hid (show FactS_at w w.heap.size (.slice Q x.facts.length d) x.facts by
    obtain ⟨V1, V2, hv, hR, hF⟩ := h
    simp only [Value.agg.injEq, Array.mk.injEq, List.cons.injEq, and_true] at hv
    obtain ⟨rfl, rfl⟩ := hv
    exact hF)
  clear h h'
  have hfl : x.facts.length ≤ 1048576 := by unfold Instance_sz FactS_sz at hn; omega
  obtain ⟨E, hEq⟩ : ∃ E, E = (((w.alloc (.cells #[.slice P x.rels.length c, .slice Q x.facts.length d] 43)).alloc (.cells #[.int .i64 f.rel, .slice P' f.vals.length c'] 31)).alloc (.cells #[.slice none 0 0, .slice none 0 0] 43)) := ⟨_, rfl⟩
  have hE : Below w.heap.size w E := by rw [hEq]; exact below_more (below_more (below_more (Below.refl _ _) _) _) _
  have HE := Lib.hid (show w.heap.size + 3 = E.heap.size by rw [hEq]; simp)
  have K0 := Lib.hid (show E.cell? ⟨w.heap.size, 0, none⟩ = some (.slice P x.rels.length c) by rw [hEq]; simp [go_sem])
  have K1 := Lib.hid (show E.cell? ⟨w.heap.size, 1, none⟩ = some (.slice Q x.facts.length d) by rw [hEq]; simp [go_sem])
  have L0 := Lib.hid (show E.cell? ⟨w.heap.size + 1, 0, none⟩ = some (.int .i64 f.rel) by rw [hEq]; simp [go_sem])
  have L1 := Lib.hid (show E.cell? ⟨w.heap.size + 1, 1, none⟩ = some (.slice P' f.vals.length c') by rw [hEq]; simp [go_sem])
  have R0 := Lib.hid (show E.cell? ⟨w.heap.size + 1 + 1, 0, none⟩ = some (.slice none 0 0) by rw [hEq]; simp [go_sem])
  have R1 := Lib.hid (show E.cell? ⟨w.heap.size + 1 + 1, 1, none⟩ = some (.slice none 0 0) by rw [hEq]; simp [go_sem])
  have RZ := fun o => Lib.hid (show E.frozen? ⟨w.heap.size + 1 + 1, o, none⟩ = false by rw [hEq]; simp [go_sem])
  have hcp := implCopyInstance_any (.agg #[.slice P x.rels.length c, .slice Q x.facts.length d]) x E ((HX.out.below hE (Nat.le_refl _)).more hE.size) hn
  rw [hEq] at hcp
  go_enter Try.func26, Try.ntmps26
  go_wp2_with fail
  refine hcp.mono ?_
  rintro e w1 ⟨P2, c2, g, Vs, rfl, hR1, hO1, hb1⟩
  rw [← hEq] at hR1 hO1 hb1
  clear hcp hEq
  have hz1 : w.heap.size + 3 ≤ w1.heap.size := by have h1 := hb1.size; have h2 := HE.out; omega
  have hg1 : E.heap.size ≤ g := (World.ownsRow.lt hO1.row g rfl).1
  have hg2 : g < w1.heap.size := hO1.ins g rfl
  obtain ⟨W2, hW2⟩ : ∃ W2, W2 = w1.alloc (.cells #[.slice P2 x.rels.length c2, .slice (some ⟨g, 0, none⟩) x.facts.length x.facts.length] 43) := ⟨_, rfl⟩
  have hb2 : Below w1.heap.size w1 W2 := by rw [hW2]; exact below_more (Below.refl _ _) _
  have hz2 : w1.heap.size < W2.heap.size := by rw [hW2]; simp
  have Y0 := Lib.hid (show W2.cell? ⟨w1.heap.size, 0, none⟩ = some (.slice P2 x.rels.length c2) by rw [hW2]; simp [go_sem])
  have Y1 := Lib.hid (show W2.cell? ⟨w1.heap.size, 1, none⟩ = some (.slice (some ⟨g, 0, none⟩) x.facts.length x.facts.length) by rw [hW2]; simp [go_sem])
  have YB := Lib.hid (show W2.heap[w1.heap.size]? = some (.cells #[.slice P2 x.rels.length c2, .slice (some ⟨g, 0, none⟩) x.facts.length x.facts.length] 43 (0, 0)) by rw [hW2]; exact Array.getElem?_push_size)
  have YZ := fun o => Lib.hid (show W2.frozen? ⟨w1.heap.size, o, none⟩ = false by rw [hW2]; simp [go_sem])
  have hE2 : Below E.heap.size E W2 := hb1.trans (hb2.mono hb1.size)
  have hW02 := hE.trans (hE2.mono hE.size)
  have HR2 := Lib.hid (hR1.below hb2 (Nat.le_refl _))
  have HO2 := Lib.hid (hO1.below hb2 (Nat.le_refl _))
  have k1 := (hE2.cell (p := ⟨w.heap.size, 1, none⟩) (by show w.heap.size < _; have := HE.out; omega)).trans K1.out
  have l0 := (hE2.cell (p := ⟨w.heap.size + 1, 0, none⟩) (by show w.heap.size + 1 < _; have := HE.out; omega)).trans L0.out
  have l1 := (hE2.cell (p := ⟨w.heap.size + 1, 1, none⟩) (by show w.heap.size + 1 < _; have := HE.out; omega)).trans L1.out
  have hbs := implBs_any x.facts f (.slice Q x.facts.length d) (.agg #[.int .i64 f.rel, .slice P' f.vals.length c']) W2 (HF.out.later hW02) ((HY.out.below hW02 (Nat.le_refl _)).more hW02.size) hfl
  have HE2 := Lib.hid hE2
  have HW02 := Lib.hid hW02
  rw [hW2] at hbs k1 l0 l1
  clear hR1 hO1 hb1 hb2 hE2 hW02
  go_wp2_with fail
  refine hbs.mono ?_
  rintro e w3 ⟨p, bb, rfl, hP, hb3⟩
  rw [← hW2] at hb3
  clear hbs k1 l0 l1 hW2
  have HP := Lib.hid (insAt_ok hP)
  have hple : p ≤ x.facts.length := hP.1
  have hz3 := hb3.size
  have hE3 := HE2.out.trans (hb3.mono HE2.out.size)
  have hW03 := HW02.out.trans (hb3.mono HW02.out.size)
  have G1 := Save.cell (S := fun k => k = g) (w := w3) (show w1.heap.size < _ by omega) (by show ¬ (w1.heap.size = g); omega) ((hb3.cell (p := ⟨w1.heap.size, 1, none⟩) hz2).trans Y1.out)
  have F0 := Save.cell (S := fun k => k = g) (w := w3) (show w.heap.size + 1 < _ by omega) (by show ¬ (w.heap.size + 1 = g); have := HE.out; omega) ((hE3.cell (p := ⟨w.heap.size + 1, 0, none⟩) (by show w.heap.size + 1 < _; have := HE.out; omega)).trans L0.out)
  have F1 := Save.cell (S := fun k => k = g) (w := w3) (show w.heap.size + 1 < _ by omega) (by show ¬ (w.heap.size + 1 = g); have := HE.out; omega) ((hE3.cell (p := ⟨w.heap.size + 1, 1, none⟩) (by show w.heap.size + 1 < _; have := HE.out; omega)).trans L1.out)
  have HY03 := Lib.hid ((hb3.cell (p := ⟨w1.heap.size, 0, none⟩) hz2).trans Y0.out)
  have HY13 := Lib.hid ((hb3.cell (p := ⟨w1.heap.size, 1, none⟩) hz2).trans Y1.out)
  have HYZ3 := fun o => Lib.hid ((hb3.frozen (p := ⟨w1.heap.size, o, none⟩) hz2).trans (YZ o).out)
  have HR3 := Lib.hid (HR2.out.below hb3 (by omega))
  have HO3 := Lib.hid (HO2.out.below hb3 (by omega))
  have HE3 := Lib.hid hE3
  have HB3 := Lib.hid hb3
  have HW03 := Lib.hid hW03
  have hcf := implCopyFact_any (.agg #[.int .i64 f.rel, .slice P' f.vals.length c']) f w3.drew ((HY.out.below hW03.drew (Nat.le_refl _)).more hW03.drew.size) hfn
  clear hP hb3 hE3 hW03
  go_wp2
  refine wp_region_planL (C := fun w' => ∃ u : Save (fun k => k = g) w3, w' = u.now) (.still 0 (.still 1 (.still 2 (.still 3 (.still 7 (.move true 4 (.move true 5 (.move true 6 (.move false 8 .done .none) .none) .none) .none)))))) (by kernel_rfl) (by kernel_rfl) (by kernel_rfl) (fun _ => ⟨⟨_, Chg.ofBelow (Below.refl _ _).drew⟩, rfl⟩) ?_
  iterate 5
    refine plan_look _ rfl rfl ?_
    go_big_quiet_step (fail)
    refine wpQuiet_nil ?_
  refine plan_call _ 65 _ _ _ _ _ rfl _ Try.func65 (by kernel_rfl) (by kernel_rfl) ?_ True.intro
  refine hcf.mono ?_
  rintro _ w4 ⟨uf, rfl, ⟨UV, rfl, hU⟩, hb4⟩
  have hb4' : Below w3.heap.size w3 w4 := (Below.refl _ _).drew.trans hb4
  obtain ⟨PU, cu, rfl, -⟩ := id hU.1.at_
  have hz4 := hb4'.size
  refine ⟨_, rfl, fun _ => ⟨⟨_, Chg.ofBelow hb4'⟩, rfl⟩, ?_⟩
  refine plan_put ?_ (by simp only [Act.put, List.setIfInBounds_toArray, List.set_cons_succ, List.set_cons_zero]; rfl)
  obtain ⟨W5, hW5⟩ : ∃ W5, W5 = w4.alloc (.cells #[.int .i64 f.rel, .slice PU f.vals.length cu] 31) := ⟨_, rfl⟩
  have hb5 : Below w4.heap.size w4 W5 := by rw [hW5]; exact below_more (Below.refl _ _) _
  have hz5 : w4.heap.size < W5.heap.size := by rw [hW5]; simp
  have hb35 := hb4'.trans (hb5.mono hz4)
  refine plan_value (u := .slice (some ⟨w4.heap.size, 0, none⟩) 1 1) (w' := W5) _ rfl rfl rfl (by rw [hW5]; simp [go_sem]) (fun _ => ⟨⟨_, Chg.ofBelow hb35⟩, rfl⟩) ?_ True.intro
  refine plan_put ?_ (by simp only [Act.put, List.setIfInBounds_toArray, List.set_cons_succ, List.set_cons_zero]; rfl)
  have HU5 := Lib.hid (show IntS_own w3.heap.size w4.heap.size (.slice PU f.vals.length cu) f.vals W5 from IntS_own.below hU hb5 (Nat.le_refl _))
  have hO5 := HO3.out.below hb35 (by omega)
  have hins := implInsert_any x.facts f p hple hfl E.heap.size w1.heap.size g w4.heap.size Vs PU cu W5 hO5 (by omega) (IntS_own.mono HU5.out (by have := HE3.out.size; omega) (by omega)) hz5 (by rw [hW5]; simp [go_sem]) (by rw [hW5]; simp [go_sem]) (fun V hV g' h1 h2 => by
    obtain ⟨i, hi, rfl⟩ := List.getElem_of_mem hV
    have q1 := (hO5.el i (by have := hO5.len; omega) hi).2 g' h1
    have q2 : w3.heap.size ≤ g' := (HU5.out.1.lt g' h2).1
    omega) (by have := HE3.out.size; omega)
  have HB35 := Lib.hid hb35
  clear hW5 hb5 hb4 hb4' hU hcf hb35
  refine plan_call _ 64 _ _ _ _ _ rfl _ Try.func64 (by kernel_rfl) (by kernel_rfl) ?_ True.intro
  refine hins.mono ?_
  rintro _ w6 ⟨v6, Us, rfl, hO6, hC6⟩
  have hR6 := rels_keep (HR3.out.below HB35.out (by omega)) hO5 rfl hC6
  have hz6 := hC6.size
  have hs35 := HB35.out.size
  have hEW6 : Below E.heap.size E w6 := (HE3.out.trans (HB35.out.mono HE3.out.size)).trans (hC6.below (fun k hk => by show E.heap.size ≤ k; omega) (by have := HE3.out.size; omega))
  have hYB6 := (hC6.block w1.heap.size (by omega) (by show ¬ (w1.heap.size = g); omega)).trans ((HB35.out.block w1.heap.size (by omega)).trans ((HB3.out.block w1.heap.size hz2).trans YB.out))
  have y1 := (hC6.cell (b := w1.heap.size) (o := 1) (by omega) (by show ¬ (w1.heap.size = g); omega)).trans ((HB35.out.cell (p := ⟨w1.heap.size, 1, none⟩) (by show w1.heap.size < _; omega)).trans HY13.out)
  have y0 := (hC6.cell (b := w1.heap.size) (o := 0) (by omega) (by show ¬ (w1.heap.size = g); omega)).trans ((HB35.out.cell (p := ⟨w1.heap.size, 0, none⟩) (by show w1.heap.size < _; omega)).trans HY03.out)
  have yz := fun o => (hC6.frozen (b := w1.heap.size) (o := o) (by omega) (by show ¬ (w1.heap.size = g); omega)).trans ((HB35.out.frozen (p := ⟨w1.heap.size, o, none⟩) (by show w1.heap.size < _; omega)).trans (HYZ3 o).out)
  obtain ⟨L, hL⟩ : ∃ L, L = x.facts.take p ++ f :: x.facts.drop p := ⟨_, rfl⟩
  rw [← hL] at hO6
  obtain ⟨A6, c6, hv6, -⟩ := (hO6.at_ (Nat.le_refl _)).form
  subst hv6
  obtain ⟨W7, hW7⟩ : ∃ W7, W7 = w6.setCell ⟨w1.heap.size, 1, none⟩ (.slice A6 L.length c6) := ⟨_, rfl⟩
  have hC7 : Chg (fun k => k = w1.heap.size) w6 W7 := by rw [hW7]; exact (Chg.refl (fun k => k = w1.heap.size) w6).setCell (p := ⟨w1.heap.size, 1, none⟩) rfl _
  have hz7 := hC7.size
  have HR7 := Lib.hid (hR6.chgS hC7 (fun k hk => by omega))
  have HO7 := Lib.hid (hO6.off hYB6 hC7)
  have HE7 := Lib.hid (hEW6.trans (hC7.below (fun k hk => by have := HE2.out.size; omega) hEW6.size))
  have Z0 := Lib.hid (show W7.cell? ⟨w1.heap.size, 0, none⟩ = some (.slice P2 x.rels.length c2) by rw [hW7]; simp [go_sem, y0])
  have Z1 := Lib.hid (show W7.cell? ⟨w1.heap.size, 1, none⟩ = some (.slice A6 L.length c6) by rw [hW7]; simp [go_sem, y1])
  have hrun : W7 = w6.setCell ⟨w1.heap.size, 1, none⟩ (.slice A6 L.length c6) := hW7
  have hiv := fun (q : Bool) (hq : instOk (insAt x f p) = q) => implIsValidInstance_at (insAt x f p) q hq (.agg #[.slice P2 x.rels.length c2, .slice A6 L.length c6]) W7 ⟨_, _, rfl, HR7.out.at_ (by omega), by show FactS_at W7 W7.heap.size _ (x.facts.take p ++ f :: x.facts.drop p); rw [← hL]; exact HO7.out.at_ hz7⟩ (insAt_wf hw hf)
  refine ⟨_, rfl, fun _ => ⟨⟨_, (Chg.ofBelow HB35.out).trans hC6⟩, rfl⟩, ?_⟩
  refine plan_put ?_ (by simp only [Act.put, List.setIfInBounds_toArray, List.set_cons_succ, List.set_cons_zero]; rfl)
  refine plan_skip (w' := W7) _ rfl rfl rfl (by rw [hW7]; simp [go_sem, y1, yz]) (fun e => by cases e) ?_ True.intro
  refine plan_put ?_ (by simp only [Act.put]; rfl)
  refine plan_done ?_
  clear hrun hC6 hR6 hO6 hYB6 y0 y1 yz hEW6 hC7 hW7 hO5 hins
  have z0 := Z0.out
  have z1 := Z1.out
  have HINS := Lib.hid (show insAt x f p = ⟨x.rels, L⟩ by rw [hL]; rfl)
  clear hL
  cases ho : insOk x f with
  | false =>
    have HQ := Lib.hid ho
    have HV := Lib.hid (show insInst x f = x by unfold insInst; rw [ho]; rfl)
    replace hiv := hiv false (HP.out.1.trans ho)
    clear ho
    go_wp2_with fail
    refine hiv.mono ?_
    rintro e w8 ⟨rfl, hb8⟩
    have hE8 := HE7.out.trans (hb8.mono HE7.out.size)
    have f0 := (hE8.cell (p := ⟨w.heap.size, 0, none⟩) (by show w.heap.size < _; have := HE.out; omega)).trans K0.out
    have f1 := (hE8.cell (p := ⟨w.heap.size, 1, none⟩) (by show w.heap.size < _; have := HE.out; omega)).trans K1.out
    have HB8 := Lib.hid hE8
    have hW8 := hE.trans (hE8.mono hE.size)
    have hcp2 := implCopyInstance_any (.agg #[.slice P x.rels.length c, .slice Q x.facts.length d]) x w8 ((HX.out.below hW8 (Nat.le_refl _)).more hW8.size) hn
    have hz8 : w.heap.size + 3 ≤ w8.heap.size := by have h1 := hE8.size; have h2 := HE.out; omega
    clear hiv hb8 hE8 hW8 z0 z1
    go_wp2_with fail
    refine hcp2.mono ?_
    rintro e w9 ⟨P9, c9, g9, Vs9, rfl, hR9, hO9, hb9⟩
    have hEW := HB8.out.trans (hb9.mono HB8.out.size)
    have r0 := (hEW.cell (p := ⟨w.heap.size + 1 + 1, 0, none⟩) (by show w.heap.size + 1 + 1 < _; have := HE.out; omega)).trans R0.out
    have r1 := (hEW.cell (p := ⟨w.heap.size + 1 + 1, 1, none⟩) (by show w.heap.size + 1 + 1 < _; have := HE.out; omega)).trans R1.out
    have rz := fun o => (hEW.frozen (p := ⟨w.heap.size + 1 + 1, o, none⟩) (by show w.heap.size + 1 + 1 < _; have := HE.out; omega)).trans (RZ o).out
    have HR9 := Lib.hid hR9
    have HO9 := Lib.hid hO9
    have HW9 := Lib.hid (hE.trans (hEW.mono hE.size))
    have HST : ∀ u1 u2, Hid (Chg (fun k => k = w.heap.size + 1 + 1) w9 ((w9.setCell ⟨w.heap.size + 1 + 1, 0, none⟩ u1).setCell ⟨w.heap.size + 1 + 1, 1, none⟩ u2)) := fun u1 u2 => Lib.hid (((Chg.refl (fun k => k = w.heap.size + 1 + 1) w9).setCell (p := ⟨w.heap.size + 1 + 1, 0, none⟩) rfl _).setCell (p := ⟨w.heap.size + 1 + 1, 1, none⟩) rfl _)
    clear hcp2 f0 f1 hR9 hO9 hb9 hEW
    go_wp2
    have hf9 := (HST (.slice P9 x.rels.length c9) (.slice (some ⟨g9, 0, none⟩) x.facts.length x.facts.length)).out
    refine bodyPost_ret (v := .tuple #[.agg #[.slice P9 x.rels.length c9, .slice (some ⟨g9, 0, none⟩) x.facts.length x.facts.length], .bool false]) (by simp [results, Try.results26, go_sem, r0, r1]) rfl ⟨_, by rw [InsertFact_ok, HQ.out], ?_, ?_⟩
    · rw [InsertFact_r0, HV.out]
      refine ⟨_, _, rfl, (HR9.out.chgS hf9 (fun k hk => by omega)).mono (by omega) ?_, ⟨Vs9, (HO9.out.chgS hf9 (fun k hk => by omega)).mono (by omega) ?_⟩⟩
      · exact hf9.size
      · exact hf9.size
    · exact HW9.out.trans (hf9.below (fun k hk => by omega) HW9.out.size)
  | true =>
    have HQ := Lib.hid ho
    have HV := Lib.hid (show insInst x f = ⟨x.rels, L⟩ by rw [← HP.out.2 ho]; exact HINS.out)
    replace hiv := hiv true (HP.out.1.trans ho)
    clear ho
    go_wp2_with fail
    refine hiv.mono ?_
    rintro e w8 ⟨rfl, hb8⟩
    have hE8 := HE7.out.trans (hb8.mono HE7.out.size)
    have r0 := (hE8.cell (p := ⟨w.heap.size + 1 + 1, 0, none⟩) (by show w.heap.size + 1 + 1 < _; have := HE.out; omega)).trans R0.out
    have r1 := (hE8.cell (p := ⟨w.heap.size + 1 + 1, 1, none⟩) (by show w.heap.size + 1 + 1 < _; have := HE.out; omega)).trans R1.out
    have rz := fun o => (hE8.frozen (p := ⟨w.heap.size + 1 + 1, o, none⟩) (by show w.heap.size + 1 + 1 < _; have := HE.out; omega)).trans (RZ o).out
    have y0 := (hb8.cell (p := ⟨w1.heap.size, 0, none⟩) (by show w1.heap.size < _; omega)).trans Z0.out
    have y1 := (hb8.cell (p := ⟨w1.heap.size, 1, none⟩) (by show w1.heap.size < _; omega)).trans Z1.out
    have HR8 := Lib.hid (HR7.out.below hb8 (by omega))
    have HO8 := Lib.hid (HO7.out.below hb8 hz7)
    have HW8 := Lib.hid (hE.trans (hE8.mono hE.size))
    have hs8 := hb8.size
    have HST : ∀ u1 u2, Hid (Chg (fun k => k = w.heap.size + 1 + 1) w8 ((w8.setCell ⟨w.heap.size + 1 + 1, 0, none⟩ u1).setCell ⟨w.heap.size + 1 + 1, 1, none⟩ u2)) := fun u1 u2 => Lib.hid (((Chg.refl (fun k => k = w.heap.size + 1 + 1) w8).setCell (p := ⟨w.heap.size + 1 + 1, 0, none⟩) rfl _).setCell (p := ⟨w.heap.size + 1 + 1, 1, none⟩) rfl _)
    clear hiv hb8 hE8 z0 z1
    go_wp2
    have hf8 := (HST (.slice P2 x.rels.length c2) (.slice A6 L.length c6)).out
    have hs9 := hf8.size
    refine bodyPost_ret (v := .tuple #[.agg #[.slice P2 x.rels.length c2, .slice A6 L.length c6], .bool true]) (by simp [results, Try.results26, go_sem, r0, r1]) rfl ⟨_, by rw [InsertFact_ok, HQ.out], ?_, ?_⟩
    · rw [InsertFact_r0, HV.out]
      have h2 := HE.out
      refine ⟨_, _, rfl, (HR8.out.chgS hf8 (fun k hk => by omega)).mono (by omega) (by omega), ⟨Us, (HO8.out.chgS hf8 (fun k hk => by omega)).mono (by omega) (by omega)⟩⟩
    · exact HW8.out.trans (hf8.below (fun k hk => by omega) HW8.out.size)
theorem rels_okAt (l : List Rel) (h : validRels l = true) (k : Nat) (hk : k < l.length) : l[k].name.size = 1 ∧ 1 ≤ l[k].arity ∧ l[k].arity ≤ 3 := by
  unfold validRels okTo at h
  simp only [Bool.and_eq_true, List.all_eq_true] at h
  have h2 := h.1 k (List.mem_range.2 hk)
  unfold okAt at h2
  rw [getD_at hk] at h2
  simp only [Bool.and_eq_true] at h2
  have h3 := h2.1
  unfold relOk inB at h3
  simp only [Bool.and_eq_true, decide_eq_true_eq] at h3
  refine ⟨?_, h3.2⟩
  by_cases h1 : l[k].name.size = 1
  · exact h1
  · rw [nameOk_ne _ h1] at h3; cases h3.1
theorem relsLen_one (l : List Rel) (h : ∀ r ∈ l, r.name.size = 1) : relsLen l ≤ l.length := by
  induction l with
  | nil => simp [relsLen]
  | cons r t ih =>
    have h1 := ih (fun q hq => h q (by simp [hq]))
    have h2 := h r (by simp)
    simp only [relsLen, List.length_cons]; omega
theorem valsLen_three (fs : List Fct) (h : ∀ f ∈ fs, f.vals.length ≤ 3) : valsLen fs ≤ 3 * fs.length := by
  induction fs with
  | nil => simp [valsLen]
  | cons f t ih =>
    have h1 := h f (by simp)
    have h2 := ih (fun g hg => h g (by simp [hg]))
    simp only [valsLen, List.length_cons]; omega
theorem instOk_sz {x : Inst} (ho : instOk x = true) : Instance_sz x ≤ 1048576 := by
  have hr := (instOk_parts ho).2.1
  have h30 := (instOk_parts ho).2.2
  have h1 := valsLen_three x.facts (fun f hf => by
    have h2 := instOk_fact ho f hf
    unfold factOk arityAt at h2
    simp only [Bool.and_eq_true, decide_eq_true_eq] at h2
    have h3 := h2.2.1
    have hk : f.rel.toNat < x.rels.length := by omega
    have h4 := rels_okAt x.rels hr f.rel.toNat hk
    have h5 := h2.2.2.1
    rw [getD_at hk] at h5
    omega)
  have h2 : x.rels.length ≤ 6 := by
    unfold validRels at hr; simp only [Bool.and_eq_true, decide_eq_true_eq] at hr; exact hr.2
  have h3 := relsLen_one x.rels (fun r hq => by
    obtain ⟨i, hi, rfl⟩ := List.getElem_of_mem hq
    exact (rels_okAt x.rels hr i hi).1)
  unfold Instance_sz RelationS_sz FactS_sz; omega
theorem ins_sz (x : Inst) (f : Fct) (hn : Instance_sz x ≤ 1048576) : Instance_sz (insInst x f) ≤ 1048576 := by
  cases h : insOk x f with
  | false => rw [show insInst x f = x by unfold insInst; rw [h]; rfl]; exact hn
  | true =>
    rw [show insInst x f = ⟨x.rels, putF x.facts f⟩ by unfold insInst; rw [if_pos h]]
    exact instOk_sz (ins_parts h).2.2
theorem implInsertFact_c (v : Value) (x : Inst) (u : Value) (y : Fct) (w : World) (h : Instance_at w w.heap.size v x) (hw : Instance_wf x) (hn : Instance_sz x ≤ 1048576) (h' : Fact_at w w.heap.size u y) (hy : Fact_wf y) (hyn : Fact_sz y ≤ 1048576) :
    Calls Try.prog 26 #[v, u] w fun e w' => ∃ r0, e = .returned (.tuple #[r0, .bool (InsertFact_ok x y)]) ∧ Instance_own w.heap.size w'.heap.size r0 (InsertFact_r0 x y) w' ∧ Instance_sz (InsertFact_r0 x y) ≤ 1048576 ∧ Below w.heap.size w w' :=
  (implInsertFact_any v u x y w h hw hn h' hy hyn).mono fun _ _ ⟨r, he, ho, hb⟩ => ⟨r, he, ho, ins_sz x y hn, hb⟩

end Go.Proofs.Ytchlelkhpahakaa
