/-
  Walks and plain lemmas for the laws of this seat: what single Go functions return, for every argument.
-/
import Derived.Deep.Quiet
import Derived.Test.YtchlelkhpahakaaSaveW
import Derived.Test.YtchlelkhpahakaaDrawJ
namespace Go.Proofs.Ytchlelkhpahakaa
open Go.RowKit

theorem Instance_lo.facts {A B : Nat} {w : World} {P Q : Option Addr} {c d : Nat} {x : Inst} (h : Instance_lo A w B (.agg #[.slice P x.rels.length c, .slice Q x.facts.length d]) x) (k : Nat) (hk : k < x.facts.length) :
    ∃ b off V, Q = some ⟨b, off, none⟩ ∧ b < B ∧ A ≤ b ∧ w.cell? ⟨b, off + k * 2, none⟩ = some (.int .i64 x.facts[k].rel) ∧ w.cell? ⟨b, off + k * 2 + 1, none⟩ = some V ∧ IntS_at w B V x.facts[k].vals ∧ lowB A V := by
  obtain ⟨U1, U2, Vs, hv, h1, l1, l2, h2, h3, h4, l3⟩ := h
  simp only [Value.agg.injEq, Array.mk.injEq, List.cons.injEq, and_true] at hv
  obtain ⟨rfl, rfl⟩ := hv
  have hF : FactS_at w B (.slice Q x.facts.length d) x.facts := ⟨Vs, h2, h3, h4⟩
  have hp : (pairs x.facts Vs).length = x.facts.length := pairs_len h2
  have hkv : k < Vs.length := by omega
  obtain ⟨P', c', hv, -, -, hc, -⟩ := h3
  obtain ⟨b, off, hP, hb, hcc⟩ := hc (by omega)
  injection hv with e1 _ _
  subst e1 hP
  have hg : ∀ i (hi : i < 2), ((pairs x.facts Vs).flatMap pairCells)[k * 2 + i]? = (pairCells ((pairs x.facts Vs)[k]'(by omega)))[i]? := fun i hi => flat_get pairCells 2 pairCells_len (pairs x.facts Vs) k i (by omega) hi
  have he : (pairs x.facts Vs)[k]'(by omega) = (x.facts[k].rel, Vs[k]) := by unfold pairs; simp
  refine ⟨b, off, Vs[k], rfl, hb, l2 b rfl, ?_, ?_, h4 k hk hkv, l3 _ (List.getElem_mem hkv)⟩
  · have := hcc (k * 2) (.int .i64 x.facts[k].rel) (by have := hg 0 (by omega); rw [Nat.add_zero] at this; rw [this, he]; rfl)
    exact this
  · have := hcc (k * 2 + 1) Vs[k] (by rw [hg 1 (by omega), he]; rfl)
    rw [← Nat.add_assoc] at this
    exact this
/-- a fact drawn -/
def GivesFct (A : Nat) (w : World) (p : Nat) (cv : Value) (code : List UInt8) (e : Ending) (w' : World) : Prop :=
  ∃ V f, e = .returned (.agg #[.int .i64 f.rel, V]) ∧ IntS_at w' w'.heap.size V f.vals ∧ lowB A V ∧ FctSmall f ∧ (∃ st', CurS w' p cv code st') ∧ w.grownBy w' (some p)
set_option maxHeartbeats 3200000 in
set_option maxRecDepth 100000 in
theorem l5One_c (p : Nat) (cv : Value) (code : List UInt8) (st : DrawSt) (A : Nat) (v : Value) (x : Inst) (w : World) (hC : CurS w p cv code st) (hpA : p < A) (hA : A ≤ w.heap.size) (hlo : Instance_lo A w w.heap.size v x) (hs : InstSmall 9 x) :
    Calls Try.prog 103 #[.pointer (some ⟨p, 0, none⟩), v] w (GivesFct A w p cv code) := by
  have hp := Cur.lt hC
  have hb := belowR_bd code
  obtain ⟨P, c, Q, d, rfl⟩ := Instance_form hlo.at_
  have hcap : x.facts.length ≤ d ∧ d ≤ maxLen := by
    obtain ⟨_, _, hv, _, hF⟩ := hlo.at_
    simp only [Value.agg.injEq, Array.mk.injEq, List.cons.injEq, and_true] at hv
    obtain ⟨-, rfl⟩ := hv
    obtain ⟨_, _, hv2, h1, h2⟩ := hF.form
    injection hv2 with e1 _ e2
    subst e1 e2
    exact ⟨h1, h2⟩
  unfold maxLen at hcap
  have hxl : x.facts.length ≤ 9 := hs.2.1
  have HS := Lib.hid hs
  obtain ⟨E, hEq⟩ : ∃ E, E = (w.alloc (.cells #[.slice P x.rels.length c, .slice Q x.facts.length d] 43)).alloc (.cells #[.int .i64 0, .slice none 0 0] 31) := ⟨_, rfl⟩
  have hE : Below w.heap.size w E := by rw [hEq]; exact below_more (below_more (Below.refl _ _) _) _
  have HEz := Lib.hid (show w.heap.size + 2 = E.heap.size by rw [hEq]; simp)
  have x1 : E.cell? ⟨w.heap.size, 1, none⟩ = some (.slice Q x.facts.length d) := by rw [hEq]; simp [go_sem]
  have r0 : E.cell? ⟨w.heap.size + 1, 0, none⟩ = some (.int .i64 0) := by rw [hEq]; simp [go_sem]
  have r1 : E.cell? ⟨w.heap.size + 1, 1, none⟩ = some (.slice none 0 0) := by rw [hEq]; simp [go_sem]
  have rz : ∀ o, E.frozen? ⟨w.heap.size + 1, o, none⟩ = false := fun o => by rw [hEq]; simp [go_sem]
  have hCE : CurS E p cv code st := by rw [hEq]; exact Cur.alloc (Cur.alloc hC _) _
  have HLO := Lib.hid (hlo.below hE (Nat.le_refl _))
  have hGE : w.grownBy E (some p) := by rw [hEq]; exact (World.grownBy_alloc w _ (some p)).trans (World.grownBy_alloc _ _ _)
  have HGE := Lib.hid hGE
  clear hlo hGE hs
  by_cases h0 : 0 < x.facts.length
  · have e0 : decide ((0 : Int) < (x.facts.length : Int)) = true := decide_eq_true (by omega)
    go_enter Try.func103, Try.ntmps103
    go_wp2_with fail
    rw [← hEq]
    clear hEq
    refine (l1Once_r p cv code _ _ _ hCE).mono ?_; rintro e w3 ⟨rfl, hC3, hg3⟩
    generalize onceR code st 2 = b at *
    obtain ⟨bb, st3⟩ := b
    dsimp only at *
    have hz3 := hg3.size
    have hzE := HEz.out
    have y1 := grown_cell hg3 x1 (by omega)
    have s0 := grown_cell hg3 r0 (by omega)
    have s1 := grown_cell hg3 r1 (by omega)
    have sz := fun o => grown_frozen hg3 (o := o) (by omega) (by omega) (rz o)
    have hHlo := HLO.out.keep (w' := w3) (fun b o h1 h2 => World.cell?_of_block (w := E) (a := ⟨b, o, none⟩) (hg3.block b (by have := HEz.out; omega) (by intro e; injection e with e; omega)))
    have HLO3 := Lib.hid hHlo
    have HG3 := Lib.hid (HGE.out.trans hg3)
    have hz3w : w.heap.size + 2 ≤ w3.heap.size := by omega
    have hgE3 := Lib.hid hg3
    clear x1 r0 r1 rz hg3 hHlo hzE hz3
    cases bb with
    | true =>
      have j1 := hb st3 x.facts.length
      have j2 := j1.2 (by omega)
      have j1 := j1.1
      have g1 := Save.cell (S := fun k => k = p) (w := w3) (b := w.heap.size) (o := 1) (by omega) (by omega) y1
      go_wp2_with fail
      refine wp_region_planL (C := fun w' => ∃ u : Save (fun k => k = p) w3, w' = u.now) (.still 0 (.still 1 (.still 2 (.still 3 (.still 4 (.move true 5 (.move true 6 (.still 7 (.still 8 (.move false 9 .done .none))) .none) .none)))))) (by kernel_rfl) (by kernel_rfl) (by kernel_rfl) (fun _ => ⟨⟨w3.drew, ⟨rfl, rfl, rfl, Nat.le_refl _, fun _ _ _ => rfl⟩⟩, rfl⟩) ?_
      iterate 5
        refine plan_look _ rfl rfl ?_
        go_big_quiet_step (fail)
        refine wpQuiet_nil ?_
      refine plan_value (u := .int .i64 x.facts.length) (w' := w3.drew) _ rfl rfl rfl (by simp [go_sem]) (fun _ => ⟨⟨w3.drew, ⟨rfl, rfl, rfl, Nat.le_refl _, fun _ _ _ => rfl⟩⟩, rfl⟩) ?_ True.intro
      refine plan_put ?_ (by simp only [Act.put, List.setIfInBounds_toArray, List.set_cons_succ, List.set_cons_zero]; rfl)
      refine plan_call _ 79 _ _ _ _ _ rfl _ Try.func79 (by kernel_rfl) (by kernel_rfl) ?_ True.intro
      refine (l1Below_r p cv code _ _ _ (Cur.drewN hC3 1)).mono ?_
      rintro _ w4 ⟨rfl, hC4, hg4⟩
      generalize belowR code st3 x.facts.length = b at *
      obtain ⟨b1, st4⟩ := b
      dsimp only at *
      have hg4' : w3.grownBy w4 (some p) := ⟨hg4.os, hg4.tape, hg4.output, hg4.size, hg4.block⟩
      have hch4 : Chg (fun k => k = p) w3 w4 := ⟨hg4.os, hg4.tape, hg4.output, hg4.size, fun k hk hn => hg4.block k hk (by intro e; injection e with e; exact hn e)⟩
      refine ⟨_, rfl, fun _ => ⟨⟨w4, hch4⟩, rfl⟩, ?_⟩
      refine plan_put ?_ (by simp only [Act.put, List.setIfInBounds_toArray, List.set_cons_succ, List.set_cons_zero]; rfl)
      obtain ⟨k, hk⟩ := Int.eq_ofNat_of_zero_le j1
      rw [hk]
      have hkl : k < x.facts.length := by omega
      have HK := Lib.hid hk
      clear hk j1 j2
      obtain ⟨bq, off, V, rfl, hbq, hbA, c0, c1, hV, hVl⟩ := HLO3.out.facts k hkl
      obtain ⟨PV, cV, rfl, -⟩ := id hV
      have G0 := Save.cell (S := fun k => k = p) (w := w3) (b := bq) (by omega) (by omega) c0
      have G1 := Save.cell (S := fun k => k = p) (w := w3) (b := bq) (by omega) (by omega) c1
      have hFS : FctSmall x.facts[k] := HS.out.2.2 _ (List.getElem_mem hkl)
      have HFS := Lib.hid hFS
      have hV4 : IntS_at w4 w.heap.size (.slice PV x.facts[k].vals.length cV) x.facts[k].vals := by
        obtain ⟨P2, c2, h1, h2, h3, h4, h5⟩ := hV
        injection h1 with h1 _ h6
        subst h1 h6
        refine ⟨_, _, rfl, h2, h3, fun h0 => ?_, h5⟩
        obtain ⟨b2, o2, hP, hb2, hc⟩ := h4 h0
        subst hP
        have hAb : A ≤ b2 := hVl b2 rfl
        exact ⟨b2, o2, rfl, hb2, fun j u hu => (hch4.cell (by omega) (by omega)).trans (hc j u hu)⟩
      have HV := Lib.hid hV4
      have HVL := Lib.hid hVl
      have z0 := grown_cell hg4' s0 (by omega)
      have z1 := grown_cell hg4' s1 (by omega)
      have zz := fun o => grown_frozen hg4' (o := o) (by omega) (by omega) (sz o)
      have HG4 := Lib.hid (HG3.out.trans hg4')
      have HC4 := Lib.hid hC4
      have hz4 := hg4'.size
      clear hV hVl hV4 hFS hch4 hg4 hg4' hC4 s0 s1 sz y1 c0 c1
      iterate 2
        refine plan_look _ rfl rfl ?_
        go_big_quiet_step (fail)
        refine wpQuiet_nil ?_
      refine plan_skip (w' := (w4.setCell ⟨w.heap.size + 1, 0, none⟩ (.int .i64 x.facts[k].rel)).setCell ⟨w.heap.size + 1, 1, none⟩ (.slice PV x.facts[k].vals.length cV)) _ rfl rfl rfl (by simp [go_sem, z0, z1, zz]) (fun e => by cases e) ?_ True.intro
      refine plan_put ?_ (by simp only [Act.put]; rfl)
      refine plan_done ?_
      clear g1 G0 G1
      generalize x.facts[k] = f at *
      go_wp2
      have hst : ∀ u0 u1, Chg (Mid (w.heap.size + 1) (w.heap.size + 2)) w4 ((w4.setCell ⟨w.heap.size + 1, 0, none⟩ u0).setCell ⟨w.heap.size + 1, 1, none⟩ u1) := fun u0 u1 => ((Chg.refl _ _).setCell (p := ⟨w.heap.size + 1, 0, none⟩) ⟨Nat.le_refl _, Nat.lt_succ_self _⟩ _).setCell (p := ⟨w.heap.size + 1, 1, none⟩) ⟨Nat.le_refl _, Nat.lt_succ_self _⟩ _
      have hbw : ∀ u0 u1, Below w.heap.size w4 ((w4.setCell ⟨w.heap.size + 1, 0, none⟩ u0).setCell ⟨w.heap.size + 1, 1, none⟩ u1) := fun u0 u1 => ((hst u0 u1).below (fun k h => h.1) (by omega)).mono (by omega)
      refine bodyPost_ret (v := .agg #[.int .i64 f.rel, .slice PV f.vals.length cV]) (by simp [results, Try.results103, go_sem, z0, z1]) rfl ⟨_, f, rfl, ?_, HVL.out, HFS.out, ⟨_, Cur.below hC HC4.out (hbw _ _)⟩, grown_of_below HG4.out (hbw _ _)⟩
      exact (HV.out.below (hbw _ _) (Nat.le_refl _)).more (by simp [World.setCell]; omega)
    | false =>
      go_wp2_with fail
      refine (l4Any_c p cv code _ _ hC3).mono ?_
      rintro e w4 ⟨r, V, vs, rfl, hr, hO, hl, hvs, ⟨st4, hC4⟩, hg4⟩
      obtain ⟨PV, cV, rfl, -⟩ := hO.at_
      have z0 := grown_cell hg4 s0 (by omega)
      have z1 := grown_cell hg4 s1 (by omega)
      have zz := fun o => grown_frozen hg4 (o := o) (by omega) (by omega) (sz o)
      have hz4 := hg4.size
      have HO := Lib.hid hO
      have HC4 := Lib.hid hC4
      have HG4 := Lib.hid (HG3.out.trans hg4)
      clear hO hC4 hg4 s0 s1 sz
      go_wp2
      have hst : ∀ u0 u1, Chg (fun k => k = w.heap.size + 1) w4 ((w4.setCell ⟨w.heap.size + 1, 0, none⟩ u0).setCell ⟨w.heap.size + 1, 1, none⟩ u1) := fun u0 u1 => ((Chg.refl (fun k => k = w.heap.size + 1) _).setCell (p := ⟨w.heap.size + 1, 0, none⟩) rfl _).setCell (p := ⟨w.heap.size + 1, 1, none⟩) rfl _
      have hbw : ∀ u0 u1, Below w.heap.size w4 ((w4.setCell ⟨w.heap.size + 1, 0, none⟩ u0).setCell ⟨w.heap.size + 1, 1, none⟩ u1) := fun u0 u1 => (hst u0 u1).below (fun k h => by subst h; omega) (by omega)
      refine bodyPost_ret (v := .agg #[.int .i64 r, .slice PV vs.length cV]) (by simp [results, Try.results103, go_sem, z0, z1]) rfl ⟨_, ⟨r, vs⟩, rfl, ?_, fun q hq => by have := (HO.out.lt q hq).1; omega, ⟨hr, hl, hvs⟩, ⟨_, Cur.below hC HC4.out (hbw _ _)⟩, grown_of_below HG4.out (hbw _ _)⟩
      exact (HO.out.chg (hst _ _) (fun q hq e => by have := (HO.out.lt q hq).1; omega)).at_
  · have e0 : decide ((0 : Int) < (x.facts.length : Int)) = false := decide_eq_false (by omega)
    have hzE := HEz.out
    have hzE2 : w.heap.size + 2 ≤ E.heap.size := by omega
    clear hzE x1
    go_enter Try.func103, Try.ntmps103
    go_wp2_with fail
    rw [← hEq]
    clear hEq
    refine (l4Any_c p cv code _ _ hCE).mono ?_
    rintro e w4 ⟨r, V, vs, rfl, hr, hO, hl, hvs, ⟨st4, hC4⟩, hg4⟩
    obtain ⟨PV, cV, rfl, -⟩ := hO.at_
    have z0 := grown_cell hg4 r0 (by omega)
    have z1 := grown_cell hg4 r1 (by omega)
    have zz := fun o => grown_frozen hg4 (o := o) (by omega) (by omega) (rz o)
    have hz4 := hg4.size
    have HO := Lib.hid hO
    have HC4 := Lib.hid hC4
    have HG4 := Lib.hid (HGE.out.trans hg4)
    clear hO hC4 hg4 r0 r1 rz
    go_wp2
    have hst : ∀ u0 u1, Chg (fun k => k = w.heap.size + 1) w4 ((w4.setCell ⟨w.heap.size + 1, 0, none⟩ u0).setCell ⟨w.heap.size + 1, 1, none⟩ u1) := fun u0 u1 => ((Chg.refl (fun k => k = w.heap.size + 1) _).setCell (p := ⟨w.heap.size + 1, 0, none⟩) rfl _).setCell (p := ⟨w.heap.size + 1, 1, none⟩) rfl _
    have hbw : ∀ u0 u1, Below w.heap.size w4 ((w4.setCell ⟨w.heap.size + 1, 0, none⟩ u0).setCell ⟨w.heap.size + 1, 1, none⟩ u1) := fun u0 u1 => (hst u0 u1).below (fun k h => by subst h; omega) (by omega)
    refine bodyPost_ret (v := .agg #[.int .i64 r, .slice PV vs.length cV]) (by simp [results, Try.results103, go_sem, z0, z1]) rfl ⟨_, ⟨r, vs⟩, rfl, ?_, fun q hq => by have := (HO.out.lt q hq).1; omega, ⟨hr, hl, hvs⟩, ⟨_, Cur.below hC HC4.out (hbw _ _)⟩, grown_of_below HG4.out (hbw _ _)⟩
    exact (HO.out.chg (hst _ _) (fun q hq e => by have := (HO.out.lt q hq).1; omega)).at_

end Go.Proofs.Ytchlelkhpahakaa
