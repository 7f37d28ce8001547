/-
  Walks and plain lemmas for the laws of this seat: what single Go functions return, for every argument.
-/
import Derived.Test.YtchlelkhpahakaaMem
import Derived.Test.YtchlelkhpahakaaPlan
import Derived.Test.YtchlelkhpahakaaAft
import Derived.Test.YtchlelkhpahakaaTyInst
import Derived.Test.YtchlelkhpahakaaInstCp
import Derived.Test.YtchlelkhpahakaaMInst
import Derived.Test.YtchlelkhpahakaaInstP
import Derived.Test.YtchlelkhpahakaaInstO
namespace Go.Proofs.Ytchlelkhpahakaa
open Go.RowKit

def DeleteFact_r0 (x : Inst) (f : Fct) : Inst := delInst x f
def DeleteFact_ok (x : Inst) (f : Fct) : Bool := hasInst x f
def GivesDelS (x : Inst) (f : Fct) (w : World) (e : Ending) (w' : World) : Prop := ∃ u, e = .returned (.tuple #[u, .bool (hasInst x f)]) ∧ Instance_own w.heap.size w'.heap.size u (delInst x f) w' ∧ Below w.heap.size w w'
theorem Instance_own.monoD {B B' C C' : Nat} {v : Value} {x : Inst} {w : World} (h : Instance_own B C v x w) (hB : B' ≤ B) (hC : C ≤ C') : Instance_own B' C' v x w := by
  obtain ⟨V1, V2, rfl, h1, h2⟩ := h
  exact ⟨_, _, rfl, h1.mono hB hC, h2.mono hB hC⟩
theorem Instance_at.laterD {w w' : World} {v : Value} {x : Inst} (h : Instance_at w w.heap.size v x) (hb : Below w.heap.size w w') : Instance_at w' w'.heap.size v x := (h.below hb (Nat.le_refl _)).more hb.size
theorem Fact_at.laterD {w w' : World} {v : Value} {x : Fct} (h : Fact_at w w.heap.size v x) (hb : Below w.heap.size w w') : Fact_at w' w'.heap.size v x := (h.below hb (Nat.le_refl _)).more hb.size
theorem specContainsFact_atD (v u : Value) (x : Inst) (y : Fct) (bb : Bool) (hb : hasInst x y = bb) (w : World) (h : Instance_at w w.heap.size v x) (hw : Instance_wf x) (hn : Instance_sz x ≤ 1048576) (h' : Fact_at w w.heap.size u y) :
    Calls Try.prog 23 #[v, u] w fun e w' => e = .returned (.bool bb) ∧ Below w.heap.size w w' := by
  subst hb; exact specContainsFact_any v u x y w h hw hn h'
set_option maxHeartbeats 3200000 in
set_option maxRecDepth 100000 in
theorem specDeleteFact_any (v u : Value) (x : Inst) (f : Fct) (w : World) (h : Instance_at w w.heap.size v x) (hw : Instance_wf x) (hn : Instance_sz x ≤ 1048576) (h' : Fact_at w w.heap.size u f) :
    Calls Try.prog 30 #[v, u] w (GivesDelS x f w) := by
  obtain ⟨P, c, Q, d, rfl⟩ := Instance_form h
  obtain ⟨P', c', rfl⟩ := Fact_form h'
  have HX := Lib.hid h
  have HY := Lib.hid h'
  clear h h'
  have hfl : x.facts.length ≤ 1048576 := by unfold Instance_sz FactS_sz at hn; omega
  obtain ⟨E, hEq⟩ : ∃ E, E = (((w.alloc (.cells #[.slice P x.rels.length c, .slice Q x.facts.length d] 43)).alloc (.cells #[.int .i64 f.rel, .slice P' f.vals.length c'] 31)).alloc (.cells #[.slice none 0 0, .slice none 0 0] 43)) := ⟨_, rfl⟩
  have hE : Below w.heap.size w E := by rw [hEq]; exact below_more (below_more (below_more (Below.refl _ _) _) _) _
  have HE := Lib.hid (show w.heap.size + 3 = E.heap.size by rw [hEq]; simp)
  have K0 := Lib.hid (show E.cell? ⟨w.heap.size, 0, none⟩ = some (.slice P x.rels.length c) by rw [hEq]; simp [go_sem])
  have K1 := Lib.hid (show E.cell? ⟨w.heap.size, 1, none⟩ = some (.slice Q x.facts.length d) by rw [hEq]; simp [go_sem])
  have L0 := Lib.hid (show E.cell? ⟨w.heap.size + 1, 0, none⟩ = some (.int .i64 f.rel) by rw [hEq]; simp [go_sem])
  have L1 := Lib.hid (show E.cell? ⟨w.heap.size + 1, 1, none⟩ = some (.slice P' f.vals.length c') by rw [hEq]; simp [go_sem])
  have R0 := Lib.hid (show E.cell? ⟨w.heap.size + 1 + 1, 0, none⟩ = some (.slice none 0 0) by rw [hEq]; simp [go_sem])
  have R1 := Lib.hid (show E.cell? ⟨w.heap.size + 1 + 1, 1, none⟩ = some (.slice none 0 0) by rw [hEq]; simp [go_sem])
  have RZ := fun o => Lib.hid (show E.frozen? ⟨w.heap.size + 1 + 1, o, none⟩ = false by rw [hEq]; simp [go_sem])
  have hcp := specL5Copy_any (.agg #[.slice P x.rels.length c, .slice Q x.facts.length d]) x E (HX.out.laterD hE) hn
  rw [hEq] at hcp
  go_enter Try.func30, Try.ntmps30
  go_wp2_with fail
  refine hcp.mono ?_
  rintro e w1 ⟨vy, rfl, hOy, hb1⟩
  rw [← hEq] at hb1 hOy
  clear hcp hEq
  obtain ⟨P1, c1, Q1, d1, rfl⟩ := Instance_form (hOy.at_ (Nat.le_refl _))
  have hz1 : w.heap.size + 3 ≤ w1.heap.size := by have h1 := hb1.size; have h2 := HE.out; omega
  obtain ⟨W2, hW2⟩ : ∃ W2, W2 = w1.alloc (.cells #[.slice P1 x.rels.length c1, .slice Q1 x.facts.length d1] 43) := ⟨_, rfl⟩
  have hb2 : Below w1.heap.size w1 W2 := by rw [hW2]; exact below_more (Below.refl _ _) _
  have hz2 : w1.heap.size < W2.heap.size := by rw [hW2]; simp
  have Y0 := Lib.hid (show W2.cell? ⟨w1.heap.size, 0, none⟩ = some (.slice P1 x.rels.length c1) by rw [hW2]; simp [go_sem])
  have Y1 := Lib.hid (show W2.cell? ⟨w1.heap.size, 1, none⟩ = some (.slice Q1 x.facts.length d1) by rw [hW2]; simp [go_sem])
  have YZ := fun o => Lib.hid (show W2.frozen? ⟨w1.heap.size, o, none⟩ = false by rw [hW2]; simp [go_sem])
  have hE2 : Below E.heap.size E W2 := hb1.trans (hb2.mono hb1.size)
  have hW02 := hE.trans (hE2.mono hE.size)
  have HOY := Lib.hid ((hOy.at_ (Nat.le_refl _)).laterD hb2)
  have HCY := Lib.hid (hOy.below hb2 (Nat.le_refl _))
  have HE2 := Lib.hid hE2
  have k0 := (hE2.cell (p := ⟨w.heap.size, 0, none⟩) (by show w.heap.size < _; have := HE.out; omega)).trans K0.out
  have k1 := (hE2.cell (p := ⟨w.heap.size, 1, none⟩) (by show w.heap.size < _; have := HE.out; omega)).trans K1.out
  have l0 := (hE2.cell (p := ⟨w.heap.size + 1, 0, none⟩) (by show w.heap.size + 1 < _; have := HE.out; omega)).trans L0.out
  have l1 := (hE2.cell (p := ⟨w.heap.size + 1, 1, none⟩) (by show w.heap.size + 1 < _; have := HE.out; omega)).trans L1.out
  have hcf := fun bb hb => specContainsFact_atD (.agg #[.slice P x.rels.length c, .slice Q x.facts.length d]) (.agg #[.int .i64 f.rel, .slice P' f.vals.length c']) x f bb hb W2 (HX.out.laterD hW02) hw hn (HY.out.laterD hW02)
  have HW02 := Lib.hid hW02
  clear hOy hb1 hb2 hE2 hW02
  rw [hW2] at hcf k0 k1 l0 l1
  cases ho : hasInst x f with
  | false =>
    have HV := Lib.hid (show delInst x f = x by unfold delInst; rw [ho]; rfl)
    have HQ := Lib.hid ho
    replace hcf := hcf false ho
    clear ho
    go_wp2_with fail
    refine hcf.mono ?_
    rintro e w3 ⟨rfl, b3⟩
    rw [← hW2] at b3
    clear hcf k0 k1 l0 l1 hW2
    have HZ3 := Lib.hid (show w1.heap.size ≤ w3.heap.size by have := b3.size; omega)
    have y0 := (b3.cell (p := ⟨w1.heap.size, 0, none⟩) hz2).trans Y0.out
    have y1 := (b3.cell (p := ⟨w1.heap.size, 1, none⟩) hz2).trans Y1.out
    have hEW := HE2.out.trans (b3.mono HE2.out.size)
    have r0 := (hEW.cell (p := ⟨w.heap.size + 1 + 1, 0, none⟩) (by show w.heap.size + 1 + 1 < _; have := HE.out; omega)).trans R0.out
    have r1 := (hEW.cell (p := ⟨w.heap.size + 1 + 1, 1, none⟩) (by show w.heap.size + 1 + 1 < _; have := HE.out; omega)).trans R1.out
    have rz := fun o => (hEW.frozen (p := ⟨w.heap.size + 1 + 1, o, none⟩) (by show w.heap.size + 1 + 1 < _; have := HE.out; omega)).trans (RZ o).out
    have HC3 := Lib.hid (HCY.out.below b3 (by omega))
    have HW3 := Lib.hid (HW02.out.trans (b3.mono HW02.out.size))
    have HST : ∀ u1 u2, Hid (Chg (Mid (w.heap.size + 1 + 1) (w.heap.size + 3)) w3 ((w3.setCell ⟨w.heap.size + 1 + 1, 0, none⟩ u1).setCell ⟨w.heap.size + 1 + 1, 1, none⟩ u2)) := fun u1 u2 => Lib.hid (((Chg.refl _ w3).setCell (p := ⟨w.heap.size + 1 + 1, 0, none⟩) ⟨Nat.le_refl _, by show w.heap.size + 1 + 1 < _; omega⟩ _).setCell (p := ⟨w.heap.size + 1 + 1, 1, none⟩) ⟨Nat.le_refl _, by show w.heap.size + 1 + 1 < _; omega⟩ _)
    clear hEW b3
    go_wp2
    have hf := (HST (.slice P1 x.rels.length c1) (.slice Q1 x.facts.length d1)).out
    refine bodyPost_ret (v := .tuple #[.agg #[.slice P1 x.rels.length c1, .slice Q1 x.facts.length d1], .bool false]) (by simp [results, Try.results30, go_sem, r0, r1]) rfl ⟨_, by rw [HQ.out], ?_, ?_⟩
    · rw [HV.out]
      exact (HC3.out.chg hf (.inr (by have := HE.out; omega))).monoD (by have := HE.out; omega) (by have h1 := hf.size; have h2 := HW3.out.size; have h3 := HZ3.out; omega)
    · exact HW3.out.trans (hf.mid_below (by omega) HW3.out.size)
  | true =>
    have HQ := Lib.hid ho
    obtain ⟨k, hpk, hkl, hdl⟩ := del_at ho
    have HV := Lib.hid hdl
    replace hcf := hcf true ho
    clear ho hdl
    go_wp2_with fail
    refine hcf.mono ?_
    rintro e w3 ⟨rfl, b3⟩
    rw [← hW2] at b3
    clear hcf k0 k1 l0 l1 hW2
    have hz3 := b3.size
    have hE3 := HE2.out.trans (b3.mono HE2.out.size)
    have y0 := (b3.cell (p := ⟨w1.heap.size, 0, none⟩) hz2).trans Y0.out
    have y1 := (b3.cell (p := ⟨w1.heap.size, 1, none⟩) hz2).trans Y1.out
    have l0 := (hE3.cell (p := ⟨w.heap.size + 1, 0, none⟩) (by show w.heap.size + 1 < _; have := HE.out; omega)).trans L0.out
    have l1 := (hE3.cell (p := ⟨w.heap.size + 1, 1, none⟩) (by show w.heap.size + 1 < _; have := HE.out; omega)).trans L1.out
    have hW03 := HW02.out.trans (b3.mono HW02.out.size)
    have hpl := specL5Place_any (.agg #[.slice P1 x.rels.length c1, .slice Q1 x.facts.length d1]) (.agg #[.int .i64 f.rel, .slice P' f.vals.length c']) x f w3 (HOY.out.laterD b3) (HY.out.laterD hW03)
    rw [hpk] at hpl
    have HB3 := Lib.hid b3
    clear b3 hE3 hW03
    go_wp2_with fail
    refine hpl.mono ?_
    rintro e w4 ⟨rfl, b4'⟩
    have b4 := HB3.out.trans (b4'.mono HB3.out.size)
    have hz4 : w1.heap.size < w4.heap.size := by have := b4.size; omega
    clear hpl y0 y1 l0 l1 b4'
    have hE4 := HE2.out.trans (b4.mono HE2.out.size)
    have G1 := Aft.cell (B := w4.heap.size) (w := w4) hz4 ((b4.cell (p := ⟨w1.heap.size, 1, none⟩) hz2).trans Y1.out)
    have HY4 := Lib.hid (HOY.out.laterD b4)
    have HC4 := Lib.hid (HCY.out.below b4 (by omega))
    have HE4 := Lib.hid hE4
    have HY04 := Lib.hid ((b4.cell (p := ⟨w1.heap.size, 0, none⟩) hz2).trans Y0.out)
    have HY14 := Lib.hid ((b4.cell (p := ⟨w1.heap.size, 1, none⟩) hz2).trans Y1.out)
    have HYZ4 := fun o => Lib.hid ((b4.frozen (p := ⟨w1.heap.size, o, none⟩) hz2).trans (YZ o).out)
    have HW4 := Lib.hid (hE.trans (hE4.mono hE.size))
    clear hE4 b4
    obtain ⟨V1, V2, hv, hRo, Vs, hFo⟩ := HC4.out
    simp only [Value.agg.injEq, Array.mk.injEq, List.cons.injEq, and_true] at hv
    obtain ⟨rfl, rfl⟩ := hv
    have hC4 : w1.heap.size ≤ w4.heap.size := by omega
    have hF4 := hFo.at_ hC4
    obtain ⟨_, _, hv2, hd1, hd2⟩ := hF4.form
    injection hv2 with e1 _ e2
    subst e1 e2
    unfold maxLen at hd2
    obtain ⟨b, off, V, rfl, hb, -, -, -⟩ := FactS_at.elem hF4 k hkl
    have hVl := hFo.len
    have hS : SliceAt pairCells w4 w4.heap.size (.slice (some ⟨b, off, none⟩) x.facts.length d1) (pairs x.facts Vs) := SliceAt.inside (SliceAt.of_own hFo.row) (fun g hg => Nat.lt_of_lt_of_le (hFo.ins g hg) hC4)
    have hVe := fun (i : Nat) (h1 : i < x.facts.length) (h2 : i < Vs.length) => (hFo.el i h1 h2).at_ hC4
    have hpln := pairs_len hVl
    rw [← hpln] at hS
    have HVe := Lib.hid hVe
    have HS6 := Lib.hid (show SliceAt pairCells w4 w4.heap.size (.slice (some ⟨b, off, none⟩) ((pairs x.facts Vs).take k).length d1) ((pairs x.facts Vs).take k) from SliceAt.take hS k (by omega))
    have hm6 : ((pairs x.facts Vs).take k).length = k := by rw [List.length_take, hpln]; omega
    have hm7 : ((pairs x.facts Vs).drop (k + 1)).length = x.facts.length - (k + 1) := by rw [List.length_drop, hpln]
    have HRo := Lib.hid hRo
    have HFo := Lib.hid hFo
    clear hRo hFo hF4
    by_cases hdk : d1 - (k + 1) = 0
    · have HS7 := Lib.hid (show SliceAt pairCells w4 w4.heap.size (.slice (some ⟨b, off, none⟩) ((pairs x.facts Vs).drop (k + 1)).length (d1 - (k + 1))) ((pairs x.facts Vs).drop (k + 1)) from by rw [show (pairs x.facts Vs).drop (k + 1) = [] from List.drop_eq_nil_of_le (by rw [hpln]; omega)]; exact ⟨_, _, rfl, Nat.zero_le _, by unfold maxLen; omega, fun h => absurd h (by simp), fun e => by cases e⟩)
      have hnk : x.facts.length - (k + 1) = 0 := by omega
      clear hS hVe
      go_wp2
      refine wp_region_planL (C := fun w' => ∃ u : Aft w4.heap.size w4, w' = u.now) (.still 1 (.still 2 (.still 3 (.still 4 (.still 6 (.still 7 (.still 8 (.still 9 (.still 10 (.still 12 (.move true 0 (.move true 5 (.move true 11 (.move false 13 .done .none) .none) .none) .none))))))))))) (by kernel_rfl) (by kernel_rfl) (by kernel_rfl) (fun _ => ⟨⟨_, (Below.refl _ _).drew⟩, rfl⟩) ?_
      iterate 10
        refine plan_look _ rfl rfl ?_
        go_big_quiet_step (fail)
        refine wpQuiet_nil ?_
      have hAd : Below w4.heap.size w4 (w4.drew.alloc (.cells #[] 31)) := (Below.refl w4.heap.size w4).drew.alloc (show w4.heap.size ≤ w4.drew.heap.size from Nat.le_refl _) _
      refine plan_value (u := .slice (some ⟨w4.heap.size, 0, none⟩) 0 0) (w' := w4.drew.alloc (.cells #[] 31)) _ rfl rfl rfl (by simp [go_sem]) (fun _ => ⟨⟨_, hAd⟩, rfl⟩) ?_ True.intro
      refine plan_put ?_ (by simp only [Act.put, List.setIfInBounds_toArray, List.set_cons_succ, List.set_cons_zero]; rfl)
      have hrow0 : (w4.drew.alloc (.cells #[] 31)).ownsRow w4.heap.size 31 2 (.slice (some ⟨w4.heap.size, 0, none⟩) 0 0) ([] : List (Int × Value)).length (([] : List (Int × Value)).flatMap pairCells) := World.ownsRow_lit w4.drew #[] 0 (Nat.le_refl _) (by decide) rfl
      refine plan_apps pairCells 2 32 (r := (pairs x.facts Vs).take k) (fun p hp => pairs_one HVe.out p (List.mem_of_mem_take hp)) pairCells_len _ rfl rfl Try.underlying41 infoFct rfl (by decide) hrow0 _ _ rfl rfl (some ⟨b, off, none⟩) k d1 rfl hm6 (HS6.out.below hAd (Nat.le_refl _)) (by simp; omega) (by simp; omega) hAd.size ?_ True.intro
      intro v5 w5 hrow5 hB5 hg5 _
      have hb5 := hAd.trans hB5
      refine ⟨fun _ => ⟨⟨_, hb5⟩, rfl⟩, ?_⟩
      refine plan_put ?_ (by simp only [Act.put, List.setIfInBounds_toArray, List.set_cons_succ, List.set_cons_zero]; rfl)
      refine plan_apps pairCells 2 32 (r := (pairs x.facts Vs).drop (k + 1)) (fun p hp => pairs_one HVe.out p (List.mem_of_mem_drop hp)) pairCells_len _ rfl rfl Try.underlying41 infoFct rfl (by decide) hrow5 _ _ rfl rfl (some ⟨b, off, none⟩) (x.facts.length - (k + 1)) (d1 - (k + 1)) (by first | rfl | (rw [hdk, hnk]; rfl) | (simp [hdk, hnk])) hm7 (HS7.out.below hb5 (Nat.le_refl _)) (by simp; omega) (by simp; omega) hb5.size ?_ True.intro
      intro v6 w6 hrow6 hB6 hg6 _
      have hb6 := hb5.trans (hB6.mono (Nat.le_refl _))
      obtain ⟨A8, c8, rfl, -⟩ := SliceAt.of_own hrow6
      have heq : ([] ++ (pairs x.facts Vs).take k) ++ (pairs x.facts Vs).drop (k + 1) = pairs (x.facts.take k ++ x.facts.drop (k + 1)) (Vs.take k ++ Vs.drop (k + 1)) := by
        rw [List.nil_append, pairs_take, pairs_drop, ← pairs_app (by simp [hVl])]
      rw [heq] at hrow6 ⊢
      generalize hN8 : (pairs (x.facts.take k ++ x.facts.drop (k + 1)) (Vs.take k ++ Vs.drop (k + 1))).length = N8 at *
      have y1 := (hb6.cell (p := ⟨w1.heap.size, 1, none⟩) hz4).trans HY14.out
      have yz := fun o => (hb6.frozen (p := ⟨w1.heap.size, o, none⟩) hz4).trans (HYZ4 o).out
      refine ⟨fun _ => ⟨⟨_, hb6⟩, rfl⟩, ?_⟩
      refine plan_put ?_ (by simp only [Act.put, List.setIfInBounds_toArray, List.set_cons_succ, List.set_cons_zero]; rfl)
      refine plan_skip (w' := w6.setCell ⟨w1.heap.size, 1, none⟩ (.slice A8 N8 c8)) _ rfl rfl rfl (by simp [go_sem, y1, yz]) (fun e => by cases e) ?_ True.intro
      refine plan_put ?_ (by simp only [Act.put]; rfl)
      refine plan_done ?_
      have y0 := (hb6.cell (p := ⟨w1.heap.size, 0, none⟩) hz4).trans HY04.out
      have hE6 := HE4.out.trans (hb6.mono HE4.out.size)
      have r0 := (hE6.cell (p := ⟨w.heap.size + 1 + 1, 0, none⟩) (by show w.heap.size + 1 + 1 < _; have := HE.out; omega)).trans R0.out
      have r1 := (hE6.cell (p := ⟨w.heap.size + 1 + 1, 1, none⟩) (by show w.heap.size + 1 + 1 < _; have := HE.out; omega)).trans R1.out
      have rz := fun o => (hE6.frozen (p := ⟨w.heap.size + 1 + 1, o, none⟩) (by show w.heap.size + 1 + 1 < _; have := HE.out; omega)).trans (RZ o).out
      have hYR : ¬ (w1.heap.size = w.heap.size + 1 + 1) := by omega
      have HR6 := Lib.hid hrow6
      have HB6 := Lib.hid hb6
      have HW6 := Lib.hid (HW4.out.trans (hb6.mono HW4.out.size))
      have HST : ∀ u1 u2 u3, Hid (Chg (fun q => q = w1.heap.size ∨ q = w.heap.size + 1 + 1) w6 (((w6.setCell ⟨w1.heap.size, 1, none⟩ u1).setCell ⟨w.heap.size + 1 + 1, 0, none⟩ u2).setCell ⟨w.heap.size + 1 + 1, 1, none⟩ u3)) := fun u1 u2 u3 => Lib.hid ((((Chg.refl _ w6).setCell (p := ⟨w1.heap.size, 1, none⟩) (.inl rfl) _).setCell (p := ⟨w.heap.size + 1 + 1, 0, none⟩) (.inr rfl) _).setCell (p := ⟨w.heap.size + 1 + 1, 1, none⟩) (.inr rfl) _)
      clear hrow0 hrow5 hrow6 hB5 hB6 hg5 hg6 hAd hb5 hb6 hE6
      go_wp2
      have hf := (HST (.slice A8 N8 c8) (.slice P1 x.rels.length c1) (.slice A8 N8 c8)).out
      refine bodyPost_ret (v := .tuple #[.agg #[.slice P1 x.rels.length c1, .slice A8 N8 c8], .bool true]) (by simp [results, Try.results30, go_sem, r0, r1]) rfl ⟨_, by rw [HQ.out], ?_, ?_⟩
      · rw [HV.out]
        have hs6 := HB6.out.size
        have hsf := hf.size
        have hrowF := hf.row HR6.out (fun g hg e => by have := (World.ownsRow.lt HR6.out g hg).1; omega)
        have hEz := HE.out
        exact ⟨_, _, rfl, ((HRo.out.below HB6.out (by omega)).chgS hf (fun q hq => by omega)).mono (by omega) (by omega), ⟨Vs.take k ++ Vs.drop (k + 1), by simp [hVl], by rw [hN8]; exact row_mono hrowF (by omega), fun g hg => (World.ownsRow.lt hrowF g hg).2, del_elems (Q := fun V g => IntS_own w.heap.size _ V g.vals _) x.facts Vs k hkl hVl (fun i h1 h2 => ((IntS_own.below (HFo.out.el i h1 h2) HB6.out (by omega)).chgS hf (fun q hq => by omega)).mono (by omega) (by omega)), HFo.out.dis.sublist (del_sub Vs k)⟩⟩
      · exact HW6.out.trans (hf.below (fun q hq => by omega) HW6.out.size)
    · have HS7 := Lib.hid (show SliceAt pairCells w4 w4.heap.size (.slice (some ⟨b, off + (k + 1) * 2, none⟩) ((pairs x.facts Vs).drop (k + 1)).length (d1 - (k + 1))) ((pairs x.facts Vs).drop (k + 1)) from SliceAt.drop pairCells_len hS (k + 1) (by omega))
      clear hS hVe
      go_wp2
      refine wp_region_planL (C := fun w' => ∃ u : Aft w4.heap.size w4, w' = u.now) (.still 1 (.still 2 (.still 3 (.still 4 (.still 6 (.still 7 (.still 8 (.still 9 (.still 10 (.still 12 (.move true 0 (.move true 5 (.move true 11 (.move false 13 .done .none) .none) .none) .none))))))))))) (by kernel_rfl) (by kernel_rfl) (by kernel_rfl) (fun _ => ⟨⟨_, (Below.refl _ _).drew⟩, rfl⟩) ?_
      iterate 10
        refine plan_look _ rfl rfl ?_
        go_big_quiet_step (fail)
        refine wpQuiet_nil ?_
      have hAd : Below w4.heap.size w4 (w4.drew.alloc (.cells #[] 31)) := (Below.refl w4.heap.size w4).drew.alloc (show w4.heap.size ≤ w4.drew.heap.size from Nat.le_refl _) _
      refine plan_value (u := .slice (some ⟨w4.heap.size, 0, none⟩) 0 0) (w' := w4.drew.alloc (.cells #[] 31)) _ rfl rfl rfl (by simp [go_sem]) (fun _ => ⟨⟨_, hAd⟩, rfl⟩) ?_ True.intro
      refine plan_put ?_ (by simp only [Act.put, List.setIfInBounds_toArray, List.set_cons_succ, List.set_cons_zero]; rfl)
      have hrow0 : (w4.drew.alloc (.cells #[] 31)).ownsRow w4.heap.size 31 2 (.slice (some ⟨w4.heap.size, 0, none⟩) 0 0) ([] : List (Int × Value)).length (([] : List (Int × Value)).flatMap pairCells) := World.ownsRow_lit w4.drew #[] 0 (Nat.le_refl _) (by decide) rfl
      refine plan_apps pairCells 2 32 (r := (pairs x.facts Vs).take k) (fun p hp => pairs_one HVe.out p (List.mem_of_mem_take hp)) pairCells_len _ rfl rfl Try.underlying41 infoFct rfl (by decide) hrow0 _ _ rfl rfl (some ⟨b, off, none⟩) k d1 rfl hm6 (HS6.out.below hAd (Nat.le_refl _)) (by simp; omega) (by simp; omega) hAd.size ?_ True.intro
      intro v5 w5 hrow5 hB5 hg5 _
      have hb5 := hAd.trans hB5
      refine ⟨fun _ => ⟨⟨_, hb5⟩, rfl⟩, ?_⟩
      refine plan_put ?_ (by simp only [Act.put, List.setIfInBounds_toArray, List.set_cons_succ, List.set_cons_zero]; rfl)
      refine plan_apps pairCells 2 32 (r := (pairs x.facts Vs).drop (k + 1)) (fun p hp => pairs_one HVe.out p (List.mem_of_mem_drop hp)) pairCells_len _ rfl rfl Try.underlying41 infoFct rfl (by decide) hrow5 _ _ rfl rfl (some ⟨b, off + (k + 1) * 2, none⟩) (x.facts.length - (k + 1)) (d1 - (k + 1)) rfl hm7 (HS7.out.below hb5 (Nat.le_refl _)) (by simp; omega) (by simp; omega) hb5.size ?_ True.intro
      intro v6 w6 hrow6 hB6 hg6 _
      have hb6 := hb5.trans (hB6.mono (Nat.le_refl _))
      obtain ⟨A8, c8, rfl, -⟩ := SliceAt.of_own hrow6
      have heq : ([] ++ (pairs x.facts Vs).take k) ++ (pairs x.facts Vs).drop (k + 1) = pairs (x.facts.take k ++ x.facts.drop (k + 1)) (Vs.take k ++ Vs.drop (k + 1)) := by
        rw [List.nil_append, pairs_take, pairs_drop, ← pairs_app (by simp [hVl])]
      rw [heq] at hrow6 ⊢
      generalize hN8 : (pairs (x.facts.take k ++ x.facts.drop (k + 1)) (Vs.take k ++ Vs.drop (k + 1))).length = N8 at *
      have y1 := (hb6.cell (p := ⟨w1.heap.size, 1, none⟩) hz4).trans HY14.out
      have yz := fun o => (hb6.frozen (p := ⟨w1.heap.size, o, none⟩) hz4).trans (HYZ4 o).out
      refine ⟨fun _ => ⟨⟨_, hb6⟩, rfl⟩, ?_⟩
      refine plan_put ?_ (by simp only [Act.put, List.setIfInBounds_toArray, List.set_cons_succ, List.set_cons_zero]; rfl)
      refine plan_skip (w' := w6.setCell ⟨w1.heap.size, 1, none⟩ (.slice A8 N8 c8)) _ rfl rfl rfl (by simp [go_sem, y1, yz]) (fun e => by cases e) ?_ True.intro
      refine plan_put ?_ (by simp only [Act.put]; rfl)
      refine plan_done ?_
      have y0 := (hb6.cell (p := ⟨w1.heap.size, 0, none⟩) hz4).trans HY04.out
      have hE6 := HE4.out.trans (hb6.mono HE4.out.size)
      have r0 := (hE6.cell (p := ⟨w.heap.size + 1 + 1, 0, none⟩) (by show w.heap.size + 1 + 1 < _; have := HE.out; omega)).trans R0.out
      have r1 := (hE6.cell (p := ⟨w.heap.size + 1 + 1, 1, none⟩) (by show w.heap.size + 1 + 1 < _; have := HE.out; omega)).trans R1.out
      have rz := fun o => (hE6.frozen (p := ⟨w.heap.size + 1 + 1, o, none⟩) (by show w.heap.size + 1 + 1 < _; have := HE.out; omega)).trans (RZ o).out
      have hYR : ¬ (w1.heap.size = w.heap.size + 1 + 1) := by omega
      have HR6 := Lib.hid hrow6
      have HB6 := Lib.hid hb6
      have HW6 := Lib.hid (HW4.out.trans (hb6.mono HW4.out.size))
      have HST : ∀ u1 u2 u3, Hid (Chg (fun q => q = w1.heap.size ∨ q = w.heap.size + 1 + 1) w6 (((w6.setCell ⟨w1.heap.size, 1, none⟩ u1).setCell ⟨w.heap.size + 1 + 1, 0, none⟩ u2).setCell ⟨w.heap.size + 1 + 1, 1, none⟩ u3)) := fun u1 u2 u3 => Lib.hid ((((Chg.refl _ w6).setCell (p := ⟨w1.heap.size, 1, none⟩) (.inl rfl) _).setCell (p := ⟨w.heap.size + 1 + 1, 0, none⟩) (.inr rfl) _).setCell (p := ⟨w.heap.size + 1 + 1, 1, none⟩) (.inr rfl) _)
      clear hrow0 hrow5 hrow6 hB5 hB6 hg5 hg6 hAd hb5 hb6 hE6
      go_wp2
      have hf := (HST (.slice A8 N8 c8) (.slice P1 x.rels.length c1) (.slice A8 N8 c8)).out
      refine bodyPost_ret (v := .tuple #[.agg #[.slice P1 x.rels.length c1, .slice A8 N8 c8], .bool true]) (by simp [results, Try.results30, go_sem, r0, r1]) rfl ⟨_, by rw [HQ.out], ?_, ?_⟩
      · rw [HV.out]
        have hs6 := HB6.out.size
        have hsf := hf.size
        have hrowF := hf.row HR6.out (fun g hg e => by have := (World.ownsRow.lt HR6.out g hg).1; omega)
        have hEz := HE.out
        exact ⟨_, _, rfl, ((HRo.out.below HB6.out (by omega)).chgS hf (fun q hq => by omega)).mono (by omega) (by omega), ⟨Vs.take k ++ Vs.drop (k + 1), by simp [hVl], by rw [hN8]; exact row_mono hrowF (by omega), fun g hg => (World.ownsRow.lt hrowF g hg).2, del_elems (Q := fun V g => IntS_own w.heap.size _ V g.vals _) x.facts Vs k hkl hVl (fun i h1 h2 => ((IntS_own.below (HFo.out.el i h1 h2) HB6.out (by omega)).chgS hf (fun q hq => by omega)).mono (by omega) (by omega)), HFo.out.dis.sublist (del_sub Vs k)⟩⟩
      · exact HW6.out.trans (hf.below (fun q hq => by omega) HW6.out.size)
theorem specDeleteFact_c (v : Value) (x : Inst) (u : Value) (y : Fct) (w : World) (h : Instance_at w w.heap.size v x) (hw : Instance_wf x) (hn : Instance_sz x ≤ 1048576) (h' : Fact_at w w.heap.size u y) (_ : Fact_wf y) (_ : Fact_sz y ≤ 1048576) :
    Calls Try.prog 30 #[v, u] w fun e w' => ∃ r0, e = .returned (.tuple #[r0, .bool (DeleteFact_ok x y)]) ∧ Instance_at w' w'.heap.size r0 (DeleteFact_r0 x y) ∧ Below w.heap.size w w' :=
  (specDeleteFact_any v u x y w h hw hn h').mono fun _ _ ⟨r, he, ho, hb⟩ => ⟨r, he, ho.at_ (Nat.le_refl _), hb⟩
theorem specDeleteFact_o (v : Value) (x : Inst) (u : Value) (y : Fct) (w : World) (h : Instance_at w w.heap.size v x) (hw : Instance_wf x) (hn : Instance_sz x ≤ 1048576) (h' : Fact_at w w.heap.size u y) (_ : Fact_wf y) (_ : Fact_sz y ≤ 1048576) :
    Calls Try.prog 30 #[v, u] w fun e w' => ∃ r0, e = .returned (.tuple #[r0, .bool (DeleteFact_ok x y)]) ∧ Instance_own w.heap.size w'.heap.size r0 (DeleteFact_r0 x y) w' ∧ Below w.heap.size w w' :=
  (specDeleteFact_any v u x y w h hw hn h').mono fun _ _ ⟨r, he, ho, hb⟩ => ⟨r, he, ho, hb⟩

end Go.Proofs.Ytchlelkhpahakaa
