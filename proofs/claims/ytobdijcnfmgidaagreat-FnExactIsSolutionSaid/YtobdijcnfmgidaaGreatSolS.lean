/-
  Walks and plain lemmas for the laws of this seat: what single Go functions return, for every argument.
-/
import Derived.Deep.Quiet
import Derived.Test.YtobdijcnfmgidaaGreatPlan
import Derived.Test.YtobdijcnfmgidaaGreatFact
import Derived.Test.YtobdijcnfmgidaaGreatKpM
import Derived.Test.YtobdijcnfmgidaaGreatSatS
import Derived.Test.YtobdijcnfmgidaaGreatRelEq
import Derived.Test.YtobdijcnfmgidaaGreatInstR
namespace Go.Proofs.YtobdijcnfmgidaaGreat
open Go.RowKit

set_option maxHeartbeats 3200000 in
set_option maxRecDepth 100000 in
theorem specSol_any (t v u : Value) (s x : Inst) (l : List Dep) (w : World) (hs : Instance_at w w.heap.size t s) (hsw : Instance_wf s) (hsn : Instance_sz s ≤ 1048576) (hx : Instance_at w w.heap.size v x) (hxw : Instance_wf x) (hxn : Instance_sz x ≤ 1048576) (hd : DependencyS_at w w.heap.size u l) (hdw : DependencyS_wf l) (hn : DependencyS_sz l ≤ 1048576) :
    Calls Tryz.prog 19 #[t, v, u] w fun e w' => e = .returned (.bool (solM s x l)) ∧ Below w.heap.size w w' := by
  have HS := Lib.hid hs
  have HX := Lib.hid hx
  have HD := Lib.hid hd
  obtain ⟨P', c', Q', d1', rfl⟩ := Instance_form hs
  obtain ⟨P, c, Q, d1, rfl⟩ := Instance_form hx
  obtain ⟨A, c0, rfl, hc1, hc2⟩ := hd.form
  unfold maxLen at hc2
  clear hs hx hd
  obtain ⟨E, hEq⟩ : ∃ E, E = (w.alloc (.cells #[.slice P' s.rels.length c', .slice Q' s.facts.length d1'] 27)).alloc (.cells #[.slice P x.rels.length c, .slice Q x.facts.length d1] 27) := ⟨_, rfl⟩
  have hE : Below w.heap.size w E := by rw [hEq]; exact below_more (below_more (Below.refl _ _) _) _
  have hzE : w.heap.size + 1 < E.heap.size := by rw [hEq]; simp
  have hzE0 : w.heap.size < E.heap.size := by omega
  have S0 := Lib.hid (show E.cell? ⟨w.heap.size, 0, none⟩ = some (.slice P' s.rels.length c') by rw [hEq]; simp [go_sem])
  have S1 := Lib.hid (show E.cell? ⟨w.heap.size, 1, none⟩ = some (.slice Q' s.facts.length d1') by rw [hEq]; simp [go_sem])
  have X0 := Lib.hid (show E.cell? ⟨w.heap.size + 1, 0, none⟩ = some (.slice P x.rels.length c) by rw [hEq]; simp [go_sem])
  have X1 := Lib.hid (show E.cell? ⟨w.heap.size + 1, 1, none⟩ = some (.slice Q x.facts.length d1) by rw [hEq]; simp [go_sem])
  have HE := Lib.hid hE
  have HVI := Lib.hid (fun (W : World) (hW : Below w.heap.size w W) => specIsValidInstance_any (.agg #[.slice P' s.rels.length c', .slice Q' s.facts.length d1']) s W ((HS.out.below hW (Nat.le_refl _)).more hW.size) hsw hsn)
  have HSA := Lib.hid (fun (W : World) (hW : Below w.heap.size w W) => specSat_any (.agg #[.slice P x.rels.length c, .slice Q x.facts.length d1]) (.slice A l.length c0) x l W ((HX.out.below hW (Nat.le_refl _)).more hW.size) hxw (by unfold Instance_sz RelationS_sz at hxn; omega) ((HD.out.below hW (Nat.le_refl _)).more hW.size) hdw hn)
  have HRS := Lib.hid (fun (W : World) (hW : Below w.heap.size w W) => specRestrict_any (.agg #[.slice P' s.rels.length c', .slice Q' s.facts.length d1']) s true W ((HS.out.below hW (Nat.le_refl _)).more hW.size) hsw hsn)
  have HRX := Lib.hid (fun (W : World) (hW : Below w.heap.size w W) => specRestrict_any (.agg #[.slice P x.rels.length c, .slice Q x.facts.length d1]) x true W ((HX.out.below hW (Nat.le_refl _)).more hW.size) hxw hxn)
  have HNO := Lib.hid (show instOk s = false → solM s x l = false from fun h => by unfold solM; rw [h]; simp)
  have HNO2 := Lib.hid (show satM x l = false → solM s x l = false from fun h => by unfold solM; rw [h]; rfl)
  have HOK := Lib.hid (show satM x l = true → instOk s = true → solM s x l = eqInst (restrictI x true) (restrictI s true) from fun h h2 => by unfold solM; rw [h, h2]; rfl)
  have G0 := Aft.cell (B := E.heap.size) (w := E) hzE0 S0.out
  have G1 := Aft.cell (B := E.heap.size) (w := E) hzE0 S1.out
  have G2 := Aft.cell (B := E.heap.size) (w := E) hzE X0.out
  have G3 := Aft.cell (B := E.heap.size) (w := E) hzE X1.out
  clear hE
  cases k1 : satM x l with
  | false =>
    have HG := Lib.hid (HNO2.out k1)
    have HSA := Lib.hid (show ∀ W, Below w.heap.size w W → Calls Tryz.prog 13 #[(.agg #[.slice P x.rels.length c, .slice Q x.facts.length d1]), (.slice A l.length c0)] W fun e w' => e = .returned (.bool false) ∧ Below W.heap.size W w' from fun W hW => k1 ▸ HSA.out W hW)
    clear k1
    go_enter Tryz.func19, Tryz.ntmps19
    go_wp2_with fail
    rw [← hEq]
    clear hEq
    have hb := (Below.refl E.heap.size E).drew
    refine wp_region_planL (C := fun w' => ∃ u : Aft E.heap.size E, w' = u.now) (.still 0 (.still 1 (.move true 2 (.still 3 (.still 4 (.move true 5 (.still 6 (.still 7 (.still 8 (.move true 9 (.still 10 (.move true 11 (.move true 12 (.still 13 (.still 14 .done)) .none) .none)) .none)))) .none))) .none))) (by kernel_rfl) (by kernel_rfl) (by kernel_rfl) (fun _ => ⟨⟨E.drew, hb⟩, rfl⟩) ?_
    iterate 2
      refine plan_look _ rfl rfl ?_
      go_big_quiet_step (fail)
      refine wpQuiet_nil ?_
    refine plan_call _ 13 _ _ _ _ _ rfl _ Tryz.func13 (by kernel_rfl) (by kernel_rfl) ?_ True.intro
    refine (HSA.out _ (HE.out.trans (hb.mono HE.out.size))).mono ?_
    rintro _ wn ⟨rfl, hbn⟩
    replace hb := hb.trans (hbn.mono hb.size)
    clear hbn
    refine ⟨_, rfl, fun _ => ⟨⟨_, hb⟩, rfl⟩, ?_⟩
    refine plan_put ?_ (by simp only [Act.put, List.setIfInBounds_toArray, List.set_cons_succ, List.set_cons_zero]; rfl)
    iterate 2
      refine plan_look _ rfl rfl ?_
      go_big_quiet_step (fail)
      refine wpQuiet_nil ?_
    refine plan_off _ rfl rfl rfl ?_ True.intro
    refine plan_put ?_ (by simp only [Act.put, List.setIfInBounds_toArray, List.set_cons_succ, List.set_cons_zero]; rfl)
    iterate 3
      refine plan_look _ rfl rfl ?_
      go_big_quiet_step (fail)
      refine wpQuiet_nil ?_
    refine plan_off _ rfl rfl rfl ?_ True.intro
    refine plan_put ?_ (by simp only [Act.put, List.setIfInBounds_toArray, List.set_cons_succ, List.set_cons_zero]; rfl)
    iterate 1
      refine plan_look _ rfl rfl ?_
      go_big_quiet_step (fail)
      refine wpQuiet_nil ?_
    refine plan_off _ rfl rfl rfl ?_ True.intro
    refine plan_put ?_ (by simp only [Act.put, List.setIfInBounds_toArray, List.set_cons_succ, List.set_cons_zero]; rfl)
    refine plan_off _ rfl rfl rfl ?_ True.intro
    refine plan_put ?_ (by simp only [Act.put, List.setIfInBounds_toArray, List.set_cons_succ, List.set_cons_zero]; rfl)
    iterate 2
      refine plan_look _ rfl rfl ?_
      go_big_quiet_step (fail)
      refine wpQuiet_nil ?_
    refine plan_done ?_
    clear G0 G1 G2 G3
    go_wp2
    go_ret
    exact ⟨ret_bool HG.out.symm, HE.out.trans (hb.mono HE.out.size)⟩
  | true =>
    have HSA := Lib.hid (show ∀ W, Below w.heap.size w W → Calls Tryz.prog 13 #[(.agg #[.slice P x.rels.length c, .slice Q x.facts.length d1]), (.slice A l.length c0)] W fun e w' => e = .returned (.bool true) ∧ Below W.heap.size W w' from fun W hW => k1 ▸ HSA.out W hW)
    cases k2 : instOk s with
    | false =>
      have HG := Lib.hid (HNO.out k2)
      have HVI := Lib.hid (show ∀ W, Below w.heap.size w W → Calls Tryz.prog 14 #[(.agg #[.slice P' s.rels.length c', .slice Q' s.facts.length d1'])] W fun e w' => e = .returned (.bool false) ∧ Below W.heap.size W w' from fun W hW => k2 ▸ HVI.out W hW)
      clear k1 k2
      go_enter Tryz.func19, Tryz.ntmps19
      go_wp2_with fail
      rw [← hEq]
      clear hEq
      have hb := (Below.refl E.heap.size E).drew
      refine wp_region_planL (C := fun w' => ∃ u : Aft E.heap.size E, w' = u.now) (.still 0 (.still 1 (.move true 2 (.still 3 (.still 4 (.move true 5 (.still 6 (.still 7 (.still 8 (.move true 9 (.still 10 (.move true 11 (.move true 12 (.still 13 (.still 14 .done)) .none) .none)) .none)))) .none))) .none))) (by kernel_rfl) (by kernel_rfl) (by kernel_rfl) (fun _ => ⟨⟨E.drew, hb⟩, rfl⟩) ?_
      iterate 2
        refine plan_look _ rfl rfl ?_
        go_big_quiet_step (fail)
        refine wpQuiet_nil ?_
      refine plan_call _ 13 _ _ _ _ _ rfl _ Tryz.func13 (by kernel_rfl) (by kernel_rfl) ?_ True.intro
      refine (HSA.out _ (HE.out.trans (hb.mono HE.out.size))).mono ?_
      rintro _ wn ⟨rfl, hbn⟩
      replace hb := hb.trans (hbn.mono hb.size)
      clear hbn
      refine ⟨_, rfl, fun _ => ⟨⟨_, hb⟩, rfl⟩, ?_⟩
      refine plan_put ?_ (by simp only [Act.put, List.setIfInBounds_toArray, List.set_cons_succ, List.set_cons_zero]; rfl)
      iterate 2
        refine plan_look _ rfl rfl ?_
        go_big_quiet_step (fail)
        refine wpQuiet_nil ?_
      refine plan_callG _ 14 _ _ _ _ _ _ rfl rfl _ Tryz.func14 (by kernel_rfl) (by kernel_rfl) ?_ True.intro
      refine (HVI.out _ (HE.out.trans (hb.mono HE.out.size))).mono ?_
      rintro _ wn ⟨rfl, hbn⟩
      replace hb := hb.trans (hbn.mono hb.size)
      clear hbn
      refine ⟨_, rfl, fun _ => ⟨⟨_, hb⟩, rfl⟩, ?_⟩
      refine plan_put ?_ (by simp only [Act.put, List.setIfInBounds_toArray, List.set_cons_succ, List.set_cons_zero]; rfl)
      iterate 3
        refine plan_look _ rfl rfl ?_
        go_big_quiet_step (fail)
        refine wpQuiet_nil ?_
      refine plan_off _ rfl rfl rfl ?_ True.intro
      refine plan_put ?_ (by simp only [Act.put, List.setIfInBounds_toArray, List.set_cons_succ, List.set_cons_zero]; rfl)
      iterate 1
        refine plan_look _ rfl rfl ?_
        go_big_quiet_step (fail)
        refine wpQuiet_nil ?_
      refine plan_off _ rfl rfl rfl ?_ True.intro
      refine plan_put ?_ (by simp only [Act.put, List.setIfInBounds_toArray, List.set_cons_succ, List.set_cons_zero]; rfl)
      refine plan_off _ rfl rfl rfl ?_ True.intro
      refine plan_put ?_ (by simp only [Act.put, List.setIfInBounds_toArray, List.set_cons_succ, List.set_cons_zero]; rfl)
      iterate 2
        refine plan_look _ rfl rfl ?_
        go_big_quiet_step (fail)
        refine wpQuiet_nil ?_
      refine plan_done ?_
      clear G0 G1 G2 G3
      go_wp2
      go_ret
      exact ⟨ret_bool HG.out.symm, HE.out.trans (hb.mono HE.out.size)⟩
    | true =>
      have HG := Lib.hid (HOK.out k1 k2)
      have HVI := Lib.hid (show ∀ W, Below w.heap.size w W → Calls Tryz.prog 14 #[(.agg #[.slice P' s.rels.length c', .slice Q' s.facts.length d1'])] W fun e w' => e = .returned (.bool true) ∧ Below W.heap.size W w' from fun W hW => k2 ▸ HVI.out W hW)
      clear k1 k2
      go_enter Tryz.func19, Tryz.ntmps19
      go_wp2_with fail
      rw [← hEq]
      clear hEq
      have hb := (Below.refl E.heap.size E).drew
      refine wp_region_planL (C := fun w' => ∃ u : Aft E.heap.size E, w' = u.now) (.still 0 (.still 1 (.move true 2 (.still 3 (.still 4 (.move true 5 (.still 6 (.still 7 (.still 8 (.move true 9 (.still 10 (.move true 11 (.move true 12 (.still 13 (.still 14 .done)) .none) .none)) .none)))) .none))) .none))) (by kernel_rfl) (by kernel_rfl) (by kernel_rfl) (fun _ => ⟨⟨E.drew, hb⟩, rfl⟩) ?_
      iterate 2
        refine plan_look _ rfl rfl ?_
        go_big_quiet_step (fail)
        refine wpQuiet_nil ?_
      refine plan_call _ 13 _ _ _ _ _ rfl _ Tryz.func13 (by kernel_rfl) (by kernel_rfl) ?_ True.intro
      refine (HSA.out _ (HE.out.trans (hb.mono HE.out.size))).mono ?_
      rintro _ wn ⟨rfl, hbn⟩
      replace hb := hb.trans (hbn.mono hb.size)
      clear hbn
      refine ⟨_, rfl, fun _ => ⟨⟨_, hb⟩, rfl⟩, ?_⟩
      refine plan_put ?_ (by simp only [Act.put, List.setIfInBounds_toArray, List.set_cons_succ, List.set_cons_zero]; rfl)
      iterate 2
        refine plan_look _ rfl rfl ?_
        go_big_quiet_step (fail)
        refine wpQuiet_nil ?_
      refine plan_callG _ 14 _ _ _ _ _ _ rfl rfl _ Tryz.func14 (by kernel_rfl) (by kernel_rfl) ?_ True.intro
      refine (HVI.out _ (HE.out.trans (hb.mono HE.out.size))).mono ?_
      rintro _ wn ⟨rfl, hbn⟩
      replace hb := hb.trans (hbn.mono hb.size)
      clear hbn
      refine ⟨_, rfl, fun _ => ⟨⟨_, hb⟩, rfl⟩, ?_⟩
      refine plan_put ?_ (by simp only [Act.put, List.setIfInBounds_toArray, List.set_cons_succ, List.set_cons_zero]; rfl)
      iterate 3
        refine plan_look _ rfl rfl ?_
        go_big_quiet_step (fail)
        refine wpQuiet_nil ?_
      refine plan_callG _ 45 _ _ _ _ _ _ rfl rfl _ Tryz.func45 (by kernel_rfl) (by kernel_rfl) ?_ True.intro
      refine (HRX.out _ (HE.out.trans (hb.mono HE.out.size))).mono ?_
      rintro _ wn ⟨rx, rfl, hO1, hbn⟩
      have H1 := Lib.hid (hO1.at_ (Nat.le_refl _))
      clear hO1
      replace hb := hb.trans (hbn.mono hb.size)
      clear hbn
      refine ⟨_, rfl, fun _ => ⟨⟨_, hb⟩, rfl⟩, ?_⟩
      refine plan_put ?_ (by simp only [Act.put, List.setIfInBounds_toArray, List.set_cons_succ, List.set_cons_zero]; rfl)
      iterate 1
        refine plan_look _ rfl rfl ?_
        go_big_quiet_step (fail)
        refine wpQuiet_nil ?_
      refine plan_callG _ 45 _ _ _ _ _ _ rfl rfl _ Tryz.func45 (by kernel_rfl) (by kernel_rfl) ?_ True.intro
      refine (HRS.out _ (HE.out.trans (hb.mono HE.out.size))).mono ?_
      rintro _ wn ⟨rs, rfl, hO2, hbn⟩
      have H2 := Lib.hid (hO2.at_ (Nat.le_refl _))
      have H1 := Lib.hid (H1.out.later hbn)
      clear hO2
      replace hb := hb.trans (hbn.mono hb.size)
      clear hbn
      refine ⟨_, rfl, fun _ => ⟨⟨_, hb⟩, rfl⟩, ?_⟩
      refine plan_put ?_ (by simp only [Act.put, List.setIfInBounds_toArray, List.set_cons_succ, List.set_cons_zero]; rfl)
      refine plan_callG _ 50 _ _ _ _ _ _ rfl rfl _ Tryz.func50 (by kernel_rfl) (by kernel_rfl) ?_ True.intro
      refine (specEqualInstances_any rx rs _ _ _ H1.out H2.out).mono ?_
      rintro _ wn ⟨rfl, hbn⟩
      replace hb := hb.trans (hbn.mono hb.size)
      clear hbn
      refine ⟨_, rfl, fun _ => ⟨⟨_, hb⟩, rfl⟩, ?_⟩
      refine plan_put ?_ (by simp only [Act.put, List.setIfInBounds_toArray, List.set_cons_succ, List.set_cons_zero]; rfl)
      iterate 2
        refine plan_look _ rfl rfl ?_
        go_big_quiet_step (fail)
        refine wpQuiet_nil ?_
      refine plan_done ?_
      clear G0 G1 G2 G3
      go_wp2
      go_ret
      exact ⟨ret_bool HG.out.symm, HE.out.trans (hb.mono HE.out.size)⟩
theorem specIsSolution_c (t : Value) (s : Inst) (v : Value) (x : Inst) (u : Value) (l : List Dep) (w : World) (hs : Instance_at w w.heap.size t s) (hsw : Instance_wf s) (hsn : Instance_sz s ≤ 1048576) (hx : Instance_at w w.heap.size v x) (hxw : Instance_wf x) (hxn : Instance_sz x ≤ 1048576) (hd : DependencyS_at w w.heap.size u l) (hdw : DependencyS_wf l) (hn : DependencyS_sz l ≤ 1048576) :
    Calls Tryz.prog 19 #[t, v, u] w fun e w' => e = .returned (.bool (solM s x l)) ∧ Below w.heap.size w w' := specSol_any t v u s x l w hs hsw hsn hx hxw hxn hd hdw hn

end Go.Proofs.YtobdijcnfmgidaaGreat
