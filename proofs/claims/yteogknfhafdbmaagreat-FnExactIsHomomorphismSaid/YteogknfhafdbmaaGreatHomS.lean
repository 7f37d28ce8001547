/-
  Walks and plain lemmas for the laws of this seat: what single Go functions return, for every argument.
-/
import Derived.Deep.Quiet
import Derived.Test.YteogknfhafdbmaaGreatPlan
import Derived.Test.YteogknfhafdbmaaGreatAft
import Derived.Test.YteogknfhafdbmaaGreatTyInst
import Derived.Test.YteogknfhafdbmaaGreatMHom
import Derived.Test.YteogknfhafdbmaaGreatFactV
import Derived.Test.YteogknfhafdbmaaGreatInstV
import Derived.Test.YteogknfhafdbmaaGreatSubsV
import Derived.Test.YteogknfhafdbmaaGreatInstN
import Derived.Test.YteogknfhafdbmaaGreatInstP
import Derived.Test.YteogknfhafdbmaaGreatSubsF
namespace Go.Proofs.YteogknfhafdbmaaGreat
open Go.RowKit

theorem RelationS_at.later {w w' : World} {v : Value} {l : List Rel} (h : RelationS_at w w.heap.size v l) (hb : Below w.heap.size w w') : RelationS_at w' w'.heap.size v l := (h.below hb (Nat.le_refl _)).more hb.size
theorem specL5Place_at3 (v u : Value) (x : Inst) (y : Fct) (q : Int) (hq : placeF y x.facts = q) (w : World) (h : Instance_at w w.heap.size v x) (h' : Fact_at w w.heap.size u y) :
    Calls Tryz.prog 20 #[v, u] w fun e w' => e = .returned (.int .i64 q) ∧ Below w.heap.size w w' := by
  subst hq; exact specL5Place_any v u x y w h h'
theorem specL5Sigs_at3 (l m : List Rel) (q : Bool) (hq : decide (l = m) = q) (v u : Value) (w : World) (hl : RelsAt w w.heap.size v l) (hm : RelsAt w w.heap.size u m) :
    Calls Tryz.prog 17 #[v, u] w fun e w' => e = .returned (.bool q) ∧ Below w.heap.size w w' := by
  subst hq; exact specL5Sigs_any v u l m w hl hm
theorem specInts_at3 (a b : List Int) (q : Int) (hq : cmpInts a b = q) (v u : Value) (w : World) (hl : IntsAt w w.heap.size v a) (hm : IntsAt w w.heap.size u b) :
    Calls Tryz.prog 18 #[v, u] w fun e w' => e = .returned (.int .i64 q) ∧ Below w.heap.size w w' := by
  subst hq; exact specInts_any v u a b w hl hm
set_option maxHeartbeats 6400000 in
set_option maxRecDepth 100000 in
theorem specIsHom_any (v u t : Value) (x y : Inst) (s : Sbst) (w : World) (h : Instance_at w w.heap.size v x) (hw : Instance_wf x) (hn : Instance_sz x ≤ 1048576) (h' : Instance_at w w.heap.size u y) (hw' : Instance_wf y) (hn' : Instance_sz y ≤ 1048576) (hs : Substitution_at w w.heap.size t s) (hsw : Substitution_wf s) (_ : Substitution_sz s ≤ 1048576) :
    Calls Tryz.prog 6 #[v, u, t] w fun e w' => e = .returned (.bool (isHom x y s)) ∧ Below w.heap.size w w' := by
  obtain ⟨P, c, Q, d, rfl⟩ := Instance_form h
  obtain ⟨P', c', Q', d', rfl⟩ := Instance_form h'
  obtain ⟨R, k, S, m, rfl⟩ := Substitution_form hs
  have HX := Lib.hid h
  have HY := Lib.hid h'
  have HS := Lib.hid hs
  obtain ⟨V1, V2, hv, hR, hF⟩ := h
  obtain ⟨U1, U2, hu, hR', -⟩ := h'
  obtain ⟨T1, T2, ht, hN, -⟩ := hs
  simp only [Value.agg.injEq, Array.mk.injEq, List.cons.injEq, and_true] at hv hu ht
  obtain ⟨rfl, rfl⟩ := hv
  obtain ⟨rfl, rfl⟩ := hu
  obtain ⟨rfl, rfl⟩ := ht
  obtain ⟨_, _, hv2, hd1, hd2⟩ := hF.form
  injection hv2 with e1 _ e2
  subst e1 e2
  unfold maxLen at hd2
  have HR := Lib.hid hR
  have HR' := Lib.hid hR'
  have HN := Lib.hid hN
  have HF := Lib.hid hF
  clear hR hR' hN hF
  obtain ⟨E, hEq⟩ : ∃ E, E = ((w.alloc (.cells #[.slice P x.rels.length c, .slice Q x.facts.length d] 35)).alloc (.cells #[.slice P' y.rels.length c', .slice Q' y.facts.length d'] 35)).alloc (.cells #[.slice R s.nulls.length k, .slice S s.vals.length m] 37) := ⟨_, rfl⟩
  have hE : Below w.heap.size w E := by rw [hEq]; exact below_more (below_more (below_more (Below.refl _ _) _) _) _
  have HE := Lib.hid hE
  have HEz := Lib.hid (show w.heap.size + 3 = E.heap.size by rw [hEq]; simp)
  have X0 := Lib.hid (show E.cell? ⟨w.heap.size, 0, none⟩ = some (.slice P x.rels.length c) by rw [hEq]; simp [go_sem])
  have X1 := Lib.hid (show E.cell? ⟨w.heap.size, 1, none⟩ = some (.slice Q x.facts.length d) by rw [hEq]; simp [go_sem])
  have Y0 := Lib.hid (show E.cell? ⟨w.heap.size + 1, 0, none⟩ = some (.slice P' y.rels.length c') by rw [hEq]; simp [go_sem])
  have Y1 := Lib.hid (show E.cell? ⟨w.heap.size + 1, 1, none⟩ = some (.slice Q' y.facts.length d') by rw [hEq]; simp [go_sem])
  have S0 := Lib.hid (show E.cell? ⟨w.heap.size + 1 + 1, 0, none⟩ = some (.slice R s.nulls.length k) by rw [hEq]; simp [go_sem])
  have S1 := Lib.hid (show E.cell? ⟨w.heap.size + 1 + 1, 1, none⟩ = some (.slice S s.vals.length m) by rw [hEq]; simp [go_sem])
  have G0 := Aft.cell (B := E.heap.size) (w := E) (show w.heap.size < _ by have := HEz.out; omega) X0.out
  have G1 := Aft.cell (B := E.heap.size) (w := E) (show w.heap.size < _ by have := HEz.out; omega) X1.out
  have G2 := Aft.cell (B := E.heap.size) (w := E) (show w.heap.size + 1 < _ by have := HEz.out; omega) Y0.out
  have G3 := Aft.cell (B := E.heap.size) (w := E) (show w.heap.size + 1 < _ by have := HEz.out; omega) Y1.out
  have G4 := Aft.cell (B := E.heap.size) (w := E) (show w.heap.size + 1 + 1 < _ by have := HEz.out; omega) S0.out
  have G5 := Aft.cell (B := E.heap.size) (w := E) (show w.heap.size + 1 + 1 < _ by have := HEz.out; omega) S1.out
  cases hx : instOk x with
  | false =>
    have HV := Lib.hid (show isHom x y s = false from isHom_not1 (sameRels_not1 hx))
    have hcx := fun (u : Aft E.heap.size E) => specIsValidInstance_at x false hx _ u.now (HX.out.later (HE.out.trans (u.is.mono HE.out.size))) hw hn
    clear hx
    go_enter Tryz.func6, Tryz.ntmps6
    go_wp2_with fail
    rw [← hEq]
    clear hEq
    have hb := Below.refl E.heap.size E
    replace hb := hb.drew
    refine wp_region_planL (C := fun w' => ∃ u : Aft E.heap.size E, w' = u.now) (.still 0 (.move true 1 (.still 2 (.still 3 (.still 4 (.move true 5 (.still 6 (.still 7 (.still 8 (.still 9 (.move true 10 (.still 11 (.still 12 (.still 13 (.still 14 (.still 15 (.still 16 (.still 17 (.move true 18 (.still 19 (.still 20 (.still 21 (.still 22 (.still 23 (.still 24 (.move true 25 (.move true 26 (.still 27 (.still 28 .done)) .none) .none))))))) .none)))))))) .none))))) .none)))) .none)) (by kernel_rfl) (by kernel_rfl) (by kernel_rfl) (fun _ => ⟨⟨E.drew, hb⟩, rfl⟩) ?_
    iterate 1
      refine plan_look _ rfl rfl ?_
      go_big_quiet_step (fail)
      refine wpQuiet_nil ?_
    refine plan_call _ 15 _ _ _ _ _ rfl _ Tryz.func15 (by kernel_rfl) (by kernel_rfl) ?_ True.intro
    refine (hcx ⟨_, hb⟩).mono ?_
    rintro _ wn ⟨rfl, hbn⟩
    replace hb := hb.trans (hbn.mono hb.size)
    clear hbn
    refine ⟨_, rfl, fun _ => ⟨⟨_, hb⟩, rfl⟩, ?_⟩
    refine plan_put ?_ (by simp only [Act.put, List.setIfInBounds_toArray, List.set_cons_succ, List.set_cons_zero]; rfl)
    iterate 3
      refine plan_look _ rfl rfl ?_
      go_big_quiet_step (fail)
      refine wpQuiet_nil ?_
    refine plan_off _ rfl rfl rfl ?_ True.intro
    refine plan_put ?_ (by simp only [Act.put, List.setIfInBounds_toArray, List.set_cons_succ, List.set_cons_zero]; rfl)
    iterate 4
      refine plan_look _ rfl rfl ?_
      go_big_quiet_step (fail)
      refine wpQuiet_nil ?_
    refine plan_off _ rfl rfl rfl ?_ True.intro
    refine plan_put ?_ (by simp only [Act.put, List.setIfInBounds_toArray, List.set_cons_succ, List.set_cons_zero]; rfl)
    iterate 7
      refine plan_look _ rfl rfl ?_
      go_big_quiet_step (fail)
      refine wpQuiet_nil ?_
    refine plan_off _ rfl rfl rfl ?_ True.intro
    refine plan_put ?_ (by simp only [Act.put, List.setIfInBounds_toArray, List.set_cons_succ, List.set_cons_zero]; rfl)
    iterate 6
      refine plan_look _ rfl rfl ?_
      go_big_quiet_step (fail)
      refine wpQuiet_nil ?_
    refine plan_off _ rfl rfl rfl ?_ True.intro
    refine plan_put ?_ (by simp only [Act.put, List.setIfInBounds_toArray, List.set_cons_succ, List.set_cons_zero]; rfl)
    refine plan_off _ rfl rfl rfl ?_ True.intro
    refine plan_put ?_ (by simp only [Act.put, List.setIfInBounds_toArray, List.set_cons_succ, List.set_cons_zero]; rfl)
    iterate 2
      refine plan_look _ rfl rfl ?_
      go_big_quiet_step (fail)
      refine wpQuiet_nil ?_
    refine plan_done ?_
    go_wp2
    go_ret
    exact ⟨ret_bool HV.out.symm, HE.out.trans (hb.mono HE.out.size)⟩
  | true =>
    cases hy : instOk y with
    | false =>
      have HV := Lib.hid (show isHom x y s = false from isHom_not1 (sameRels_not2 hy))
      have hcx := fun (u : Aft E.heap.size E) => specIsValidInstance_at x true hx _ u.now (HX.out.later (HE.out.trans (u.is.mono HE.out.size))) hw hn
      have hcy := fun (u : Aft E.heap.size E) => specIsValidInstance_at y false hy _ u.now (HY.out.later (HE.out.trans (u.is.mono HE.out.size))) hw' hn'
      clear hx hy
      go_enter Tryz.func6, Tryz.ntmps6
      go_wp2_with fail
      rw [← hEq]
      clear hEq
      have hb := Below.refl E.heap.size E
      replace hb := hb.drew
      refine wp_region_planL (C := fun w' => ∃ u : Aft E.heap.size E, w' = u.now) (.still 0 (.move true 1 (.still 2 (.still 3 (.still 4 (.move true 5 (.still 6 (.still 7 (.still 8 (.still 9 (.move true 10 (.still 11 (.still 12 (.still 13 (.still 14 (.still 15 (.still 16 (.still 17 (.move true 18 (.still 19 (.still 20 (.still 21 (.still 22 (.still 23 (.still 24 (.move true 25 (.move true 26 (.still 27 (.still 28 .done)) .none) .none))))))) .none)))))))) .none))))) .none)))) .none)) (by kernel_rfl) (by kernel_rfl) (by kernel_rfl) (fun _ => ⟨⟨E.drew, hb⟩, rfl⟩) ?_
      iterate 1
        refine plan_look _ rfl rfl ?_
        go_big_quiet_step (fail)
        refine wpQuiet_nil ?_
      refine plan_call _ 15 _ _ _ _ _ rfl _ Tryz.func15 (by kernel_rfl) (by kernel_rfl) ?_ True.intro
      refine (hcx ⟨_, hb⟩).mono ?_
      rintro _ wn ⟨rfl, hbn⟩
      replace hb := hb.trans (hbn.mono hb.size)
      clear hbn
      refine ⟨_, rfl, fun _ => ⟨⟨_, hb⟩, rfl⟩, ?_⟩
      refine plan_put ?_ (by simp only [Act.put, List.setIfInBounds_toArray, List.set_cons_succ, List.set_cons_zero]; rfl)
      iterate 3
        refine plan_look _ rfl rfl ?_
        go_big_quiet_step (fail)
        refine wpQuiet_nil ?_
      refine plan_callG _ 15 _ _ _ _ _ _ rfl rfl _ Tryz.func15 (by kernel_rfl) (by kernel_rfl) ?_ True.intro
      refine (hcy ⟨_, hb⟩).mono ?_
      rintro _ wn ⟨rfl, hbn⟩
      replace hb := hb.trans (hbn.mono hb.size)
      clear hbn
      refine ⟨_, rfl, fun _ => ⟨⟨_, hb⟩, rfl⟩, ?_⟩
      refine plan_put ?_ (by simp only [Act.put, List.setIfInBounds_toArray, List.set_cons_succ, List.set_cons_zero]; rfl)
      iterate 4
        refine plan_look _ rfl rfl ?_
        go_big_quiet_step (fail)
        refine wpQuiet_nil ?_
      refine plan_off _ rfl rfl rfl ?_ True.intro
      refine plan_put ?_ (by simp only [Act.put, List.setIfInBounds_toArray, List.set_cons_succ, List.set_cons_zero]; rfl)
      iterate 7
        refine plan_look _ rfl rfl ?_
        go_big_quiet_step (fail)
        refine wpQuiet_nil ?_
      refine plan_off _ rfl rfl rfl ?_ True.intro
      refine plan_put ?_ (by simp only [Act.put, List.setIfInBounds_toArray, List.set_cons_succ, List.set_cons_zero]; rfl)
      iterate 6
        refine plan_look _ rfl rfl ?_
        go_big_quiet_step (fail)
        refine wpQuiet_nil ?_
      refine plan_off _ rfl rfl rfl ?_ True.intro
      refine plan_put ?_ (by simp only [Act.put, List.setIfInBounds_toArray, List.set_cons_succ, List.set_cons_zero]; rfl)
      refine plan_off _ rfl rfl rfl ?_ True.intro
      refine plan_put ?_ (by simp only [Act.put, List.setIfInBounds_toArray, List.set_cons_succ, List.set_cons_zero]; rfl)
      iterate 2
        refine plan_look _ rfl rfl ?_
        go_big_quiet_step (fail)
        refine wpQuiet_nil ?_
      refine plan_done ?_
      go_wp2
      go_ret
      exact ⟨ret_bool HV.out.symm, HE.out.trans (hb.mono HE.out.size)⟩
    | true =>
      cases ho : subOk s with
      | false =>
        have HV := Lib.hid (show isHom x y s = false from isHom_not3 ho)
        have hcx := fun (u : Aft E.heap.size E) => specIsValidInstance_at x true hx _ u.now (HX.out.later (HE.out.trans (u.is.mono HE.out.size))) hw hn
        have hcy := fun (u : Aft E.heap.size E) => specIsValidInstance_at y true hy _ u.now (HY.out.later (HE.out.trans (u.is.mono HE.out.size))) hw' hn'
        have hcs := fun (u : Aft E.heap.size E) => specIsValidSub_at s false ho _ u.now (HS.out.later (HE.out.trans (u.is.mono HE.out.size))) hsw
        clear hx hy ho
        go_enter Tryz.func6, Tryz.ntmps6
        go_wp2_with fail
        rw [← hEq]
        clear hEq
        have hb := Below.refl E.heap.size E
        replace hb := hb.drew
        refine wp_region_planL (C := fun w' => ∃ u : Aft E.heap.size E, w' = u.now) (.still 0 (.move true 1 (.still 2 (.still 3 (.still 4 (.move true 5 (.still 6 (.still 7 (.still 8 (.still 9 (.move true 10 (.still 11 (.still 12 (.still 13 (.still 14 (.still 15 (.still 16 (.still 17 (.move true 18 (.still 19 (.still 20 (.still 21 (.still 22 (.still 23 (.still 24 (.move true 25 (.move true 26 (.still 27 (.still 28 .done)) .none) .none))))))) .none)))))))) .none))))) .none)))) .none)) (by kernel_rfl) (by kernel_rfl) (by kernel_rfl) (fun _ => ⟨⟨E.drew, hb⟩, rfl⟩) ?_
        iterate 1
          refine plan_look _ rfl rfl ?_
          go_big_quiet_step (fail)
          refine wpQuiet_nil ?_
        refine plan_call _ 15 _ _ _ _ _ rfl _ Tryz.func15 (by kernel_rfl) (by kernel_rfl) ?_ True.intro
        refine (hcx ⟨_, hb⟩).mono ?_
        rintro _ wn ⟨rfl, hbn⟩
        replace hb := hb.trans (hbn.mono hb.size)
        clear hbn
        refine ⟨_, rfl, fun _ => ⟨⟨_, hb⟩, rfl⟩, ?_⟩
        refine plan_put ?_ (by simp only [Act.put, List.setIfInBounds_toArray, List.set_cons_succ, List.set_cons_zero]; rfl)
        iterate 3
          refine plan_look _ rfl rfl ?_
          go_big_quiet_step (fail)
          refine wpQuiet_nil ?_
        refine plan_callG _ 15 _ _ _ _ _ _ rfl rfl _ Tryz.func15 (by kernel_rfl) (by kernel_rfl) ?_ True.intro
        refine (hcy ⟨_, hb⟩).mono ?_
        rintro _ wn ⟨rfl, hbn⟩
        replace hb := hb.trans (hbn.mono hb.size)
        clear hbn
        refine ⟨_, rfl, fun _ => ⟨⟨_, hb⟩, rfl⟩, ?_⟩
        refine plan_put ?_ (by simp only [Act.put, List.setIfInBounds_toArray, List.set_cons_succ, List.set_cons_zero]; rfl)
        iterate 4
          refine plan_look _ rfl rfl ?_
          go_big_quiet_step (fail)
          refine wpQuiet_nil ?_
        refine plan_callG _ 16 _ _ _ _ _ _ rfl rfl _ Tryz.func16 (by kernel_rfl) (by kernel_rfl) ?_ True.intro
        refine (hcs ⟨_, hb⟩).mono ?_
        rintro _ wn ⟨rfl, hbn⟩
        replace hb := hb.trans (hbn.mono hb.size)
        clear hbn
        refine ⟨_, rfl, fun _ => ⟨⟨_, hb⟩, rfl⟩, ?_⟩
        refine plan_put ?_ (by simp only [Act.put, List.setIfInBounds_toArray, List.set_cons_succ, List.set_cons_zero]; rfl)
        iterate 7
          refine plan_look _ rfl rfl ?_
          go_big_quiet_step (fail)
          refine wpQuiet_nil ?_
        refine plan_off _ rfl rfl rfl ?_ True.intro
        refine plan_put ?_ (by simp only [Act.put, List.setIfInBounds_toArray, List.set_cons_succ, List.set_cons_zero]; rfl)
        iterate 6
          refine plan_look _ rfl rfl ?_
          go_big_quiet_step (fail)
          refine wpQuiet_nil ?_
        refine plan_off _ rfl rfl rfl ?_ True.intro
        refine plan_put ?_ (by simp only [Act.put, List.setIfInBounds_toArray, List.set_cons_succ, List.set_cons_zero]; rfl)
        refine plan_off _ rfl rfl rfl ?_ True.intro
        refine plan_put ?_ (by simp only [Act.put, List.setIfInBounds_toArray, List.set_cons_succ, List.set_cons_zero]; rfl)
        iterate 2
          refine plan_look _ rfl rfl ?_
          go_big_quiet_step (fail)
          refine wpQuiet_nil ?_
        refine plan_done ?_
        go_wp2
        go_ret
        exact ⟨ret_bool HV.out.symm, HE.out.trans (hb.mono HE.out.size)⟩
      | true =>
        cases hr : decide (x.rels = y.rels) with
        | false =>
          have HV := Lib.hid (show isHom x y s = false from isHom_not1 (sameRels_not3 hr))
          have hcx := fun (u : Aft E.heap.size E) => specIsValidInstance_at x true hx _ u.now (HX.out.later (HE.out.trans (u.is.mono HE.out.size))) hw hn
          have hcy := fun (u : Aft E.heap.size E) => specIsValidInstance_at y true hy _ u.now (HY.out.later (HE.out.trans (u.is.mono HE.out.size))) hw' hn'
          have hcs := fun (u : Aft E.heap.size E) => specIsValidSub_at s true ho _ u.now (HS.out.later (HE.out.trans (u.is.mono HE.out.size))) hsw
          have hcr := fun (u : Aft E.heap.size E) => specL5Sigs_at3 x.rels y.rels false hr _ _ u.now (RelationS_at.later HR.out (HE.out.trans (u.is.mono HE.out.size))) (RelationS_at.later HR'.out (HE.out.trans (u.is.mono HE.out.size)))
          clear hx hy ho hr
          go_enter Tryz.func6, Tryz.ntmps6
          go_wp2_with fail
          rw [← hEq]
          clear hEq
          have hb := Below.refl E.heap.size E
          replace hb := hb.drew
          refine wp_region_planL (C := fun w' => ∃ u : Aft E.heap.size E, w' = u.now) (.still 0 (.move true 1 (.still 2 (.still 3 (.still 4 (.move true 5 (.still 6 (.still 7 (.still 8 (.still 9 (.move true 10 (.still 11 (.still 12 (.still 13 (.still 14 (.still 15 (.still 16 (.still 17 (.move true 18 (.still 19 (.still 20 (.still 21 (.still 22 (.still 23 (.still 24 (.move true 25 (.move true 26 (.still 27 (.still 28 .done)) .none) .none))))))) .none)))))))) .none))))) .none)))) .none)) (by kernel_rfl) (by kernel_rfl) (by kernel_rfl) (fun _ => ⟨⟨E.drew, hb⟩, rfl⟩) ?_
          iterate 1
            refine plan_look _ rfl rfl ?_
            go_big_quiet_step (fail)
            refine wpQuiet_nil ?_
          refine plan_call _ 15 _ _ _ _ _ rfl _ Tryz.func15 (by kernel_rfl) (by kernel_rfl) ?_ True.intro
          refine (hcx ⟨_, hb⟩).mono ?_
          rintro _ wn ⟨rfl, hbn⟩
          replace hb := hb.trans (hbn.mono hb.size)
          clear hbn
          refine ⟨_, rfl, fun _ => ⟨⟨_, hb⟩, rfl⟩, ?_⟩
          refine plan_put ?_ (by simp only [Act.put, List.setIfInBounds_toArray, List.set_cons_succ, List.set_cons_zero]; rfl)
          iterate 3
            refine plan_look _ rfl rfl ?_
            go_big_quiet_step (fail)
            refine wpQuiet_nil ?_
          refine plan_callG _ 15 _ _ _ _ _ _ rfl rfl _ Tryz.func15 (by kernel_rfl) (by kernel_rfl) ?_ True.intro
          refine (hcy ⟨_, hb⟩).mono ?_
          rintro _ wn ⟨rfl, hbn⟩
          replace hb := hb.trans (hbn.mono hb.size)
          clear hbn
          refine ⟨_, rfl, fun _ => ⟨⟨_, hb⟩, rfl⟩, ?_⟩
          refine plan_put ?_ (by simp only [Act.put, List.setIfInBounds_toArray, List.set_cons_succ, List.set_cons_zero]; rfl)
          iterate 4
            refine plan_look _ rfl rfl ?_
            go_big_quiet_step (fail)
            refine wpQuiet_nil ?_
          refine plan_callG _ 16 _ _ _ _ _ _ rfl rfl _ Tryz.func16 (by kernel_rfl) (by kernel_rfl) ?_ True.intro
          refine (hcs ⟨_, hb⟩).mono ?_
          rintro _ wn ⟨rfl, hbn⟩
          replace hb := hb.trans (hbn.mono hb.size)
          clear hbn
          refine ⟨_, rfl, fun _ => ⟨⟨_, hb⟩, rfl⟩, ?_⟩
          refine plan_put ?_ (by simp only [Act.put, List.setIfInBounds_toArray, List.set_cons_succ, List.set_cons_zero]; rfl)
          iterate 7
            refine plan_look _ rfl rfl ?_
            go_big_quiet_step (fail)
            refine wpQuiet_nil ?_
          refine plan_callG _ 17 _ _ _ _ _ _ rfl rfl _ Tryz.func17 (by kernel_rfl) (by kernel_rfl) ?_ True.intro
          refine (hcr ⟨_, hb⟩).mono ?_
          rintro _ wn ⟨rfl, hbn⟩
          replace hb := hb.trans (hbn.mono hb.size)
          clear hbn
          refine ⟨_, rfl, fun _ => ⟨⟨_, hb⟩, rfl⟩, ?_⟩
          refine plan_put ?_ (by simp only [Act.put, List.setIfInBounds_toArray, List.set_cons_succ, List.set_cons_zero]; rfl)
          iterate 6
            refine plan_look _ rfl rfl ?_
            go_big_quiet_step (fail)
            refine wpQuiet_nil ?_
          refine plan_off _ rfl rfl rfl ?_ True.intro
          refine plan_put ?_ (by simp only [Act.put, List.setIfInBounds_toArray, List.set_cons_succ, List.set_cons_zero]; rfl)
          refine plan_off _ rfl rfl rfl ?_ True.intro
          refine plan_put ?_ (by simp only [Act.put, List.setIfInBounds_toArray, List.set_cons_succ, List.set_cons_zero]; rfl)
          iterate 2
            refine plan_look _ rfl rfl ?_
            go_big_quiet_step (fail)
            refine wpQuiet_nil ?_
          refine plan_done ?_
          go_wp2
          go_ret
          exact ⟨ret_bool HV.out.symm, HE.out.trans (hb.mono HE.out.size)⟩
        | true =>
          have hsr := sameRels_yes hx hy hr
          obtain ⟨q, hq⟩ : ∃ q, cmpInts s.nulls (nullsI x.facts) = q := ⟨_, rfl⟩
          have hcx := fun (u : Aft E.heap.size E) => specIsValidInstance_at x true hx _ u.now (HX.out.later (HE.out.trans (u.is.mono HE.out.size))) hw hn
          have hcy := fun (u : Aft E.heap.size E) => specIsValidInstance_at y true hy _ u.now (HY.out.later (HE.out.trans (u.is.mono HE.out.size))) hw' hn'
          have hcs := fun (u : Aft E.heap.size E) => specIsValidSub_at s true ho _ u.now (HS.out.later (HE.out.trans (u.is.mono HE.out.size))) hsw
          have hcr := fun (u : Aft E.heap.size E) => specL5Sigs_at3 x.rels y.rels true hr _ _ u.now (RelationS_at.later HR.out (HE.out.trans (u.is.mono HE.out.size))) (RelationS_at.later HR'.out (HE.out.trans (u.is.mono HE.out.size)))
          have hcn := fun (u : Aft E.heap.size E) => specNullsOfInstance_c _ x u.now (HX.out.later (HE.out.trans (u.is.mono HE.out.size))) hw hn
          have hcq := fun (u : Aft E.heap.size E) (z : Value) (hz : IntS_at u.now u.now.heap.size z (NullsOfInstance_r0 x)) => specInts_at3 s.nulls (nullsI x.facts) q hq _ z u.now (IntS_at.later HN.out (HE.out.trans (u.is.mono HE.out.size))) hz
          by_cases hq0 : q = 0
          · have hne : (q != 0) = false := by rw [hq0]; rfl
            have HV := Lib.hid (isHom_yes hsr (decide_eq_true ((cmpInts_zero _ _).1 (hq.trans hq0))) ho)
            clear hx hy ho hr hq hsr hq0
            go_enter Tryz.func6, Tryz.ntmps6
            go_wp2_with fail
            rw [← hEq]
            clear hEq
            have hb := Below.refl E.heap.size E
            replace hb := hb.drew
            refine wp_region_planL (C := fun w' => ∃ u : Aft E.heap.size E, w' = u.now) (.still 0 (.move true 1 (.still 2 (.still 3 (.still 4 (.move true 5 (.still 6 (.still 7 (.still 8 (.still 9 (.move true 10 (.still 11 (.still 12 (.still 13 (.still 14 (.still 15 (.still 16 (.still 17 (.move true 18 (.still 19 (.still 20 (.still 21 (.still 22 (.still 23 (.still 24 (.move true 25 (.move true 26 (.still 27 (.still 28 .done)) .none) .none))))))) .none)))))))) .none))))) .none)))) .none)) (by kernel_rfl) (by kernel_rfl) (by kernel_rfl) (fun _ => ⟨⟨E.drew, hb⟩, rfl⟩) ?_
            iterate 1
              refine plan_look _ rfl rfl ?_
              go_big_quiet_step (fail)
              refine wpQuiet_nil ?_
            refine plan_call _ 15 _ _ _ _ _ rfl _ Tryz.func15 (by kernel_rfl) (by kernel_rfl) ?_ True.intro
            refine (hcx ⟨_, hb⟩).mono ?_
            rintro _ wn ⟨rfl, hbn⟩
            replace hb := hb.trans (hbn.mono hb.size)
            clear hbn
            refine ⟨_, rfl, fun _ => ⟨⟨_, hb⟩, rfl⟩, ?_⟩
            refine plan_put ?_ (by simp only [Act.put, List.setIfInBounds_toArray, List.set_cons_succ, List.set_cons_zero]; rfl)
            iterate 3
              refine plan_look _ rfl rfl ?_
              go_big_quiet_step (fail)
              refine wpQuiet_nil ?_
            refine plan_callG _ 15 _ _ _ _ _ _ rfl rfl _ Tryz.func15 (by kernel_rfl) (by kernel_rfl) ?_ True.intro
            refine (hcy ⟨_, hb⟩).mono ?_
            rintro _ wn ⟨rfl, hbn⟩
            replace hb := hb.trans (hbn.mono hb.size)
            clear hbn
            refine ⟨_, rfl, fun _ => ⟨⟨_, hb⟩, rfl⟩, ?_⟩
            refine plan_put ?_ (by simp only [Act.put, List.setIfInBounds_toArray, List.set_cons_succ, List.set_cons_zero]; rfl)
            iterate 4
              refine plan_look _ rfl rfl ?_
              go_big_quiet_step (fail)
              refine wpQuiet_nil ?_
            refine plan_callG _ 16 _ _ _ _ _ _ rfl rfl _ Tryz.func16 (by kernel_rfl) (by kernel_rfl) ?_ True.intro
            refine (hcs ⟨_, hb⟩).mono ?_
            rintro _ wn ⟨rfl, hbn⟩
            replace hb := hb.trans (hbn.mono hb.size)
            clear hbn
            refine ⟨_, rfl, fun _ => ⟨⟨_, hb⟩, rfl⟩, ?_⟩
            refine plan_put ?_ (by simp only [Act.put, List.setIfInBounds_toArray, List.set_cons_succ, List.set_cons_zero]; rfl)
            iterate 7
              refine plan_look _ rfl rfl ?_
              go_big_quiet_step (fail)
              refine wpQuiet_nil ?_
            refine plan_callG _ 17 _ _ _ _ _ _ rfl rfl _ Tryz.func17 (by kernel_rfl) (by kernel_rfl) ?_ True.intro
            refine (hcr ⟨_, hb⟩).mono ?_
            rintro _ wn ⟨rfl, hbn⟩
            replace hb := hb.trans (hbn.mono hb.size)
            clear hbn
            refine ⟨_, rfl, fun _ => ⟨⟨_, hb⟩, rfl⟩, ?_⟩
            refine plan_put ?_ (by simp only [Act.put, List.setIfInBounds_toArray, List.set_cons_succ, List.set_cons_zero]; rfl)
            iterate 6
              refine plan_look _ rfl rfl ?_
              go_big_quiet_step (fail)
              refine wpQuiet_nil ?_
            refine plan_callG _ 19 _ _ _ _ _ _ rfl rfl _ Tryz.func19 (by kernel_rfl) (by kernel_rfl) ?_ True.intro
            refine (hcn ⟨_, hb⟩).mono ?_
            rintro _ wn ⟨un, rfl, hOn, hbn⟩
            obtain ⟨Pn, cn, rfl, -⟩ := id hOn
            replace hb := hb.trans (hbn.mono hb.size)
            clear hbn
            refine ⟨_, rfl, fun _ => ⟨⟨_, hb⟩, rfl⟩, ?_⟩
            refine plan_put ?_ (by simp only [Act.put, List.setIfInBounds_toArray, List.set_cons_succ, List.set_cons_zero]; rfl)
            refine plan_callG _ 18 _ _ _ _ _ _ rfl rfl _ Tryz.func18 (by kernel_rfl) (by kernel_rfl) ?_ True.intro
            refine (hcq ⟨_, hb⟩ _ hOn).mono ?_
            rintro _ wn ⟨rfl, hbn⟩
            replace hb := hb.trans (hbn.mono hb.size)
            clear hbn
            refine ⟨_, rfl, fun _ => ⟨⟨_, hb⟩, rfl⟩, ?_⟩
            refine plan_put ?_ (by simp only [Act.put, List.setIfInBounds_toArray, List.set_cons_succ, List.set_cons_zero]; rfl)
            iterate 2
              refine plan_look _ rfl rfl ?_
              go_big_quiet_step (fail)
              refine wpQuiet_nil ?_
            refine plan_done ?_
            clear hcx hcy hcs hcr hcn hcq hne hOn G0 G1 G2 G3 G4 G5
            have HB := Lib.hid hb
            clear hb
            go_wp2
            go_loopw [7] (fun i wr => ∃ j : Nat, j ≤ x.facts.length ∧ i = .int .i64 (j : Nat) ∧ Hid (HomTo s x y j) ∧ Below E.heap.size E wr) (fun i _ => x.facts.length - (intOf i).toNat)
            case atStart => exact ⟨0, by omega, rfl, Lib.hid (HomTo.zero _ _ _), HB.out⟩
            case round =>
              clear HB
              obtain ⟨j, hj, rfl, HT, hW⟩ := hrel
              have hWw := HE.out.trans (hW.mono HE.out.size)
              have hz := hW.size
              have hEz : w.heap.size + 1 + 1 < E.heap.size := by have := HEz.out; omega
              have x1 := (hW.cell (p := ⟨w.heap.size, 1, none⟩) (by show w.heap.size < _; omega)).trans X1.out
              have y0 := (hW.cell (p := ⟨w.heap.size + 1, 0, none⟩) (by show w.heap.size + 1 < _; omega)).trans Y0.out
              have y1 := (hW.cell (p := ⟨w.heap.size + 1, 1, none⟩) (by show w.heap.size + 1 < _; omega)).trans Y1.out
              have s0 := (hW.cell (p := ⟨w.heap.size + 1 + 1, 0, none⟩) (by show w.heap.size + 1 + 1 < _; omega)).trans S0.out
              have s1 := (hW.cell (p := ⟨w.heap.size + 1 + 1, 1, none⟩) (by show w.heap.size + 1 + 1 < _; omega)).trans S1.out
              by_cases hlt : j < x.facts.length
              · obtain ⟨b, off, U, rfl, hbl, c0, c1, hU⟩ := FactS_at.elem (FactS_at.later HF.out hWw) j hlt
                obtain ⟨PU, cU, rfl, -⟩ := id hU
                have hfz : Fact_sz x.facts[j] ≤ 1048576 := by
                  have h1 := valsLen_take x.facts j hlt
                  have h2 := valsLen_le x.facts (j + 1)
                  unfold Fact_sz
                  unfold Instance_sz FactS_sz at hn
                  omega
                have hca := fun (u : Aft wr.heap.size wr) => specApplyToFact_any _ (.agg #[.int .i64 x.facts[j].rel, .slice PU x.facts[j].vals.length cU]) s x.facts[j] u.now (HS.out.later (hWw.trans (u.is.mono hWw.size))) hsw ⟨_, rfl, IntS_at.later hU u.is⟩ hfz
                have hcp := fun (u : Aft wr.heap.size wr) (z : Value) (r : Int) (hr : placeF (applyF s x.facts[j]) y.facts = r) (hz : Fact_at u.now u.now.heap.size z (applyF s x.facts[j])) => specL5Place_at3 _ z y (applyF s x.facts[j]) r hr u.now (HY.out.later (hWw.trans (u.is.mono hWw.size))) hz
                have g1 := Aft.cell (B := wr.heap.size) (w := wr) (show w.heap.size < _ by omega) x1
                have g2 := Aft.cell (B := wr.heap.size) (w := wr) (show w.heap.size + 1 < _ by omega) y0
                have g3 := Aft.cell (B := wr.heap.size) (w := wr) (show w.heap.size + 1 < _ by omega) y1
                have g4 := Aft.cell (B := wr.heap.size) (w := wr) (show w.heap.size + 1 + 1 < _ by omega) s0
                have g5 := Aft.cell (B := wr.heap.size) (w := wr) (show w.heap.size + 1 + 1 < _ by omega) s1
                have g6 := Aft.cell (B := wr.heap.size) (w := wr) hbl c0
                have g7 := Aft.cell (B := wr.heap.size) (w := wr) hbl c1
                obtain ⟨r, hr⟩ : ∃ r, placeF (applyF s x.facts[j]) y.facts = r := ⟨_, rfl⟩
                have HCP := Lib.hid (fun u z hz => hcp u z r hr hz)
                have hdr : (r < 0 ∧ decide (r < 0) = true) ∨ (0 ≤ r ∧ decide (r < 0) = false) := by
                  by_cases h0 : r < 0
                  · exact .inl ⟨h0, decide_eq_true h0⟩
                  · exact .inr ⟨by omega, decide_eq_false h0⟩
                have HNX := Lib.hid (fun (h0 : 0 ≤ r) => HT.out.next hlt (by rw [hr]; exact h0))
                have HNO := Lib.hid (fun (h0 : r < 0) => homFacts_no (s := s) (y := y) j hlt (by rw [hr]; omega))
                clear hcp hfz hr hU c0 c1 y0 y1 s0 s1
                generalize x.facts[j] = f at *
                rcases hdr with ⟨h0, hd⟩ | ⟨h0, hd⟩
                · have HV2 := Lib.hid (HV.out.trans (HNO.out h0))
                  clear h0 HNX HNO
                  go_wp2_with fail
                  have hb := (Below.refl wr.heap.size wr).drew
                  refine wp_region_planL (C := fun w' => ∃ u : Aft wr.heap.size wr, w' = u.now) (.still 0 (.still 1 (.still 2 (.still 3 (.still 4 (.still 5 (.still 6 (.move true 7 (.move true 8 (.still 9 .done) .none) .none)))))))) (by kernel_rfl) (by kernel_rfl) (by kernel_rfl) (fun _ => ⟨⟨wr.drew, hb⟩, rfl⟩) ?_
                  iterate 7
                    refine plan_look _ rfl rfl ?_
                    go_big_quiet_step (fail)
                    refine wpQuiet_nil ?_
                  refine plan_call _ 21 _ _ _ _ _ rfl _ Tryz.func21 (by kernel_rfl) (by kernel_rfl) ?_ True.intro
                  refine (hca ⟨_, hb⟩).mono ?_
                  rintro _ wn ⟨r3, rfl, hr3, hbn⟩
                  replace hb := hb.trans (hbn.mono hb.size)
                  clear hbn
                  refine ⟨_, rfl, fun _ => ⟨⟨_, hb⟩, rfl⟩, ?_⟩
                  refine plan_put ?_ (by simp only [Act.put, List.setIfInBounds_toArray, List.set_cons_succ, List.set_cons_zero]; rfl)
                  refine plan_call _ 20 _ _ _ _ _ rfl _ Tryz.func20 (by kernel_rfl) (by kernel_rfl) ?_ True.intro
                  refine (HCP.out ⟨_, hb⟩ _ (hr3.at_ (Nat.le_refl _))).mono ?_
                  rintro _ wp ⟨rfl, hbp⟩
                  replace hb := hb.trans (hbp.mono hb.size)
                  clear hbp hr3
                  refine ⟨_, rfl, fun _ => ⟨⟨_, hb⟩, rfl⟩, ?_⟩
                  refine plan_put ?_ (by simp only [Act.put, List.setIfInBounds_toArray, List.set_cons_succ, List.set_cons_zero]; rfl)
                  iterate 1
                    refine plan_look _ rfl rfl ?_
                    go_big_quiet_step (fail)
                    refine wpQuiet_nil ?_
                  refine plan_done ?_
                  go_wp2
                  go_ret
                  exact ⟨ret_bool HV2.out.symm, hWw.trans (hb.mono hWw.size)⟩
                · have HN2 := Lib.hid (HNX.out h0)
                  clear h0 HNX HNO
                  go_wp2_with fail
                  have hb := (Below.refl wr.heap.size wr).drew
                  refine wp_region_planL (C := fun w' => ∃ u : Aft wr.heap.size wr, w' = u.now) (.still 0 (.still 1 (.still 2 (.still 3 (.still 4 (.still 5 (.still 6 (.move true 7 (.move true 8 (.still 9 .done) .none) .none)))))))) (by kernel_rfl) (by kernel_rfl) (by kernel_rfl) (fun _ => ⟨⟨wr.drew, hb⟩, rfl⟩) ?_
                  iterate 7
                    refine plan_look _ rfl rfl ?_
                    go_big_quiet_step (fail)
                    refine wpQuiet_nil ?_
                  refine plan_call _ 21 _ _ _ _ _ rfl _ Tryz.func21 (by kernel_rfl) (by kernel_rfl) ?_ True.intro
                  refine (hca ⟨_, hb⟩).mono ?_
                  rintro _ wn ⟨r3, rfl, hr3, hbn⟩
                  replace hb := hb.trans (hbn.mono hb.size)
                  clear hbn
                  refine ⟨_, rfl, fun _ => ⟨⟨_, hb⟩, rfl⟩, ?_⟩
                  refine plan_put ?_ (by simp only [Act.put, List.setIfInBounds_toArray, List.set_cons_succ, List.set_cons_zero]; rfl)
                  refine plan_call _ 20 _ _ _ _ _ rfl _ Tryz.func20 (by kernel_rfl) (by kernel_rfl) ?_ True.intro
                  refine (HCP.out ⟨_, hb⟩ _ (hr3.at_ (Nat.le_refl _))).mono ?_
                  rintro _ wp ⟨rfl, hbp⟩
                  replace hb := hb.trans (hbp.mono hb.size)
                  clear hbp hr3
                  refine ⟨_, rfl, fun _ => ⟨⟨_, hb⟩, rfl⟩, ?_⟩
                  refine plan_put ?_ (by simp only [Act.put, List.setIfInBounds_toArray, List.set_cons_succ, List.set_cons_zero]; rfl)
                  iterate 1
                    refine plan_look _ rfl rfl ?_
                    go_big_quiet_step (fail)
                    refine wpQuiet_nil ?_
                  refine plan_done ?_
                  go_wp2
                  go_roundw
                  case rel => exact ⟨j + 1, by omega, by go_num, HN2, hW.trans (hb.mono hz)⟩
                  case measure => simp [intOf]; omega
              · obtain rfl : j = x.facts.length := by omega
                have HV2 := Lib.hid (HV.out.trans (homFacts_yes HT.out))
                go_wp2
                go_ret
                exact ⟨ret_bool HV2.out.symm, hWw⟩
          · have hne : (q != 0) = true := by rw [bne_iff_ne]; exact hq0
            have HV := Lib.hid (show isHom x y s = false from isHom_not2 (decide_eq_false (fun e => hq0 (hq.symm.trans ((cmpInts_zero _ _).2 e)))))
            clear hx hy ho hr hq hsr hq0
            go_enter Tryz.func6, Tryz.ntmps6
            go_wp2_with fail
            rw [← hEq]
            clear hEq
            have hb := Below.refl E.heap.size E
            replace hb := hb.drew
            refine wp_region_planL (C := fun w' => ∃ u : Aft E.heap.size E, w' = u.now) (.still 0 (.move true 1 (.still 2 (.still 3 (.still 4 (.move true 5 (.still 6 (.still 7 (.still 8 (.still 9 (.move true 10 (.still 11 (.still 12 (.still 13 (.still 14 (.still 15 (.still 16 (.still 17 (.move true 18 (.still 19 (.still 20 (.still 21 (.still 22 (.still 23 (.still 24 (.move true 25 (.move true 26 (.still 27 (.still 28 .done)) .none) .none))))))) .none)))))))) .none))))) .none)))) .none)) (by kernel_rfl) (by kernel_rfl) (by kernel_rfl) (fun _ => ⟨⟨E.drew, hb⟩, rfl⟩) ?_
            iterate 1
              refine plan_look _ rfl rfl ?_
              go_big_quiet_step (fail)
              refine wpQuiet_nil ?_
            refine plan_call _ 15 _ _ _ _ _ rfl _ Tryz.func15 (by kernel_rfl) (by kernel_rfl) ?_ True.intro
            refine (hcx ⟨_, hb⟩).mono ?_
            rintro _ wn ⟨rfl, hbn⟩
            replace hb := hb.trans (hbn.mono hb.size)
            clear hbn
            refine ⟨_, rfl, fun _ => ⟨⟨_, hb⟩, rfl⟩, ?_⟩
            refine plan_put ?_ (by simp only [Act.put, List.setIfInBounds_toArray, List.set_cons_succ, List.set_cons_zero]; rfl)
            iterate 3
              refine plan_look _ rfl rfl ?_
              go_big_quiet_step (fail)
              refine wpQuiet_nil ?_
            refine plan_callG _ 15 _ _ _ _ _ _ rfl rfl _ Tryz.func15 (by kernel_rfl) (by kernel_rfl) ?_ True.intro
            refine (hcy ⟨_, hb⟩).mono ?_
            rintro _ wn ⟨rfl, hbn⟩
            replace hb := hb.trans (hbn.mono hb.size)
            clear hbn
            refine ⟨_, rfl, fun _ => ⟨⟨_, hb⟩, rfl⟩, ?_⟩
            refine plan_put ?_ (by simp only [Act.put, List.setIfInBounds_toArray, List.set_cons_succ, List.set_cons_zero]; rfl)
            iterate 4
              refine plan_look _ rfl rfl ?_
              go_big_quiet_step (fail)
              refine wpQuiet_nil ?_
            refine plan_callG _ 16 _ _ _ _ _ _ rfl rfl _ Tryz.func16 (by kernel_rfl) (by kernel_rfl) ?_ True.intro
            refine (hcs ⟨_, hb⟩).mono ?_
            rintro _ wn ⟨rfl, hbn⟩
            replace hb := hb.trans (hbn.mono hb.size)
            clear hbn
            refine ⟨_, rfl, fun _ => ⟨⟨_, hb⟩, rfl⟩, ?_⟩
            refine plan_put ?_ (by simp only [Act.put, List.setIfInBounds_toArray, List.set_cons_succ, List.set_cons_zero]; rfl)
            iterate 7
              refine plan_look _ rfl rfl ?_
              go_big_quiet_step (fail)
              refine wpQuiet_nil ?_
            refine plan_callG _ 17 _ _ _ _ _ _ rfl rfl _ Tryz.func17 (by kernel_rfl) (by kernel_rfl) ?_ True.intro
            refine (hcr ⟨_, hb⟩).mono ?_
            rintro _ wn ⟨rfl, hbn⟩
            replace hb := hb.trans (hbn.mono hb.size)
            clear hbn
            refine ⟨_, rfl, fun _ => ⟨⟨_, hb⟩, rfl⟩, ?_⟩
            refine plan_put ?_ (by simp only [Act.put, List.setIfInBounds_toArray, List.set_cons_succ, List.set_cons_zero]; rfl)
            iterate 6
              refine plan_look _ rfl rfl ?_
              go_big_quiet_step (fail)
              refine wpQuiet_nil ?_
            refine plan_callG _ 19 _ _ _ _ _ _ rfl rfl _ Tryz.func19 (by kernel_rfl) (by kernel_rfl) ?_ True.intro
            refine (hcn ⟨_, hb⟩).mono ?_
            rintro _ wn ⟨un, rfl, hOn, hbn⟩
            obtain ⟨Pn, cn, rfl, -⟩ := id hOn
            replace hb := hb.trans (hbn.mono hb.size)
            clear hbn
            refine ⟨_, rfl, fun _ => ⟨⟨_, hb⟩, rfl⟩, ?_⟩
            refine plan_put ?_ (by simp only [Act.put, List.setIfInBounds_toArray, List.set_cons_succ, List.set_cons_zero]; rfl)
            refine plan_callG _ 18 _ _ _ _ _ _ rfl rfl _ Tryz.func18 (by kernel_rfl) (by kernel_rfl) ?_ True.intro
            refine (hcq ⟨_, hb⟩ _ hOn).mono ?_
            rintro _ wn ⟨rfl, hbn⟩
            replace hb := hb.trans (hbn.mono hb.size)
            clear hbn
            refine ⟨_, rfl, fun _ => ⟨⟨_, hb⟩, rfl⟩, ?_⟩
            refine plan_put ?_ (by simp only [Act.put, List.setIfInBounds_toArray, List.set_cons_succ, List.set_cons_zero]; rfl)
            iterate 2
              refine plan_look _ rfl rfl ?_
              go_big_quiet_step (fail)
              refine wpQuiet_nil ?_
            refine plan_done ?_
            go_wp2
            go_ret
            exact ⟨ret_bool HV.out.symm, HE.out.trans (hb.mono HE.out.size)⟩
def IsHomomorphism_r0 (x y : Inst) (s : Sbst) : Bool := isHom x y s
theorem specIsHomomorphism_c (v : Value) (x : Inst) (u : Value) (y : Inst) (t : Value) (s : Sbst) (w : World) (h : Instance_at w w.heap.size v x) (hw : Instance_wf x) (hn : Instance_sz x ≤ 1048576) (h' : Instance_at w w.heap.size u y) (hw' : Instance_wf y) (hn' : Instance_sz y ≤ 1048576) (hs : Substitution_at w w.heap.size t s) (hsw : Substitution_wf s) (hsn : Substitution_sz s ≤ 1048576) :
    Calls Tryz.prog 6 #[v, u, t] w fun e w' => e = .returned (.bool (isHom x y s)) ∧ Below w.heap.size w w' := specIsHom_any v u t x y s w h hw hn h' hw' hn' hs hsw hsn

end Go.Proofs.YteogknfhafdbmaaGreat
