/-
  Walks and plain lemmas for the laws of this seat: what single Go functions return, for every argument.
-/
import Derived.Deep.Quiet
import Derived.Test.YtmecdjincmkofaaGreatDoorPlan
import Derived.Test.YtmecdjincmkofaaGreatDoorFact
import Derived.Test.YtmecdjincmkofaaGreatDoorTyInst
import Derived.Test.YtmecdjincmkofaaGreatDoorMInst
import Derived.Test.YtmecdjincmkofaaGreatDoorMHom
import Derived.Test.YtmecdjincmkofaaGreatDoorSubI
import Derived.Test.YtmecdjincmkofaaGreatDoorSubsNI
import Derived.Test.YtmecdjincmkofaaGreatDoorSubsE
import Derived.Test.YtmecdjincmkofaaGreatDoorNullsI
namespace Go.Proofs.YtmecdjincmkofaaGreatDoor
open Go.RowKit

theorem valsLen_mem {l : List Fct} (k : Nat) (h : k < l.length) : l[k].vals.length ≤ valsLen l := by
  have h1 := valsLen_take l k h
  have h2 := valsLen_le l (k + 1)
  omega
set_option maxHeartbeats 3200000 in
set_option maxRecDepth 100000 in
theorem implNullsOfInstance_any (v : Value) (x : Inst) (w : World) (h : Instance_at w w.heap.size v x) (hw : Instance_wf x) (hn : Instance_sz x ≤ 1048576) :
    Calls Tryz.prog 154 #[v] w fun e w' => ∃ u, e = .returned u ∧ OwnInts w.heap.size u (nullsI x.facts) w' ∧ Below w.heap.size w w' := by
  obtain ⟨P, c, Q, d, rfl⟩ := Instance_form h
  obtain ⟨V1, V2, hv, hR, hF⟩ := h
  simp only [Value.agg.injEq, Array.mk.injEq, List.cons.injEq, and_true] at hv
  obtain ⟨rfl, rfl⟩ := hv
  obtain ⟨_, _, hv2, hd1, hd2⟩ := hF.form
  injection hv2 with e1 _ e2
  subst e1 e2
  unfold maxLen at hd2
  have HF := Lib.hid hF
  clear hR hF
  have HSZ := Lib.hid (show valsLen x.facts ≤ 1048576 by unfold Instance_sz FactS_sz at hn; omega)
  have HCS := Lib.hid (compact_all x.facts)
  clear hn
  obtain ⟨E, hEq⟩ : ∃ E, E = (w.alloc (.cells #[.slice P x.rels.length c, .slice Q x.facts.length d] 40)) := ⟨_, rfl⟩
  have hE : Below w.heap.size w E := by rw [hEq]; exact below_more (Below.refl _ _) _
  have HE := Lib.hid (show w.heap.size + 1 = E.heap.size by rw [hEq]; simp)
  go_enter Tryz.func154, Tryz.ntmps154
  go_wp2
  rw [← hEq]
  clear hEq
  go_loopw [3, 9] (fun o i wr => ∃ k : Nat, k ≤ x.facts.length ∧ i = .int .i64 k ∧ OwnInts E.heap.size o (numsAll (x.facts.take k)) wr ∧ Below E.heap.size E wr) (fun _ i _ => x.facts.length - (intOf i).toNat)
  case atStart => exact ⟨0, by omega, rfl, by simpa [numsAll] using OwnInts.nil E E.heap.size, Below.refl _ _⟩
  case round =>
    obtain ⟨k, hk, rfl, hO, hW⟩ := hrel
    have hz := hW.size
    have hWw : Below w.heap.size w wr := hE.trans (hW.mono hE.size)
    have hl : (numsAll (x.facts.take k)).length ≤ 1048576 := by have h1 := numsAll_len (x.facts.take k); have h2 := valsLen_le x.facts k; have h3 := HSZ.out; omega
    by_cases hlt : k < x.facts.length
    · obtain ⟨b, off, V, rfl, hb, c0, c1, hV⟩ := FactS_at.elem HF.out k hlt
      obtain ⟨PV, cV, rfl, -⟩ := id hV
      replace c0 := (hWw.cell (p := ⟨b, off + k * 2, none⟩) hb).trans c0
      replace c1 := (hWw.cell (p := ⟨b, off + k * 2 + 1, none⟩) hb).trans c1
      have hsz := valsLen_mem k hlt
      have hcon := fun (W : World) (hb : Below wr.heap.size wr W) => implNullsOfFact_any x.facts[k].rel (.slice PV x.facts[k].vals.length cV) x.facts[k].vals W ((hV.later hWw).later hb) (hw.2 k hlt).2 (by have := HSZ.out; omega)
      have HN := Lib.hid (numsAll_take x.facts k hlt)
      have hnl := nullsOf_le x.facts[k].vals
      have hnl2 : (nullsOf x.facts[k].vals).length ≤ 1048576 := by have := HSZ.out; omega
      have HO := Lib.hid hO
      clear hV hO hsz hnl
      go_wp2_with fail
      refine (hcon _ (below_more (Below.refl _ _) _)).mono ?_
      rintro e w1 ⟨u, rfl, hU, hb1⟩
      have hz0 : wr.heap.size + 1 ≤ w1.heap.size := by have := hb1.size; simpa using this
      have hb3 : Below wr.heap.size wr w1 := (below_more (Below.refl _ _) _).trans (hb1.mono (by simp))
      obtain ⟨Pn, cn, rfl, -, hcn, -, hAn⟩ := id hU.at_
      have HAn := Lib.hid hAn
      have HU := Lib.hid hU
      have HO1 := Lib.hid (HO.out.below hb3 (Nat.le_refl _))
      have hzE : E.heap.size ≤ w1.heap.size := by omega
      clear hU hcon c0 c1 hb1 hAn hcn
      generalize nullsOf x.facts[k].vals = L at *
      generalize numsAll (x.facts.take k) = S at *
      go_wp2_with (at_builtin; refine ints_apps (r := L) HO1.out rfl _ _ rfl rfl Pn L.length cn rfl rfl HU.out.at_ HAn.out (by omega) hzE ?_; intro v5 w5 hO5 hB5 _ _)
      go_roundw
      case rel => exact ⟨k + 1, by omega, by go_num, by rw [HN.out]; exact hO5, (hW.trans (hb3.mono hz)).trans hB5⟩
      case measure => simp [intOf]; omega
    · obtain rfl : k = x.facts.length := by omega
      rw [List.take_of_length_le (Nat.le_refl _)] at hO hl
      have hs := sortInts_any _ _ _ wr hO hz hl
      clear hO
      go_wp2_with fail
      refine hs.mono ?_
      rintro e w2 ⟨rfl, hO2, hb2⟩
      have hc := compactInts_any _ _ _ w2 hO2 (by rw [List.length_mergeSort]; exact hl)
      rw [HCS.out] at hc
      clear hO2 hs
      go_wp2_with fail
      refine hc.mono ?_
      rintro e w3 ⟨u, rfl, hO3, hb3⟩
      go_wp2
      go_ret
      exact ⟨_, rfl, hO3.mono (by have := HE.out; omega), hE.trans (((hW.trans hb2).trans hb3).mono hE.size)⟩
theorem implNullsOfInstance_c (v : Value) (x : Inst) (w : World) (h : Instance_at w w.heap.size v x) (hw : Instance_wf x) (hn : Instance_sz x ≤ 1048576) :
    Calls Tryz.prog 154 #[v] w fun e w' => ∃ u, e = .returned u ∧ IntS_own w.heap.size w'.heap.size u (NullsOfInstance_r0 x) w' ∧ IntS_sz (NullsOfInstance_r0 x) ≤ 1048576 ∧ Below w.heap.size w w' := by
  have hl := (asc_nullsI x.facts).len
  refine (implNullsOfInstance_any v x w h hw hn).mono fun _ w' ⟨u, he, ho, hb⟩ => ⟨u, he, IntsO.of ho, by unfold IntS_sz NullsOfInstance_r0; omega, hb⟩

theorem implEqInts_at3 (a b : List Int) (q : Bool) (hq : decide (a = b) = q) (v u : Value) (w : World) (hl : IntsAt w w.heap.size v a) (hm : IntsAt w w.heap.size u b) :
    Calls Tryz.prog 151 #[v, u] w fun e w' => e = .returned (.bool q) ∧ Below w.heap.size w w' := by
  subst hq; exact implEqInts_any a b v u w hl hm
set_option maxHeartbeats 6400000 in
set_option maxRecDepth 100000 in
theorem implIsHom_any (v u t : Value) (x y : Inst) (s : Sbst) (w : World) (h : Instance_at w w.heap.size v x) (hw : Instance_wf x) (hn : Instance_sz x ≤ 1048576) (h' : Instance_at w w.heap.size u y) (hw' : Instance_wf y) (_ : Instance_sz y ≤ 1048576) (hs : Substitution_at w w.heap.size t s) (hsw : Substitution_wf s) (hsn : Substitution_sz s ≤ 1048576) :
    Calls Tryz.prog 71 #[v, u, t] w fun e w' => e = .returned (.bool (isHom x y s)) ∧ Below w.heap.size w w' := by
  obtain ⟨P, c, Q, d, rfl⟩ := Instance_form h
  obtain ⟨P', c', Q', d', rfl⟩ := Instance_form h'
  obtain ⟨R, k, S, m, rfl⟩ := Substitution_form hs
  have HX := Lib.hid h
  have HY := Lib.hid h'
  have HS := Lib.hid hs
  obtain ⟨V1, V2, hv, hR, hF⟩ := h
  obtain ⟨U1, U2, hu, hR', -⟩ := h'
  obtain ⟨T1, T2, ht, hN, -⟩ := hs
  simp only [Value.agg.injEq, Array.mk.injEq, List.cons.injEq, and_true] at hv hu ht
  obtain ⟨rfl, rfl⟩ := hv
  obtain ⟨rfl, rfl⟩ := hu
  obtain ⟨rfl, rfl⟩ := ht
  obtain ⟨_, _, hv2, hd1, hd2⟩ := hF.form
  injection hv2 with e1 _ e2
  subst e1 e2
  unfold maxLen at hd2
  have HR := Lib.hid hR
  have HR' := Lib.hid hR'
  have HN := Lib.hid hN
  have HF := Lib.hid hF
  clear hR hR' hN hF
  obtain ⟨E, hEq⟩ : ∃ E, E = ((w.alloc (.cells #[.slice P x.rels.length c, .slice Q x.facts.length d] 40)).alloc (.cells #[.slice P' y.rels.length c', .slice Q' y.facts.length d'] 40)).alloc (.cells #[.slice R s.nulls.length k, .slice S s.vals.length m] 81) := ⟨_, rfl⟩
  have hE : Below w.heap.size w E := by rw [hEq]; exact below_more (below_more (below_more (Below.refl _ _) _) _) _
  have HE := Lib.hid hE
  have HEz := Lib.hid (show w.heap.size + 3 = E.heap.size by rw [hEq]; simp)
  have X0 := Lib.hid (show E.cell? ⟨w.heap.size, 0, none⟩ = some (.slice P x.rels.length c) by rw [hEq]; simp [go_sem])
  have X1 := Lib.hid (show E.cell? ⟨w.heap.size, 1, none⟩ = some (.slice Q x.facts.length d) by rw [hEq]; simp [go_sem])
  have Y0 := Lib.hid (show E.cell? ⟨w.heap.size + 1, 0, none⟩ = some (.slice P' y.rels.length c') by rw [hEq]; simp [go_sem])
  have Y1 := Lib.hid (show E.cell? ⟨w.heap.size + 1, 1, none⟩ = some (.slice Q' y.facts.length d') by rw [hEq]; simp [go_sem])
  have S0 := Lib.hid (show E.cell? ⟨w.heap.size + 1 + 1, 0, none⟩ = some (.slice R s.nulls.length k) by rw [hEq]; simp [go_sem])
  have S1 := Lib.hid (show E.cell? ⟨w.heap.size + 1 + 1, 1, none⟩ = some (.slice S s.vals.length m) by rw [hEq]; simp [go_sem])
  have G0 := Aft.cell (B := E.heap.size) (w := E) (show w.heap.size < _ by have := HEz.out; omega) X0.out
  have G1 := Aft.cell (B := E.heap.size) (w := E) (show w.heap.size < _ by have := HEz.out; omega) X1.out
  have G2 := Aft.cell (B := E.heap.size) (w := E) (show w.heap.size + 1 < _ by have := HEz.out; omega) Y0.out
  have G3 := Aft.cell (B := E.heap.size) (w := E) (show w.heap.size + 1 < _ by have := HEz.out; omega) Y1.out
  have G4 := Aft.cell (B := E.heap.size) (w := E) (show w.heap.size + 1 + 1 < _ by have := HEz.out; omega) S0.out
  have G5 := Aft.cell (B := E.heap.size) (w := E) (show w.heap.size + 1 + 1 < _ by have := HEz.out; omega) S1.out
  cases hh : sameRels x y with
  | false =>
    have HV := Lib.hid (show isHom x y s = false from isHom_not1 hh)
    have hch := fun (u : Aft E.heap.size E) => implHaveEqual_at x y false hh _ _ u.now (HX.out.later (HE.out.trans (u.is.mono HE.out.size))) hw (HY.out.later (HE.out.trans (u.is.mono HE.out.size))) hw'
    clear hh
    go_enter Tryz.func71, Tryz.ntmps71
    go_wp2_with fail
    rw [← hEq]
    clear hEq
    have hb := Below.refl E.heap.size E
    replace hb := hb.drew
    refine wp_region_planL (C := fun w' => ∃ u : Aft E.heap.size E, w' = u.now) (.still 0 (.still 1 (.move true 2 (.still 3 (.still 4 (.still 5 (.still 6 (.still 7 (.move true 8 (.move true 9 (.still 10 (.still 11 .done)) .none) .none)))))) .none))) (by kernel_rfl) (by kernel_rfl) (by kernel_rfl) (fun _ => ⟨⟨E.drew, hb⟩, rfl⟩) ?_
    iterate 2
      refine plan_look _ rfl rfl ?_
      go_big_quiet_step (fail)
      refine wpQuiet_nil ?_
    refine plan_call _ 153 _ _ _ _ _ rfl _ Tryz.func153 (by kernel_rfl) (by kernel_rfl) ?_ True.intro
    refine (hch ⟨_, hb⟩).mono ?_
    rintro _ wn ⟨rfl, hbn⟩
    replace hb := hb.trans (hbn.mono hb.size)
    clear hbn
    refine ⟨_, rfl, fun _ => ⟨⟨_, hb⟩, rfl⟩, ?_⟩
    refine plan_put ?_ (by simp only [Act.put, List.setIfInBounds_toArray, List.set_cons_succ, List.set_cons_zero]; rfl)
    iterate 5
      refine plan_look _ rfl rfl ?_
      go_big_quiet_step (fail)
      refine wpQuiet_nil ?_
    refine plan_off _ rfl rfl rfl ?_ True.intro
    refine plan_put ?_ (by simp only [Act.put, List.setIfInBounds_toArray, List.set_cons_succ, List.set_cons_zero]; rfl)
    refine plan_off _ rfl rfl rfl ?_ True.intro
    refine plan_put ?_ (by simp only [Act.put, List.setIfInBounds_toArray, List.set_cons_succ, List.set_cons_zero]; rfl)
    iterate 2
      refine plan_look _ rfl rfl ?_
      go_big_quiet_step (fail)
      refine wpQuiet_nil ?_
    refine plan_done ?_
    go_wp2
    go_ret
    exact ⟨ret_bool HV.out.symm, HE.out.trans (hb.mono HE.out.size)⟩
  | true =>
    cases he : decide (s.nulls = nullsI x.facts) with
    | false =>
      have HV := Lib.hid (show isHom x y s = false from isHom_not2 he)
      have hch := fun (u : Aft E.heap.size E) => implHaveEqual_at x y true hh _ _ u.now (HX.out.later (HE.out.trans (u.is.mono HE.out.size))) hw (HY.out.later (HE.out.trans (u.is.mono HE.out.size))) hw'
      have hcn := fun (u : Aft E.heap.size E) => implNullsOfInstance_c _ x u.now (HX.out.later (HE.out.trans (u.is.mono HE.out.size))) hw hn
      have hce := fun (u : Aft E.heap.size E) (z : Value) (hz : IntS_at u.now u.now.heap.size z (NullsOfInstance_r0 x)) => implEqInts_at3 s.nulls (nullsI x.facts) false he _ z u.now (IntS_at.later HN.out (HE.out.trans (u.is.mono HE.out.size))) hz
      clear hh he
      go_enter Tryz.func71, Tryz.ntmps71
      go_wp2_with fail
      rw [← hEq]
      clear hEq
      have hb := Below.refl E.heap.size E
      replace hb := hb.drew
      refine wp_region_planL (C := fun w' => ∃ u : Aft E.heap.size E, w' = u.now) (.still 0 (.still 1 (.move true 2 (.still 3 (.still 4 (.still 5 (.still 6 (.still 7 (.move true 8 (.move true 9 (.still 10 (.still 11 .done)) .none) .none)))))) .none))) (by kernel_rfl) (by kernel_rfl) (by kernel_rfl) (fun _ => ⟨⟨E.drew, hb⟩, rfl⟩) ?_
      iterate 2
        refine plan_look _ rfl rfl ?_
        go_big_quiet_step (fail)
        refine wpQuiet_nil ?_
      refine plan_call _ 153 _ _ _ _ _ rfl _ Tryz.func153 (by kernel_rfl) (by kernel_rfl) ?_ True.intro
      refine (hch ⟨_, hb⟩).mono ?_
      rintro _ wn ⟨rfl, hbn⟩
      replace hb := hb.trans (hbn.mono hb.size)
      clear hbn
      refine ⟨_, rfl, fun _ => ⟨⟨_, hb⟩, rfl⟩, ?_⟩
      refine plan_put ?_ (by simp only [Act.put, List.setIfInBounds_toArray, List.set_cons_succ, List.set_cons_zero]; rfl)
      iterate 5
        refine plan_look _ rfl rfl ?_
        go_big_quiet_step (fail)
        refine wpQuiet_nil ?_
      refine plan_callG _ 154 _ _ _ _ _ _ rfl rfl _ Tryz.func154 (by kernel_rfl) (by kernel_rfl) ?_ True.intro
      refine (hcn ⟨_, hb⟩).mono ?_
      rintro _ wn ⟨un, rfl, hOn, -, hbn⟩
      replace hOn := hOn.at_ (Nat.le_refl _)
      obtain ⟨Pn, cn, rfl, -⟩ := id hOn
      replace hb := hb.trans (hbn.mono hb.size)
      clear hbn
      refine ⟨_, rfl, fun _ => ⟨⟨_, hb⟩, rfl⟩, ?_⟩
      refine plan_put ?_ (by simp only [Act.put, List.setIfInBounds_toArray, List.set_cons_succ, List.set_cons_zero]; rfl)
      refine plan_callG _ 151 _ _ _ _ _ _ rfl rfl _ Tryz.func151 (by kernel_rfl) (by kernel_rfl) ?_ True.intro
      refine (hce ⟨_, hb⟩ _ hOn).mono ?_
      rintro _ wn ⟨rfl, hbn⟩
      replace hb := hb.trans (hbn.mono hb.size)
      clear hbn
      refine ⟨_, rfl, fun _ => ⟨⟨_, hb⟩, rfl⟩, ?_⟩
      refine plan_put ?_ (by simp only [Act.put, List.setIfInBounds_toArray, List.set_cons_succ, List.set_cons_zero]; rfl)
      iterate 2
        refine plan_look _ rfl rfl ?_
        go_big_quiet_step (fail)
        refine wpQuiet_nil ?_
      refine plan_done ?_
      go_wp2
      go_ret
      exact ⟨ret_bool HV.out.symm, HE.out.trans (hb.mono HE.out.size)⟩
    | true =>
      have hox := (sameRels_parts hh).1
      obtain ⟨ok, hk⟩ : ∃ ok, subOk s = ok := ⟨_, rfl⟩
      have hko : ApplyToInstance_ok s x = ok := by
        show (subOk s && instOk x) = ok
        rw [hox, hk, Bool.and_true]
      have HVK := Lib.hid (show isHom x y s = (ok && homFacts s x y) by unfold isHom; rw [hh, he, hk]; simp)
      have HAP := Lib.hid (fun (h1 : ok = true) => applyI_hom (y := y) (hk.trans h1) hox)
      have hch := fun (u : Aft E.heap.size E) => implHaveEqual_at x y true hh _ _ u.now (HX.out.later (HE.out.trans (u.is.mono HE.out.size))) hw (HY.out.later (HE.out.trans (u.is.mono HE.out.size))) hw'
      have hcn := fun (u : Aft E.heap.size E) => implNullsOfInstance_c _ x u.now (HX.out.later (HE.out.trans (u.is.mono HE.out.size))) hw hn
      have hce := fun (u : Aft E.heap.size E) (z : Value) (hz : IntS_at u.now u.now.heap.size z (NullsOfInstance_r0 x)) => implEqInts_at3 s.nulls (nullsI x.facts) true he _ z u.now (IntS_at.later HN.out (HE.out.trans (u.is.mono HE.out.size))) hz
      clear hh he hox hk
      go_enter Tryz.func71, Tryz.ntmps71
      go_wp2_with fail
      rw [← hEq]
      clear hEq
      have hb := Below.refl E.heap.size E
      replace hb := hb.drew
      refine wp_region_planL (C := fun w' => ∃ u : Aft E.heap.size E, w' = u.now) (.still 0 (.still 1 (.move true 2 (.still 3 (.still 4 (.still 5 (.still 6 (.still 7 (.move true 8 (.move true 9 (.still 10 (.still 11 .done)) .none) .none)))))) .none))) (by kernel_rfl) (by kernel_rfl) (by kernel_rfl) (fun _ => ⟨⟨E.drew, hb⟩, rfl⟩) ?_
      iterate 2
        refine plan_look _ rfl rfl ?_
        go_big_quiet_step (fail)
        refine wpQuiet_nil ?_
      refine plan_call _ 153 _ _ _ _ _ rfl _ Tryz.func153 (by kernel_rfl) (by kernel_rfl) ?_ True.intro
      refine (hch ⟨_, hb⟩).mono ?_
      rintro _ wn ⟨rfl, hbn⟩
      replace hb := hb.trans (hbn.mono hb.size)
      clear hbn
      refine ⟨_, rfl, fun _ => ⟨⟨_, hb⟩, rfl⟩, ?_⟩
      refine plan_put ?_ (by simp only [Act.put, List.setIfInBounds_toArray, List.set_cons_succ, List.set_cons_zero]; rfl)
      iterate 5
        refine plan_look _ rfl rfl ?_
        go_big_quiet_step (fail)
        refine wpQuiet_nil ?_
      refine plan_callG _ 154 _ _ _ _ _ _ rfl rfl _ Tryz.func154 (by kernel_rfl) (by kernel_rfl) ?_ True.intro
      refine (hcn ⟨_, hb⟩).mono ?_
      rintro _ wn ⟨un, rfl, hOn, -, hbn⟩
      replace hOn := hOn.at_ (Nat.le_refl _)
      obtain ⟨Pn, cn, rfl, -⟩ := id hOn
      replace hb := hb.trans (hbn.mono hb.size)
      clear hbn
      refine ⟨_, rfl, fun _ => ⟨⟨_, hb⟩, rfl⟩, ?_⟩
      refine plan_put ?_ (by simp only [Act.put, List.setIfInBounds_toArray, List.set_cons_succ, List.set_cons_zero]; rfl)
      refine plan_callG _ 151 _ _ _ _ _ _ rfl rfl _ Tryz.func151 (by kernel_rfl) (by kernel_rfl) ?_ True.intro
      refine (hce ⟨_, hb⟩ _ hOn).mono ?_
      rintro _ wn ⟨rfl, hbn⟩
      replace hb := hb.trans (hbn.mono hb.size)
      clear hbn
      refine ⟨_, rfl, fun _ => ⟨⟨_, hb⟩, rfl⟩, ?_⟩
      refine plan_put ?_ (by simp only [Act.put, List.setIfInBounds_toArray, List.set_cons_succ, List.set_cons_zero]; rfl)
      iterate 2
        refine plan_look _ rfl rfl ?_
        go_big_quiet_step (fail)
        refine wpQuiet_nil ?_
      refine plan_done ?_
      have hcA := implApplyToInstance_c _ s _ x _ (HS.out.later (HE.out.trans (hb.mono HE.out.size))) hsw hsn (HX.out.later (HE.out.trans (hb.mono HE.out.size))) hw hn
      rw [hko] at hcA
      obtain ⟨z, hz⟩ : ∃ z, ApplyToInstance_r0 s x = z := ⟨_, rfl⟩
      rw [hz] at hcA
      have hAP : ok = true → subInst z y = homFacts s x y := fun h1 => hz ▸ HAP.out h1
      have HAP := Lib.hid hAP
      clear hch hcn hce hOn hz hAP hko
      have x0 := G0 ⟨_, hb⟩
      have x1 := G1 ⟨_, hb⟩
      have s0 := G4 ⟨_, hb⟩
      have s1 := G5 ⟨_, hb⟩
      dsimp only at x0 x1 s0 s1
      have HB := Lib.hid hb
      have hzb := hb.size
      have hEz : w.heap.size + 1 + 1 < E.heap.size := by have := HEz.out; omega
      clear hb G0 G1 G4 G5
      go_wp2_with fail
      refine hcA.mono ?_
      rintro e w4 ⟨r4, rfl, hO4, -, hb4⟩
      obtain ⟨P4, c4, Q4, d4, rfl⟩ := Instance_form (hO4.at_ (Nat.le_refl _))
      have HZ := Lib.hid (hO4.at_ (Nat.le_refl _))
      have hz4 := hb4.size
      have hb4E := HB.out.trans (hb4.mono hzb)
      have HB4 := Lib.hid hb4E
      clear hcA hO4 hb4 x0 x1 s0 s1
      cases ok with
      | false =>
        have HV := Lib.hid (show isHom x y s = false from HVK.out)
        go_wp2
        go_ret
        exact ⟨ret_bool HV.out.symm, ((HE.out.trans (HB4.out.mono HE.out.size)).alloc (by have := HE.out.size; omega) _)⟩
      | true =>
        have HV := Lib.hid (show isHom x y s = homFacts s x y from HVK.out)
        have hAl : Below w4.heap.size w4 (w4.alloc (.cells #[.slice P4 z.rels.length c4, .slice Q4 z.facts.length d4] 40)) := below_more (Below.refl _ _) _
        have hEW := HB4.out.trans (hAl.mono HB4.out.size)
        have hsub := implIsSubset_any _ _ z y _ (HZ.out.later hAl) (HY.out.later (HE.out.trans (hEW.mono HE.out.size)))
        rw [HAP.out rfl] at hsub
        have y0 := (hEW.cell (p := ⟨w.heap.size + 1, 0, none⟩) (by show w.heap.size + 1 < _; omega)).trans Y0.out
        have y1 := (hEW.cell (p := ⟨w.heap.size + 1, 1, none⟩) (by show w.heap.size + 1 < _; omega)).trans Y1.out
        have HEW := Lib.hid (HE.out.trans (hEW.mono HE.out.size))
        generalize homFacts s x y = qq at *
        clear hAl hEW
        go_wp2_with fail
        refine hsub.mono ?_
        rintro e w6 ⟨rfl, hb6⟩
        go_wp2
        go_ret
        exact ⟨ret_bool HV.out.symm, HEW.out.trans (hb6.mono HEW.out.size)⟩
theorem implIsHomomorphism_c (v : Value) (x : Inst) (u : Value) (y : Inst) (t : Value) (s : Sbst) (w : World) (h : Instance_at w w.heap.size v x) (hw : Instance_wf x) (hn : Instance_sz x ≤ 1048576) (h' : Instance_at w w.heap.size u y) (hw' : Instance_wf y) (hn' : Instance_sz y ≤ 1048576) (hs : Substitution_at w w.heap.size t s) (hsw : Substitution_wf s) (hsn : Substitution_sz s ≤ 1048576) :
    Calls Tryz.prog 71 #[v, u, t] w fun e w' => e = .returned (.bool (isHom x y s)) ∧ Below w.heap.size w w' := implIsHom_any v u t x y s w h hw hn h' hw' hn' hs hsw hsn

end Go.Proofs.YtmecdjincmkofaaGreatDoor
