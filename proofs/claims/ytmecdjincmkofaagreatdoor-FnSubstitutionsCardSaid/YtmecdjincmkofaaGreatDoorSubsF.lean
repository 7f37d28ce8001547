/-
  Walks and plain lemmas for the laws of this seat: what single Go functions return, for every argument.
-/
import Derived.Test.YtmecdjincmkofaaGreatDoorInts
import Derived.Test.YtmecdjincmkofaaGreatDoorPlan
import Derived.Test.YtmecdjincmkofaaGreatDoorFact
import Derived.Test.YtmecdjincmkofaaGreatDoorTyInst
import Derived.Test.YtmecdjincmkofaaGreatDoorSubsV
namespace Go.Proofs.YtmecdjincmkofaaGreatDoor
open Go.RowKit

theorem applyF_take (x : Sbst) (vs : List Int) (k : Nat) (h : k < vs.length) : (vs.take (k + 1)).map (applyV x) = (vs.take k).map (applyV x) ++ [applyV x vs[k]] := by
  rw [List.take_succ_eq_append_getElem h, List.map_append]; rfl
set_option maxHeartbeats 3200000 in
set_option maxRecDepth 100000 in
theorem specApplyToFact_any (v u : Value) (x : Sbst) (f : Fct) (w : World) (h : Substitution_at w w.heap.size v x) (hw : Substitution_wf x) (h' : Fact_at w w.heap.size u f) (hn : Fact_sz f ≤ 1048576) :
    Calls Tryz.prog 140 #[v, u] w fun e w' => ∃ r, e = .returned r ∧ Fact_own w.heap.size w'.heap.size r (applyF x f) w' ∧ Below w.heap.size w w' := by
  obtain ⟨P, c, Q, d, rfl⟩ := Substitution_form h
  obtain ⟨R, cr, rfl⟩ := Fact_form h'
  have HX := Lib.hid h
  obtain ⟨V, hv, hI⟩ := h'
  simp only [Value.agg.injEq, Array.mk.injEq, List.cons.injEq, and_true, true_and] at hv
  subst hv
  obtain ⟨_, _, hv1, hc1, hc2⟩ := hI.form
  injection hv1 with e1 _ e2
  subst e1 e2
  unfold maxLen at hc2
  unfold Fact_sz at hn
  have HF := Lib.hid hI
  clear h hI
  obtain ⟨E, hEq⟩ : ∃ E, E = ((w.alloc (.cells #[.slice P x.nulls.length c, .slice Q x.vals.length d] 81)).alloc (.cells #[.int .i64 f.rel, .slice R f.vals.length cr] 57)).alloc (.cells #[.int .i64 0, .slice none 0 0] 57) := ⟨_, rfl⟩
  have hE : Below w.heap.size w E := by rw [hEq]; exact below_more (below_more (below_more (Below.refl _ _) _) _) _
  have HEz := Lib.hid (show w.heap.size + 3 = E.heap.size by rw [hEq]; simp)
  have S0 := Lib.hid (show E.cell? ⟨w.heap.size, 0, none⟩ = some (.slice P x.nulls.length c) by rw [hEq]; simp [go_sem])
  have S1 := Lib.hid (show E.cell? ⟨w.heap.size, 1, none⟩ = some (.slice Q x.vals.length d) by rw [hEq]; simp [go_sem])
  have F1 := Lib.hid (show E.cell? ⟨w.heap.size + 1, 1, none⟩ = some (.slice R f.vals.length cr) by rw [hEq]; simp [go_sem])
  have R0 := Lib.hid (show E.cell? ⟨w.heap.size + 1 + 1, 0, none⟩ = some (.int .i64 0) by rw [hEq]; simp [go_sem])
  have R1 := Lib.hid (show E.cell? ⟨w.heap.size + 1 + 1, 1, none⟩ = some (.slice none 0 0) by rw [hEq]; simp [go_sem])
  have RZ := fun o => Lib.hid (show E.frozen? ⟨w.heap.size + 1 + 1, o, none⟩ = false by rw [hEq]; simp [go_sem])
  go_enter Tryz.func140, Tryz.ntmps140
  go_wp2
  rw [← hEq]
  obtain ⟨Y, hY⟩ : ∃ Y, Y = w.heap.size + 1 + 1 + 1 := ⟨_, rfl⟩
  rw [← hY]
  have hYE : Y = E.heap.size := by have := HEz.out; omega
  have y0 : (E.alloc (.cells #[.int .i64 f.rel, .slice none 0 0] 57)).cell? ⟨Y, 0, none⟩ = some (.int .i64 f.rel) := by rw [hYE]; simp [go_sem]
  have y1 : (E.alloc (.cells #[.int .i64 f.rel, .slice none 0 0] 57)).cell? ⟨Y, 1, none⟩ = some (.slice none 0 0) := by rw [hYE]; simp [go_sem]
  have yz : ∀ o, (E.alloc (.cells #[.int .i64 f.rel, .slice none 0 0] 57)).frozen? ⟨Y, o, none⟩ = false := by intro o; rw [hYE]; simp [go_sem]
  have hAl : Below Y E (E.alloc (.cells #[.int .i64 f.rel, .slice none 0 0] 57)) := (Below.refl _ _).alloc (by omega) _
  have hsz : (E.alloc (.cells #[.int .i64 f.rel, .slice none 0 0] 57)).heap.size = Y + 1 := by rw [hYE]; simp
  generalize E.alloc (.cells #[.int .i64 f.rel, .slice none 0 0] 57) = W at y0 y1 yz hAl hsz ⊢
  have HSZ := Lib.hid hsz
  have HAL := Lib.hid hAl
  have HY := Lib.hid hY
  have HW0 := Lib.hid (hE.trans (hAl.mono (by omega)))
  clear hsz hAl hY hYE hEq
  go_loopw [6] (fun i wr => ∃ k V L, k ≤ f.vals.length ∧ i = .int .i64 (k : Nat) ∧ Hid (L = (f.vals.take k).map (applyV x)) ∧ wr.cell? ⟨Y, 0, none⟩ = some (.int .i64 f.rel) ∧ wr.cell? ⟨Y, 1, none⟩ = some V ∧ (∀ o, wr.frozen? ⟨Y, o, none⟩ = false) ∧ OwnInts (Y + 1) V L wr ∧ Hid (Chg (fun g => g = Y) W wr)) (fun i _ => f.vals.length - (intOf i).toNat)
  case atStart => exact ⟨0, _, [], by omega, rfl, Lib.hid rfl, y0, y1, yz, OwnInts.nil _ _, Lib.hid (Chg.refl _ _)⟩
  case round =>
    clear y0 y1 yz
    obtain ⟨k, V, L, hk, rfl, HL, y0, y1, yz, hO, HC⟩ := hrel
    have HO := Lib.hid hO
    obtain ⟨P4, c4, rfl, hl4, hm4, -⟩ := hO.at_
    unfold maxLen at hm4
    clear hO
    have hC := HC.out
    have hYw : Y + 1 ≤ wr.heap.size := by have h1 := hC.size; rw [HSZ.out] at h1; exact h1
    have hwY : w.heap.size + 2 < Y := by have := HY.out; omega
    have hwW : Below w.heap.size w wr := HW0.out.trans (hC.below (fun g hg => by subst hg; omega) (by rw [HSZ.out]; omega))
    have hlo : ∀ b o, b < Y → wr.cell? ⟨b, o, none⟩ = E.cell? ⟨b, o, none⟩ := fun b o hb => (hC.cell (show b < _ by rw [HSZ.out]; omega) (by omega)).trans (HAL.out.cell (p := ⟨b, o, none⟩) hb)
    have fr1 := (hlo (w.heap.size + 1) 1 (by omega)).trans F1.out
    have hLl : L.length = k := by rw [HL.out]; simp; omega
    have HLl := Lib.hid hLl
    by_cases hlt : k < f.vals.length
    · obtain ⟨b, off, rfl, hb, c0⟩ := IntsAt.elem (HF.out.below hwW (Nat.le_refl _)) k hlt
      have hcon := fun wq (hq : Below wr.heap.size wr wq) => specApplyToValue_any _ x f.vals[k] wq (HX.out.later (hwW.trans (hq.mono hwW.size))) hw
      have hS : Holds [(⟨Y, 1, none⟩, .slice P4 L.length c4), (⟨w.heap.size, 0, none⟩, .slice P x.nulls.length c), (⟨w.heap.size, 1, none⟩, .slice Q x.vals.length d), (⟨w.heap.size + 1, 1, none⟩, .slice (some ⟨b, off, none⟩) f.vals.length cr), (⟨b, off + k, none⟩, .int .i64 f.vals[k])] wr.drew := by
        intro p hp
        simp only [List.mem_cons, List.not_mem_nil, or_false] at hp
        rcases hp with rfl | rfl | rfl | rfl | rfl
        · exact y1
        · exact (hlo _ 0 (by omega)).trans S0.out
        · exact (hlo _ 1 (by omega)).trans S1.out
        · exact fr1
        · exact c0
      have hSb : ∀ p ∈ [((⟨Y, 1, none⟩ : Addr), Value.slice P4 L.length c4), (⟨w.heap.size, 0, none⟩, .slice P x.nulls.length c), (⟨w.heap.size, 1, none⟩, .slice Q x.vals.length d), (⟨w.heap.size + 1, 1, none⟩, .slice (some ⟨b, off, none⟩) f.vals.length cr), (⟨b, off + k, none⟩, .int .i64 f.vals[k])], p.1.block < Y + 1 := by
        intro p hp
        simp only [List.mem_cons, List.not_mem_nil, or_false] at hp
        rcases hp with rfl | rfl | rfl | rfl | rfl <;> simp <;> omega
      have g0 := Keep.cell (h0 := hS) (a := ⟨Y, 1, none⟩) (v := .slice P4 L.length c4) (by simp)
      have g1 := Keep.cell (h0 := hS) (a := ⟨w.heap.size, 0, none⟩) (v := .slice P x.nulls.length c) (by simp)
      have g2 := Keep.cell (h0 := hS) (a := ⟨w.heap.size, 1, none⟩) (v := .slice Q x.vals.length d) (by simp)
      have g3 := Keep.cell (h0 := hS) (a := ⟨w.heap.size + 1, 1, none⟩) (v := .slice (some ⟨b, off, none⟩) f.vals.length cr) (by simp)
      have g4 := Keep.cell (h0 := hS) (a := ⟨b, off + k, none⟩) (v := .int .i64 f.vals[k]) (by simp)
      have HX2 := Lib.hid hcon
      have HN := Lib.hid (applyF_take x f.vals k hlt)
      clear hcon hLl
      generalize applyV x f.vals[k] = z at *
      go_wp2_with fail
      refine wp_region_planL (C := fun w' => ∃ u : Keep _ wr.drew hS, w' = u.now) (.still 0 (.still 1 (.still 2 (.still 3 (.still 4 (.still 5 (.still 6 (.still 7 (.move true 8 (.move true 9 (.move true 10 (.still 11 (.move false 12 .done .none)) .none) .none) .none))))))))) (by kernel_rfl) (by kernel_rfl) (by kernel_rfl) (fun _ => ⟨⟨_, hS⟩, rfl⟩) ?_
      iterate 8
        refine plan_look _ rfl rfl ?_
        go_big_quiet_step (fail)
        refine wpQuiet_nil ?_
      refine plan_call _ 147 _ _ _ _ _ rfl _ Tryz.func147 (by kernel_rfl) (by kernel_rfl) ?_ True.intro
      refine (HX2.out wr.drew (Below.refl _ _).drew).mono ?_
      rintro _ w2 ⟨rfl, hb2⟩
      have hb2' : Below wr.heap.size wr w2 := (Below.refl _ _).drew.trans hb2
      refine ⟨_, rfl, fun _ => ⟨⟨_, hS.below hb2 (fun p hp => by have := hSb p hp; show _ < wr.heap.size; omega)⟩, rfl⟩, ?_⟩
      refine plan_put ?_ (by simp only [Act.put, List.setIfInBounds_toArray, List.set_cons_succ, List.set_cons_zero]; rfl)
      have hz2 := hb2'.size
      have HB2 := Lib.hid hb2'
      have HD := Lib.hid hb2
      clear hb2 hb2'
      have hK : ∀ wq, Below (Y + 1) wr.drew wq → Holds _ wq := fun wq hq => hS.below hq hSb
      refine plan_value (u := .slice (some ⟨w2.heap.size, 0, none⟩) 1 1) (w' := w2.alloc (.cells #[.int .i64 z] 3)) _ rfl rfl rfl (by simp [go_sem]) (fun _ => ⟨⟨_, hK _ ((HD.out.alloc hz2 _).mono hYw)⟩, rfl⟩) ?_ True.intro
      refine plan_put ?_ (by simp only [Act.put, List.setIfInBounds_toArray, List.set_cons_succ, List.set_cons_zero]; rfl)
      have hO3 := (HO.out.below HB2.out (Nat.le_refl _)).below ((Below.refl w2.heap.size w2).alloc (Nat.le_refl _) (.cells #[.int .i64 z] 3)) (Nat.le_refl _)
      unfold OwnInts at hO3
      rw [← flat_int] at hO3
      have hr : SliceAt intCell (w2.alloc (.cells #[.int .i64 z] 3)) (w2.heap.size + 1) (.slice (some ⟨w2.heap.size, 0, none⟩) [z].length 1) [z] := by
        refine ⟨_, _, rfl, Nat.le_refl _, by simp [maxLen], fun _ => ⟨_, _, rfl, by omega, ?_⟩, fun h => by cases h⟩
        intro i u hu
        rw [Nat.zero_add, box_cell]
        simpa [intCell] using hu
      refine plan_app intCell 1 8 (r := [z]) (fun x _ u hu => by simp [intCell] at hu; subst hu; rfl) (fun _ => rfl) _ rfl rfl Tryz.underlying55 infoInt rfl (by decide) hO3 _ _ rfl rfl ⟨w2.heap.size, 0, none⟩ 1 1 rfl rfl hr (by have := HLl.out; simp; omega) (by have := HLl.out; simp; omega) (by simp; omega) ?_ True.intro
      intro v4 w4 hO4 hB4 _ _
      have hbA : Below (Y + 1) wr w4 := ((HB2.out.mono hYw).alloc (by omega) _).trans hB4
      have hbD : Below (Y + 1) wr.drew w4 := ((HD.out.mono hYw).alloc (by omega) _).trans hB4
      have hO5 : OwnInts (Y + 1) v4 (L ++ [z]) w4 := by
        have := hO4
        rw [flat_int] at this
        simpa [OwnInts] using this
      obtain ⟨P5, c5, rfl, -⟩ := hO5.at_
      have z0 := (hbA.cell (p := ⟨Y, 0, none⟩) (Nat.lt_succ_self _)).trans y0
      have z1 := (hbA.cell (p := ⟨Y, 1, none⟩) (Nat.lt_succ_self _)).trans y1
      have zz := fun o => (hbA.frozen (p := ⟨Y, o, none⟩) (Nat.lt_succ_self _)).trans (yz o)
      have HO5 := Lib.hid hO5
      have HBA := Lib.hid hbA
      refine ⟨fun _ => ⟨⟨_, hK _ hbD⟩, rfl⟩, ?_⟩
      clear hO5 hbA hbD hO4 hB4 hr hK hO3 g0 g1 g2 g3 g4 y0 y1 yz fr1 c0
      refine plan_put ?_ (by simp only [Act.put, List.setIfInBounds_toArray, List.set_cons_succ, List.set_cons_zero]; rfl)
      refine plan_look _ rfl rfl ?_
      go_big_quiet_step (fail)
      refine wpQuiet_nil ?_
      refine plan_skip (w' := w4.setCell ⟨Y, 1, none⟩ (.slice P5 (L ++ [z]).length c5)) _ rfl rfl rfl (by simp [go_sem, z1, zz]) (fun e => by cases e) ?_ True.intro
      refine plan_put ?_ (by simp only [Act.put]; rfl)
      refine plan_done ?_
      go_wp2
      go_roundw
      case rel =>
        refine ⟨k + 1, .slice P5 (L ++ [z]).length c5, L ++ [z], by omega, by go_num, Lib.hid (by rw [HN.out, HL.out]), by simp [go_sem, z0], by simp [go_sem, z1], fun o => by simp [zz], ?_, Lib.hid ((HC.out.then_below (by rw [HSZ.out]; exact HBA.out)).setCell (p := ⟨Y, 1, none⟩) rfl _)⟩
        exact HO5.out.chg ((Chg.refl (fun q => q = Y) w4).setCell (p := ⟨Y, 1, none⟩) rfl _) (fun q hq e => by have := (HO5.out.lt q hq).1; omega)
      case measure => simp [intOf]; omega
    · obtain rfl : k = f.vals.length := by omega
      have hLe : L = f.vals.map (applyV x) := by rw [HL.out, List.take_of_length_le (Nat.le_refl _)]
      have m0 := (hlo (w.heap.size + 1 + 1) 0 (by omega)).trans R0.out
      have m1 := (hlo (w.heap.size + 1 + 1) 1 (by omega)).trans R1.out
      have mz : ∀ o, wr.frozen? ⟨w.heap.size + 1 + 1, o, none⟩ = false := fun o => ((hC.frozen (o := o) (show w.heap.size + 1 + 1 < _ by rw [HSZ.out]; omega) (by omega)).trans (HAL.out.frozen (p := ⟨w.heap.size + 1 + 1, o, none⟩) (by show w.heap.size + 1 + 1 < Y; omega))).trans (RZ o).out
      have HwW := Lib.hid hwW
      have HLe := Lib.hid hLe
      have HST : ∀ u1 u2, Chg (Mid (w.heap.size + 1 + 1) (w.heap.size + 1 + 1 + 1)) wr ((wr.setCell ⟨w.heap.size + 1 + 1, 0, none⟩ u1).setCell ⟨w.heap.size + 1 + 1, 1, none⟩ u2) := fun u1 u2 => ((Chg.refl _ wr).setCell (p := ⟨w.heap.size + 1 + 1, 0, none⟩) (show w.heap.size + 1 + 1 ≤ w.heap.size + 1 + 1 ∧ w.heap.size + 1 + 1 < w.heap.size + 1 + 1 + 1 by omega) _).setCell (p := ⟨w.heap.size + 1 + 1, 1, none⟩) (show w.heap.size + 1 + 1 ≤ w.heap.size + 1 + 1 ∧ w.heap.size + 1 + 1 < w.heap.size + 1 + 1 + 1 by omega) _
      clear hC hwW hlo hLe hLl
      go_wp2
      refine bodyPost_ret (v := .agg #[.int .i64 f.rel, .slice P4 L.length c4]) (by simp [results, Tryz.results140, go_sem, m0, m1]) rfl ⟨_, rfl, ⟨_, rfl, ?_⟩, ?_⟩
      · show IntS_own _ _ _ (f.vals.map (applyV x)) _
        rw [← HLe.out]
        exact (IntS_own.chg (IntsO.of HO.out) (HST _ _) (.inr (by omega))).mono (by omega) (by simp [World.setCell])
      · exact (HwW.out.setCell (p := ⟨w.heap.size + 1 + 1, 0, none⟩) (by show w.heap.size ≤ w.heap.size + 1 + 1; omega) _).setCell (p := ⟨w.heap.size + 1 + 1, 1, none⟩) (by show w.heap.size ≤ w.heap.size + 1 + 1; omega) _
def ApplyToFact_r0 (x : Sbst) (f : Fct) : Fct := applyF x f
theorem specApplyToFact_c (v : Value) (x : Sbst) (u : Value) (f : Fct) (w : World) (h : Substitution_at w w.heap.size v x) (hw : Substitution_wf x) (_ : Substitution_sz x ≤ 1048576) (h' : Fact_at w w.heap.size u f) (_ : Fact_wf f) (hn : Fact_sz f ≤ 1048576) :
    Calls Tryz.prog 140 #[v, u] w fun e w' => ∃ r, e = .returned r ∧ Fact_at w' w'.heap.size r (ApplyToFact_r0 x f) ∧ Below w.heap.size w w' :=
  (specApplyToFact_any v u x f w h hw h' hn).mono fun _ _ ⟨r, he, ho, hb⟩ => ⟨r, he, ho.at_ (Nat.le_refl _), hb⟩
theorem specApplyToFact_o (v : Value) (x : Sbst) (u : Value) (f : Fct) (w : World) (h : Substitution_at w w.heap.size v x) (hw : Substitution_wf x) (_ : Substitution_sz x ≤ 1048576) (h' : Fact_at w w.heap.size u f) (_ : Fact_wf f) (hn : Fact_sz f ≤ 1048576) :
    Calls Tryz.prog 140 #[v, u] w fun e w' => ∃ r, e = .returned r ∧ Fact_own w.heap.size w'.heap.size r (ApplyToFact_r0 x f) w' ∧ Below w.heap.size w w' := specApplyToFact_any v u x f w h hw h' hn

end Go.Proofs.YtmecdjincmkofaaGreatDoor
