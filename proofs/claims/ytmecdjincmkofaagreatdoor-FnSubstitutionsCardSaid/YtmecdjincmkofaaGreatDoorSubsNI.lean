/-
  Walks and plain lemmas for the laws of this seat: what single Go functions return, for every argument.
-/
import Derived.Test.YtmecdjincmkofaaGreatDoorRels
import Derived.Test.YtmecdjincmkofaaGreatDoorPlan
import Derived.Test.YtmecdjincmkofaaGreatDoorTyInst
import Derived.Test.YtmecdjincmkofaaGreatDoorTakeE
import Derived.Test.YtmecdjincmkofaaGreatDoorMInst
import Derived.Test.YtmecdjincmkofaaGreatDoorMSub
import Derived.Test.YtmecdjincmkofaaGreatDoorSubsVI
import Derived.Test.YtmecdjincmkofaaGreatDoorValInI
import Derived.Test.YtmecdjincmkofaaGreatDoorCpF
namespace Go.Proofs.YtmecdjincmkofaaGreatDoor
open Go.RowKit Go.Sort Go.Lib Go.Shelf

set_option maxHeartbeats 6400000 in
set_option maxRecDepth 100000 in
theorem implApplyToInstance_any (v u : Value) (s : Sbst) (x : Inst) (w : World) (h : Substitution_at w w.heap.size v s) (hw : Substitution_wf s) (h' : Instance_at w w.heap.size u x) (hw' : Instance_wf x) (hn : Instance_sz x ≤ 1048576) :
    Calls Tryz.prog 61 #[v, u] w (GivesApp s x w) := by
  obtain ⟨P, c, Q, d, rfl⟩ := Substitution_form h
  obtain ⟨P', c', Q', d', rfl⟩ := Instance_form h'
  have HX := Lib.hid h
  have HY := Lib.hid h'
  obtain ⟨V1, V2, hv, hR, hF⟩ := h'
  simp only [Value.agg.injEq, Array.mk.injEq, List.cons.injEq, and_true] at hv
  obtain ⟨rfl, rfl⟩ := hv
  have hFf := hF.form
  obtain ⟨_, _, hv2, hd1, hd2⟩ := hFf
  injection hv2 with e1 _ e2
  subst e1 e2
  unfold maxLen at hd2
  have HA := Lib.hid (show P' = none → c' = 0 by obtain ⟨A', c', hv, _, _, _, hA⟩ := hR; injection hv with e1 _ e2; subst e1 e2; exact hA)
  have HF := Lib.hid hF
  have HR := Lib.hid hR
  have hrl : x.rels.length ≤ 1048576 := by unfold Instance_sz RelationS_sz at hn; omega
  clear h hR hF
  obtain ⟨E, hEq⟩ : ∃ E, E = ((w.alloc (.cells #[.slice P s.nulls.length c, .slice Q s.vals.length d] 81)).alloc (.cells #[.slice P' x.rels.length c', .slice Q' x.facts.length d'] 40)).alloc (.cells #[.slice none 0 0, .slice none 0 0] 40) := ⟨_, rfl⟩
  have hE : Below w.heap.size w E := by rw [hEq]; exact below_more (below_more (below_more (Below.refl _ _) _) _) _
  have HEz := Lib.hid (show w.heap.size + 3 = E.heap.size by rw [hEq]; simp)
  have S0 := Lib.hid (show E.cell? ⟨w.heap.size, 0, none⟩ = some (.slice P s.nulls.length c) by rw [hEq]; simp [go_sem])
  have S1 := Lib.hid (show E.cell? ⟨w.heap.size, 1, none⟩ = some (.slice Q s.vals.length d) by rw [hEq]; simp [go_sem])
  have I0 := Lib.hid (show E.cell? ⟨w.heap.size + 1, 0, none⟩ = some (.slice P' x.rels.length c') by rw [hEq]; simp [go_sem])
  have I1 := Lib.hid (show E.cell? ⟨w.heap.size + 1, 1, none⟩ = some (.slice Q' x.facts.length d') by rw [hEq]; simp [go_sem])
  have R0 := Lib.hid (show E.cell? ⟨w.heap.size + 1 + 1, 0, none⟩ = some (.slice none 0 0) by rw [hEq]; simp [go_sem])
  have R1 := Lib.hid (show E.cell? ⟨w.heap.size + 1 + 1, 1, none⟩ = some (.slice none 0 0) by rw [hEq]; simp [go_sem])
  have RZ := fun o => Lib.hid (show E.frozen? ⟨w.heap.size + 1 + 1, o, none⟩ = false by rw [hEq]; simp [go_sem])
  have hcs := fun (bb : Bool) (hq : subOk s = bb) => implIsValidSub_at s bb hq _ E (HX.out.later hE) hw
  have hci := fun (bb : Bool) (hq : instOk x = bb) (W : World) (hb : Below w.heap.size w W) => implIsValidInstance_at x bb hq _ W (HY.out.later hb) hw'
  rw [hEq] at hcs
  cases ho : subOk s with
  | false =>
    have HV := Lib.hid (applyI_not (x := x) (.inl ho))
    replace hcs := hcs false ho
    clear ho hci
    go_enter Tryz.func61, Tryz.ntmps61
    go_wp2_with fail
    refine hcs.mono ?_
    rintro e w1 ⟨rfl, b1⟩
    rw [← hEq] at b1
    clear hEq hcs
    have r0 := (b1.cell (p := ⟨w.heap.size + 1 + 1, 0, none⟩) (by show w.heap.size + 1 + 1 < _; have := HEz.out; omega)).trans R0.out
    have r1 := (b1.cell (p := ⟨w.heap.size + 1 + 1, 1, none⟩) (by show w.heap.size + 1 + 1 < _; have := HEz.out; omega)).trans R1.out
    have r2 := fun o => (b1.frozen (p := ⟨w.heap.size + 1 + 1, o, none⟩) (by show w.heap.size + 1 + 1 < _; have := HEz.out; omega)).trans (RZ o).out
    have HWN := Lib.hid (hE.trans (b1.mono hE.size))
    go_wp2
    refine bodyPost_ret (v := .tuple #[.agg #[.slice none 0 0, .slice none 0 0], .bool false]) (by simp [results, Tryz.results61, go_sem, r0, r1]) rfl ⟨_, by unfold ApplyToInstance_ok; rw [HV.out.1], ?_, ?_⟩
    · unfold ApplyToInstance_r0
      rw [HV.out.2]; exact Instance_own.none _ _ _
    · exact (HWN.out.setCell (p := ⟨w.heap.size + 1 + 1, 0, none⟩) (by show w.heap.size ≤ w.heap.size + 1 + 1; omega) _).setCell (p := ⟨w.heap.size + 1 + 1, 1, none⟩) (by show w.heap.size ≤ w.heap.size + 1 + 1; omega) _
  | true =>
    have HO := Lib.hid ho
    replace hcs := hcs true ho
    clear ho
    cases hi : instOk x with
    | false =>
      have HV := Lib.hid (applyI_not (s := s) (.inr hi))
      replace hci := hci false hi
      clear hi
      go_enter Tryz.func61, Tryz.ntmps61
      go_wp2_with fail
      refine hcs.mono ?_
      rintro e w0 ⟨rfl, b0⟩
      rw [← hEq] at b0
      have f0 := (b0.cell (p := ⟨w.heap.size + 1, 0, none⟩) (by show w.heap.size + 1 < _; have := HEz.out; omega)).trans I0.out
      have f1 := (b0.cell (p := ⟨w.heap.size + 1, 1, none⟩) (by show w.heap.size + 1 < _; have := HEz.out; omega)).trans I1.out
      replace hci := hci w0 (hE.trans (b0.mono hE.size))
      clear hEq hcs
      go_wp2_with fail
      refine hci.mono ?_
      rintro e w1 ⟨rfl, b1'⟩
      have b1 := b0.trans (b1'.mono b0.size)
      clear f0 f1 hci b1'
      have r0 := (b1.cell (p := ⟨w.heap.size + 1 + 1, 0, none⟩) (by show w.heap.size + 1 + 1 < _; have := HEz.out; omega)).trans R0.out
      have r1 := (b1.cell (p := ⟨w.heap.size + 1 + 1, 1, none⟩) (by show w.heap.size + 1 + 1 < _; have := HEz.out; omega)).trans R1.out
      have r2 := fun o => (b1.frozen (p := ⟨w.heap.size + 1 + 1, o, none⟩) (by show w.heap.size + 1 + 1 < _; have := HEz.out; omega)).trans (RZ o).out
      have HWN := Lib.hid (hE.trans (b1.mono hE.size))
      go_wp2
      refine bodyPost_ret (v := .tuple #[.agg #[.slice none 0 0, .slice none 0 0], .bool false]) (by simp [results, Tryz.results61, go_sem, r0, r1]) rfl ⟨_, by unfold ApplyToInstance_ok; rw [HV.out.1], ?_, ?_⟩
      · unfold ApplyToInstance_r0
        rw [HV.out.2]; exact Instance_own.none _ _ _
      · exact (HWN.out.setCell (p := ⟨w.heap.size + 1 + 1, 0, none⟩) (by show w.heap.size ≤ w.heap.size + 1 + 1; omega) _).setCell (p := ⟨w.heap.size + 1 + 1, 1, none⟩) (by show w.heap.size ≤ w.heap.size + 1 + 1; omega) _
    | true =>
      have HI := Lib.hid hi
      have HV := Lib.hid (applyI_yes HO.out hi)
      have hsm := instOk_small hi
      have h30 := hsm.1
      have HSM := Lib.hid hsm.2
      replace hci := hci true hi
      clear hi hsm
      go_enter Tryz.func61, Tryz.ntmps61
      go_wp2_with fail
      refine hcs.mono ?_
      rintro e w0 ⟨rfl, b0⟩
      rw [← hEq] at b0
      have f0 := (b0.cell (p := ⟨w.heap.size + 1, 0, none⟩) (by show w.heap.size + 1 < _; have := HEz.out; omega)).trans I0.out
      have f1 := (b0.cell (p := ⟨w.heap.size + 1, 1, none⟩) (by show w.heap.size + 1 < _; have := HEz.out; omega)).trans I1.out
      replace hci := hci w0 (hE.trans (b0.mono hE.size))
      clear hEq hcs
      go_wp2_with fail
      refine hci.mono ?_
      rintro e w1 ⟨rfl, b1'⟩
      have b1 := b0.trans (b1'.mono b0.size)
      clear f0 f1 hci b1' b0
      have hz1 : w.heap.size + 3 ≤ w1.heap.size := by have h1 := b1.size; have h2 := HEz.out; omega
      have hW1 := hE.trans (b1.mono hE.size)
      have f0 := (b1.cell (p := ⟨w.heap.size + 1, 0, none⟩) (by show w.heap.size + 1 < _; have := HEz.out; omega)).trans I0.out
      have hcl := implCloneRels_any (.slice P' x.rels.length c') x.rels w1 ((SliceAt.below HR.out hW1 (Nat.le_refl _)).more hW1.size) hrl
      go_wp2_with fail
      refine hcl.mono ?_
      rintro e w2 ⟨u2, rfl, hO1, hb2⟩
      obtain ⟨P1, c1, rfl, -⟩ := id hO1.1.at_
      obtain ⟨Y, hY⟩ : ∃ Y, Y = w2.heap.size := ⟨_, rfl⟩
      have hz2 := hb2.size
      have hE2 := b1.trans (hb2.mono b1.size)
      have HE2 := Lib.hid hE2
      have HO1 := Lib.hid (show RelationS_own w1.heap.size Y (.slice P1 x.rels.length c1) x.rels w2 by rw [hY]; exact hO1)
      have y0 : (w2.alloc (.cells #[.slice P1 x.rels.length c1, .slice none 0 0] 40)).cell? ⟨Y, 0, none⟩ = some (.slice P1 x.rels.length c1) := by rw [hY]; simp [go_sem]
      have y1 : (w2.alloc (.cells #[.slice P1 x.rels.length c1, .slice none 0 0] 40)).cell? ⟨Y, 1, none⟩ = some (.slice none 0 0) := by rw [hY]; simp [go_sem]
      have yz : ∀ o, (w2.alloc (.cells #[.slice P1 x.rels.length c1, .slice none 0 0] 40)).frozen? ⟨Y, o, none⟩ = false := by intro o; rw [hY]; simp [go_sem]
      have hAl : Below Y w2 (w2.alloc (.cells #[.slice P1 x.rels.length c1, .slice none 0 0] 40)) := (Below.refl _ _).alloc (by omega) _
      have hsz : (w2.alloc (.cells #[.slice P1 x.rels.length c1, .slice none 0 0] 40)).heap.size = Y + 1 := by rw [hY]; simp
      have f1' : (w2.alloc (.cells #[.slice P1 x.rels.length c1, .slice none 0 0] 40)).cell? ⟨w.heap.size + 1, 1, none⟩ = some (.slice Q' x.facts.length d') := (hAl.cell (p := ⟨w.heap.size + 1, 1, none⟩) (by show w.heap.size + 1 < Y; omega)).trans ((hE2.cell (p := ⟨w.heap.size + 1, 1, none⟩) (by show w.heap.size + 1 < _; have := HEz.out; omega)).trans I1.out)
      clear hO1 hcl f0
      go_wp2
      rw [← hY]
      generalize w2.alloc (.cells #[.slice P1 x.rels.length c1, .slice none 0 0] 40) = W at y0 y1 yz hAl hsz f1' ⊢
      have HSZ := Lib.hid hsz
      have HAL := Lib.hid hAl
      have HY2 := Lib.hid hY
      have HW0 := Lib.hid (hE.trans ((hE2.trans (hAl.mono (by have := hE2.size; omega))).mono hE.size))
      have hwY : w.heap.size + 2 < Y := by omega
      clear hsz hAl hY hE2 hb2 hz2 b1 hW1 f1'
      go_loopw [25] (fun i wr => ∃ k V Vs L, k ≤ x.facts.length ∧ i = .int .i64 (k : Nat) ∧ Hid (L = applyFs s (x.facts.take k)) ∧ wr.cell? ⟨Y, 0, none⟩ = some (.slice P1 x.rels.length c1) ∧ wr.cell? ⟨Y, 1, none⟩ = some V ∧ (∀ o, wr.frozen? ⟨Y, o, none⟩ = false) ∧ Hid (FactSO 57 (Y + 1) wr.heap.size V Vs L wr) ∧ Hid (Chg (fun g => g = Y) W wr)) (fun i _ => x.facts.length - (intOf i).toNat)
      case atStart => exact ⟨0, _, [], [], by omega, rfl, Lib.hid rfl, y0, y1, yz, Lib.hid ⟨rfl, World.ownsRow_nil _ _ _ _, (fun g hg => by cases hg), (fun i h => by simp at h), List.Pairwise.nil⟩, Lib.hid (Chg.refl _ _)⟩
      case round =>
        clear y0 y1 yz
        obtain ⟨k, V, Vs, L, hk, rfl, HL, y0, y1, yz, HFO, HC⟩ := hrel
        have hC := HC.out
        have hYw : Y + 1 ≤ wr.heap.size := by have h1 := hC.size; rw [HSZ.out] at h1; exact h1
        have hwW : Below w.heap.size w wr := HW0.out.trans (hC.below (fun g hg => by subst hg; omega) (by rw [HSZ.out]; omega))
        have hEY : E.heap.size ≤ Y := by have h1 := HE2.out.size; have h2 := HY2.out; omega
        have hlo : ∀ b o, b < E.heap.size → wr.cell? ⟨b, o, none⟩ = E.cell? ⟨b, o, none⟩ := fun b o hb => (hC.cell (show b < _ by rw [HSZ.out]; omega) (by omega)).trans ((HAL.out.cell (p := ⟨b, o, none⟩) (by show b < Y; omega)).trans (HE2.out.cell (p := ⟨b, o, none⟩) hb))
        have hwE : w.heap.size + 2 < E.heap.size := by have := HEz.out; omega
        have hLl : L.length = k := by rw [HL.out]; unfold applyFs; simp; omega
        have HLl := Lib.hid hLl
        obtain ⟨PV, cV, rfl, -⟩ := (HFO.out.at_ (Nat.le_refl _)).form
        by_cases hlt : k < x.facts.length
        · obtain ⟨b, off, U, rfl, hb, c0, c1', hU⟩ := FactS_at.elem (HF.out.below hwW (Nat.le_refl _)) k hlt
          obtain ⟨PU, cU, rfl, -⟩ := id hU
          have hfs : Fact_sz x.facts[k] ≤ 1048576 := by have := HSM.out _ (List.getElem_mem hlt); unfold Fact_sz; omega
          -- behind the box of the fact
          obtain ⟨W8, hW8⟩ : ∃ W8, W8 = wr.alloc (.cells #[.int .i64 x.facts[k].rel, .slice PU x.facts[k].vals.length cU] 57) := ⟨_, rfl⟩
          have hb8 : Below wr.heap.size wr W8 := by rw [hW8]; exact below_more (Below.refl _ _) _
          have hz8 : wr.heap.size + 1 = W8.heap.size := by rw [hW8]; simp
          have e0 : W8.cell? ⟨wr.heap.size, 0, none⟩ = some (.int .i64 x.facts[k].rel) := by rw [hW8]; simp [go_sem]
          have e1 : W8.cell? ⟨wr.heap.size, 1, none⟩ = some (.slice PU x.facts[k].vals.length cU) := by rw [hW8]; simp [go_sem]
          have hcon := fun wq (hq : Below W8.heap.size W8 wq) => implApplyToFact_any _ (.agg #[.int .i64 x.facts[k].rel, .slice PU x.facts[k].vals.length cU]) s x.facts[k] wq (HX.out.later (hwW.trans ((hb8.trans (hq.mono hb8.size)).mono hwW.size))) hw ⟨_, rfl, (hU.more hwW.size).later (hb8.trans (hq.mono hb8.size))⟩ (hw'.2 k hlt) hfs
          have hS : Holds [(⟨Y, 1, none⟩, .slice PV L.length cV), (⟨w.heap.size, 0, none⟩, .slice P s.nulls.length c), (⟨w.heap.size, 1, none⟩, .slice Q s.vals.length d), (⟨wr.heap.size, 0, none⟩, .int .i64 x.facts[k].rel), (⟨wr.heap.size, 1, none⟩, .slice PU x.facts[k].vals.length cU)] W8.drew := by
            intro p hp
            simp only [List.mem_cons, List.not_mem_nil, or_false] at hp
            rcases hp with rfl | rfl | rfl | rfl | rfl
            · exact (hb8.cell (p := ⟨Y, 1, none⟩) (by show Y < _; omega)).trans y1
            · exact (hb8.cell (p := ⟨w.heap.size, 0, none⟩) (by show w.heap.size < _; omega)).trans ((hlo _ 0 (by omega)).trans S0.out)
            · exact (hb8.cell (p := ⟨w.heap.size, 1, none⟩) (by show w.heap.size < _; omega)).trans ((hlo _ 1 (by omega)).trans S1.out)
            · exact e0
            · exact e1
          have hSb : ∀ p ∈ [((⟨Y, 1, none⟩ : Addr), Value.slice PV L.length cV), (⟨w.heap.size, 0, none⟩, .slice P s.nulls.length c), (⟨w.heap.size, 1, none⟩, .slice Q s.vals.length d), (⟨wr.heap.size, 0, none⟩, .int .i64 x.facts[k].rel), (⟨wr.heap.size, 1, none⟩, .slice PU x.facts[k].vals.length cU)], p.1.block < W8.heap.size := by
            intro p hp
            simp only [List.mem_cons, List.not_mem_nil, or_false] at hp
            rcases hp with rfl | rfl | rfl | rfl | rfl <;> simp <;> omega
          have hOwnNe : ∀ p ∈ [((⟨Y, 1, none⟩ : Addr), Value.slice PV L.length cV), (⟨w.heap.size, 0, none⟩, .slice P s.nulls.length c), (⟨w.heap.size, 1, none⟩, .slice Q s.vals.length d), (⟨wr.heap.size, 0, none⟩, .int .i64 x.facts[k].rel), (⟨wr.heap.size, 1, none⟩, .slice PU x.facts[k].vals.length cU)], some p.1.block ≠ (Value.slice PV L.length cV).ownBlock := by
            intro p hp he
            have h1 := (World.ownsRow.lt HFO.out.row _ he.symm).1
            have h2 := HFO.out.ins _ he.symm
            simp only [List.mem_cons, List.not_mem_nil, or_false] at hp
            rcases hp with rfl | rfl | rfl | rfl | rfl <;> simp only at h1 h2 <;> omega
          have g0 := Keep.cell (h0 := hS) (a := ⟨Y, 1, none⟩) (v := .slice PV L.length cV) (by simp)
          have g2 := Keep.cell (h0 := hS) (a := ⟨w.heap.size, 0, none⟩) (v := .slice P s.nulls.length c) (by simp)
          have g3 := Keep.cell (h0 := hS) (a := ⟨w.heap.size, 1, none⟩) (v := .slice Q s.vals.length d) (by simp)
          have g5 := Keep.cell (h0 := hS) (a := ⟨wr.heap.size, 0, none⟩) (v := .int .i64 x.facts[k].rel) (by simp)
          have g6 := Keep.cell (h0 := hS) (a := ⟨wr.heap.size, 1, none⟩) (v := .slice PU x.facts[k].vals.length cU) (by simp)
          have HX2 := Lib.hid hcon
          have HN := Lib.hid (applyFs_take s x.facts k hlt)
          have fr1 := (hlo (w.heap.size + 1) 1 (by omega)).trans I1.out
          have HZ8 := Lib.hid hz8
          have HB8 := Lib.hid hb8
          clear hcon hC hU hfs hLl hz8 e0 e1
          go_wp2_with fail
          rw [← hW8]
          clear hW8 fr1
          generalize applyF s x.facts[k] = G at *
          refine wp_region_planL (C := fun w' => ∃ u : Keep _ W8.drew hS, w' = u.now) (.still 0 (.still 1 (.still 2 (.still 3 (.move true 4 (.move true 5 (.move true 6 (.still 7 (.move false 8 .done .none)) .none) .none) .none))))) (by kernel_rfl) (by kernel_rfl) (by kernel_rfl) (fun _ => ⟨⟨_, hS⟩, rfl⟩) ?_
          iterate 4
            refine plan_look _ rfl rfl ?_
            go_big_quiet_step (fail)
            refine wpQuiet_nil ?_
          refine plan_call _ 136 _ _ _ _ _ rfl _ Tryz.func136 (by kernel_rfl) (by kernel_rfl) ?_ True.intro
          refine (HX2.out W8.drew (Below.refl _ _).drew).mono ?_
          rintro _ w3 ⟨r3, rfl, ⟨U3, rfl, hU3⟩, hb3⟩
          have hb3' : Below W8.heap.size W8 w3 := (Below.refl _ _).drew.trans hb3
          refine ⟨_, rfl, fun _ => ⟨⟨_, hS.below hb3 hSb⟩, rfl⟩, ?_⟩
          refine plan_put ?_ (by simp only [Act.put, List.setIfInBounds_toArray, List.set_cons_succ, List.set_cons_zero]; rfl)
          have hz3 := hb3'.size
          obtain ⟨P3, c3, rfl, -⟩ := hU3.1.at_
          have hbr3 : Below wr.heap.size wr w3 := HB8.out.trans (hb3'.mono HB8.out.size)
          have HB3 := Lib.hid hb3'
          have HD3 := Lib.hid hb3
          have HBR3 := Lib.hid hbr3
          have HU3 := Lib.hid hU3
          have hw8 : wr.heap.size + 1 = W8.heap.size := HZ8.out
          clear hb3 hb3' hU3 hbr3
          have hK : ∀ wq, Below W8.heap.size W8.drew wq → Holds _ wq := fun wq hq => hS.below hq hSb
          refine plan_value (u := .slice (some ⟨w3.heap.size, 0, none⟩) 1 1) (w' := w3.alloc (.cells #[.int .i64 G.rel, .slice P3 G.vals.length c3] 57)) _ rfl rfl rfl (by simp [go_sem]) (fun _ => ⟨⟨_, hK _ (HD3.out.alloc (by show W8.drew.heap.size ≤ _; exact hz3) _)⟩, rfl⟩) ?_ True.intro
          refine plan_put ?_ (by simp only [Act.put, List.setIfInBounds_toArray, List.set_cons_succ, List.set_cons_zero]; rfl)
          have HO3 := Lib.hid ((HFO.out.below HBR3.out (Nat.le_refl _)).below ((Below.refl w3.heap.size w3).alloc (Nat.le_refl _) (.cells #[.int .i64 G.rel, .slice P3 G.vals.length c3] 57)) (by omega))
          have hVl := HFO.out.len
          have hr : SliceAt pairCells (w3.alloc (.cells #[.int .i64 G.rel, .slice P3 G.vals.length c3] 57)) (w3.heap.size + 1) (.slice (some ⟨w3.heap.size, 0, none⟩) [(G.rel, Value.slice P3 G.vals.length c3)].length 1) [(G.rel, Value.slice P3 G.vals.length c3)] := by
            refine ⟨_, _, rfl, Nat.le_refl _, by simp [maxLen], ?_, fun h => by cases h⟩
            intro _
            refine ⟨_, _, rfl, by omega, ?_⟩
            intro j u hu
            rw [Nat.zero_add, box_cell]
            simpa [pairCells] using hu
          refine plan_app pairCells 2 32 (r := [(G.rel, Value.slice P3 G.vals.length c3)]) (fun p hp u hu => by simp only [List.mem_singleton] at hp; subst hp; simp [pairCells] at hu; rcases hu with rfl | rfl <;> rfl) pairCells_len _ rfl rfl Tryz.underlying38 infoFct rfl (by decide) HO3.out.row _ _ rfl rfl ⟨w3.heap.size, 0, none⟩ 1 1 rfl rfl hr (by have := pairs_len hVl; have := HLl.out; simp at *; omega) (by have := pairs_len hVl; have := HLl.out; simp at *; omega) (by simp; omega) ?_ True.intro
          intro v4 w4 hrow hB4 hg4 _
          have hbA : Below (Y + 1) wr w4 := ((HBR3.out.mono hYw).alloc (by omega) _).trans hB4
          have hbD : Below (Y + 1) W8.drew w4 := ((HD3.out.mono (by show Y + 1 ≤ W8.heap.size; omega)).alloc (by omega) _).trans hB4
          have hz4 : w3.heap.size + 1 ≤ w4.heap.size := by have := hB4.size; simpa using this
          have hFS := FactSO.snoc (e := 57) (by decide) (x := G) (C' := w4.heap.size) HO3.out (by omega) hrow hg4 (row_inside hrow (Nat.le_refl _)) ((HU3.out.below ((Below.refl w3.heap.size w3).alloc (Nat.le_refl _) _) (Nat.le_refl _)).mono (by show Y + 1 ≤ W8.heap.size; omega) (by omega)) (fun i hi g h1 h2 => by
            have q1 : W8.heap.size ≤ g := (HU3.out.1.lt g h2).1
            have q2 := (HFO.out.el i (by have := HFO.out.len; omega) hi).2 g h1
            omega)
          obtain ⟨P4, c4, rfl, -⟩ := (hFS.at_ (Nat.le_refl _)).form
          have z0 := (hbA.cell (p := ⟨Y, 0, none⟩) (Nat.lt_succ_self _)).trans y0
          have z1 := (hbA.cell (p := ⟨Y, 1, none⟩) (Nat.lt_succ_self _)).trans y1
          have zz := fun o => (hbA.frozen (p := ⟨Y, o, none⟩) (Nat.lt_succ_self _)).trans (yz o)
          have HFS := Lib.hid hFS
          have HBA := Lib.hid hbA
          have hKD : Holds _ w4 := fun p hp => by
            have h1 := hSb p hp
            have h2 := (hK _ (HD3.out.alloc (by show W8.drew.heap.size ≤ _; exact hz3) (.cells #[.int .i64 G.rel, .slice P3 G.vals.length c3] 57))) p hp
            exact (World.cell?_of_block (w := w3.alloc (.cells #[.int .i64 G.rel, .slice P3 G.vals.length c3] 57)) (a := p.1) (hg4.block p.1.block (by simp; omega) (hOwnNe p hp))).trans h2
          refine ⟨fun _ => ⟨⟨_, hKD⟩, rfl⟩, ?_⟩
          clear hFS hbA hbD hrow hB4 hg4 hr hK g0 g2 g3 g5 g6 hVl y0 y1 yz c0 c1'
          refine plan_put ?_ (by simp only [Act.put, List.setIfInBounds_toArray, List.set_cons_succ, List.set_cons_zero]; rfl)
          refine plan_look _ rfl rfl ?_
          go_big_quiet_step (fail)
          refine wpQuiet_nil ?_
          refine plan_skip (w' := w4.setCell ⟨Y, 1, none⟩ (.slice P4 (L ++ [G]).length c4)) _ rfl rfl rfl (by simp [go_sem, z1, zz]) (fun e => by cases e) ?_ True.intro
          refine plan_put ?_ (by simp only [Act.put]; rfl)
          refine plan_done ?_
          go_wp2
          go_roundw
          case rel =>
            exact ⟨k + 1, .slice P4 (L ++ [G]).length c4, _, L ++ [G], by omega, by go_num, Lib.hid (by rw [HN.out, HL.out]), by simp [go_sem, z0], by simp [go_sem, z1], fun o => by simp [zz], Lib.hid ((HFS.out.chg (((Chg.refl (Mid Y (Y + 1)) w4).setCell (p := ⟨Y, 1, none⟩) ⟨Nat.le_refl _, Nat.lt_succ_self _⟩ _)) (.inr (Nat.le_refl _))).mono (Nat.le_refl _) (by simp [World.setCell])), Lib.hid ((HC.out.then_below (by rw [HSZ.out]; exact HBA.out)).setCell (p := ⟨Y, 1, none⟩) rfl _)⟩
          case measure => simp [intOf]; omega
        · obtain rfl : k = x.facts.length := by omega
          have hLe : L = applyFs s x.facts := by rw [HL.out, List.take_of_length_le (Nat.le_refl _)]
          have hsrt := implSortFacts_any L (Y + 1) wr.heap.size _ Vs wr (by omega) (Nat.le_refl _) HFO.out
          have HLe := Lib.hid hLe
          have HwW := Lib.hid hwW
          have HLO := Lib.hid hlo
          clear hLe hwW hlo hC hLl
          go_wp2_with fail
          refine hsrt.mono ?_
          rintro e w5 ⟨rfl, Us, R, hO5, hR1, hR2, hR3, hC5⟩
          have hin5 : ∀ g, (Value.slice PV L.length cV).ownBlock = some g → Y + 1 ≤ g := fun g hg => (World.ownsRow.lt HFO.out.row g hg).1
          have hb5 : Below (Y + 1) wr w5 := hC5.below hin5 hYw
          have hz5 := hb5.size
          have x1 := (hb5.cell (p := ⟨Y, 1, none⟩) (Nat.lt_succ_self _)).trans y1
          have x0 := (hb5.cell (p := ⟨Y, 0, none⟩) (Nat.lt_succ_self _)).trans y0
          have xz := fun o => (hb5.frozen (p := ⟨Y, o, none⟩) (Nat.lt_succ_self _)).trans (yz o)
          have hcmp := implCompactFacts_any R (Y + 1) wr.heap.size _ Us w5 (by have := HLl.out; omega) hz5 hO5
          have hcp : cpAll eqF R = putAll (applyFs s x.facts) := by rw [← HLe.out]; exact cp_sorted hR2 hR3
          rw [hcp] at hcmp
          have hin6 := fun g hg => (World.ownsRow.lt hO5.row g hg).1
          have HB5 := Lib.hid hb5
          clear hsrt y0 y1 yz hO5 hR1 hR2 hR3 hC5 hcp
          go_wp2_with fail
          refine hcmp.mono ?_
          rintro e w6 ⟨u6, Ts, rfl, hO6, hC6⟩
          have hb6 : Below (Y + 1) w5 w6 := hC6.below hin6 (by omega)
          have hz6 := hb6.size
          have y0 := (hb6.cell (p := ⟨Y, 0, none⟩) (Nat.lt_succ_self _)).trans x0
          have y1 := (hb6.cell (p := ⟨Y, 1, none⟩) (Nat.lt_succ_self _)).trans x1
          have yz := fun o => (hb6.frozen (p := ⟨Y, o, none⟩) (Nat.lt_succ_self _)).trans (xz o)
          have hb56 := HB5.out.trans hb6
          have r0 := (hb56.cell (p := ⟨w.heap.size + 1 + 1, 0, none⟩) (by show w.heap.size + 1 + 1 < _; omega)).trans ((HLO.out _ 0 (by omega)).trans R0.out)
          have r1 := (hb56.cell (p := ⟨w.heap.size + 1 + 1, 1, none⟩) (by show w.heap.size + 1 + 1 < _; omega)).trans ((HLO.out _ 1 (by omega)).trans R1.out)
          have r2 := fun o => (hb56.frozen (p := ⟨w.heap.size + 1 + 1, o, none⟩) (by show w.heap.size + 1 + 1 < _; omega)).trans (((HC.out.frozen (o := o) (show w.heap.size + 1 + 1 < _ by rw [HSZ.out]; omega) (by omega)).trans ((HAL.out.frozen (p := ⟨w.heap.size + 1 + 1, o, none⟩) (by show w.heap.size + 1 + 1 < Y; omega)).trans (HE2.out.frozen (p := ⟨w.heap.size + 1 + 1, o, none⟩) (by show w.heap.size + 1 + 1 < _; omega)))).trans (RZ o).out)
          have hO6n : ∃ P6 c6, u6 = .slice P6 (putAll (applyFs s x.facts)).length c6 := by obtain ⟨A, c, h, _⟩ := (hO6.at_ (Nat.le_refl _)).form; exact ⟨A, c, h⟩
          obtain ⟨P6, c6, rfl⟩ := hO6n
          have hRel6 : RelationS_own w1.heap.size Y (.slice P1 x.rels.length c1) x.rels w6 := ((((HO1.out.below HAL.out (Nat.le_refl _)).chg (B' := Y) (C' := Y + 1) (HC.out.mono fun g hg => by subst hg; exact ⟨Nat.le_refl _, Nat.lt_succ_self _⟩) (.inl (Nat.le_refl _))).below HB5.out (by omega)).below hb6 (by omega))
          have HO6 := Lib.hid hO6
          have HREL := Lib.hid hRel6
          have HW6 := Lib.hid (HwW.out.trans (hb56.mono (by omega)))
          have HST : ∀ u0 u1 u2, Chg (fun g => g = Y ∨ g = w.heap.size + 1 + 1) w6 (((w6.setCell ⟨Y, 1, none⟩ u0).setCell ⟨w.heap.size + 1 + 1, 0, none⟩ u1).setCell ⟨w.heap.size + 1 + 1, 1, none⟩ u2) := fun u0 u1 u2 => (((Chg.refl _ w6).setCell (p := ⟨Y, 1, none⟩) (.inl rfl) _).setCell (p := ⟨w.heap.size + 1 + 1, 0, none⟩) (.inr rfl) _).setCell (p := ⟨w.heap.size + 1 + 1, 1, none⟩) (.inr rfl) _
          clear hO6 hC6 hb6 hb56 hRel6 hcmp x0 x1 xz hin5 hin6
          go_wp2
          refine bodyPost_ret (v := .tuple #[.agg #[.slice P1 x.rels.length c1, .slice P6 (putAll (applyFs s x.facts)).length c6], .bool true]) (by simp [results, Tryz.results61, go_sem, r0, r1]) rfl ⟨_, by unfold ApplyToInstance_ok; rw [HV.out.1], ?_, ?_⟩
          · unfold ApplyToInstance_r0
            rw [HV.out.2]
            refine ⟨_, _, rfl, ?_, ⟨Ts, ?_⟩⟩
            · exact (HREL.out.chgS (HST _ _ _) (fun k hk => by rcases hk with rfl | rfl <;> omega)).mono (by omega) (by simp [World.setCell]; omega)
            · exact (HO6.out.chgS (HST _ _ _) (fun k hk => by rcases hk with rfl | rfl <;> omega)).mono (by omega) (by simp [World.setCell]; omega)
          · exact HW6.out.trans ((HST _ _ _).below (fun g hg => by rcases hg with rfl | rfl <;> omega) HW6.out.size)
theorem implApplyToInstance_c (v : Value) (s : Sbst) (u : Value) (x : Inst) (w : World) (h : Substitution_at w w.heap.size v s) (hw : Substitution_wf s) (_ : Substitution_sz s ≤ 1048576) (h' : Instance_at w w.heap.size u x) (hw' : Instance_wf x) (hn : Instance_sz x ≤ 1048576) :
    Calls Tryz.prog 61 #[v, u] w fun e w' => ∃ r0, e = .returned (.tuple #[r0, .bool (ApplyToInstance_ok s x)]) ∧ Instance_own w.heap.size w'.heap.size r0 (ApplyToInstance_r0 s x) w' ∧ Instance_sz (ApplyToInstance_r0 s x) ≤ 1048576 ∧ Below w.heap.size w w' :=
  (implApplyToInstance_any v u s x w h hw h' hw' hn).mono fun _ _ ⟨r, he, ho, hb⟩ => ⟨r, he, ho, applyI_szAll s x, hb⟩

end Go.Proofs.YtmecdjincmkofaaGreatDoor
