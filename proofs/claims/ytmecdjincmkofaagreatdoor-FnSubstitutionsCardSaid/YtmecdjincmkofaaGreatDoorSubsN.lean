/-
  Walks and plain lemmas for the laws of this seat: what single Go functions return, for every argument.
-/
import Derived.Deep.Quiet
import Derived.Test.YtmecdjincmkofaaGreatDoorRels
import Derived.Test.YtmecdjincmkofaaGreatDoorTyInst
import Derived.Test.YtmecdjincmkofaaGreatDoorInstCp
import Derived.Test.YtmecdjincmkofaaGreatDoorInstU
import Derived.Test.YtmecdjincmkofaaGreatDoorInstU2
import Derived.Test.YtmecdjincmkofaaGreatDoorMSub
import Derived.Test.YtmecdjincmkofaaGreatDoorSubsF
import Derived.Test.YtmecdjincmkofaaGreatDoorInstV
namespace Go.Proofs.YtmecdjincmkofaaGreatDoor
open Go.RowKit

set_option maxHeartbeats 6400000 in
set_option maxRecDepth 100000 in
theorem specApplyToInstance_any (v u : Value) (s : Sbst) (x : Inst) (w : World) (h : Substitution_at w w.heap.size v s) (hw : Substitution_wf s) (h' : Instance_at w w.heap.size u x) (hw' : Instance_wf x) (hn : Instance_sz x ≤ 1048576) :
    Calls Tryz.prog 62 #[v, u] w (GivesApp s x w) := by
  obtain ⟨P, c, Q, d, rfl⟩ := Substitution_form h
  obtain ⟨P', c', Q', d', rfl⟩ := Instance_form h'
  have HX := Lib.hid h
  have HY := Lib.hid h'
  obtain ⟨V1, V2, hv, hR, hF⟩ := h'
  simp only [Value.agg.injEq, Array.mk.injEq, List.cons.injEq, and_true] at hv
  obtain ⟨rfl, rfl⟩ := hv
  have hFf := hF.form
  obtain ⟨_, _, hv2, hd1, hd2⟩ := hFf
  injection hv2 with e1 _ e2
  subst e1 e2
  unfold maxLen at hd2
  have HA := Lib.hid (show P' = none → c' = 0 by obtain ⟨A', c', hv, _, _, _, hA⟩ := hR; injection hv with e1 _ e2; subst e1 e2; exact hA)
  have HF := Lib.hid hF
  have HR := Lib.hid hR
  have hrl : x.rels.length ≤ 1048576 := by unfold Instance_sz RelationS_sz at hn; omega
  clear h hR hF
  obtain ⟨E, hEq⟩ : ∃ E, E = ((w.alloc (.cells #[.slice P s.nulls.length c, .slice Q s.vals.length d] 81)).alloc (.cells #[.slice P' x.rels.length c', .slice Q' x.facts.length d'] 40)).alloc (.cells #[.slice none 0 0, .slice none 0 0] 40) := ⟨_, rfl⟩
  have hE : Below w.heap.size w E := by rw [hEq]; exact below_more (below_more (below_more (Below.refl _ _) _) _) _
  have HEz := Lib.hid (show w.heap.size + 3 = E.heap.size by rw [hEq]; simp)
  have S0 := Lib.hid (show E.cell? ⟨w.heap.size, 0, none⟩ = some (.slice P s.nulls.length c) by rw [hEq]; simp [go_sem])
  have S1 := Lib.hid (show E.cell? ⟨w.heap.size, 1, none⟩ = some (.slice Q s.vals.length d) by rw [hEq]; simp [go_sem])
  have I0 := Lib.hid (show E.cell? ⟨w.heap.size + 1, 0, none⟩ = some (.slice P' x.rels.length c') by rw [hEq]; simp [go_sem])
  have I1 := Lib.hid (show E.cell? ⟨w.heap.size + 1, 1, none⟩ = some (.slice Q' x.facts.length d') by rw [hEq]; simp [go_sem])
  have R0 := Lib.hid (show E.cell? ⟨w.heap.size + 1 + 1, 0, none⟩ = some (.slice none 0 0) by rw [hEq]; simp [go_sem])
  have R1 := Lib.hid (show E.cell? ⟨w.heap.size + 1 + 1, 1, none⟩ = some (.slice none 0 0) by rw [hEq]; simp [go_sem])
  have RZ := fun o => Lib.hid (show E.frozen? ⟨w.heap.size + 1 + 1, o, none⟩ = false by rw [hEq]; simp [go_sem])
  have hcs := fun (bb : Bool) (hq : subOk s = bb) => specIsValidSub_at s bb hq _ E (HX.out.later hE) hw
  have hci := fun (bb : Bool) (hq : instOk x = bb) (W : World) (hb : Below w.heap.size w W) => specIsValidInstance_at x bb hq _ W (HY.out.later hb) hw' hn
  rw [hEq] at hcs
  cases ho : subOk s with
  | false =>
    have HV := Lib.hid (applyI_not (x := x) (.inl ho))
    replace hcs := hcs false ho
    clear ho hci
    go_enter Tryz.func62, Tryz.ntmps62
    go_wp2_with fail
    refine hcs.mono ?_
    rintro e w1 ⟨rfl, b1⟩
    rw [← hEq] at b1
    clear hEq hcs
    have r0 := (b1.cell (p := ⟨w.heap.size + 1 + 1, 0, none⟩) (by show w.heap.size + 1 + 1 < _; have := HEz.out; omega)).trans R0.out
    have r1 := (b1.cell (p := ⟨w.heap.size + 1 + 1, 1, none⟩) (by show w.heap.size + 1 + 1 < _; have := HEz.out; omega)).trans R1.out
    have r2 := fun o => (b1.frozen (p := ⟨w.heap.size + 1 + 1, o, none⟩) (by show w.heap.size + 1 + 1 < _; have := HEz.out; omega)).trans (RZ o).out
    have HWN := Lib.hid (hE.trans (b1.mono hE.size))
    go_wp2
    refine bodyPost_ret (v := .tuple #[.agg #[.slice none 0 0, .slice none 0 0], .bool false]) (by simp [results, Tryz.results62, go_sem, r0, r1]) rfl ⟨_, by unfold ApplyToInstance_ok; rw [HV.out.1], ?_, ?_⟩
    · unfold ApplyToInstance_r0
      rw [HV.out.2]; exact Instance_own.none _ _ _
    · exact (HWN.out.setCell (p := ⟨w.heap.size + 1 + 1, 0, none⟩) (by show w.heap.size ≤ w.heap.size + 1 + 1; omega) _).setCell (p := ⟨w.heap.size + 1 + 1, 1, none⟩) (by show w.heap.size ≤ w.heap.size + 1 + 1; omega) _
  | true =>
    have HO := Lib.hid ho
    replace hcs := hcs true ho
    clear ho
    cases hi : instOk x with
    | false =>
      have HV := Lib.hid (applyI_not (s := s) (.inr hi))
      replace hci := hci false hi
      clear hi
      go_enter Tryz.func62, Tryz.ntmps62
      go_wp2_with fail
      refine hcs.mono ?_
      rintro e w0 ⟨rfl, b0⟩
      rw [← hEq] at b0
      have f0 := (b0.cell (p := ⟨w.heap.size + 1, 0, none⟩) (by show w.heap.size + 1 < _; have := HEz.out; omega)).trans I0.out
      have f1 := (b0.cell (p := ⟨w.heap.size + 1, 1, none⟩) (by show w.heap.size + 1 < _; have := HEz.out; omega)).trans I1.out
      replace hci := hci w0 (hE.trans (b0.mono hE.size))
      clear hEq hcs
      go_wp2_with fail
      refine hci.mono ?_
      rintro e w1 ⟨rfl, b1'⟩
      have b1 := b0.trans (b1'.mono b0.size)
      clear f0 f1 hci b1'
      have r0 := (b1.cell (p := ⟨w.heap.size + 1 + 1, 0, none⟩) (by show w.heap.size + 1 + 1 < _; have := HEz.out; omega)).trans R0.out
      have r1 := (b1.cell (p := ⟨w.heap.size + 1 + 1, 1, none⟩) (by show w.heap.size + 1 + 1 < _; have := HEz.out; omega)).trans R1.out
      have r2 := fun o => (b1.frozen (p := ⟨w.heap.size + 1 + 1, o, none⟩) (by show w.heap.size + 1 + 1 < _; have := HEz.out; omega)).trans (RZ o).out
      have HWN := Lib.hid (hE.trans (b1.mono hE.size))
      go_wp2
      refine bodyPost_ret (v := .tuple #[.agg #[.slice none 0 0, .slice none 0 0], .bool false]) (by simp [results, Tryz.results62, go_sem, r0, r1]) rfl ⟨_, by unfold ApplyToInstance_ok; rw [HV.out.1], ?_, ?_⟩
      · unfold ApplyToInstance_r0
        rw [HV.out.2]; exact Instance_own.none _ _ _
      · exact (HWN.out.setCell (p := ⟨w.heap.size + 1 + 1, 0, none⟩) (by show w.heap.size ≤ w.heap.size + 1 + 1; omega) _).setCell (p := ⟨w.heap.size + 1 + 1, 1, none⟩) (by show w.heap.size ≤ w.heap.size + 1 + 1; omega) _
    | true =>
      have HI := Lib.hid hi
      have HV := Lib.hid (applyI_yes HO.out hi)
      have hsm := instOk_small hi
      have h30 := hsm.1
      have HSM := Lib.hid hsm.2
      replace hci := hci true hi
      clear hi hsm
      go_enter Tryz.func62, Tryz.ntmps62
      go_wp2_with fail
      refine hcs.mono ?_
      rintro e w0 ⟨rfl, b0⟩
      rw [← hEq] at b0
      have f0 := (b0.cell (p := ⟨w.heap.size + 1, 0, none⟩) (by show w.heap.size + 1 < _; have := HEz.out; omega)).trans I0.out
      have f1 := (b0.cell (p := ⟨w.heap.size + 1, 1, none⟩) (by show w.heap.size + 1 < _; have := HEz.out; omega)).trans I1.out
      replace hci := hci w0 (hE.trans (b0.mono hE.size))
      clear hEq hcs
      go_wp2_with fail
      refine hci.mono ?_
      rintro e w1 ⟨rfl, b1'⟩
      have b1 := b0.trans (b1'.mono b0.size)
      clear f0 f1 hci b1' b0
      have hz1 : w.heap.size + 3 ≤ w1.heap.size := by have h1 := b1.size; have h2 := HEz.out; omega
      have hW1 := hE.trans (b1.mono hE.size)
      have g0 : (w1.alloc (.cells #[] 113)).cell? ⟨w.heap.size + 1, 0, none⟩ = some (.slice P' x.rels.length c') := (((Below.refl w1.heap.size w1).alloc (Nat.le_refl _) _).cell (p := ⟨w.heap.size + 1, 0, none⟩) (by show w.heap.size + 1 < _; omega)).trans ((b1.cell (p := ⟨w.heap.size + 1, 0, none⟩) (by show w.heap.size + 1 < _; have := HEz.out; omega)).trans I0.out)
      have HRE := Lib.hid ((HR.out.below hW1 (Nat.le_refl _)).below ((Below.refl w1.heap.size w1).alloc (Nat.le_refl _) (.cells #[] 113)) hW1.size)
      have HOE := Lib.hid (OwnRels.empty w1 w1.heap.size (Nat.le_refl _))
      go_wp2_with (at_builtin; refine rels_apps (r := x.rels) HOE.out rfl _ _ rfl (by simp [go_sem]) P' x.rels.length c' rfl rfl HRE.out HA.out (by simp; omega) (by simp) ?_; intro v2 w2 hO1 hB2 _ _; obtain ⟨P1, c1, hv1, -⟩ := hO1.at_; simp only [List.nil_append] at hv1; subst hv1)
      obtain ⟨Y, hY⟩ : ∃ Y, Y = w2.heap.size := ⟨_, rfl⟩
      have hb2 : Below w1.heap.size w1 w2 := ((Below.refl _ _).alloc (Nat.le_refl _) (.cells #[] 113)).trans hB2
      have hz2 := hb2.size
      have hE2 := b1.trans (hb2.mono b1.size)
      have HE2 := Lib.hid hE2
      have HO1 := Lib.hid (show RelationS_own w1.heap.size Y (.slice P1 x.rels.length c1) x.rels w2 from ⟨by simpa using hO1, row_inside hO1 (by omega)⟩)
      have y0 : (w2.alloc (.cells #[.slice P1 x.rels.length c1, .slice none 0 0] 40)).cell? ⟨Y, 0, none⟩ = some (.slice P1 x.rels.length c1) := by rw [hY]; simp [go_sem]
      have y1 : (w2.alloc (.cells #[.slice P1 x.rels.length c1, .slice none 0 0] 40)).cell? ⟨Y, 1, none⟩ = some (.slice none 0 0) := by rw [hY]; simp [go_sem]
      have yz : ∀ o, (w2.alloc (.cells #[.slice P1 x.rels.length c1, .slice none 0 0] 40)).frozen? ⟨Y, o, none⟩ = false := by intro o; rw [hY]; simp [go_sem]
      have yA : AllSl (w2.alloc (.cells #[.slice P1 x.rels.length c1, .slice none 0 0] 40)) Y := by
        intro o q hq
        rw [hY, box_cell] at hq
        rcases o with _ | _ | o
        · exact ⟨_, _, _, (Option.some.inj hq).symm⟩
        · exact ⟨_, _, _, (Option.some.inj hq).symm⟩
        · simp at hq
      have hAl : Below Y w2 (w2.alloc (.cells #[.slice P1 x.rels.length c1, .slice none 0 0] 40)) := (Below.refl _ _).alloc (by omega) _
      have hsz : (w2.alloc (.cells #[.slice P1 x.rels.length c1, .slice none 0 0] 40)).heap.size = Y + 1 := by rw [hY]; simp
      have hst : Instance_at (w2.alloc (.cells #[.slice P1 x.rels.length c1, .slice none 0 0] 40)) (Y + 1) (.agg #[.slice P1 x.rels.length c1, .slice none 0 0]) ⟨x.rels, []⟩ := by
        refine ⟨_, _, rfl, ((HO1.out.at_ (Nat.le_refl _)).below hAl (Nat.le_refl _)).more (by omega), [], rfl, ?_, fun i h => by simp at h⟩
        exact ⟨none, 0, rfl, by simp [pairs], by decide, fun h => by simp [pairs] at h, fun _ => rfl⟩
      clear hO1 hB2 HOE HRE g0
      rw [← hY]
      generalize w2.alloc (.cells #[.slice P1 x.rels.length c1, .slice none 0 0] 40) = W at y0 y1 yz yA hAl hsz hst ⊢
      have HSZ := Lib.hid hsz
      have HAL := Lib.hid hAl
      have HY2 := Lib.hid hY
      have HW0 := Lib.hid (hE.trans ((hE2.trans (hAl.mono (by have := hE2.size; omega))).mono hE.size))
      have hwY : w.heap.size + 2 < Y := by omega
      rw [← hsz] at hst
      clear hsz hAl hY hE2 hb2 hz2 hz1 b1 hW1
      go_loopw [7] (fun i wr => ∃ k L P2 c2 Q2 d2, k ≤ x.facts.length ∧ i = .int .i64 (k : Nat) ∧ Hid (L = putAll (applyFs s (x.facts.take k))) ∧ wr.cell? ⟨Y, 0, none⟩ = some (.slice P2 x.rels.length c2) ∧ wr.cell? ⟨Y, 1, none⟩ = some (.slice Q2 L.length d2) ∧ (∀ o, wr.frozen? ⟨Y, o, none⟩ = false) ∧ Hid (AllSl wr Y) ∧ Hid (Instance_at wr wr.heap.size (.agg #[.slice P2 x.rels.length c2, .slice Q2 L.length d2]) ⟨x.rels, L⟩) ∧ Hid (k = 0 → Q2 = none ∧ d2 = 0) ∧ Hid (Chg (fun g => g = Y) W wr)) (fun i _ => x.facts.length - (intOf i).toNat)
      case atStart => exact ⟨0, [], _, _, _, _, by omega, rfl, Lib.hid rfl, y0, y1, yz, Lib.hid yA, Lib.hid hst, Lib.hid (fun _ => ⟨rfl, rfl⟩), Lib.hid (Chg.refl _ _)⟩
      case round =>
        clear y0 y1 yz yA hst
        obtain ⟨k, L, P2, c2, Q2, d2, hk, rfl, HL, y0, y1, yz, HAS, HIN, HK0, HC⟩ := hrel
        have hC := HC.out
        have hYw : Y + 1 ≤ wr.heap.size := by have h1 := hC.size; rw [HSZ.out] at h1; exact h1
        have hwW : Below w.heap.size w wr := HW0.out.trans (hC.below (fun g hg => by subst hg; omega) (by rw [HSZ.out]; omega))
        have hlo : ∀ b o, b < E.heap.size → wr.cell? ⟨b, o, none⟩ = E.cell? ⟨b, o, none⟩ := fun b o hb => (hC.cell (show b < _ by rw [HSZ.out]; have h1 := HE2.out.size; have h2 := HY2.out; omega) (by have h1 := HE2.out.size; have h2 := HY2.out; omega)).trans ((HAL.out.cell (p := ⟨b, o, none⟩) (by show b < Y; have h1 := HE2.out.size; have h2 := HY2.out; omega)).trans (HE2.out.cell (p := ⟨b, o, none⟩) hb))
        have fr1 := (hlo (w.heap.size + 1) 1 (by have := HEz.out; omega)).trans I1.out
        have hLl : L.length ≤ 30 := by rw [HL.out]; have h1 := putAll_le (applyFs s (x.facts.take k)); have h2 : (applyFs s (x.facts.take k)).length ≤ k := by unfold applyFs; simp; omega
                                       omega
        have hL0 : k = 0 → L = [] := fun e => by rw [HL.out, e]; rfl
        have hL1 : 0 < k → 0 < L.length := fun e => by rw [HL.out]; exact putAll_pos _ (by unfold applyFs; simp; omega)
        have HL0 := Lib.hid hL0
        have HL1 := Lib.hid hL1
        clear hL0 hL1
        by_cases hlt : k < x.facts.length
        · obtain ⟨b, off, U, rfl, hb, c0, c1', hU⟩ := FactS_at.elem (HF.out.below hwW (Nat.le_refl _)) k hlt
          obtain ⟨PU, cU, rfl, -⟩ := id hU
          have hfs : Fact_sz x.facts[k] ≤ 1048576 := by have := HSM.out _ (List.getElem_mem hlt); unfold Fact_sz; omega
          have hgs : Fact_sz (applyF s x.facts[k]) ≤ 1048576 := by have := HSM.out _ (List.getElem_mem hlt); unfold Fact_sz applyF; simp; omega
          have hcon := fun wq (hq : Below wr.heap.size wr wq) => specApplyToFact_any _ (.agg #[.int .i64 x.facts[k].rel, .slice PU x.facts[k].vals.length cU]) s x.facts[k] wq (HX.out.later (hwW.trans (hq.mono hwW.size))) hw ⟨_, rfl, (hU.more hwW.size).later hq⟩ hfs
          have hput : ∀ wq, Below wr.heap.size wr wq → ∀ u, Fact_at wq wq.heap.size u (applyF s x.facts[k]) → Calls Tryz.prog 139 #[.agg #[.slice P2 x.rels.length c2, .slice Q2 L.length d2], u] wq (GivesPut ⟨x.rels, L⟩ (applyF s x.facts[k]) wq) := fun wq hq u hu => by
            have hin := HIN.out.later hq
            rcases Nat.eq_zero_or_pos k with h0 | h0
            · obtain ⟨e1, e2⟩ := HK0.out h0
              have e3 := HL0.out h0
              subst e1 e2 e3
              obtain ⟨V1, V2, hv, hr, -⟩ := hin
              simp only [Value.agg.injEq, Array.mk.injEq, List.cons.injEq, and_true] at hv
              obtain ⟨rfl, rfl⟩ := hv
              exact specL5Put_e u x.rels (applyF s x.facts[k]) P2 c2 none 0 wq hr (.inl ⟨rfl, rfl⟩) (by decide) hu hgs
            · exact specL5Put_nf _ u ⟨x.rels, L⟩ (applyF s x.facts[k]) wq (HL1.out h0) hin (by show L.length ≤ _; omega) hu hgs
          have hS : Holds [(⟨Y, 0, none⟩, .slice P2 x.rels.length c2), (⟨Y, 1, none⟩, .slice Q2 L.length d2), (⟨w.heap.size, 0, none⟩, .slice P s.nulls.length c), (⟨w.heap.size, 1, none⟩, .slice Q s.vals.length d), (⟨w.heap.size + 1, 1, none⟩, .slice (some ⟨b, off, none⟩) x.facts.length d'), (⟨b, off + k * 2, none⟩, .int .i64 x.facts[k].rel), (⟨b, off + k * 2 + 1, none⟩, .slice PU x.facts[k].vals.length cU)] wr.drew := by
            intro p hp
            simp only [List.mem_cons, List.not_mem_nil, or_false] at hp
            rcases hp with rfl | rfl | rfl | rfl | rfl | rfl | rfl
            · exact y0
            · exact y1
            · exact (hlo _ 0 (by have := HEz.out; omega)).trans S0.out
            · exact (hlo _ 1 (by have := HEz.out; omega)).trans S1.out
            · exact fr1
            · exact c0
            · exact c1'
          have hSb : ∀ p ∈ [((⟨Y, 0, none⟩ : Addr), Value.slice P2 x.rels.length c2), (⟨Y, 1, none⟩, .slice Q2 L.length d2), (⟨w.heap.size, 0, none⟩, .slice P s.nulls.length c), (⟨w.heap.size, 1, none⟩, .slice Q s.vals.length d), (⟨w.heap.size + 1, 1, none⟩, .slice (some ⟨b, off, none⟩) x.facts.length d'), (⟨b, off + k * 2, none⟩, .int .i64 x.facts[k].rel), (⟨b, off + k * 2 + 1, none⟩, .slice PU x.facts[k].vals.length cU)], p.1.block < wr.heap.size := by
            intro p hp
            simp only [List.mem_cons, List.not_mem_nil, or_false] at hp
            rcases hp with rfl | rfl | rfl | rfl | rfl | rfl | rfl <;> simp <;> omega
          have g0 := Keep.cell (h0 := hS) (a := ⟨Y, 0, none⟩) (v := .slice P2 x.rels.length c2) (by simp)
          have g1 := Keep.cell (h0 := hS) (a := ⟨Y, 1, none⟩) (v := .slice Q2 L.length d2) (by simp)
          have g2 := Keep.cell (h0 := hS) (a := ⟨w.heap.size, 0, none⟩) (v := .slice P s.nulls.length c) (by simp)
          have g3 := Keep.cell (h0 := hS) (a := ⟨w.heap.size, 1, none⟩) (v := .slice Q s.vals.length d) (by simp)
          have g4 := Keep.cell (h0 := hS) (a := ⟨w.heap.size + 1, 1, none⟩) (v := .slice (some ⟨b, off, none⟩) x.facts.length d') (by simp)
          have g5 := Keep.cell (h0 := hS) (a := ⟨b, off + k * 2, none⟩) (v := .int .i64 x.facts[k].rel) (by simp)
          have g6 := Keep.cell (h0 := hS) (a := ⟨b, off + k * 2 + 1, none⟩) (v := .slice PU x.facts[k].vals.length cU) (by simp)
          have HX2 := Lib.hid hcon
          have HP2 := Lib.hid hput
          have HN := Lib.hid (putAll_step s x.facts k hlt)
          have HG := Lib.hid (show ∃ g, g = applyF s x.facts[k] from ⟨_, rfl⟩)
          clear hcon hput hC hU hgs hfs
          generalize applyF s x.facts[k] = G at *
          go_wp2_with fail
          refine wp_region_planL (C := fun w' => ∃ u : Keep _ wr.drew hS, w' = u.now) (.still 0 (.still 1 (.still 2 (.still 3 (.still 4 (.still 5 (.still 6 (.move true 7 (.move true 8 (.move false 9 .done .none) .none) .none)))))))) (by kernel_rfl) (by kernel_rfl) (by kernel_rfl) (fun _ => ⟨⟨_, hS⟩, rfl⟩) ?_
          iterate 7
            refine plan_look _ rfl rfl ?_
            go_big_quiet_step (fail)
            refine wpQuiet_nil ?_
          refine plan_call _ 140 _ _ _ _ _ rfl _ Tryz.func140 (by kernel_rfl) (by kernel_rfl) ?_ True.intro
          refine (HX2.out wr.drew (Below.refl _ _).drew).mono ?_
          rintro _ w3 ⟨r3, rfl, hr3, hb3⟩
          have hb3' : Below wr.heap.size wr w3 := (Below.refl _ _).drew.trans hb3
          refine ⟨_, rfl, fun _ => ⟨⟨_, hS.below hb3 hSb⟩, rfl⟩, ?_⟩
          refine plan_put ?_ (by simp only [Act.put, List.setIfInBounds_toArray, List.set_cons_succ, List.set_cons_zero]; rfl)
          refine plan_call _ 139 _ _ _ _ _ rfl _ Tryz.func139 (by kernel_rfl) (by kernel_rfl) ?_ True.intro
          refine (HP2.out w3 hb3' r3 (hr3.at_ (Nat.le_refl _))).mono ?_
          rintro _ w4 ⟨r4, rfl, hr4, hb4⟩
          have hb4' : Below wr.heap.size wr w4 := hb3'.trans (hb4.mono hb3'.size)
          have hb4d := hb3.trans (hb4.mono hb3.size)
          obtain ⟨P3, c3, Q3, d3, rfl⟩ := Instance_form hr4
          have z0 := (hb4'.cell (p := ⟨Y, 0, none⟩) (by show Y < _; omega)).trans y0
          have z1 := (hb4'.cell (p := ⟨Y, 1, none⟩) (by show Y < _; omega)).trans y1
          have zz := fun o => (hb4'.frozen (p := ⟨Y, o, none⟩) (by show Y < _; omega)).trans (yz o)
          have zA := HAS.out.cells (w' := w4) (fun o => hb4'.cell (p := ⟨Y, o, none⟩) (by show Y < _; omega))
          have hst := (hr4.off zA 0 (.slice P3 x.rels.length c3)).off (zA.set 0 P3 x.rels.length c3 _ z0) 1 (.slice Q3 (putF L G).length d3)
          have HST := Lib.hid hst
          have HZA := Lib.hid ((zA.set 0 P3 x.rels.length c3 _ z0).set 1 Q3 (putF L G).length d3 (.slice Q2 L.length d2) (by simp [go_sem, z1]))
          have HB4 := Lib.hid hb4'
          refine ⟨_, rfl, fun _ => ⟨⟨_, hS.below hb4d hSb⟩, rfl⟩, ?_⟩
          clear hst zA hr4 hr3 hb3 hb4 hb3' hb4' hb4d g0 g1 g2 g3 g4 g5 g6 y0 y1 yz c0 c1' fr1
          refine plan_put ?_ (by simp only [Act.put, List.setIfInBounds_toArray, List.set_cons_succ, List.set_cons_zero]; rfl)
          refine plan_skip (w' := (w4.setCell ⟨Y, 0, none⟩ (.slice P3 x.rels.length c3)).setCell ⟨Y, 1, none⟩ (.slice Q3 (putF L G).length d3)) _ rfl rfl rfl (by simp [go_sem, z0, z1, zz]) (fun e => by cases e) ?_ True.intro
          refine plan_put ?_ (by simp only [Act.put]; rfl)
          refine plan_done ?_
          go_wp2
          go_roundw
          case rel =>
            exact ⟨k + 1, putF L G, P3, c3, Q3, d3, by omega, by go_num, Lib.hid (by rw [HN.out, HL.out]), by simp [go_sem, z0], by simp [go_sem, z1], fun o => by simp [zz], HZA, Lib.hid (HST.out.more (by simp [World.setCell])), Lib.hid (fun e => absurd e (by omega)), Lib.hid (((HC.out.then_below (HB4.out.mono HC.out.size)).setCell (p := ⟨Y, 0, none⟩) rfl _).setCell (p := ⟨Y, 1, none⟩) rfl _)⟩
          case measure => simp [intOf]; omega
        · obtain rfl : k = x.facts.length := by omega
          have hLe : L = putAll (applyFs s x.facts) := by rw [HL.out, List.take_of_length_le (Nat.le_refl _)]
          have hcp := specL5Copy_len _ ⟨x.rels, L⟩ wr HIN.out hrl (by show L.length ≤ _; omega) (fun f hf => by have h1 := applyFs_small (s := s) HSM.out f (by rw [← hLe]; exact hf); unfold Fact_sz; omega)
          have HLe := Lib.hid hLe
          have HwW := Lib.hid hwW
          have HLO := Lib.hid hlo
          clear hLe hwW hlo hC
          go_wp2_with fail
          refine hcp.mono ?_
          rintro e w5 ⟨r5, rfl, hO5, hb5⟩
          obtain ⟨P5, c5, Q5, d5, rfl⟩ := Instance_form (hO5.at_ (Nat.le_refl _))
          have hz5 := hb5.size
          have r0 := (hb5.cell (p := ⟨w.heap.size + 1 + 1, 0, none⟩) (by show w.heap.size + 1 + 1 < _; omega)).trans ((HLO.out _ 0 (by have := HEz.out; omega)).trans R0.out)
          have r1 := (hb5.cell (p := ⟨w.heap.size + 1 + 1, 1, none⟩) (by show w.heap.size + 1 + 1 < _; omega)).trans ((HLO.out _ 1 (by have := HEz.out; omega)).trans R1.out)
          have r2 := fun o => (hb5.frozen (p := ⟨w.heap.size + 1 + 1, o, none⟩) (by show w.heap.size + 1 + 1 < _; omega)).trans (((HC.out.frozen (o := o) (show w.heap.size + 1 + 1 < _ by rw [HSZ.out]; omega) (by omega)).trans ((HAL.out.frozen (p := ⟨w.heap.size + 1 + 1, o, none⟩) (by show w.heap.size + 1 + 1 < Y; omega)).trans (HE2.out.frozen (p := ⟨w.heap.size + 1 + 1, o, none⟩) (by show w.heap.size + 1 + 1 < _; have := HEz.out; omega)))).trans (RZ o).out)
          have HST : ∀ u1 u2, Chg (Mid (w.heap.size + 1 + 1) (w.heap.size + 1 + 1 + 1)) w5 ((w5.setCell ⟨w.heap.size + 1 + 1, 0, none⟩ u1).setCell ⟨w.heap.size + 1 + 1, 1, none⟩ u2) := fun u1 u2 => ((Chg.refl _ w5).setCell (p := ⟨w.heap.size + 1 + 1, 0, none⟩) (show w.heap.size + 1 + 1 ≤ w.heap.size + 1 + 1 ∧ w.heap.size + 1 + 1 < w.heap.size + 1 + 1 + 1 by omega) _).setCell (p := ⟨w.heap.size + 1 + 1, 1, none⟩) (show w.heap.size + 1 + 1 ≤ w.heap.size + 1 + 1 ∧ w.heap.size + 1 + 1 < w.heap.size + 1 + 1 + 1 by omega) _
          have HO5 := Lib.hid hO5
          have HW5 := Lib.hid (HwW.out.trans (hb5.mono HwW.out.size))
          clear hO5 hb5 hcp y0 y1 yz fr1
          go_wp2
          refine bodyPost_ret (v := .tuple #[.agg #[.slice P5 x.rels.length c5, .slice Q5 L.length d5], .bool true]) (by simp [results, Tryz.results62, go_sem, r0, r1]) rfl ⟨_, by unfold ApplyToInstance_ok; rw [HV.out.1], ?_, ?_⟩
          · unfold ApplyToInstance_r0
            rw [HV.out.2, ← HLe.out]
            exact (HO5.out.chg (HST _ _) (.inr (by omega))).mono (by omega) (by simp [World.setCell])
          · exact (HW5.out.setCell (p := ⟨w.heap.size + 1 + 1, 0, none⟩) (by show w.heap.size ≤ w.heap.size + 1 + 1; omega) _).setCell (p := ⟨w.heap.size + 1 + 1, 1, none⟩) (by show w.heap.size ≤ w.heap.size + 1 + 1; omega) _
theorem specApplyToInstance_o (v : Value) (s : Sbst) (u : Value) (x : Inst) (w : World) (h : Substitution_at w w.heap.size v s) (hw : Substitution_wf s) (_ : Substitution_sz s ≤ 1048576) (h' : Instance_at w w.heap.size u x) (hw' : Instance_wf x) (hn : Instance_sz x ≤ 1048576) :
    Calls Tryz.prog 62 #[v, u] w fun e w' => ∃ r0, e = .returned (.tuple #[r0, .bool (ApplyToInstance_ok s x)]) ∧ Instance_own w.heap.size w'.heap.size r0 (ApplyToInstance_r0 s x) w' ∧ Below w.heap.size w w' := specApplyToInstance_any v u s x w h hw h' hw' hn

end Go.Proofs.YtmecdjincmkofaaGreatDoor
