/-
  Walks and plain lemmas for the laws of this seat: what single Go functions return, for every argument.
-/
import Derived.Test.YtmecdjincmkofaaGreatDoorNum
import Derived.Test.YtmecdjincmkofaaGreatDoorSubsVI
import Derived.Test.YtmecdjincmkofaaGreatDoorSubsK
import Derived.Test.YtmecdjincmkofaaGreatDoorCatI
import Derived.Test.YtmecdjincmkofaaGreatDoorSrtI
namespace Go.Proofs.YtmecdjincmkofaaGreatDoor
open Go.RowKit

theorem implNullValue_at (k q : Int) (hq : -1 - k = q) (w : World) (h0 : -9223372036854775808 ≤ k) (h1 : k ≤ 9223372036854775807) :
    Calls Tryz.prog 145 #[.int .i64 k] w fun e w' => e = .returned (.int .i64 q) ∧ w = w' := by
  subst hq; exact implNullValue_any k w h0 h1
set_option maxHeartbeats 6400000 in
set_option maxRecDepth 100000 in
theorem implCompose_any (v u : Value) (a b : Sbst) (w : World) (h : Substitution_at w w.heap.size v a) (hw : Substitution_wf a) (h' : Substitution_at w w.heap.size u b) (hw' : Substitution_wf b) :
    Calls Tryz.prog 63 #[v, u] w (GivesComp a b w) := by
  obtain ⟨P, c, Q, d, rfl⟩ := Substitution_form h
  obtain ⟨P', c', Q', d', rfl⟩ := Substitution_form h'
  have HX := Lib.hid h
  have HY := Lib.hid h'
  obtain ⟨V1, V2, hv, hR, -⟩ := h
  simp only [Value.agg.injEq, Array.mk.injEq, List.cons.injEq, and_true] at hv
  obtain ⟨rfl, rfl⟩ := hv
  obtain ⟨U1, U2, hu, hR', -⟩ := h'
  simp only [Value.agg.injEq, Array.mk.injEq, List.cons.injEq, and_true] at hu
  obtain ⟨rfl, rfl⟩ := hu
  have HN := Lib.hid hR
  have HN' := Lib.hid hR'
  clear hR hR'
  obtain ⟨E, hEq⟩ : ∃ E, E = ((w.alloc (.cells #[.slice P a.nulls.length c, .slice Q a.vals.length d] 81)).alloc (.cells #[.slice P' b.nulls.length c', .slice Q' b.vals.length d'] 81)).alloc (.cells #[.slice none 0 0, .slice none 0 0] 81) := ⟨_, rfl⟩
  have hE : Below w.heap.size w E := by rw [hEq]; exact below_more (below_more (below_more (Below.refl _ _) _) _) _
  have HEz := Lib.hid (show w.heap.size + 3 = E.heap.size by rw [hEq]; simp)
  have S0 := Lib.hid (show E.cell? ⟨w.heap.size, 0, none⟩ = some (.slice P a.nulls.length c) by rw [hEq]; simp [go_sem])
  have S1 := Lib.hid (show E.cell? ⟨w.heap.size, 1, none⟩ = some (.slice Q a.vals.length d) by rw [hEq]; simp [go_sem])
  have T0 := Lib.hid (show E.cell? ⟨w.heap.size + 1, 0, none⟩ = some (.slice P' b.nulls.length c') by rw [hEq]; simp [go_sem])
  have T1 := Lib.hid (show E.cell? ⟨w.heap.size + 1, 1, none⟩ = some (.slice Q' b.vals.length d') by rw [hEq]; simp [go_sem])
  have R0 := Lib.hid (show E.cell? ⟨w.heap.size + 1 + 1, 0, none⟩ = some (.slice none 0 0) by rw [hEq]; simp [go_sem])
  have R1 := Lib.hid (show E.cell? ⟨w.heap.size + 1 + 1, 1, none⟩ = some (.slice none 0 0) by rw [hEq]; simp [go_sem])
  have RZ := fun o => Lib.hid (show E.frozen? ⟨w.heap.size + 1 + 1, o, none⟩ = false by rw [hEq]; simp [go_sem])
  have hca := fun (bb : Bool) (hq : subOk a = bb) => implIsValidSub_at a bb hq _ E (HX.out.later hE) hw
  have hcb := fun (bb : Bool) (hq : subOk b = bb) (W : World) (hb : Below w.heap.size w W) => implIsValidSub_at b bb hq _ W (HY.out.later hb) hw'
  rw [hEq] at hca
  cases ho : subOk a with
  | false =>
    have HV := Lib.hid (composeOk_no (b := b) (.inl ho))
    replace hca := hca false ho
    clear ho hcb
    go_enter Tryz.func63, Tryz.ntmps63
    go_wp2_with fail
    refine hca.mono ?_
    rintro e w1 ⟨rfl, b1⟩
    rw [← hEq] at b1
    clear hEq hca
    have r0 := (b1.cell (p := ⟨w.heap.size + 1 + 1, 0, none⟩) (by show w.heap.size + 1 + 1 < _; have := HEz.out; omega)).trans R0.out
    have r1 := (b1.cell (p := ⟨w.heap.size + 1 + 1, 1, none⟩) (by show w.heap.size + 1 + 1 < _; have := HEz.out; omega)).trans R1.out
    have r2 := fun o => (b1.frozen (p := ⟨w.heap.size + 1 + 1, o, none⟩) (by show w.heap.size + 1 + 1 < _; have := HEz.out; omega)).trans (RZ o).out
    have HWN := Lib.hid (hE.trans (b1.mono hE.size))
    go_wp2
    refine bodyPost_ret (v := .tuple #[.agg #[.slice none 0 0, .slice none 0 0], .bool false]) (by simp [results, Tryz.results63, go_sem, r0, r1]) rfl ⟨_, by unfold Compose_ok; rw [HV.out], ?_, ?_⟩
    · unfold Compose_r0
      rw [composeS_no HV.out]; exact Substitution_own.none _ _ _
    · exact (HWN.out.setCell (p := ⟨w.heap.size + 1 + 1, 0, none⟩) (by show w.heap.size ≤ w.heap.size + 1 + 1; omega) _).setCell (p := ⟨w.heap.size + 1 + 1, 1, none⟩) (by show w.heap.size ≤ w.heap.size + 1 + 1; omega) _
  | true =>
    have HO := Lib.hid ho
    replace hca := hca true ho
    clear ho
    cases hi : subOk b with
    | false =>
      have HV := Lib.hid (composeOk_no (a := a) (.inr hi))
      replace hcb := hcb false hi
      clear hi
      go_enter Tryz.func63, Tryz.ntmps63
      go_wp2_with fail
      refine hca.mono ?_
      rintro e w0 ⟨rfl, b0⟩
      rw [← hEq] at b0
      have f0 := (b0.cell (p := ⟨w.heap.size + 1, 0, none⟩) (by show w.heap.size + 1 < _; have := HEz.out; omega)).trans T0.out
      have f1 := (b0.cell (p := ⟨w.heap.size + 1, 1, none⟩) (by show w.heap.size + 1 < _; have := HEz.out; omega)).trans T1.out
      replace hcb := hcb w0 (hE.trans (b0.mono hE.size))
      clear hEq hca
      go_wp2_with fail
      refine hcb.mono ?_
      rintro e w1 ⟨rfl, b1'⟩
      have b1 := b0.trans (b1'.mono b0.size)
      clear f0 f1 hcb b1'
      have r0 := (b1.cell (p := ⟨w.heap.size + 1 + 1, 0, none⟩) (by show w.heap.size + 1 + 1 < _; have := HEz.out; omega)).trans R0.out
      have r1 := (b1.cell (p := ⟨w.heap.size + 1 + 1, 1, none⟩) (by show w.heap.size + 1 + 1 < _; have := HEz.out; omega)).trans R1.out
      have r2 := fun o => (b1.frozen (p := ⟨w.heap.size + 1 + 1, o, none⟩) (by show w.heap.size + 1 + 1 < _; have := HEz.out; omega)).trans (RZ o).out
      have HWN := Lib.hid (hE.trans (b1.mono hE.size))
      go_wp2
      refine bodyPost_ret (v := .tuple #[.agg #[.slice none 0 0, .slice none 0 0], .bool false]) (by simp [results, Tryz.results63, go_sem, r0, r1]) rfl ⟨_, by unfold Compose_ok; rw [HV.out], ?_, ?_⟩
      · unfold Compose_r0
        rw [composeS_no HV.out]; exact Substitution_own.none _ _ _
      · exact (HWN.out.setCell (p := ⟨w.heap.size + 1 + 1, 0, none⟩) (by show w.heap.size ≤ w.heap.size + 1 + 1; omega) _).setCell (p := ⟨w.heap.size + 1 + 1, 1, none⟩) (by show w.heap.size ≤ w.heap.size + 1 + 1; omega) _
    | true =>
      have HI := Lib.hid hi
      have HV := Lib.hid (show composeOk a b = true by unfold composeOk; rw [HO.out, hi]; rfl)
      replace hcb := hcb true hi
      clear hi
      go_enter Tryz.func63, Tryz.ntmps63
      go_wp2_with fail
      refine hca.mono ?_
      rintro e w0 ⟨rfl, b0⟩
      rw [← hEq] at b0
      have f0 := (b0.cell (p := ⟨w.heap.size + 1, 0, none⟩) (by show w.heap.size + 1 < _; have := HEz.out; omega)).trans T0.out
      have f1 := (b0.cell (p := ⟨w.heap.size + 1, 1, none⟩) (by show w.heap.size + 1 < _; have := HEz.out; omega)).trans T1.out
      replace hcb := hcb w0 (hE.trans (b0.mono hE.size))
      clear hEq hca
      go_wp2_with fail
      refine hcb.mono ?_
      rintro e W ⟨rfl, b1'⟩
      have b1 := b0.trans (b1'.mono b0.size)
      clear f0 f1 hcb b1' b0
      have hW := hE.trans (b1.mono hE.size)
      have hzW := b1.size
      have ha40 := subOk_len40 HO.out
      have hb40 := subOk_len40 HI.out
      have HCS := Lib.hid (comp_sort (subOk_mem HO.out) (subOk_mem HI.out))
      have f0 := (b1.cell (p := ⟨w.heap.size, 0, none⟩) (by show w.heap.size < _; have := HEz.out; omega)).trans S0.out
      have f1 := (b1.cell (p := ⟨w.heap.size + 1, 0, none⟩) (by show w.heap.size + 1 < _; have := HEz.out; omega)).trans T0.out
      have HB1 := Lib.hid b1
      obtain ⟨WA, hWA⟩ : ∃ WA, WA = W.alloc (.cells #[.slice P a.nulls.length c, .slice P' b.nulls.length c'] 55) := ⟨_, rfl⟩
      have hbA : Below W.heap.size W WA := by rw [hWA]; exact below_more (Below.refl _ _) _
      have HZA := Lib.hid (show W.heap.size + 1 = WA.heap.size by rw [hWA]; simp)
      have hwA := hW.trans (hbA.mono hW.size)
      have hcat := implConcat2_any W.heap.size a.nulls b.nulls (.slice P a.nulls.length c) (.slice P' b.nulls.length c') WA (by have := HZA.out; omega) (by rw [hWA]; simp [go_sem]) (by rw [hWA]; simp [go_sem]) (HN.out.later hwA) (HN'.out.later hwA) (by omega) (by omega)
      rw [hWA] at hcat
      clear b1
      go_wp2_with fail
      refine hcat.mono ?_
      rintro e w2 ⟨u2, rfl, hO2, hb2⟩
      rw [← hWA] at hO2 hb2
      clear hcat hWA f0 f1
      have hsrt := sortInts_any _ u2 _ w2 hO2 hb2.size (by simp; omega)
      have HB2 := Lib.hid hb2
      clear hO2 hb2
      go_wp2_with fail
      refine hsrt.mono ?_
      rintro e w3 ⟨rfl, hO3, hb3⟩
      have hcp := compactInts_any _ u2 _ w3 hO3 (by rw [List.length_mergeSort]; simp; omega)
      rw [HCS.out] at hcp
      have HB3 := Lib.hid hb3
      clear hO3 hb3 hsrt
      go_wp2_with fail
      refine hcp.mono ?_
      rintro e w4 ⟨V1, rfl, hO4, hb4⟩
      have hNl := compN_len a.nulls b.nulls 40
      have hNm := fun x hx => (compN_mem a.nulls b.nulls 40 x).1 hx
      have HNm := Lib.hid hNm
      have HNe := Lib.hid (show ∃ N, N = compN a.nulls b.nulls 40 from ⟨_, rfl⟩)
      obtain ⟨N, hN⟩ := HNe.out
      rw [← hN] at hO4 hNl
      have HNQ := Lib.hid hN
      have hA4 : Below WA.heap.size WA w4 := HB2.out.trans (HB3.out.trans hb4)
      obtain ⟨P1, q1, rfl, hq1, hq2, -⟩ := id hO4.at_
      unfold maxLen at hq2
      obtain ⟨Y, hY⟩ : ∃ Y, Y = w4.heap.size := ⟨_, rfl⟩
      have HA4 := Lib.hid hA4
      have HO4 := Lib.hid hO4
      have hz4 : W.heap.size + 1 ≤ w4.heap.size := by have h1 := hA4.size; have h2 := HZA.out; omega
      clear hcp hb4 hO4 hA4 hN hNm
      go_wp2
      have y0 : (w4.alloc (.cells #[.slice P1 N.length q1, .slice none 0 0] 81)).cell? ⟨Y, 0, none⟩ = some (.slice P1 N.length q1) := by rw [hY]; simp [go_sem]
      have y1 : (w4.alloc (.cells #[.slice P1 N.length q1, .slice none 0 0] 81)).cell? ⟨Y, 1, none⟩ = some (.slice none 0 0) := by rw [hY]; simp [go_sem]
      have yz : ∀ o, (w4.alloc (.cells #[.slice P1 N.length q1, .slice none 0 0] 81)).frozen? ⟨Y, o, none⟩ = false := by intro o; rw [hY]; simp [go_sem]
      have hAl : Below Y w4 (w4.alloc (.cells #[.slice P1 N.length q1, .slice none 0 0] 81)) := (Below.refl _ _).alloc (by omega) _
      have hsz : (w4.alloc (.cells #[.slice P1 N.length q1, .slice none 0 0] 81)).heap.size = Y + 1 := by rw [hY]; simp
      rw [← hY]
      generalize w4.alloc (.cells #[.slice P1 N.length q1, .slice none 0 0] 81) = W5 at y0 y1 yz hAl hsz ⊢
      have HSZ := Lib.hid hsz
      have HAL := Lib.hid hAl
      have HYe := Lib.hid hY
      have hwEW : w.heap.size + 2 < E.heap.size := by have := HEz.out; omega
      have hEY : E.heap.size ≤ Y := by omega
      have hwY : w.heap.size + 2 < Y := by omega
      have HW5 := Lib.hid (show Below w.heap.size w W5 from hwA.trans ((HA4.out.trans (hAl.mono (by have := HA4.out.size; omega))).mono hwA.size))
      have HE5 := Lib.hid (show Below E.heap.size E W5 from HB1.out.trans ((hbA.trans ((HA4.out.trans (hAl.mono (by have := HA4.out.size; omega))).mono hbA.size)).mono HB1.out.size))
      have HV5 := Lib.hid (HO4.out.below hAl (by omega))
      clear hsz hAl hY hW hbA hwA hz4 hzW
      go_loopw [33] (fun t wr => ∃ (i : Nat) (V2 : Value) (L2 : List Int), i ≤ N.length ∧ t = .int .i64 (i : Nat) ∧ Hid (L2 = (N.take i).map (compV a b)) ∧ wr.cell? ⟨Y, 0, none⟩ = some (.slice P1 N.length q1) ∧ wr.cell? ⟨Y, 1, none⟩ = some V2 ∧ (∀ o, wr.frozen? ⟨Y, o, none⟩ = false) ∧ Hid (OwnInts (Y + 1) V2 L2 wr) ∧ Hid (Chg (fun g => g = Y) W5 wr)) (fun t _ => N.length - (intOf t).toNat)
      case atStart => exact ⟨0, _, [], by omega, rfl, Lib.hid rfl, y0, y1, yz, Lib.hid (OwnInts.nil _ _), Lib.hid (Chg.refl _ _)⟩
      case round =>
        clear y0 y1 yz
        obtain ⟨i, V2, L2, hi, rfl, HLe, x0, x1, xz, HT, HC⟩ := hrel
        have hC := HC.out
        have hYW : Y + 1 ≤ wr.heap.size := by have h1 := hC.size; rw [HSZ.out] at h1; exact h1
        have hwWR : Below w.heap.size w wr := HW5.out.trans (hC.below (fun g hg => by subst hg; omega) (by rw [HSZ.out]; omega))
        have hlo : ∀ p o, p < E.heap.size → wr.cell? ⟨p, o, none⟩ = E.cell? ⟨p, o, none⟩ := fun p o hp => (hC.cell (show p < _ by rw [HSZ.out]; omega) (by omega)).trans (HE5.out.cell (p := ⟨p, o, none⟩) hp)
        have HLM := Lib.hid (show L2.length ≤ 40 by rw [HLe.out, List.length_map, List.length_take]; omega)
        obtain ⟨P2, q2, rfl, -⟩ := HT.out.at_
        by_cases hlt : i < N.length
        · have u0 := (hlo w.heap.size 0 (by omega)).trans S0.out
          have u1 := (hlo w.heap.size 1 (by omega)).trans S1.out
          have u2 := (hlo (w.heap.size + 1) 0 (by omega)).trans T0.out
          have u3 := (hlo (w.heap.size + 1) 1 (by omega)).trans T1.out
          have hV1 : IntsAt wr Y (.slice P1 N.length q1) N := SliceAt.keep (SliceAt.below (SliceAt.more HO4.out.at_ (show w4.heap.size ≤ Y by have := HYe.out; omega)) HAL.out (Nat.le_refl _)) (fun p o hp => hC.cell (by rw [HSZ.out]; omega) (by omega))
          obtain ⟨p1, off1, rfl, hp1, c0⟩ := IntsAt.elem hV1 i hlt
          have hKb : 0 ≤ N[i] ∧ N[i] < 40 := (HNm.out N[i] (by rw [← HNQ.out]; exact List.getElem_mem hlt)).1
          have HTW := Lib.hid (show Two (Y + 1) (.slice none 0 0) (.slice P2 L2.length q2) [] L2 wr from ⟨OwnInts.nil _ _, HT.out, fun g hg => by cases hg⟩)
          obtain ⟨K, hKe⟩ : ∃ K, N[i] = K := ⟨_, rfl⟩
          rw [hKe] at c0 hKb
          obtain ⟨n0, hn0⟩ : ∃ n0, -1 - K = n0 := ⟨_, rfl⟩
          obtain ⟨y, hy⟩ : ∃ y, applyV a n0 = y := ⟨_, rfl⟩
          obtain ⟨z, hz⟩ : ∃ z, applyV b y = z := ⟨_, rfl⟩
          have hyb := applyV_wf hw n0 (by omega) (by omega)
          rw [hy] at hyb
          have HZ := Lib.hid (show compV a b N[i] = z by unfold compV; rw [hKe, hn0, hy, hz])
          have HNV := Lib.hid (fun W => implNullValue_at K n0 hn0 W (by omega) (by omega))
          have HAV := Lib.hid (fun W (hb : Below wr.heap.size wr W) => (by have := implApplyToValue_any _ a n0 W (HX.out.later (hwWR.trans (hb.mono hwWR.size))) hw (by omega) (by omega); rw [hy] at this; exact this : Calls Tryz.prog 144 #[.agg #[.slice P a.nulls.length c, .slice Q a.vals.length d], .int .i64 n0] W fun e w' => e = .returned (.int .i64 y) ∧ Below W.heap.size W w'))
          have HBV := Lib.hid (fun W (hb : Below wr.heap.size wr W) => (by have := implApplyToValue_any _ b y W (HY.out.later (hwWR.trans (hb.mono hwWR.size))) hw' hyb.1 hyb.2; rw [hz] at this; exact this : Calls Tryz.prog 144 #[.agg #[.slice P' b.nulls.length c', .slice Q' b.vals.length d'], .int .i64 y] W fun e w' => e = .returned (.int .i64 z) ∧ Below W.heap.size W w'))
          clear hn0 hy hz hKe hV1 hC hlo hKb hyb
          have hS : Holds [(⟨Y, 1, none⟩, .slice P2 L2.length q2), (⟨w.heap.size, 0, none⟩, .slice P a.nulls.length c), (⟨w.heap.size, 1, none⟩, .slice Q a.vals.length d), (⟨w.heap.size + 1, 0, none⟩, .slice P' b.nulls.length c'), (⟨w.heap.size + 1, 1, none⟩, .slice Q' b.vals.length d')] wr.drew := by
            intro p hp
            simp only [List.mem_cons, List.not_mem_nil, or_false] at hp
            rcases hp with rfl | rfl | rfl | rfl | rfl
            · exact x1
            · exact u0
            · exact u1
            · exact u2
            · exact u3
          have hSb : ∀ p ∈ [((⟨Y, 1, none⟩ : Addr), Value.slice P2 L2.length q2), (⟨w.heap.size, 0, none⟩, .slice P a.nulls.length c), (⟨w.heap.size, 1, none⟩, .slice Q a.vals.length d), (⟨w.heap.size + 1, 0, none⟩, .slice P' b.nulls.length c'), (⟨w.heap.size + 1, 1, none⟩, .slice Q' b.vals.length d')], p.1.block < Y + 1 := by
            intro p hp
            simp only [List.mem_cons, List.not_mem_nil, or_false] at hp
            rcases hp with rfl | rfl | rfl | rfl | rfl <;> simp <;> omega
          have g0 := Keep.cell (h0 := hS) (a := ⟨Y, 1, none⟩) (v := .slice P2 L2.length q2) (by simp)
          have g1 := Keep.cell (h0 := hS) (a := ⟨w.heap.size, 0, none⟩) (v := .slice P a.nulls.length c) (by simp)
          have g2 := Keep.cell (h0 := hS) (a := ⟨w.heap.size, 1, none⟩) (v := .slice Q a.vals.length d) (by simp)
          have g3 := Keep.cell (h0 := hS) (a := ⟨w.heap.size + 1, 0, none⟩) (v := .slice P' b.nulls.length c') (by simp)
          have g4 := Keep.cell (h0 := hS) (a := ⟨w.heap.size + 1, 1, none⟩) (v := .slice Q' b.vals.length d') (by simp)
          clear u0 u1 u2 u3
          go_wp2_with fail
          refine wp_region_planL (C := fun w' => ∃ u : Keep _ wr.drew hS, w' = u.now) (.still 0 (.still 1 (.still 2 (.still 3 (.still 4 (.move true 5 (.move true 6 (.move true 7 (.move true 8 (.move true 9 (.still 10 (.move false 11 .done .none)) .none) .none) .none) .none) .none)))))) (by kernel_rfl) (by kernel_rfl) (by kernel_rfl) (fun _ => ⟨⟨_, hS⟩, rfl⟩) ?_
          iterate 5
            refine plan_look _ rfl rfl ?_
            go_big_quiet_step (fail)
            refine wpQuiet_nil ?_
          refine plan_call _ 145 _ _ _ _ _ rfl _ Tryz.func145 (by kernel_rfl) (by kernel_rfl) ?_ True.intro
          refine (HNV.out wr.drew).mono ?_
          rintro _ _ ⟨rfl, rfl⟩
          refine ⟨_, rfl, fun _ => ⟨⟨_, hS⟩, rfl⟩, ?_⟩
          refine plan_put ?_ (by simp only [Act.put, List.setIfInBounds_toArray, List.set_cons_succ, List.set_cons_zero]; rfl)
          refine plan_call _ 144 _ _ _ _ _ rfl _ Tryz.func144 (by kernel_rfl) (by kernel_rfl) ?_ True.intro
          refine (HAV.out wr.drew (Below.refl _ _).drew).mono ?_
          rintro _ w3 ⟨rfl, hb3⟩
          have hb3' : Below wr.heap.size wr w3 := (Below.refl _ _).drew.trans hb3
          refine ⟨_, rfl, fun _ => ⟨⟨_, hS.below hb3 (fun p hp => by have := hSb p hp; show _ < wr.heap.size; omega)⟩, rfl⟩, ?_⟩
          refine plan_put ?_ (by simp only [Act.put, List.setIfInBounds_toArray, List.set_cons_succ, List.set_cons_zero]; rfl)
          refine plan_call _ 144 _ _ _ _ _ rfl _ Tryz.func144 (by kernel_rfl) (by kernel_rfl) ?_ True.intro
          refine (HBV.out w3 hb3').mono ?_
          rintro _ w4 ⟨rfl, hb4⟩
          have hb4' : Below wr.heap.size wr w4 := hb3'.trans (hb4.mono hb3'.size)
          have hb4d := hb3.trans (hb4.mono hb3.size)
          refine ⟨_, rfl, fun _ => ⟨⟨_, hS.below hb4d (fun p hp => by have := hSb p hp; show _ < wr.heap.size; omega)⟩, rfl⟩, ?_⟩
          refine plan_put ?_ (by simp only [Act.put, List.setIfInBounds_toArray, List.set_cons_succ, List.set_cons_zero]; rfl)
          have hz4 := hb4'.size
          have HB4 := Lib.hid hb4'
          have HD4 := Lib.hid hb4d
          clear hb3 hb3' hb4 hb4' hb4d
          refine plan_value (u := .slice (some ⟨w4.heap.size, 0, none⟩) 1 1) (w' := w4.alloc (.cells #[.int .i64 z] 3)) _ rfl rfl rfl (by simp [go_sem]) (fun _ => ⟨⟨_, hS.below (HD4.out.alloc hz4 _) (fun p hp => by have := hSb p hp; show _ < wr.heap.size; omega)⟩, rfl⟩) ?_ True.intro
          refine plan_put ?_ (by simp only [Act.put, List.setIfInBounds_toArray, List.set_cons_succ, List.set_cons_zero]; rfl)
          have hT4 := (HTW.out.below HB4.out (Nat.le_refl _)).below ((Below.refl w4.heap.size w4).alloc (Nat.le_refl _) (.cells #[.int .i64 z] 3)) (Nat.le_refl _)
          have hO4 := hT4.2.1
          unfold OwnInts at hO4
          rw [← flat_int] at hO4
          have hr : SliceAt intCell (w4.alloc (.cells #[.int .i64 z] 3)) (w4.heap.size + 1) (.slice (some ⟨w4.heap.size, 0, none⟩) [z].length 1) [z] := by
            refine ⟨_, _, rfl, Nat.le_refl _, by simp [maxLen], fun _ => ⟨_, _, rfl, by omega, ?_⟩, fun h => by cases h⟩
            intro i u hu
            rw [Nat.zero_add, box_cell]
            simpa [intCell] using hu
          refine plan_app intCell 1 8 (r := [z]) (fun x _ u hu => by simp [intCell] at hu; subst hu; rfl) (fun _ => rfl) _ rfl rfl Tryz.underlying55 infoInt rfl (by decide) hO4 _ _ rfl rfl ⟨w4.heap.size, 0, none⟩ 1 1 rfl rfl hr (by have := HLM.out; simp; omega) (by have := HLM.out; simp; omega) (by simp; omega) ?_ True.intro
          intro v5 w5 hO5' hB5 hG5 hN5
          have hO5 : OwnInts (Y + 1) v5 (L2 ++ [z]) w5 := by
            have := hO5'
            rw [flat_int] at this
            simpa [OwnInts] using this
          have hT5 := hT4.second hO5 hG5 hN5
          obtain ⟨P5, q5, rfl, -⟩ := hO5.at_
          have hbA : Below (Y + 1) wr w5 := ((HB4.out.mono hYW).alloc (by omega) _).trans hB5
          have hbD : Below (Y + 1) wr.drew w5 := ((HD4.out.mono (by show Y + 1 ≤ wr.heap.size; omega)).alloc (by omega) _).trans hB5
          have z0 := (hbA.cell (p := ⟨Y, 0, none⟩) (Nat.lt_succ_self _)).trans x0
          have z1 := (hbA.cell (p := ⟨Y, 1, none⟩) (Nat.lt_succ_self _)).trans x1
          have zz := fun o => (hbA.frozen (p := ⟨Y, o, none⟩) (Nat.lt_succ_self _)).trans (xz o)
          have HT5 := Lib.hid hT5
          have HBA := Lib.hid hbA
          refine ⟨fun _ => ⟨⟨_, hS.below hbD hSb⟩, rfl⟩, ?_⟩
          clear hT5 hO5 hO5' hB5 hG5 hN5 hbA hbD hT4 hO4 hr g0 g1 g2 g3 g4 x0 x1 xz
          refine plan_put ?_ (by simp only [Act.put, List.setIfInBounds_toArray, List.set_cons_succ, List.set_cons_zero]; rfl)
          refine plan_look _ rfl rfl ?_
          go_big_quiet_step (fail)
          refine wpQuiet_nil ?_
          refine plan_skip (w' := w5.setCell ⟨Y, 1, none⟩ (.slice P5 (L2 ++ [z]).length q5)) _ rfl rfl rfl (by simp [go_sem, z1, zz]) (fun e => by cases e) ?_ True.intro
          refine plan_put ?_ (by simp only [Act.put]; rfl)
          refine plan_done ?_
          go_wp2
          go_roundw
          case rel =>
            exact ⟨i + 1, .slice P5 (L2 ++ [z]).length q5, L2 ++ [z], by omega, by go_num, Lib.hid (by rw [List.take_succ_eq_append_getElem hlt, List.map_append, ← HLe.out, List.map_singleton, HZ.out]), by simp [go_sem, z0], by simp [go_sem, z1], fun o => by simp [zz], Lib.hid (HT5.out.2.1.chg ((Chg.refl (fun g => g = Y) w5).setCell (p := ⟨Y, 1, none⟩) rfl _) (fun g hg hs => by have := (HT5.out.2.1.lt g hg).1; omega)), Lib.hid ((HC.out.then_below (by rw [HSZ.out]; exact HBA.out)).setCell (p := ⟨Y, 1, none⟩) rfl _)⟩
          case measure => simp [intOf]; omega
        · obtain rfl : i = N.length := by omega
          have r0 := (hlo (w.heap.size + 1 + 1) 0 (by omega)).trans R0.out
          have r1 := (hlo (w.heap.size + 1 + 1) 1 (by omega)).trans R1.out
          have r2 : ∀ o, wr.frozen? ⟨w.heap.size + 1 + 1, o, none⟩ = false := fun o => (hC.frozen (o := o) (show w.heap.size + 1 + 1 < _ by rw [HSZ.out]; omega) (by omega)).trans ((HE5.out.frozen (p := ⟨w.heap.size + 1 + 1, o, none⟩) (by show w.heap.size + 1 + 1 < _; omega)).trans (RZ o).out)
          have HwW := Lib.hid hwWR
          have hL2 : L2 = N.map (compV a b) := by rw [HLe.out, List.take_of_length_le (Nat.le_refl _)]
          have HL2 := Lib.hid hL2
          have hV6 : OwnInts WA.heap.size (.slice P1 N.length q1) N wr := HV5.out.chg hC (fun g hg e => by have h1 := (HO4.out.lt g hg).2; have h2 := HYe.out; omega)
          have HV6 := Lib.hid hV6
          have HST : ∀ u1 u2, Chg (fun g => g = w.heap.size + 1 + 1) wr ((wr.setCell ⟨w.heap.size + 1 + 1, 0, none⟩ u1).setCell ⟨w.heap.size + 1 + 1, 1, none⟩ u2) := fun u1 u2 => ((Chg.refl (fun g => g = w.heap.size + 1 + 1) wr).setCell (p := ⟨w.heap.size + 1 + 1, 0, none⟩) rfl _).setCell (p := ⟨w.heap.size + 1 + 1, 1, none⟩) rfl _
          have hWAz : E.heap.size + 1 ≤ WA.heap.size := by have h1 := HZA.out; have h2 := HB1.out.size; omega
          clear hwWR hlo hC hL2 hV6
          go_wp2
          refine bodyPost_ret (v := .tuple #[.agg #[.slice P1 N.length q1, .slice P2 L2.length q2], .bool true]) (by simp [results, Tryz.results63, go_sem, r0, r1]) rfl ⟨_, by unfold Compose_ok; rw [HV.out], ?_, ?_⟩
          · unfold Compose_r0
            rw [composeS_yes HV.out, ← HNQ.out, ← HL2.out]
            have h1 := HV6.out.chg (HST (.slice P1 N.length q1) (.slice P2 L2.length q2)) (fun g hg e => by have := (HV6.out.lt g hg).1; omega)
            have h2 := HT.out.chg (HST (.slice P1 N.length q1) (.slice P2 L2.length q2)) (fun g hg e => by have := (HT.out.lt g hg).1; omega)
            refine ⟨_, _, rfl, (IntsO.of h1).mono (by omega) (Nat.le_refl _), (IntsO.of h2).mono (by omega) (Nat.le_refl _), fun g e1 e2 => ?_⟩
            have q1 := (HO4.out.lt g e1).2
            have q2 := (HT.out.lt g e2).1
            have q3 := HYe.out
            omega
          · exact HwW.out.trans ((HST (.slice P1 N.length q1) (.slice P2 L2.length q2)).below (fun g hg => by subst hg; omega) HwW.out.size)
theorem implCompose_c (v : Value) (a : Sbst) (u : Value) (b : Sbst) (w : World) (h : Substitution_at w w.heap.size v a) (hw : Substitution_wf a) (_ : Substitution_sz a ≤ 1048576) (h' : Substitution_at w w.heap.size u b) (hw' : Substitution_wf b) (_ : Substitution_sz b ≤ 1048576) :
    Calls Tryz.prog 63 #[v, u] w fun e w' => ∃ r0, e = .returned (.tuple #[r0, .bool (Compose_ok a b)]) ∧ Substitution_own w.heap.size w'.heap.size r0 (Compose_r0 a b) w' ∧ Substitution_sz (Compose_r0 a b) ≤ 1048576 ∧ Below w.heap.size w w' :=
  (implCompose_any v u a b w h hw h' hw').mono fun _ _ ⟨r, he, ho, hb⟩ => ⟨r, he, ho, by have := composeS_sz a b; unfold Compose_r0; omega, hb⟩

end Go.Proofs.YtmecdjincmkofaaGreatDoor
