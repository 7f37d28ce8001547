/-
  Walks and plain lemmas for the laws of this seat: what single Go functions return, for every argument.
-/
import Derived.Test.YtmecdjincmkofaaGreatDoorInts
import Derived.Test.YtmecdjincmkofaaGreatDoorNum
import Derived.Test.YtmecdjincmkofaaGreatDoorPlan
import Derived.Test.YtmecdjincmkofaaGreatDoorTyInst
import Derived.Test.YtmecdjincmkofaaGreatDoorMSub
import Derived.Test.YtmecdjincmkofaaGreatDoorSubsV
import Derived.Test.YtmecdjincmkofaaGreatDoorHasV
namespace Go.Proofs.YtmecdjincmkofaaGreatDoor
open Go.RowKit

theorem Substitution_own.none (B C : Nat) (w : World) : Substitution_own B C (.agg #[.slice none 0 0, .slice none 0 0]) ⟨[], []⟩ w :=
  ⟨_, _, rfl, ⟨OwnInts.nil _ _, (fun g hg => by cases hg)⟩, ⟨OwnInts.nil _ _, (fun g hg => by cases hg)⟩, fun g hg => by cases hg⟩
def GivesComp (a b : Sbst) (w : World) (e : Ending) (w' : World) : Prop := ∃ r, e = .returned (.tuple #[r, .bool (Compose_ok a b)]) ∧ Substitution_own w.heap.size w'.heap.size r (Compose_r0 a b) w' ∧ Below w.heap.size w w'
set_option maxHeartbeats 6400000 in
set_option maxRecDepth 100000 in
theorem specCompose_any (v u : Value) (a b : Sbst) (w : World) (h : Substitution_at w w.heap.size v a) (hw : Substitution_wf a) (h' : Substitution_at w w.heap.size u b) (hw' : Substitution_wf b) :
    Calls Tryz.prog 64 #[v, u] w (GivesComp a b w) := by
  obtain ⟨P, c, Q, d, rfl⟩ := Substitution_form h
  obtain ⟨P', c', Q', d', rfl⟩ := Substitution_form h'
  have HX := Lib.hid h
  have HY := Lib.hid h'
  obtain ⟨V1, V2, hv, hR, -⟩ := h
  simp only [Value.agg.injEq, Array.mk.injEq, List.cons.injEq, and_true] at hv
  obtain ⟨rfl, rfl⟩ := hv
  obtain ⟨U1, U2, hu, hR', -⟩ := h'
  simp only [Value.agg.injEq, Array.mk.injEq, List.cons.injEq, and_true] at hu
  obtain ⟨rfl, rfl⟩ := hu
  have HN := Lib.hid hR
  have HN' := Lib.hid hR'
  clear hR hR'
  obtain ⟨E, hEq⟩ : ∃ E, E = (((w.alloc (.cells #[.slice P a.nulls.length c, .slice Q a.vals.length d] 81)).alloc (.cells #[.slice P' b.nulls.length c', .slice Q' b.vals.length d'] 81)).alloc (.cells #[.slice none 0 0, .slice none 0 0] 81)).alloc (.cells #[.slice none 0 0, .slice none 0 0] 81) := ⟨_, rfl⟩
  have hE : Below w.heap.size w E := by rw [hEq]; exact below_more (below_more (below_more (below_more (Below.refl _ _) _) _) _) _
  have HEz := Lib.hid (show w.heap.size + 4 = E.heap.size by rw [hEq]; simp)
  have S0 := Lib.hid (show E.cell? ⟨w.heap.size, 0, none⟩ = some (.slice P a.nulls.length c) by rw [hEq]; simp [go_sem])
  have S1 := Lib.hid (show E.cell? ⟨w.heap.size, 1, none⟩ = some (.slice Q a.vals.length d) by rw [hEq]; simp [go_sem])
  have T0 := Lib.hid (show E.cell? ⟨w.heap.size + 1, 0, none⟩ = some (.slice P' b.nulls.length c') by rw [hEq]; simp [go_sem])
  have T1 := Lib.hid (show E.cell? ⟨w.heap.size + 1, 1, none⟩ = some (.slice Q' b.vals.length d') by rw [hEq]; simp [go_sem])
  have R0 := Lib.hid (show E.cell? ⟨w.heap.size + 1 + 1, 0, none⟩ = some (.slice none 0 0) by rw [hEq]; simp [go_sem])
  have R1 := Lib.hid (show E.cell? ⟨w.heap.size + 1 + 1, 1, none⟩ = some (.slice none 0 0) by rw [hEq]; simp [go_sem])
  have RZ := fun o => Lib.hid (show E.frozen? ⟨w.heap.size + 1 + 1, o, none⟩ = false by rw [hEq]; simp [go_sem])
  have X0 := Lib.hid (show E.cell? ⟨w.heap.size + 1 + 1 + 1, 0, none⟩ = some (.slice none 0 0) by rw [hEq]; simp [go_sem])
  have X1 := Lib.hid (show E.cell? ⟨w.heap.size + 1 + 1 + 1, 1, none⟩ = some (.slice none 0 0) by rw [hEq]; simp [go_sem])
  have XZ := fun o => Lib.hid (show E.frozen? ⟨w.heap.size + 1 + 1 + 1, o, none⟩ = false by rw [hEq]; simp [go_sem])
  have hca := fun (bb : Bool) (hq : subOk a = bb) => specIsValidSub_at a bb hq _ E (HX.out.later hE) hw
  have hcb := fun (bb : Bool) (hq : subOk b = bb) (W : World) (hb : Below w.heap.size w W) => specIsValidSub_at b bb hq _ W (HY.out.later hb) hw'
  rw [hEq] at hca
  cases ho : subOk a with
  | false =>
    have HV := Lib.hid (composeOk_no (b := b) (.inl ho))
    replace hca := hca false ho
    clear ho hcb
    go_enter Tryz.func64, Tryz.ntmps64
    go_wp2_with fail
    refine hca.mono ?_
    rintro e w1 ⟨rfl, b1⟩
    rw [← hEq] at b1
    clear hEq hca
    have r0 := (b1.cell (p := ⟨w.heap.size + 1 + 1, 0, none⟩) (by show w.heap.size + 1 + 1 < _; have := HEz.out; omega)).trans R0.out
    have r1 := (b1.cell (p := ⟨w.heap.size + 1 + 1, 1, none⟩) (by show w.heap.size + 1 + 1 < _; have := HEz.out; omega)).trans R1.out
    have r2 := fun o => (b1.frozen (p := ⟨w.heap.size + 1 + 1, o, none⟩) (by show w.heap.size + 1 + 1 < _; have := HEz.out; omega)).trans (RZ o).out
    have x0 := (b1.cell (p := ⟨w.heap.size + 1 + 1 + 1, 0, none⟩) (by show w.heap.size + 1 + 1 + 1 < _; have := HEz.out; omega)).trans X0.out
    have x1 := (b1.cell (p := ⟨w.heap.size + 1 + 1 + 1, 1, none⟩) (by show w.heap.size + 1 + 1 + 1 < _; have := HEz.out; omega)).trans X1.out
    have HWN := Lib.hid (hE.trans (b1.mono hE.size))
    go_wp2
    refine bodyPost_ret (v := .tuple #[.agg #[.slice none 0 0, .slice none 0 0], .bool false]) (by simp [results, Tryz.results64, go_sem, r0, r1]) rfl ⟨_, by unfold Compose_ok; rw [HV.out], ?_, ?_⟩
    · unfold Compose_r0
      rw [composeS_no HV.out]; exact Substitution_own.none _ _ _
    · exact (HWN.out.setCell (p := ⟨w.heap.size + 1 + 1, 0, none⟩) (by show w.heap.size ≤ w.heap.size + 1 + 1; omega) _).setCell (p := ⟨w.heap.size + 1 + 1, 1, none⟩) (by show w.heap.size ≤ w.heap.size + 1 + 1; omega) _
  | true =>
    have HO := Lib.hid ho
    replace hca := hca true ho
    clear ho
    cases hi : subOk b with
    | false =>
      have HV := Lib.hid (composeOk_no (a := a) (.inr hi))
      replace hcb := hcb false hi
      clear hi
      go_enter Tryz.func64, Tryz.ntmps64
      go_wp2_with fail
      refine hca.mono ?_
      rintro e w0 ⟨rfl, b0⟩
      rw [← hEq] at b0
      have f0 := (b0.cell (p := ⟨w.heap.size + 1, 0, none⟩) (by show w.heap.size + 1 < _; have := HEz.out; omega)).trans T0.out
      have f1 := (b0.cell (p := ⟨w.heap.size + 1, 1, none⟩) (by show w.heap.size + 1 < _; have := HEz.out; omega)).trans T1.out
      replace hcb := hcb w0 (hE.trans (b0.mono hE.size))
      clear hEq hca
      go_wp2_with fail
      refine hcb.mono ?_
      rintro e w1 ⟨rfl, b1'⟩
      have b1 := b0.trans (b1'.mono b0.size)
      clear f0 f1 hcb b1'
      have r0 := (b1.cell (p := ⟨w.heap.size + 1 + 1, 0, none⟩) (by show w.heap.size + 1 + 1 < _; have := HEz.out; omega)).trans R0.out
      have r1 := (b1.cell (p := ⟨w.heap.size + 1 + 1, 1, none⟩) (by show w.heap.size + 1 + 1 < _; have := HEz.out; omega)).trans R1.out
      have r2 := fun o => (b1.frozen (p := ⟨w.heap.size + 1 + 1, o, none⟩) (by show w.heap.size + 1 + 1 < _; have := HEz.out; omega)).trans (RZ o).out
      have x0 := (b1.cell (p := ⟨w.heap.size + 1 + 1 + 1, 0, none⟩) (by show w.heap.size + 1 + 1 + 1 < _; have := HEz.out; omega)).trans X0.out
      have x1 := (b1.cell (p := ⟨w.heap.size + 1 + 1 + 1, 1, none⟩) (by show w.heap.size + 1 + 1 + 1 < _; have := HEz.out; omega)).trans X1.out
      have HWN := Lib.hid (hE.trans (b1.mono hE.size))
      go_wp2
      refine bodyPost_ret (v := .tuple #[.agg #[.slice none 0 0, .slice none 0 0], .bool false]) (by simp [results, Tryz.results64, go_sem, r0, r1]) rfl ⟨_, by unfold Compose_ok; rw [HV.out], ?_, ?_⟩
      · unfold Compose_r0
        rw [composeS_no HV.out]; exact Substitution_own.none _ _ _
      · exact (HWN.out.setCell (p := ⟨w.heap.size + 1 + 1, 0, none⟩) (by show w.heap.size ≤ w.heap.size + 1 + 1; omega) _).setCell (p := ⟨w.heap.size + 1 + 1, 1, none⟩) (by show w.heap.size ≤ w.heap.size + 1 + 1; omega) _
    | true =>
      have HI := Lib.hid hi
      have HV := Lib.hid (show composeOk a b = true by unfold composeOk; rw [HO.out, hi]; rfl)
      replace hcb := hcb true hi
      clear hi
      go_enter Tryz.func64, Tryz.ntmps64
      go_wp2_with fail
      refine hca.mono ?_
      rintro e w0 ⟨rfl, b0⟩
      rw [← hEq] at b0
      have f0 := (b0.cell (p := ⟨w.heap.size + 1, 0, none⟩) (by show w.heap.size + 1 < _; have := HEz.out; omega)).trans T0.out
      have f1 := (b0.cell (p := ⟨w.heap.size + 1, 1, none⟩) (by show w.heap.size + 1 < _; have := HEz.out; omega)).trans T1.out
      replace hcb := hcb w0 (hE.trans (b0.mono hE.size))
      clear hEq hca
      go_wp2_with fail
      refine hcb.mono ?_
      rintro e W ⟨rfl, b1'⟩
      have b1 := b0.trans (b1'.mono b0.size)
      clear f0 f1 hcb b1' b0
      obtain ⟨Y, hY⟩ : ∃ Y, Y = w.heap.size + 1 + 1 + 1 := ⟨_, rfl⟩
      have hzE := HEz.out
      have hYW0 : Y + 1 ≤ W.heap.size := by have := b1.size; omega
      have y0 : W.cell? ⟨Y, 0, none⟩ = some (.slice none 0 0) := by rw [hY]; exact (b1.cell (p := ⟨w.heap.size + 1 + 1 + 1, 0, none⟩) (by show w.heap.size + 1 + 1 + 1 < _; omega)).trans X0.out
      have y1 : W.cell? ⟨Y, 1, none⟩ = some (.slice none 0 0) := by rw [hY]; exact (b1.cell (p := ⟨w.heap.size + 1 + 1 + 1, 1, none⟩) (by show w.heap.size + 1 + 1 + 1 < _; omega)).trans X1.out
      have yz : ∀ o, W.frozen? ⟨Y, o, none⟩ = false := fun o => by rw [hY]; exact (b1.frozen (p := ⟨w.heap.size + 1 + 1 + 1, o, none⟩) (by show w.heap.size + 1 + 1 + 1 < _; omega)).trans (XZ o).out
      have HW0 := Lib.hid (hE.trans (b1.mono hE.size))
      have HB1 := Lib.hid b1
      have HYe := Lib.hid hY
      have hwY : w.heap.size + 2 < Y := by omega
      clear hzE b1
      go_wp2
      rw [← hY]
      clear hY
      go_loopw [7] (fun i wr => ∃ (K : Nat) (V1 V2 : Value) (N L2 : List Int), K ≤ 40 ∧ i = .int .i64 (K : Nat) ∧ Hid (N = compN a.nulls b.nulls K) ∧ Hid (L2 = N.map (compV a b)) ∧ wr.cell? ⟨Y, 0, none⟩ = some V1 ∧ wr.cell? ⟨Y, 1, none⟩ = some V2 ∧ (∀ o, wr.frozen? ⟨Y, o, none⟩ = false) ∧ Hid (Two (Y + 1) V1 V2 N L2 wr) ∧ Hid (Below Y W wr)) (fun i _ => 40 - (intOf i).toNat)
      case atStart => exact ⟨0, _, _, [], [], by omega, rfl, Lib.hid rfl, Lib.hid rfl, y0, y1, yz, Lib.hid ⟨OwnInts.nil _ _, OwnInts.nil _ _, fun g hg => by cases hg⟩, Lib.hid (Below.refl _ _)⟩
      case round =>
        clear y0 y1 yz
        obtain ⟨K, V1, V2, N, L2, hK, rfl, HNe, HLe, y0, y1, yz, HT, HC⟩ := hrel
        have hC := HC.out
        have hYw : Y + 1 ≤ wr.heap.size := Nat.le_trans hYW0 hC.size
        have hwW : Below w.heap.size w wr := HW0.out.trans (hC.mono (by omega))
        have hlo : ∀ p o, p < Y → wr.cell? ⟨p, o, none⟩ = E.cell? ⟨p, o, none⟩ := fun p o hp => (hC.cell (p := ⟨p, o, none⟩) hp).trans (HB1.out.cell (p := ⟨p, o, none⟩) (by show p < _; have h1 := HEz.out; have h2 := HYe.out; omega))
        have HNl := Lib.hid (show N.length ≤ K by rw [HNe.out]; exact compN_len _ _ _)
        have HLM := Lib.hid (show L2.length ≤ 40 by rw [HLe.out, List.length_map]; have := HNl.out; omega)
        obtain ⟨P1, q1, rfl, -⟩ := HT.out.1.at_
        obtain ⟨P2, q2, rfl, -⟩ := HT.out.2.1.at_
        clear hC
        by_cases hlt : K < 40
        · have s0 := (hlo w.heap.size 0 (by omega)).trans S0.out
          have s1 := (hlo w.heap.size 1 (by omega)).trans S1.out
          have t0 := (hlo (w.heap.size + 1) 0 (by omega)).trans T0.out
          have t1 := (hlo (w.heap.size + 1) 1 (by omega)).trans T1.out
          have hha := fun (bb : Bool) (hq : decide ((K : Int) ∈ a.nulls) = bb) => specHas_at _ a.nulls (K : Int) bb hq wr (HN.out.later hwW)
          have hhb := fun (bb : Bool) (hq : decide ((K : Int) ∈ b.nulls) = bb) => specHas_at _ b.nulls (K : Int) bb hq wr (HN'.out.later hwW)
          by_cases hm : (K : Int) ∈ a.nulls ∨ (K : Int) ∈ b.nulls
          · have HSt := Lib.hid (compN_yes hm)
            have hcond : ∃ b1 b2, decide ((K : Int) ∈ a.nulls) = b1 ∧ decide ((K : Int) ∈ b.nulls) = b2 ∧ (b1 = true ∨ b1 = false ∧ b2 = true) := by
              by_cases h1 : (K : Int) ∈ a.nulls
              · exact ⟨_, _, rfl, rfl, .inl (decide_eq_true h1)⟩
              · exact ⟨_, _, rfl, rfl, .inr ⟨decide_eq_false h1, decide_eq_true (hm.resolve_left h1)⟩⟩
            obtain ⟨b1, b2, e1, e2, hbb⟩ := hcond
            replace hha := hha b1 e1
            replace hhb := hhb b2 e2
            have hone := OwnInts.one wr wr.heap.size (K : Int) (Nat.le_refl _)
            have HONE := Lib.hid hone.at_
            have HT1 := Lib.hid (HT.out.below ((Below.refl wr.heap.size wr).alloc (Nat.le_refl _) (.cells #[.int .i64 (K : Int)] 3)) (Nat.le_refl _))
            have hAl : Below wr.heap.size wr (wr.alloc (.cells #[.int .i64 (K : Int)] 3)) := (Below.refl _ _).alloc (Nat.le_refl _) _
            have a0 := (hAl.cell (p := ⟨Y, 0, none⟩) (by show Y < _; omega)).trans y0
            have hnlen : N.length ≤ 40 := by have := HNl.out; omega
            clear e1 e2 hm hone hAl hlo
            rcases hbb with rfl | ⟨rfl, rfl⟩
            · go_wp2_with fail
              refine hha.mono ?_
              rintro e _ ⟨rfl, rfl⟩
              clear hha hhb
              go_wp2_with (at_builtin; refine ints_apps (r := [(K : Int)]) HT1.out.1 rfl _ _ rfl rfl (some ⟨wr.heap.size, 0, none⟩) 1 1 rfl rfl HONE.out (fun h => by cases h) (by simp; omega) (by simp; omega) ?_; intro v5 w5 hO5 hB5 hG5 hN5; have hbA := ((Below.refl (Y + 1) wr).alloc hYw (.cells #[.int .i64 (K : Int)] 3)).trans hB5; have d0 := (hbA.cell (p := ⟨Y, 0, none⟩) (Nat.lt_succ_self _)).trans y0; have d1 := (hbA.cell (p := ⟨Y, 1, none⟩) (Nat.lt_succ_self _)).trans y1; have dz := fun o => (hbA.frozen (p := ⟨Y, o, none⟩) (Nat.lt_succ_self _)).trans (yz o); have HT5a := Lib.hid (HT1.out.first hO5 hG5 hN5); have HBA5 := Lib.hid hbA; obtain ⟨P3, q3, rfl, -⟩ := hO5.at_; clear hO5 hB5 hG5 hN5 hbA y0 yz a0)
              obtain ⟨WR, hWR⟩ : ∃ WR, WR = w5.setCell ⟨Y, 0, none⟩ (.slice P3 (N.length + 1) q3) := ⟨_, rfl⟩
              have x0 : WR.cell? ⟨Y, 0, none⟩ = some (.slice P3 (N.length + 1) q3) := by rw [hWR]; simp [go_sem, d0]
              have x1 : WR.cell? ⟨Y, 1, none⟩ = some (.slice P2 L2.length q2) := by rw [hWR]; simp [go_sem, d1]
              have xz : ∀ o, WR.frozen? ⟨Y, o, none⟩ = false := fun o => by rw [hWR]; simp [dz]
              have hbW : Below Y wr WR := by rw [hWR]; exact (show Below Y wr w5 from HBA5.out.mono (by omega)).setCell (p := ⟨Y, 0, none⟩) (Nat.le_refl Y) _
              have hYW : Y + 1 ≤ WR.heap.size := Nat.le_trans hYw hbW.size
              have HTW := Lib.hid (show Two (Y + 1) (.slice P3 (N.length + 1) q3) (.slice P2 L2.length q2) (N ++ [(K : Int)]) L2 WR by
                have hT := HT5a.out
                rw [show (N ++ [(K : Int)]).length = N.length + 1 by simp] at hT
                rw [hWR]; exact hT.chg ((Chg.refl (fun g => g = Y) w5).setCell (p := ⟨Y, 0, none⟩) rfl _) (fun k hk => by subst hk; omega))
              have HBW := Lib.hid (HC.out.trans hbW)
              have u0 := (hbW.cell (p := ⟨w.heap.size, 0, none⟩) (by show w.heap.size < Y; omega)).trans s0
              have u1 := (hbW.cell (p := ⟨w.heap.size, 1, none⟩) (by show w.heap.size < Y; omega)).trans s1
              have u2 := (hbW.cell (p := ⟨w.heap.size + 1, 0, none⟩) (by show w.heap.size + 1 < Y; omega)).trans t0
              have u3 := (hbW.cell (p := ⟨w.heap.size + 1, 1, none⟩) (by show w.heap.size + 1 < Y; omega)).trans t1
              have hwWR : Below w.heap.size w WR := hwW.trans (hbW.mono (by omega))
              obtain ⟨n0, hn0⟩ : ∃ n0, -1 - (K : Int) = n0 := ⟨_, rfl⟩
              obtain ⟨y, hy⟩ : ∃ y, applyV a n0 = y := ⟨_, rfl⟩
              obtain ⟨z, hz⟩ : ∃ z, applyV b y = z := ⟨_, rfl⟩
              have HZ := Lib.hid (show compV a b (K : Int) = z by unfold compV; rw [hn0, hy, hz])
              have HNV := Lib.hid (fun W => specNullValue_at (K : Int) n0 hn0 W (by omega) (by omega))
              have HAV := Lib.hid (fun W (hb : Below WR.heap.size WR W) => (by have := specApplyToValue_any _ a n0 W (HX.out.later (hwWR.trans (hb.mono hwWR.size))) hw; rw [hy] at this; exact this : Calls Tryz.prog 147 #[.agg #[.slice P a.nulls.length c, .slice Q a.vals.length d], .int .i64 n0] W fun e w' => e = .returned (.int .i64 y) ∧ Below W.heap.size W w'))
              have HBV := Lib.hid (fun W (hb : Below WR.heap.size WR W) => (by have := specApplyToValue_any _ b y W (HY.out.later (hwWR.trans (hb.mono hwWR.size))) hw'; rw [hz] at this; exact this : Calls Tryz.prog 147 #[.agg #[.slice P' b.nulls.length c', .slice Q' b.vals.length d'], .int .i64 y] W fun e w' => e = .returned (.int .i64 z) ∧ Below W.heap.size W w'))
              rw [← hWR]
              clear hn0 hy hz hWR d0 d1 dz s0 s1 t0 t1 hbW y1
              have hS : Holds [(⟨Y, 1, none⟩, .slice P2 L2.length q2), (⟨w.heap.size, 0, none⟩, .slice P a.nulls.length c), (⟨w.heap.size, 1, none⟩, .slice Q a.vals.length d), (⟨w.heap.size + 1, 0, none⟩, .slice P' b.nulls.length c'), (⟨w.heap.size + 1, 1, none⟩, .slice Q' b.vals.length d')] WR.drew := by
                intro p hp
                simp only [List.mem_cons, List.not_mem_nil, or_false] at hp
                rcases hp with rfl | rfl | rfl | rfl | rfl
                · exact x1
                · exact u0
                · exact u1
                · exact u2
                · exact u3
              have hSb : ∀ p ∈ [((⟨Y, 1, none⟩ : Addr), Value.slice P2 L2.length q2), (⟨w.heap.size, 0, none⟩, .slice P a.nulls.length c), (⟨w.heap.size, 1, none⟩, .slice Q a.vals.length d), (⟨w.heap.size + 1, 0, none⟩, .slice P' b.nulls.length c'), (⟨w.heap.size + 1, 1, none⟩, .slice Q' b.vals.length d')], p.1.block < Y + 1 := by
                intro p hp
                simp only [List.mem_cons, List.not_mem_nil, or_false] at hp
                rcases hp with rfl | rfl | rfl | rfl | rfl <;> simp <;> omega
              have g0 := Keep.cell (h0 := hS) (a := ⟨Y, 1, none⟩) (v := .slice P2 L2.length q2) (by simp)
              have g1 := Keep.cell (h0 := hS) (a := ⟨w.heap.size, 0, none⟩) (v := .slice P a.nulls.length c) (by simp)
              have g2 := Keep.cell (h0 := hS) (a := ⟨w.heap.size, 1, none⟩) (v := .slice Q a.vals.length d) (by simp)
              have g3 := Keep.cell (h0 := hS) (a := ⟨w.heap.size + 1, 0, none⟩) (v := .slice P' b.nulls.length c') (by simp)
              have g4 := Keep.cell (h0 := hS) (a := ⟨w.heap.size + 1, 1, none⟩) (v := .slice Q' b.vals.length d') (by simp)
              clear u0 u1 u2 u3
              refine wp_region_planL (C := fun w' => ∃ u : Keep _ WR.drew hS, w' = u.now) (.still 0 (.still 1 (.still 2 (.still 3 (.still 4 (.move true 5 (.move true 6 (.move true 7 (.move true 8 (.move true 9 (.still 10 (.move false 11 .done .none)) .none) .none) .none) .none) .none)))))) (by kernel_rfl) (by kernel_rfl) (by kernel_rfl) (fun _ => ⟨⟨_, hS⟩, rfl⟩) ?_
              iterate 5
                refine plan_look _ rfl rfl ?_
                go_big_quiet_step (fail)
                refine wpQuiet_nil ?_
              refine plan_call _ 148 _ _ _ _ _ rfl _ Tryz.func148 (by kernel_rfl) (by kernel_rfl) ?_ True.intro
              refine (HNV.out WR.drew).mono ?_
              rintro _ _ ⟨rfl, rfl⟩
              refine ⟨_, rfl, fun _ => ⟨⟨_, hS⟩, rfl⟩, ?_⟩
              refine plan_put ?_ (by simp only [Act.put, List.setIfInBounds_toArray, List.set_cons_succ, List.set_cons_zero]; rfl)
              refine plan_call _ 147 _ _ _ _ _ rfl _ Tryz.func147 (by kernel_rfl) (by kernel_rfl) ?_ True.intro
              refine (HAV.out WR.drew (Below.refl _ _).drew).mono ?_
              rintro _ w3 ⟨rfl, hb3⟩
              have hb3' : Below WR.heap.size WR w3 := (Below.refl _ _).drew.trans hb3
              refine ⟨_, rfl, fun _ => ⟨⟨_, hS.below hb3 (fun p hp => by have := hSb p hp; show _ < WR.heap.size; omega)⟩, rfl⟩, ?_⟩
              refine plan_put ?_ (by simp only [Act.put, List.setIfInBounds_toArray, List.set_cons_succ, List.set_cons_zero]; rfl)
              refine plan_call _ 147 _ _ _ _ _ rfl _ Tryz.func147 (by kernel_rfl) (by kernel_rfl) ?_ True.intro
              refine (HBV.out w3 hb3').mono ?_
              rintro _ w4 ⟨rfl, hb4⟩
              have hb4' : Below WR.heap.size WR w4 := hb3'.trans (hb4.mono hb3'.size)
              have hb4d := hb3.trans (hb4.mono hb3.size)
              refine ⟨_, rfl, fun _ => ⟨⟨_, hS.below hb4d (fun p hp => by have := hSb p hp; show _ < WR.heap.size; omega)⟩, rfl⟩, ?_⟩
              refine plan_put ?_ (by simp only [Act.put, List.setIfInBounds_toArray, List.set_cons_succ, List.set_cons_zero]; rfl)
              have hz4 := hb4'.size
              have HB4 := Lib.hid hb4'
              have HD4 := Lib.hid hb4d
              clear hb3 hb3' hb4 hb4' hb4d
              refine plan_value (u := .slice (some ⟨w4.heap.size, 0, none⟩) 1 1) (w' := w4.alloc (.cells #[.int .i64 z] 3)) _ rfl rfl rfl (by simp [go_sem]) (fun _ => ⟨⟨_, hS.below (HD4.out.alloc hz4 _) (fun p hp => by have := hSb p hp; show _ < WR.heap.size; omega)⟩, rfl⟩) ?_ True.intro
              refine plan_put ?_ (by simp only [Act.put, List.setIfInBounds_toArray, List.set_cons_succ, List.set_cons_zero]; rfl)
              have hT4 := (HTW.out.below HB4.out (Nat.le_refl _)).below ((Below.refl w4.heap.size w4).alloc (Nat.le_refl _) (.cells #[.int .i64 z] 3)) (Nat.le_refl _)
              have hO4 := hT4.2.1
              unfold OwnInts at hO4
              rw [← flat_int] at hO4
              have hr : SliceAt intCell (w4.alloc (.cells #[.int .i64 z] 3)) (w4.heap.size + 1) (.slice (some ⟨w4.heap.size, 0, none⟩) [z].length 1) [z] := by
                refine ⟨_, _, rfl, Nat.le_refl _, by simp [maxLen], fun _ => ⟨_, _, rfl, by omega, ?_⟩, fun h => by cases h⟩
                intro i u hu
                rw [Nat.zero_add, box_cell]
                simpa [intCell] using hu
              refine plan_app intCell 1 8 (r := [z]) (fun x _ u hu => by simp [intCell] at hu; subst hu; rfl) (fun _ => rfl) _ rfl rfl Tryz.underlying55 infoInt rfl (by decide) hO4 _ _ rfl rfl ⟨w4.heap.size, 0, none⟩ 1 1 rfl rfl hr (by have := HLM.out; simp; omega) (by have := HLM.out; simp; omega) (by simp; omega) ?_ True.intro
              intro v5 w5 hO5' hB5 hG5 hN5
              have hO5 : OwnInts (Y + 1) v5 (L2 ++ [z]) w5 := by
                have := hO5'
                rw [flat_int] at this
                simpa [OwnInts] using this
              have hT5 := hT4.second hO5 hG5 hN5
              obtain ⟨P5, q5, rfl, -⟩ := hO5.at_
              have hbA : Below (Y + 1) WR w5 := ((HB4.out.mono hYW).alloc (by omega) _).trans hB5
              have hbD : Below (Y + 1) WR.drew w5 := ((HD4.out.mono (by show Y + 1 ≤ WR.heap.size; omega)).alloc (by omega) _).trans hB5
              have z0 := (hbA.cell (p := ⟨Y, 0, none⟩) (Nat.lt_succ_self _)).trans x0
              have z1 := (hbA.cell (p := ⟨Y, 1, none⟩) (Nat.lt_succ_self _)).trans x1
              have zz := fun o => (hbA.frozen (p := ⟨Y, o, none⟩) (Nat.lt_succ_self _)).trans (xz o)
              have HT5 := Lib.hid hT5
              have HBA := Lib.hid hbA
              refine ⟨fun _ => ⟨⟨_, hS.below hbD hSb⟩, rfl⟩, ?_⟩
              clear hT5 hO5 hO5' hB5 hG5 hN5 hbA hbD hT4 hO4 hr g0 g1 g2 g3 g4 x0 x1 xz
              refine plan_put ?_ (by simp only [Act.put, List.setIfInBounds_toArray, List.set_cons_succ, List.set_cons_zero]; rfl)
              refine plan_look _ rfl rfl ?_
              go_big_quiet_step (fail)
              refine wpQuiet_nil ?_
              refine plan_skip (w' := w5.setCell ⟨Y, 1, none⟩ (.slice P5 (L2 ++ [z]).length q5)) _ rfl rfl rfl (by simp [go_sem, z1, zz]) (fun e => by cases e) ?_ True.intro
              refine plan_put ?_ (by simp only [Act.put]; rfl)
              refine plan_done ?_
              go_wp2
              go_roundw
              case rel =>
                refine ⟨K + 1, .slice P3 (N.length + 1) q3, .slice P5 (L2 ++ [z]).length q5, N ++ [(K : Int)], L2 ++ [z], by omega, by go_num, Lib.hid (by rw [HSt.out, HNe.out]), Lib.hid (by rw [List.map_append, HLe.out, ← HZ.out]; rfl), by simp [go_sem, z0], by simp [go_sem, z1], fun o => by simp [zz], Lib.hid ?_, Lib.hid ?_⟩
                · exact HT5.out.chg ((Chg.refl (fun g => g = Y) w5).setCell (p := ⟨Y, 1, none⟩) rfl _) (fun k hk => by subst hk; omega)
                · exact HBW.out.trans ((show Below Y WR w5 from HBA.out.mono (by omega)).setCell (p := ⟨Y, 1, none⟩) (Nat.le_refl Y) _)
              case measure => simp [intOf]; omega
            · go_wp2_with fail
              refine hha.mono ?_
              rintro e _ ⟨rfl, rfl⟩
              go_wp2_with fail
              refine hhb.mono ?_
              rintro e _ ⟨rfl, rfl⟩
              clear hha hhb
              go_wp2_with (at_builtin; refine ints_apps (r := [(K : Int)]) HT1.out.1 rfl _ _ rfl rfl (some ⟨wr.heap.size, 0, none⟩) 1 1 rfl rfl HONE.out (fun h => by cases h) (by simp; omega) (by simp; omega) ?_; intro v5 w5 hO5 hB5 hG5 hN5; have hbA := ((Below.refl (Y + 1) wr).alloc hYw (.cells #[.int .i64 (K : Int)] 3)).trans hB5; have d0 := (hbA.cell (p := ⟨Y, 0, none⟩) (Nat.lt_succ_self _)).trans y0; have d1 := (hbA.cell (p := ⟨Y, 1, none⟩) (Nat.lt_succ_self _)).trans y1; have dz := fun o => (hbA.frozen (p := ⟨Y, o, none⟩) (Nat.lt_succ_self _)).trans (yz o); have HT5a := Lib.hid (HT1.out.first hO5 hG5 hN5); have HBA5 := Lib.hid hbA; obtain ⟨P3, q3, rfl, -⟩ := hO5.at_; clear hO5 hB5 hG5 hN5 hbA y0 yz a0)
              obtain ⟨WR, hWR⟩ : ∃ WR, WR = w5.setCell ⟨Y, 0, none⟩ (.slice P3 (N.length + 1) q3) := ⟨_, rfl⟩
              have x0 : WR.cell? ⟨Y, 0, none⟩ = some (.slice P3 (N.length + 1) q3) := by rw [hWR]; simp [go_sem, d0]
              have x1 : WR.cell? ⟨Y, 1, none⟩ = some (.slice P2 L2.length q2) := by rw [hWR]; simp [go_sem, d1]
              have xz : ∀ o, WR.frozen? ⟨Y, o, none⟩ = false := fun o => by rw [hWR]; simp [dz]
              have hbW : Below Y wr WR := by rw [hWR]; exact (show Below Y wr w5 from HBA5.out.mono (by omega)).setCell (p := ⟨Y, 0, none⟩) (Nat.le_refl Y) _
              have hYW : Y + 1 ≤ WR.heap.size := Nat.le_trans hYw hbW.size
              have HTW := Lib.hid (show Two (Y + 1) (.slice P3 (N.length + 1) q3) (.slice P2 L2.length q2) (N ++ [(K : Int)]) L2 WR by
                have hT := HT5a.out
                rw [show (N ++ [(K : Int)]).length = N.length + 1 by simp] at hT
                rw [hWR]; exact hT.chg ((Chg.refl (fun g => g = Y) w5).setCell (p := ⟨Y, 0, none⟩) rfl _) (fun k hk => by subst hk; omega))
              have HBW := Lib.hid (HC.out.trans hbW)
              have u0 := (hbW.cell (p := ⟨w.heap.size, 0, none⟩) (by show w.heap.size < Y; omega)).trans s0
              have u1 := (hbW.cell (p := ⟨w.heap.size, 1, none⟩) (by show w.heap.size < Y; omega)).trans s1
              have u2 := (hbW.cell (p := ⟨w.heap.size + 1, 0, none⟩) (by show w.heap.size + 1 < Y; omega)).trans t0
              have u3 := (hbW.cell (p := ⟨w.heap.size + 1, 1, none⟩) (by show w.heap.size + 1 < Y; omega)).trans t1
              have hwWR : Below w.heap.size w WR := hwW.trans (hbW.mono (by omega))
              obtain ⟨n0, hn0⟩ : ∃ n0, -1 - (K : Int) = n0 := ⟨_, rfl⟩
              obtain ⟨y, hy⟩ : ∃ y, applyV a n0 = y := ⟨_, rfl⟩
              obtain ⟨z, hz⟩ : ∃ z, applyV b y = z := ⟨_, rfl⟩
              have HZ := Lib.hid (show compV a b (K : Int) = z by unfold compV; rw [hn0, hy, hz])
              have HNV := Lib.hid (fun W => specNullValue_at (K : Int) n0 hn0 W (by omega) (by omega))
              have HAV := Lib.hid (fun W (hb : Below WR.heap.size WR W) => (by have := specApplyToValue_any _ a n0 W (HX.out.later (hwWR.trans (hb.mono hwWR.size))) hw; rw [hy] at this; exact this : Calls Tryz.prog 147 #[.agg #[.slice P a.nulls.length c, .slice Q a.vals.length d], .int .i64 n0] W fun e w' => e = .returned (.int .i64 y) ∧ Below W.heap.size W w'))
              have HBV := Lib.hid (fun W (hb : Below WR.heap.size WR W) => (by have := specApplyToValue_any _ b y W (HY.out.later (hwWR.trans (hb.mono hwWR.size))) hw'; rw [hz] at this; exact this : Calls Tryz.prog 147 #[.agg #[.slice P' b.nulls.length c', .slice Q' b.vals.length d'], .int .i64 y] W fun e w' => e = .returned (.int .i64 z) ∧ Below W.heap.size W w'))
              rw [← hWR]
              clear hn0 hy hz hWR d0 d1 dz s0 s1 t0 t1 hbW y1
              have hS : Holds [(⟨Y, 1, none⟩, .slice P2 L2.length q2), (⟨w.heap.size, 0, none⟩, .slice P a.nulls.length c), (⟨w.heap.size, 1, none⟩, .slice Q a.vals.length d), (⟨w.heap.size + 1, 0, none⟩, .slice P' b.nulls.length c'), (⟨w.heap.size + 1, 1, none⟩, .slice Q' b.vals.length d')] WR.drew := by
                intro p hp
                simp only [List.mem_cons, List.not_mem_nil, or_false] at hp
                rcases hp with rfl | rfl | rfl | rfl | rfl
                · exact x1
                · exact u0
                · exact u1
                · exact u2
                · exact u3
              have hSb : ∀ p ∈ [((⟨Y, 1, none⟩ : Addr), Value.slice P2 L2.length q2), (⟨w.heap.size, 0, none⟩, .slice P a.nulls.length c), (⟨w.heap.size, 1, none⟩, .slice Q a.vals.length d), (⟨w.heap.size + 1, 0, none⟩, .slice P' b.nulls.length c'), (⟨w.heap.size + 1, 1, none⟩, .slice Q' b.vals.length d')], p.1.block < Y + 1 := by
                intro p hp
                simp only [List.mem_cons, List.not_mem_nil, or_false] at hp
                rcases hp with rfl | rfl | rfl | rfl | rfl <;> simp <;> omega
              have g0 := Keep.cell (h0 := hS) (a := ⟨Y, 1, none⟩) (v := .slice P2 L2.length q2) (by simp)
              have g1 := Keep.cell (h0 := hS) (a := ⟨w.heap.size, 0, none⟩) (v := .slice P a.nulls.length c) (by simp)
              have g2 := Keep.cell (h0 := hS) (a := ⟨w.heap.size, 1, none⟩) (v := .slice Q a.vals.length d) (by simp)
              have g3 := Keep.cell (h0 := hS) (a := ⟨w.heap.size + 1, 0, none⟩) (v := .slice P' b.nulls.length c') (by simp)
              have g4 := Keep.cell (h0 := hS) (a := ⟨w.heap.size + 1, 1, none⟩) (v := .slice Q' b.vals.length d') (by simp)
              clear u0 u1 u2 u3
              refine wp_region_planL (C := fun w' => ∃ u : Keep _ WR.drew hS, w' = u.now) (.still 0 (.still 1 (.still 2 (.still 3 (.still 4 (.move true 5 (.move true 6 (.move true 7 (.move true 8 (.move true 9 (.still 10 (.move false 11 .done .none)) .none) .none) .none) .none) .none)))))) (by kernel_rfl) (by kernel_rfl) (by kernel_rfl) (fun _ => ⟨⟨_, hS⟩, rfl⟩) ?_
              iterate 5
                refine plan_look _ rfl rfl ?_
                go_big_quiet_step (fail)
                refine wpQuiet_nil ?_
              refine plan_call _ 148 _ _ _ _ _ rfl _ Tryz.func148 (by kernel_rfl) (by kernel_rfl) ?_ True.intro
              refine (HNV.out WR.drew).mono ?_
              rintro _ _ ⟨rfl, rfl⟩
              refine ⟨_, rfl, fun _ => ⟨⟨_, hS⟩, rfl⟩, ?_⟩
              refine plan_put ?_ (by simp only [Act.put, List.setIfInBounds_toArray, List.set_cons_succ, List.set_cons_zero]; rfl)
              refine plan_call _ 147 _ _ _ _ _ rfl _ Tryz.func147 (by kernel_rfl) (by kernel_rfl) ?_ True.intro
              refine (HAV.out WR.drew (Below.refl _ _).drew).mono ?_
              rintro _ w3 ⟨rfl, hb3⟩
              have hb3' : Below WR.heap.size WR w3 := (Below.refl _ _).drew.trans hb3
              refine ⟨_, rfl, fun _ => ⟨⟨_, hS.below hb3 (fun p hp => by have := hSb p hp; show _ < WR.heap.size; omega)⟩, rfl⟩, ?_⟩
              refine plan_put ?_ (by simp only [Act.put, List.setIfInBounds_toArray, List.set_cons_succ, List.set_cons_zero]; rfl)
              refine plan_call _ 147 _ _ _ _ _ rfl _ Tryz.func147 (by kernel_rfl) (by kernel_rfl) ?_ True.intro
              refine (HBV.out w3 hb3').mono ?_
              rintro _ w4 ⟨rfl, hb4⟩
              have hb4' : Below WR.heap.size WR w4 := hb3'.trans (hb4.mono hb3'.size)
              have hb4d := hb3.trans (hb4.mono hb3.size)
              refine ⟨_, rfl, fun _ => ⟨⟨_, hS.below hb4d (fun p hp => by have := hSb p hp; show _ < WR.heap.size; omega)⟩, rfl⟩, ?_⟩
              refine plan_put ?_ (by simp only [Act.put, List.setIfInBounds_toArray, List.set_cons_succ, List.set_cons_zero]; rfl)
              have hz4 := hb4'.size
              have HB4 := Lib.hid hb4'
              have HD4 := Lib.hid hb4d
              clear hb3 hb3' hb4 hb4' hb4d
              refine plan_value (u := .slice (some ⟨w4.heap.size, 0, none⟩) 1 1) (w' := w4.alloc (.cells #[.int .i64 z] 3)) _ rfl rfl rfl (by simp [go_sem]) (fun _ => ⟨⟨_, hS.below (HD4.out.alloc hz4 _) (fun p hp => by have := hSb p hp; show _ < WR.heap.size; omega)⟩, rfl⟩) ?_ True.intro
              refine plan_put ?_ (by simp only [Act.put, List.setIfInBounds_toArray, List.set_cons_succ, List.set_cons_zero]; rfl)
              have hT4 := (HTW.out.below HB4.out (Nat.le_refl _)).below ((Below.refl w4.heap.size w4).alloc (Nat.le_refl _) (.cells #[.int .i64 z] 3)) (Nat.le_refl _)
              have hO4 := hT4.2.1
              unfold OwnInts at hO4
              rw [← flat_int] at hO4
              have hr : SliceAt intCell (w4.alloc (.cells #[.int .i64 z] 3)) (w4.heap.size + 1) (.slice (some ⟨w4.heap.size, 0, none⟩) [z].length 1) [z] := by
                refine ⟨_, _, rfl, Nat.le_refl _, by simp [maxLen], fun _ => ⟨_, _, rfl, by omega, ?_⟩, fun h => by cases h⟩
                intro i u hu
                rw [Nat.zero_add, box_cell]
                simpa [intCell] using hu
              refine plan_app intCell 1 8 (r := [z]) (fun x _ u hu => by simp [intCell] at hu; subst hu; rfl) (fun _ => rfl) _ rfl rfl Tryz.underlying55 infoInt rfl (by decide) hO4 _ _ rfl rfl ⟨w4.heap.size, 0, none⟩ 1 1 rfl rfl hr (by have := HLM.out; simp; omega) (by have := HLM.out; simp; omega) (by simp; omega) ?_ True.intro
              intro v5 w5 hO5' hB5 hG5 hN5
              have hO5 : OwnInts (Y + 1) v5 (L2 ++ [z]) w5 := by
                have := hO5'
                rw [flat_int] at this
                simpa [OwnInts] using this
              have hT5 := hT4.second hO5 hG5 hN5
              obtain ⟨P5, q5, rfl, -⟩ := hO5.at_
              have hbA : Below (Y + 1) WR w5 := ((HB4.out.mono hYW).alloc (by omega) _).trans hB5
              have hbD : Below (Y + 1) WR.drew w5 := ((HD4.out.mono (by show Y + 1 ≤ WR.heap.size; omega)).alloc (by omega) _).trans hB5
              have z0 := (hbA.cell (p := ⟨Y, 0, none⟩) (Nat.lt_succ_self _)).trans x0
              have z1 := (hbA.cell (p := ⟨Y, 1, none⟩) (Nat.lt_succ_self _)).trans x1
              have zz := fun o => (hbA.frozen (p := ⟨Y, o, none⟩) (Nat.lt_succ_self _)).trans (xz o)
              have HT5 := Lib.hid hT5
              have HBA := Lib.hid hbA
              refine ⟨fun _ => ⟨⟨_, hS.below hbD hSb⟩, rfl⟩, ?_⟩
              clear hT5 hO5 hO5' hB5 hG5 hN5 hbA hbD hT4 hO4 hr g0 g1 g2 g3 g4 x0 x1 xz
              refine plan_put ?_ (by simp only [Act.put, List.setIfInBounds_toArray, List.set_cons_succ, List.set_cons_zero]; rfl)
              refine plan_look _ rfl rfl ?_
              go_big_quiet_step (fail)
              refine wpQuiet_nil ?_
              refine plan_skip (w' := w5.setCell ⟨Y, 1, none⟩ (.slice P5 (L2 ++ [z]).length q5)) _ rfl rfl rfl (by simp [go_sem, z1, zz]) (fun e => by cases e) ?_ True.intro
              refine plan_put ?_ (by simp only [Act.put]; rfl)
              refine plan_done ?_
              go_wp2
              go_roundw
              case rel =>
                refine ⟨K + 1, .slice P3 (N.length + 1) q3, .slice P5 (L2 ++ [z]).length q5, N ++ [(K : Int)], L2 ++ [z], by omega, by go_num, Lib.hid (by rw [HSt.out, HNe.out]), Lib.hid (by rw [List.map_append, HLe.out, ← HZ.out]; rfl), by simp [go_sem, z0], by simp [go_sem, z1], fun o => by simp [zz], Lib.hid ?_, Lib.hid ?_⟩
                · exact HT5.out.chg ((Chg.refl (fun g => g = Y) w5).setCell (p := ⟨Y, 1, none⟩) rfl _) (fun k hk => by subst hk; omega)
                · exact HBW.out.trans ((show Below Y WR w5 from HBA.out.mono (by omega)).setCell (p := ⟨Y, 1, none⟩) (Nat.le_refl Y) _)
              case measure => simp [intOf]; omega
          · have h1 : (K : Int) ∉ a.nulls := fun h => hm (.inl h)
            have h2 : (K : Int) ∉ b.nulls := fun h => hm (.inr h)
            have HSt := Lib.hid (compN_no h1 h2)
            replace hha := hha false (decide_eq_false h1)
            replace hhb := hhb false (decide_eq_false h2)
            clear hm h1 h2 s1 t1 hlo
            go_wp2_with fail
            refine hha.mono ?_
            rintro e _ ⟨rfl, rfl⟩
            go_wp2_with fail
            refine hhb.mono ?_
            rintro e _ ⟨rfl, rfl⟩
            clear hha hhb s0 t0
            go_wp2
            go_roundw
            case rel => exact ⟨K + 1, _, _, N, L2, by omega, by go_num, Lib.hid (by rw [HSt.out, HNe.out]), HLe, y0, y1, yz, HT, HC⟩
            case measure => simp [intOf]; omega
        · obtain rfl : K = 40 := by omega
          have r0 := (hlo (w.heap.size + 1 + 1) 0 (by omega)).trans R0.out
          have r1 := (hlo (w.heap.size + 1 + 1) 1 (by omega)).trans R1.out
          have r2 : ∀ o, wr.frozen? ⟨w.heap.size + 1 + 1, o, none⟩ = false := fun o => (HC.out.frozen (p := ⟨w.heap.size + 1 + 1, o, none⟩) (by show w.heap.size + 1 + 1 < Y; omega)).trans ((HB1.out.frozen (p := ⟨w.heap.size + 1 + 1, o, none⟩) (by show w.heap.size + 1 + 1 < _; have := HEz.out; omega)).trans (RZ o).out)
          have HwW := Lib.hid hwW
          have HST : ∀ u1 u2, Chg (fun g => g = w.heap.size + 1 + 1) wr ((wr.setCell ⟨w.heap.size + 1 + 1, 0, none⟩ u1).setCell ⟨w.heap.size + 1 + 1, 1, none⟩ u2) := fun u1 u2 => ((Chg.refl (fun g => g = w.heap.size + 1 + 1) wr).setCell (p := ⟨w.heap.size + 1 + 1, 0, none⟩) rfl _).setCell (p := ⟨w.heap.size + 1 + 1, 1, none⟩) rfl _
          clear hwW hlo
          go_wp2
          refine bodyPost_ret (v := .tuple #[.agg #[.slice P1 N.length q1, .slice P2 L2.length q2], .bool true]) (by simp [results, Tryz.results64, go_sem, r0, r1]) rfl ⟨_, by unfold Compose_ok; rw [HV.out], ?_, ?_⟩
          · unfold Compose_r0
            rw [composeS_yes HV.out, ← HNe.out, ← HLe.out]
            have hT := HT.out.chg (HST (.slice P1 N.length q1) (.slice P2 L2.length q2)) (fun k hk => by subst hk; omega)
            exact ⟨_, _, rfl, (IntsO.of hT.1).mono (by omega) (Nat.le_refl _), (IntsO.of hT.2.1).mono (by omega) (Nat.le_refl _), hT.2.2⟩
          · exact HwW.out.trans ((HST (.slice P1 N.length q1) (.slice P2 L2.length q2)).below (fun g hg => by subst hg; omega) HwW.out.size)
theorem specCompose_o (v : Value) (a : Sbst) (u : Value) (b : Sbst) (w : World) (h : Substitution_at w w.heap.size v a) (hw : Substitution_wf a) (_ : Substitution_sz a ≤ 1048576) (h' : Substitution_at w w.heap.size u b) (hw' : Substitution_wf b) (_ : Substitution_sz b ≤ 1048576) :
    Calls Tryz.prog 64 #[v, u] w fun e w' => ∃ r0, e = .returned (.tuple #[r0, .bool (Compose_ok a b)]) ∧ Substitution_own w.heap.size w'.heap.size r0 (Compose_r0 a b) w' ∧ Below w.heap.size w w' := specCompose_any v u a b w h hw h' hw'

end Go.Proofs.YtmecdjincmkofaaGreatDoor
