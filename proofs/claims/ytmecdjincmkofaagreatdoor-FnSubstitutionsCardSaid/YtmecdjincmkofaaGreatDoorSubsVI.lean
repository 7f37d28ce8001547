/-
  Walks and plain lemmas for the laws of this seat: what single Go functions return, for every argument.
-/
import Derived.Test.YtmecdjincmkofaaGreatDoorShelf
import Derived.Test.YtmecdjincmkofaaGreatDoorMem
import Derived.Test.YtmecdjincmkofaaGreatDoorInts
import Derived.Test.YtmecdjincmkofaaGreatDoorNum
import Derived.Test.YtmecdjincmkofaaGreatDoorPlan
import Derived.Test.YtmecdjincmkofaaGreatDoorFact
import Derived.Test.YtmecdjincmkofaaGreatDoorTyInst
import Derived.Test.YtmecdjincmkofaaGreatDoorTakeE
import Derived.Test.YtmecdjincmkofaaGreatDoorMSub
import Derived.Test.YtmecdjincmkofaaGreatDoorSubsF
namespace Go.Proofs.YtmecdjincmkofaaGreatDoor
open Go.RowKit

set_option maxHeartbeats 3200000 in
set_option maxRecDepth 100000 in
theorem implIsValidSub_any (v : Value) (x : Sbst) (w : World) (h : Substitution_at w w.heap.size v x) (hw : Substitution_wf x) :
    Calls Tryz.prog 65 #[v] w fun e w' => e = .returned (.bool (subOk x)) ∧ Below w.heap.size w w' := by
  obtain ⟨P, c, Q, d, rfl⟩ := Substitution_form h
  obtain ⟨V1, V2, hv, hN, hU⟩ := h
  simp only [Value.agg.injEq, Array.mk.injEq, List.cons.injEq, and_true] at hv
  obtain ⟨rfl, rfl⟩ := hv
  obtain ⟨_, _, hv1, hc1, hc2⟩ := hN.form
  injection hv1 with e1 _ e2
  subst e1 e2
  obtain ⟨_, _, hv2, hd1, hd2⟩ := hU.form
  injection hv2 with e1 _ e2
  subst e1 e2
  unfold maxLen at hc2 hd2
  have HNl := Lib.hid hN
  have HUl := Lib.hid hU
  clear hN hU
  have hE : Below w.heap.size w (w.alloc (.cells #[.slice P x.nulls.length c, .slice Q x.vals.length d] 81)) := (Below.refl _ _).alloc (Nat.le_refl _) _
  have hEz : w.heap.size + 1 = (w.alloc (.cells #[.slice P x.nulls.length c, .slice Q x.vals.length d] 81)).heap.size := by simp
  have K0 := Lib.hid (show (w.alloc (.cells #[.slice P x.nulls.length c, .slice Q x.vals.length d] 81)).cell? ⟨w.heap.size, 0, none⟩ = some (.slice P x.nulls.length c) by simp [go_sem])
  have K1 := Lib.hid (show (w.alloc (.cells #[.slice P x.nulls.length c, .slice Q x.vals.length d] 81)).cell? ⟨w.heap.size, 1, none⟩ = some (.slice Q x.vals.length d) by simp [go_sem])
  have HE := Lib.hid hEz
  clear hEz
  by_cases hlen : x.nulls.length = x.vals.length
  · have hbn : ((x.nulls.length : Int) != x.vals.length) = false := by rw [hlen]; simp
    have HL := Lib.hid hlen
    clear hlen
    go_enter Tryz.func65, Tryz.ntmps65
    go_wp2
    go_loopw [15] (fun i wr => ∃ k : Nat, k ≤ x.nulls.length ∧ i = .int .i64 k ∧ Hid (SbTo x k) ∧ Below (w.alloc (.cells #[.slice P x.nulls.length c, .slice Q x.vals.length d] 81)).heap.size (w.alloc (.cells #[.slice P x.nulls.length c, .slice Q x.vals.length d] 81)) wr) (fun i _ => x.nulls.length - (intOf i).toNat)
    case atStart => exact ⟨0, by omega, rfl, Lib.hid (SbTo.zero x), Below.refl _ _⟩
    case round =>
      obtain ⟨k, hk, rfl, HT, hW⟩ := hrel
      have hWw := hE.trans (hW.mono hE.size)
      have hzw : w.heap.size < wr.heap.size := by have h1 := hW.size; have h2 := HE.out; omega
      have f0 := (hW.cell (p := ⟨w.heap.size, 0, none⟩) (by show w.heap.size < _; have := HE.out; omega)).trans K0.out
      have f1 := (hW.cell (p := ⟨w.heap.size, 1, none⟩) (by show w.heap.size < _; have := HE.out; omega)).trans K1.out
      by_cases hlt : k < x.nulls.length
      · have hlt2 : k < x.vals.length := by have := HL.out; omega
        obtain ⟨b, off, rfl, hb, c0⟩ := IntsAt.elem HNl.out k hlt
        obtain ⟨b', off', rfl, hb', d0⟩ := IntsAt.elem HUl.out k hlt2
        have C0 := (((hWw.cell (p := ⟨b, off + k, none⟩) hb).trans c0))
        have D0 := (((hWw.cell (p := ⟨b', off' + k, none⟩) hb').trans d0))
        have hin0 := fun (bb : Bool) (hq : inB x.nulls[k] 0 39 = bb) (W : World) => implIsNullNumber_at x.nulls[k] bb hq W
        have hvc0 := fun (bb : Bool) (hq : validV x.vals[k] = bb) (W : World) => implIsValidValue_at x.vals[k] bb hq W (hw.2 k hlt2).1 (hw.2 k hlt2).2
        clear c0 d0
        cases hi : inB x.nulls[k] 0 39 with
        | false =>
          have hin := hin0 false hi
          have hvc : ∀ W, Calls Tryz.prog 119 #[.int .i64 x.vals[k]] W fun e w' => e = .returned (.bool (validV x.vals[k])) ∧ W = w' := hvc0 _ rfl
          have HV := Lib.hid (subOk_no _ hlt (subElem_in hlt hlt2 hi))
          clear HT hi hin0 hvc0
          go_wp2_with (first | (go_at_call 149; refine (hin _).mono ?_; rintro e w1 ⟨rfl, rfl⟩) | (go_at_call 119; refine (hvc _).mono ?_; rintro e w1 ⟨rfl, rfl⟩))
          go_ret
          exact ⟨ret_bool HV.out.symm, hWw⟩
        | true =>
          have hin := hin0 true hi
          cases hv : validV x.vals[k] with
          | false =>
            have hvc := hvc0 false hv
            rcases Nat.eq_zero_or_pos k with h0 | h0
            · have hg1 : decide ((0 : Int) < (k : Int)) = false := decide_eq_false (by omega)
              have hg2 : decide (0 < k) = false := decide_eq_false (by omega)
              have HV := Lib.hid (subOk_no _ hlt (subElem_val hlt hlt2 hv))
              clear HT hi hv hin0 hvc0 h0
              go_wp2_with (first | (go_at_call 149; refine (hin _).mono ?_; rintro e w1 ⟨rfl, rfl⟩) | (go_at_call 119; refine (hvc _).mono ?_; rintro e w1 ⟨rfl, rfl⟩))
              go_ret
              exact ⟨ret_bool HV.out.symm, hWw⟩
            · obtain ⟨j, rfl⟩ : ∃ j, k = j + 1 := ⟨k - 1, by omega⟩
              have hj : j < x.nulls.length := by omega
              obtain ⟨b2, off2, hA, -, c1⟩ := IntsAt.elem HNl.out j hj
              obtain ⟨rfl, rfl⟩ : b = b2 ∧ off = off2 := by simpa using hA
              have C1 := (((hWw.cell (p := ⟨b, off + j, none⟩) hb).trans c1))
              clear hA c1
              by_cases ho : x.nulls[j + 1] ≤ x.nulls[j]
              · have hdo : decide (x.nulls[j + 1] ≤ x.nulls[j]) = true := decide_eq_true ho
                have HV := Lib.hid (subOk_no _ hlt (subElem_val hlt hlt2 hv))
                clear HT hi hv hin0 hvc0 ho h0
                go_wp2_with (first | (go_at_call 149; refine (hin _).mono ?_; rintro e w1 ⟨rfl, rfl⟩) | (go_at_call 119; refine (hvc _).mono ?_; rintro e w1 ⟨rfl, rfl⟩))
                go_ret
                exact ⟨ret_bool HV.out.symm, hWw⟩
              · have hdo : decide (x.nulls[j + 1] ≤ x.nulls[j]) = false := decide_eq_false ho
                have HV := Lib.hid (subOk_no _ hlt (subElem_val hlt hlt2 hv))
                clear HT hi hv hin0 hvc0 ho h0
                go_wp2_with (first | (go_at_call 149; refine (hin _).mono ?_; rintro e w1 ⟨rfl, rfl⟩) | (go_at_call 119; refine (hvc _).mono ?_; rintro e w1 ⟨rfl, rfl⟩))
                go_ret
                exact ⟨ret_bool HV.out.symm, hWw⟩
          | true =>
            have hvc := hvc0 true hv
            rcases Nat.eq_zero_or_pos k with h0 | h0
            · have hg1 : decide ((0 : Int) < (k : Int)) = false := decide_eq_false (by omega)
              have hg2 : decide (0 < k) = false := decide_eq_false (by omega)
              have hEl : subElem x k = true := by subst h0; exact subElem_yes0 hlt hlt2 hi hv
              have HN := Lib.hid (HT.out.next (hEl))
              clear HT hi hv hin0 hvc0 h0 hEl
              go_wp2_with (first | (go_at_call 149; refine (hin _).mono ?_; rintro e w1 ⟨rfl, rfl⟩) | (go_at_call 119; refine (hvc _).mono ?_; rintro e w1 ⟨rfl, rfl⟩))
              go_roundw
              case rel => exact ⟨k + 1, by omega, by go_num, HN, hW⟩
              case measure => simp [intOf]; omega
            · obtain ⟨j, rfl⟩ : ∃ j, k = j + 1 := ⟨k - 1, by omega⟩
              have hj : j < x.nulls.length := by omega
              obtain ⟨b2, off2, hA, -, c1⟩ := IntsAt.elem HNl.out j hj
              obtain ⟨rfl, rfl⟩ : b = b2 ∧ off = off2 := by simpa using hA
              have C1 := (((hWw.cell (p := ⟨b, off + j, none⟩) hb).trans c1))
              clear hA c1
              by_cases ho : x.nulls[j + 1] ≤ x.nulls[j]
              · have hdo : decide (x.nulls[j + 1] ≤ x.nulls[j]) = true := decide_eq_true ho
                have HV := Lib.hid (subOk_no _ hlt (subElem_ord hlt hlt2 (by omega)))
                clear HT hi hv hin0 hvc0 ho h0
                go_wp2_with (first | (go_at_call 149; refine (hin _).mono ?_; rintro e w1 ⟨rfl, rfl⟩) | (go_at_call 119; refine (hvc _).mono ?_; rintro e w1 ⟨rfl, rfl⟩))
                go_ret
                exact ⟨ret_bool HV.out.symm, hWw⟩
              · have hdo : decide (x.nulls[j + 1] ≤ x.nulls[j]) = false := decide_eq_false ho
                have HN := Lib.hid (HT.out.next (subElem_yes hlt hlt2 hi (by omega) hv))
                clear HT hi hv hin0 hvc0 ho h0
                go_wp2_with (first | (go_at_call 149; refine (hin _).mono ?_; rintro e w1 ⟨rfl, rfl⟩) | (go_at_call 119; refine (hvc _).mono ?_; rintro e w1 ⟨rfl, rfl⟩))
                go_roundw
                case rel => exact ⟨j + 1 + 1, by omega, by go_num, HN, hW⟩
                case measure => simp [intOf]; omega
      · obtain rfl : k = x.nulls.length := by omega
        have HV := Lib.hid (subOk_yes HL.out HT.out)
        go_wp2
        go_ret
        exact ⟨ret_bool HV.out.symm, hWw⟩
  · have HV := Lib.hid (subOk_len hlen)
    have hbn : ((x.nulls.length : Int) != x.vals.length) = true := bne_iff_ne.2 (by omega)
    clear hlen
    go_enter Tryz.func65, Tryz.ntmps65
    go_wp2
    go_ret
    exact ⟨ret_bool HV.out.symm, hE⟩
theorem implIsValidSub_at (x : Sbst) (b : Bool) (hb : subOk x = b) (v : Value) (w : World) (h : Substitution_at w w.heap.size v x) (hw : Substitution_wf x) :
    Calls Tryz.prog 65 #[v] w fun e w' => e = .returned (.bool b) ∧ Below w.heap.size w w' := by
  subst hb; exact implIsValidSub_any v x w h hw
theorem implIsValidSubstitution_c (v : Value) (x : Sbst) (w : World) (h : Substitution_at w w.heap.size v x) (hw : Substitution_wf x) (_ : Substitution_sz x ≤ 1048576) :
    Calls Tryz.prog 65 #[v] w fun e w' => e = .returned (.bool (subOk x)) ∧ Below w.heap.size w w' := implIsValidSub_any v x w h hw

set_option maxHeartbeats 3200000 in
set_option maxRecDepth 100000 in
theorem implApplyToValue_any (v : Value) (x : Sbst) (z : Int) (w : World) (h : Substitution_at w w.heap.size v x) (hw : Substitution_wf x) (h0 : -9223372036854775808 ≤ z) (h1 : z ≤ 9223372036854775807) :
    Calls Tryz.prog 144 #[v, .int .i64 z] w fun e w' => e = .returned (.int .i64 (applyV x z)) ∧ Below w.heap.size w w' := by
  obtain ⟨P, c, Q, d, rfl⟩ := Substitution_form h
  have HX := Lib.hid h
  obtain ⟨V1, V2, hv, hN, hU⟩ := h
  simp only [Value.agg.injEq, Array.mk.injEq, List.cons.injEq, and_true] at hv
  obtain ⟨rfl, rfl⟩ := hv
  obtain ⟨_, _, hv1, hc1, hc2⟩ := hN.form
  injection hv1 with e1 _ e2
  subst e1 e2
  obtain ⟨_, _, hv2, hd1, hd2⟩ := hU.form
  injection hv2 with e1 _ e2
  subst e1 e2
  unfold maxLen at hc2 hd2
  have HNl := Lib.hid hN
  have HUl := Lib.hid hU
  clear hN hU
  obtain ⟨E, hEq⟩ : ∃ E, E = w.alloc (.cells #[.slice P x.nulls.length c, .slice Q x.vals.length d] 81) := ⟨_, rfl⟩
  have hE : Below w.heap.size w E := by rw [hEq]; exact (Below.refl _ _).alloc (Nat.le_refl _) _
  have HEz := Lib.hid (show w.heap.size + 1 = E.heap.size by rw [hEq]; simp)
  have K0 := Lib.hid (show E.cell? ⟨w.heap.size, 0, none⟩ = some (.slice P x.nulls.length c) by rw [hEq]; simp [go_sem])
  have K1 := Lib.hid (show E.cell? ⟨w.heap.size, 1, none⟩ = some (.slice Q x.vals.length d) by rw [hEq]; simp [go_sem])
  have hcon := fun (bb : Bool) (hq : subOk x = bb) => implIsValidSub_at x bb hq _ E (HX.out.later hE) hw
  have hnn := fun W => implNullNumber_any z W h0 h1
  by_cases hz : -40 ≤ z ∧ z < 0
  · have hnn' := fun W => hnn W
    rw [nullNum_yes z hz] at hnn
    cases ho : subOk x with
    | false =>
      have HV := Lib.hid (applyV_no ho z)
      replace hcon := hcon false ho
      clear ho hnn' hz
      go_enter Tryz.func144, Tryz.ntmps144
      go_wp2_with fail
      refine (hnn _).mono ?_
      rintro e w0 ⟨rfl, rfl⟩
      rw [← hEq]
      clear hEq hnn
      have f0 := K0.out
      have f1 := K1.out
      go_wp2_with (go_at_call 65; refine hcon.mono ?_; rintro e w1 ⟨rfl, hb1⟩)
      go_ret
      exact ⟨ret_int HV.out.symm, hE.trans (hb1.mono hE.size)⟩
    | true =>
      have HO := Lib.hid ho
      replace hcon := hcon true ho
      have hp := subOk_parts ho
      have hl40 := subOk_len40 ho
      have HA := Lib.hid (asc_le hp.asc)
      obtain ⟨k, hk⟩ : ∃ k, k = -1 - z := ⟨_, rfl⟩
      rw [← hk] at hnn
      have HK := Lib.hid hk
      clear ho hnn' hz hp hk
      go_enter Tryz.func144, Tryz.ntmps144
      go_wp2_with fail
      refine (hnn _).mono ?_
      rintro e w0 ⟨rfl, rfl⟩
      rw [← hEq]
      clear hEq hnn
      have f0 := K0.out
      have f1 := K1.out
      go_wp2_with fail
      refine hcon.mono ?_
      rintro e w1 ⟨rfl, hb1⟩
      have hW1 := hE.trans (hb1.mono hE.size)
      have g0 := (hb1.cell (p := ⟨w.heap.size, 0, none⟩) (by show w.heap.size < _; have := HEz.out; omega)).trans K0.out
      have hbs := implSearchInts_any (.slice P x.nulls.length c) x.nulls k w1 ((HNl.out.below hW1 (Nat.le_refl _)).more hW1.size) HA.out (by omega)
      clear hcon f0 f1
      by_cases hm : k ∈ x.nulls
      · obtain ⟨hp2, hf⟩ := applyV_find HO.out HK.out hm
        have HV := Lib.hid hf
        rw [List.contains_iff_mem.2 hm] at hbs
        generalize x.nulls.countP (· < k) = p at *
        obtain ⟨b', off', rfl, hb', d0⟩ := IntsAt.elem HUl.out p hp2
        clear hm hf
        go_wp2_with fail
        refine hbs.mono ?_
        rintro e w2 ⟨rfl, hb2⟩
        have hb12 := hb1.trans (hb2.mono hb1.size)
        have g1 := (hb12.cell (p := ⟨w.heap.size, 1, none⟩) (by show w.heap.size < _; have := HEz.out; omega)).trans K1.out
        have hW2 := hW1.trans (hb2.mono hW1.size)
        replace d0 := (hW2.cell (p := ⟨b', off' + p, none⟩) hb').trans d0
        clear hbs
        go_wp2
        go_ret
        exact ⟨ret_int HV.out.symm, hW2⟩
      · have HV := Lib.hid (applyV_lost HK.out hm)
        have hcf : x.nulls.contains k = false := by
          cases hc : x.nulls.contains k with
          | false => rfl
          | true => exact absurd (List.contains_iff_mem.1 hc) hm
        rw [hcf] at hbs
        clear hm hcf
        go_wp2_with (go_at_call 209; refine hbs.mono ?_; rintro e w2 ⟨rfl, hb2⟩)
        go_ret
        exact ⟨ret_int HV.out.symm, hW1.trans (hb2.mono hW1.size)⟩
  · have HV := Lib.hid (applyV_notNull (x := x) (show (nullNum z).2 = false by rw [nullNum_no z hz]))
    rw [nullNum_no z hz] at hnn
    clear hz hcon
    go_enter Tryz.func144, Tryz.ntmps144
    go_wp2_with (go_at_call 188; refine (hnn _).mono ?_; rintro e w1 ⟨rfl, rfl⟩)
    go_ret
    rw [← hEq]
    exact ⟨ret_int HV.out.symm, hE⟩
theorem implApplyToValue_c (v : Value) (x : Sbst) (z : Int) (w : World) (h : Substitution_at w w.heap.size v x) (hw : Substitution_wf x) (_ : Substitution_sz x ≤ 1048576) (hz : -9223372036854775808 ≤ z ∧ z ≤ 9223372036854775807) :
    Calls Tryz.prog 144 #[v, .int .i64 z] w fun e w' => e = .returned (.int .i64 (applyV x z)) ∧ Below w.heap.size w w' := implApplyToValue_any v x z w h hw hz.1 hz.2

set_option maxHeartbeats 3200000 in
set_option maxRecDepth 100000 in
theorem implApplyToFact_any (v u : Value) (x : Sbst) (f : Fct) (w : World) (h : Substitution_at w w.heap.size v x) (hw : Substitution_wf x) (h' : Fact_at w w.heap.size u f) (hf : Fact_wf f) (hn : Fact_sz f ≤ 1048576) :
    Calls Tryz.prog 136 #[v, u] w fun e w' => ∃ r, e = .returned r ∧ Fact_own w.heap.size w'.heap.size r (applyF x f) w' ∧ Below w.heap.size w w' := by
  obtain ⟨P, c, Q, d, rfl⟩ := Substitution_form h
  obtain ⟨R, cr, rfl⟩ := Fact_form h'
  have HX := Lib.hid h
  have HU := Lib.hid h'
  obtain ⟨V, hv, hI⟩ := h'
  simp only [Value.agg.injEq, Array.mk.injEq, List.cons.injEq, and_true, true_and] at hv
  subst hv
  obtain ⟨_, _, hv1, hc1, hc2⟩ := hI.form
  injection hv1 with e1 _ e2
  subst e1 e2
  unfold maxLen at hc2
  have HF := Lib.hid hI
  clear h hI
  obtain ⟨E, hEq⟩ : ∃ E, E = ((w.alloc (.cells #[.slice P x.nulls.length c, .slice Q x.vals.length d] 81)).alloc (.cells #[.int .i64 f.rel, .slice R f.vals.length cr] 57)).alloc (.cells #[.int .i64 0, .slice none 0 0] 57) := ⟨_, rfl⟩
  have hE : Below w.heap.size w E := by rw [hEq]; exact below_more (below_more (below_more (Below.refl _ _) _) _) _
  have HEz := Lib.hid (show w.heap.size + 3 = E.heap.size by rw [hEq]; simp)
  have S0 := Lib.hid (show E.cell? ⟨w.heap.size, 0, none⟩ = some (.slice P x.nulls.length c) by rw [hEq]; simp [go_sem])
  have S1 := Lib.hid (show E.cell? ⟨w.heap.size, 1, none⟩ = some (.slice Q x.vals.length d) by rw [hEq]; simp [go_sem])
  have F1 := Lib.hid (show E.cell? ⟨w.heap.size + 1, 1, none⟩ = some (.slice R f.vals.length cr) by rw [hEq]; simp [go_sem])
  have R0 := Lib.hid (show E.cell? ⟨w.heap.size + 1 + 1, 0, none⟩ = some (.int .i64 0) by rw [hEq]; simp [go_sem])
  have R1 := Lib.hid (show E.cell? ⟨w.heap.size + 1 + 1, 1, none⟩ = some (.slice none 0 0) by rw [hEq]; simp [go_sem])
  have RZ := fun o => Lib.hid (show E.frozen? ⟨w.heap.size + 1 + 1, o, none⟩ = false by rw [hEq]; simp [go_sem])
  have hcp := implCopyFact_any _ f E (HU.out.later hE) hn
  rw [hEq] at hcp
  go_enter Tryz.func136, Tryz.ntmps136
  go_wp2_with fail
  refine hcp.mono ?_
  rintro e w1 ⟨r, rfl, hO, hb1⟩
  rw [← hEq] at hb1 hO
  obtain ⟨U, rfl, hU⟩ := hO
  obtain ⟨P2, c2, rfl, -⟩ := id hU.1.at_
  obtain ⟨Y, hY⟩ : ∃ Y, Y = w1.heap.size := ⟨_, rfl⟩
  have hz1 : w.heap.size + 3 ≤ w1.heap.size := by have h1 := hb1.size; have h2 := HEz.out; omega
  have f1 := (hb1.cell (p := ⟨w.heap.size + 1, 1, none⟩) (by show w.heap.size + 1 < _; have := HEz.out; omega)).trans F1.out
  have f1' : (w1.alloc (.cells #[.int .i64 f.rel, .slice P2 f.vals.length c2] 57)).cell? ⟨w.heap.size + 1, 1, none⟩ = some (.slice R f.vals.length cr) := (((Below.refl w1.heap.size w1).alloc (Nat.le_refl _) _).cell (p := ⟨w.heap.size + 1, 1, none⟩) (by show w.heap.size + 1 < _; omega)).trans f1
  have HB1 := Lib.hid hb1
  have HUo := Lib.hid hU
  clear hcp hEq hb1 hU f1
  go_wp2
  rw [← hY]
  have y1 : (w1.alloc (.cells #[.int .i64 f.rel, .slice P2 f.vals.length c2] 57)).cell? ⟨Y, 1, none⟩ = some (.slice P2 f.vals.length c2) := by rw [hY]; simp [go_sem]
  have y0 : (w1.alloc (.cells #[.int .i64 f.rel, .slice P2 f.vals.length c2] 57)).cell? ⟨Y, 0, none⟩ = some (.int .i64 f.rel) := by rw [hY]; simp [go_sem]
  have hAl : Below Y w1 (w1.alloc (.cells #[.int .i64 f.rel, .slice P2 f.vals.length c2] 57)) := (Below.refl _ _).alloc (by omega) _
  have hsz : (w1.alloc (.cells #[.int .i64 f.rel, .slice P2 f.vals.length c2] 57)).heap.size = Y + 1 := by rw [hY]; simp
  generalize w1.alloc (.cells #[.int .i64 f.rel, .slice P2 f.vals.length c2] 57) = W at y0 y1 hAl hsz f1' ⊢
  have HSZ := Lib.hid hsz
  have HAL := Lib.hid hAl
  have HY := Lib.hid hY
  have Y0 := Lib.hid y0
  have Y1 := Lib.hid y1
  have HW0 := Lib.hid (hE.trans ((HB1.out.trans (hAl.mono (by have := HB1.out.size; omega))).mono hE.size))
  have hOW := HUo.out.1.below hAl (by omega)
  have HIN := Lib.hid HUo.out.2
  clear hsz hAl hY y0 y1 f1'
  go_loopw [13] (fun i wr => ∃ k : Nat, k ≤ f.vals.length ∧ i = .int .i64 (k : Nat) ∧ OwnInts E.heap.size (.slice P2 f.vals.length c2) ((f.vals.take k).map (applyV x) ++ f.vals.drop k) wr ∧ Hid (Chg (fun g => (Value.slice P2 f.vals.length c2).ownBlock = some g) W wr)) (fun i _ => f.vals.length - (intOf i).toNat)
  case atStart => exact ⟨0, by omega, rfl, by simpa using hOW, Lib.hid (Chg.refl _ _)⟩
  case round =>
    clear hOW
    obtain ⟨k, hk, rfl, hO, HC⟩ := hrel
    have hC := HC.out
    have hwE : w.heap.size + 2 < E.heap.size := by have := HEz.out; omega
    have hEY : E.heap.size ≤ Y := by have h1 := HB1.out.size; have h2 := HY.out; omega
    have hown : ∀ g, (Value.slice P2 f.vals.length c2).ownBlock = some g → E.heap.size ≤ g ∧ g < Y := fun g hg => ⟨(hO.lt g hg).1, by have h1 := HIN.out g hg; have h2 := HY.out; omega⟩
    have hYw : Y + 1 ≤ wr.heap.size := by have h1 := hC.size; rw [HSZ.out] at h1; exact h1
    have hwW : Below w.heap.size w wr := HW0.out.trans (hC.below (fun g hg => by have := (hown g hg).1; omega) (by rw [HSZ.out]; omega))
    have hlo : ∀ b o, b < E.heap.size → wr.cell? ⟨b, o, none⟩ = E.cell? ⟨b, o, none⟩ := fun b o hb => (hC.cell (show b < _ by rw [HSZ.out]; omega) (fun hg => by have := (hown b hg).1; omega)).trans ((HAL.out.cell (p := ⟨b, o, none⟩) (by show b < Y; omega)).trans (HB1.out.cell (p := ⟨b, o, none⟩) hb))
    have k0 := (hC.cell (b := Y) (o := 0) (by rw [HSZ.out]; omega) (fun hg => by have := (hown Y hg).2; omega)).trans Y0.out
    have k1 := (hC.cell (b := Y) (o := 1) (by rw [HSZ.out]; omega) (fun hg => by have := (hown Y hg).2; omega)).trans Y1.out
    by_cases hlt : k < f.vals.length
    · obtain ⟨b, off, rfl, hb, c0⟩ := IntsAt.elem (HF.out.below hwW (Nat.le_refl _)) k hlt
      obtain ⟨q, cap, hvq, hq0, hq1⟩ := World.ownsRow.form hO (by rw [mapSet_len]; omega)
      simp only [Value.slice.injEq] at hvq
      obtain ⟨rfl, -, rfl⟩ := hvq
      have hqY := (hown q rfl).2
      have hcon := fun wq (hq : Below wr.heap.size wr wq) => implApplyToValue_any _ x f.vals[k] wq (HX.out.later (hwW.trans (hq.mono hwW.size))) hw (hf.2 k hlt).1 (hf.2 k hlt).2
      have hS : Holds [(⟨Y, 1, none⟩, .slice (some ⟨q, 0, none⟩) f.vals.length c2), (⟨w.heap.size, 0, none⟩, .slice P x.nulls.length c), (⟨w.heap.size, 1, none⟩, .slice Q x.vals.length d)] wr.drew := by
        intro p hp
        simp only [List.mem_cons, List.not_mem_nil, or_false] at hp
        rcases hp with rfl | rfl | rfl
        · exact k1
        · exact (hlo _ 0 (by omega)).trans S0.out
        · exact (hlo _ 1 (by omega)).trans S1.out
      have hSb : ∀ p ∈ [((⟨Y, 1, none⟩ : Addr), Value.slice (some ⟨q, 0, none⟩) f.vals.length c2), (⟨w.heap.size, 0, none⟩, .slice P x.nulls.length c), (⟨w.heap.size, 1, none⟩, .slice Q x.vals.length d)], p.1.block < wr.heap.size := by
        intro p hp
        simp only [List.mem_cons, List.not_mem_nil, or_false] at hp
        rcases hp with rfl | rfl | rfl <;> simp <;> omega
      have g0 := Keep.cell (h0 := hS) (a := ⟨Y, 1, none⟩) (v := .slice (some ⟨q, 0, none⟩) f.vals.length c2) (by simp)
      have g1 := Keep.cell (h0 := hS) (a := ⟨w.heap.size, 0, none⟩) (v := .slice P x.nulls.length c) (by simp)
      have g2 := Keep.cell (h0 := hS) (a := ⟨w.heap.size, 1, none⟩) (v := .slice Q x.vals.length d) (by simp)
      have HX2 := Lib.hid hcon
      have HN := Lib.hid (mapSet_take (applyV x) f.vals k hlt)
      have HLN := Lib.hid (mapSet_len (applyV x) f.vals k)
      have HO := Lib.hid hO
      have hkl : k < ((f.vals.take k).map (applyV x) ++ f.vals.drop k).length := by rw [mapSet_len]; exact hlt
      clear hcon hO k0 k1
      generalize applyV x f.vals[k] = z at *
      go_wp2_with fail
      refine wp_region_planL (C := fun w' => ∃ u : Keep _ wr.drew hS, w' = u.now) (.still 0 (.still 1 (.still 2 (.still 3 (.still 4 (.move true 5 (.still 6 (.move false 7 .done .none)) .none)))))) (by kernel_rfl) (by kernel_rfl) (by kernel_rfl) (fun _ => ⟨⟨_, hS⟩, rfl⟩) ?_
      iterate 5
        refine plan_look _ rfl rfl ?_
        go_big_quiet_step (fail)
        refine wpQuiet_nil ?_
      refine plan_call _ 144 _ _ _ _ _ rfl _ Tryz.func144 (by kernel_rfl) (by kernel_rfl) ?_ True.intro
      refine (HX2.out wr.drew (Below.refl _ _).drew).mono ?_
      rintro _ w2 ⟨rfl, hb2⟩
      have hb2' : Below wr.heap.size wr w2 := (Below.refl _ _).drew.trans hb2
      refine ⟨_, rfl, fun _ => ⟨⟨_, hS.below hb2 hSb⟩, rfl⟩, ?_⟩
      refine plan_put ?_ (by simp only [Act.put, List.setIfInBounds_toArray, List.set_cons_succ, List.set_cons_zero]; rfl)
      refine plan_look _ rfl rfl ?_
      go_big_quiet_step (fail)
      refine wpQuiet_nil ?_
      have hO2 := HO.out.below hb2' (Nat.le_refl _)
      have d0 := hO2.cell HLN.out k hkl
      have dz := hO2.frozen HLN.out
      have HS2 := Lib.hid (hO2.set HLN.out k z)
      have HB2 := Lib.hid hb2'
      clear hO2 hb2' hb2 g0 g1 g2 c0
      refine plan_skip (w' := w2.setCell ⟨q, k, none⟩ (.int .i64 z)) _ rfl rfl rfl (by simp [go_sem, d0, dz]) (fun e => by cases e) ?_ True.intro
      refine plan_put ?_ (by simp only [Act.put]; rfl)
      refine plan_done ?_
      go_wp2
      go_roundw
      case rel => exact ⟨k + 1, by omega, by go_num, by rw [← HN.out]; exact HS2.out, Lib.hid ((HC.out.then_below (HB2.out.mono HC.out.size)).setCell (p := ⟨q, k, none⟩) rfl _)⟩
      case measure => simp [intOf]; omega
    · obtain rfl : k = f.vals.length := by omega
      have hO' : OwnInts E.heap.size (.slice P2 f.vals.length c2) (f.vals.map (applyV x)) wr := by simpa using hO
      have m0 := (hlo (w.heap.size + 1 + 1) 0 (by omega)).trans R0.out
      have m1 := (hlo (w.heap.size + 1 + 1) 1 (by omega)).trans R1.out
      have mz : ∀ o, wr.frozen? ⟨w.heap.size + 1 + 1, o, none⟩ = false := fun o => ((hC.frozen (o := o) (show w.heap.size + 1 + 1 < _ by rw [HSZ.out]; omega) (fun hg => by have := (hown _ hg).1; omega)).trans ((HAL.out.frozen (p := ⟨w.heap.size + 1 + 1, o, none⟩) (by show w.heap.size + 1 + 1 < Y; omega)).trans (HB1.out.frozen (p := ⟨w.heap.size + 1 + 1, o, none⟩) (by show w.heap.size + 1 + 1 < _; omega)))).trans (RZ o).out
      have HwW := Lib.hid hwW
      have HO' := Lib.hid hO'
      have HST : ∀ u1 u2, Chg (Mid (w.heap.size + 1 + 1) (w.heap.size + 1 + 1 + 1)) wr ((wr.setCell ⟨w.heap.size + 1 + 1, 0, none⟩ u1).setCell ⟨w.heap.size + 1 + 1, 1, none⟩ u2) := fun u1 u2 => ((Chg.refl _ wr).setCell (p := ⟨w.heap.size + 1 + 1, 0, none⟩) (show w.heap.size + 1 + 1 ≤ w.heap.size + 1 + 1 ∧ w.heap.size + 1 + 1 < w.heap.size + 1 + 1 + 1 by omega) _).setCell (p := ⟨w.heap.size + 1 + 1, 1, none⟩) (show w.heap.size + 1 + 1 ≤ w.heap.size + 1 + 1 ∧ w.heap.size + 1 + 1 < w.heap.size + 1 + 1 + 1 by omega) _
      clear hC hwW hlo hO hO' hown
      go_wp2
      refine bodyPost_ret (v := .agg #[.int .i64 f.rel, .slice P2 f.vals.length c2]) (by simp [results, Tryz.results136, go_sem, m0, m1]) rfl ⟨_, rfl, ⟨_, rfl, ?_⟩, ?_⟩
      · exact (IntS_own.chg (IntsO.of HO'.out) (HST _ _) (.inr (by omega))).mono (by omega) (by simp [World.setCell])
      · exact (HwW.out.setCell (p := ⟨w.heap.size + 1 + 1, 0, none⟩) (by show w.heap.size ≤ w.heap.size + 1 + 1; omega) _).setCell (p := ⟨w.heap.size + 1 + 1, 1, none⟩) (by show w.heap.size ≤ w.heap.size + 1 + 1; omega) _
theorem implApplyToFact_c (v : Value) (x : Sbst) (u : Value) (f : Fct) (w : World) (h : Substitution_at w w.heap.size v x) (hw : Substitution_wf x) (_ : Substitution_sz x ≤ 1048576) (h' : Fact_at w w.heap.size u f) (hf : Fact_wf f) (hn : Fact_sz f ≤ 1048576) :
    Calls Tryz.prog 136 #[v, u] w fun e w' => ∃ r, e = .returned r ∧ Fact_own w.heap.size w'.heap.size r (ApplyToFact_r0 x f) w' ∧ Fact_sz (ApplyToFact_r0 x f) ≤ 1048576 ∧ Below w.heap.size w w' :=
  (implApplyToFact_any v u x f w h hw h' hf hn).mono fun _ _ ⟨r, he, ho, hb⟩ => ⟨r, he, ho, by unfold Fact_sz ApplyToFact_r0 applyF at *; simpa using hn, hb⟩

end Go.Proofs.YtmecdjincmkofaaGreatDoor
