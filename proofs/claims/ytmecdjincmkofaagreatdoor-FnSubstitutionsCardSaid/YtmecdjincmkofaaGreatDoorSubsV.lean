/-
  Walks and plain lemmas for the laws of this seat: what single Go functions return, for every argument.
-/
import Derived.Test.YtmecdjincmkofaaGreatDoorInts
import Derived.Test.YtmecdjincmkofaaGreatDoorNum
import Derived.Test.YtmecdjincmkofaaGreatDoorFact
import Derived.Test.YtmecdjincmkofaaGreatDoorTyInst
import Derived.Test.YtmecdjincmkofaaGreatDoorMSub
namespace Go.Proofs.YtmecdjincmkofaaGreatDoor
open Go.RowKit

set_option maxHeartbeats 3200000 in
set_option maxRecDepth 100000 in
theorem specIsValidSub_any (v : Value) (x : Sbst) (w : World) (h : Substitution_at w w.heap.size v x) (hw : Substitution_wf x) :
    Calls Tryz.prog 66 #[v] w fun e w' => e = .returned (.bool (subOk x)) ∧ Below w.heap.size w w' := by
  obtain ⟨P, c, Q, d, rfl⟩ := Substitution_form h
  obtain ⟨V1, V2, hv, hN, hU⟩ := h
  simp only [Value.agg.injEq, Array.mk.injEq, List.cons.injEq, and_true] at hv
  obtain ⟨rfl, rfl⟩ := hv
  obtain ⟨_, _, hv1, hc1, hc2⟩ := hN.form
  injection hv1 with e1 _ e2
  subst e1 e2
  obtain ⟨_, _, hv2, hd1, hd2⟩ := hU.form
  injection hv2 with e1 _ e2
  subst e1 e2
  unfold maxLen at hc2 hd2
  have HNl := Lib.hid hN
  have HUl := Lib.hid hU
  clear hN hU
  have hE : Below w.heap.size w (w.alloc (.cells #[.slice P x.nulls.length c, .slice Q x.vals.length d] 81)) := (Below.refl _ _).alloc (Nat.le_refl _) _
  have hEz : w.heap.size + 1 = (w.alloc (.cells #[.slice P x.nulls.length c, .slice Q x.vals.length d] 81)).heap.size := by simp
  have K0 := Lib.hid (show (w.alloc (.cells #[.slice P x.nulls.length c, .slice Q x.vals.length d] 81)).cell? ⟨w.heap.size, 0, none⟩ = some (.slice P x.nulls.length c) by simp [go_sem])
  have K1 := Lib.hid (show (w.alloc (.cells #[.slice P x.nulls.length c, .slice Q x.vals.length d] 81)).cell? ⟨w.heap.size, 1, none⟩ = some (.slice Q x.vals.length d) by simp [go_sem])
  have HE := Lib.hid hEz
  clear hEz
  by_cases hlen : x.nulls.length = x.vals.length
  · have hbn : ((x.nulls.length : Int) != x.vals.length) = false := by rw [hlen]; simp
    have HL := Lib.hid hlen
    clear hlen
    go_enter Tryz.func66, Tryz.ntmps66
    go_wp2
    go_loopw [3] (fun i wr => ∃ k : Nat, k ≤ x.nulls.length ∧ i = .int .i64 k ∧ Hid (SbTo x k) ∧ Below (w.alloc (.cells #[.slice P x.nulls.length c, .slice Q x.vals.length d] 81)).heap.size (w.alloc (.cells #[.slice P x.nulls.length c, .slice Q x.vals.length d] 81)) wr) (fun i _ => x.nulls.length - (intOf i).toNat)
    case atStart => exact ⟨0, by omega, rfl, Lib.hid (SbTo.zero x), Below.refl _ _⟩
    case round =>
      obtain ⟨k, hk, rfl, HT, hW⟩ := hrel
      have hWw := hE.trans (hW.mono hE.size)
      have hzw : w.heap.size < wr.heap.size := by have h1 := hW.size; have h2 := HE.out; omega
      have f0 := (hW.cell (p := ⟨w.heap.size, 0, none⟩) (by show w.heap.size < _; have := HE.out; omega)).trans K0.out
      have f1 := (hW.cell (p := ⟨w.heap.size, 1, none⟩) (by show w.heap.size < _; have := HE.out; omega)).trans K1.out
      have G0 := Aft.cell (B := wr.heap.size) (w := wr) hzw f0
      have G1 := Aft.cell (B := wr.heap.size) (w := wr) hzw f1
      by_cases hlt : k < x.nulls.length
      · have hlt2 : k < x.vals.length := by have := HL.out; omega
        obtain ⟨b, off, rfl, hb, c0⟩ := IntsAt.elem HNl.out k hlt
        obtain ⟨b', off', rfl, hb', d0⟩ := IntsAt.elem HUl.out k hlt2
        have C0 := Aft.cell (B := wr.heap.size) (w := wr) (by omega) ((hWw.cell (p := ⟨b, off + k, none⟩) hb).trans c0)
        have D0 := Aft.cell (B := wr.heap.size) (w := wr) (by omega) ((hWw.cell (p := ⟨b', off' + k, none⟩) hb').trans d0)
        have hin0 := fun (bb : Bool) (hq : inB x.nulls[k] 0 39 = bb) (W : World) => l1In_at x.nulls[k] 0 39 bb hq W
        have hvc0 := fun (bb : Bool) (hq : validV x.vals[k] = bb) (W : World) => specIsValidValue_at x.vals[k] bb hq W (hw.2 k hlt2).1 (hw.2 k hlt2).2
        clear c0 d0
        cases hi : inB x.nulls[k] 0 39 with
        | false =>
          have hin := hin0 false hi
          have hvc : ∀ W, Calls Tryz.prog 113 #[.int .i64 x.vals[k]] W fun e w' => e = .returned (.bool (validV x.vals[k])) ∧ W = w' := hvc0 _ rfl
          have HV := Lib.hid (subOk_no _ hlt (subElem_in hlt hlt2 hi))
          clear HT hi hin0 hvc0
          go_wp2
          refine wp_region_aft (Below.refl wr.heap.size wr) (by kernel_rfl) (by kernel_rfl) ?_
          repeat (go_big_quiet_step (first | (go_at_call 112; exact calls_aft_same (hin _)) | (go_at_call 113; exact calls_aft_same (hvc _))))
          refine wpQuiet_nil ?_
          refine aft_end ?_
          intro w1 hh
          go_wp2
          go_ret
          exact ⟨ret_bool HV.out.symm, hWw.trans (hh.mono hWw.size)⟩
        | true =>
          have hin := hin0 true hi
          cases hv : validV x.vals[k] with
          | false =>
            have hvc := hvc0 false hv
            rcases Nat.eq_zero_or_pos k with h0 | h0
            · have hg1 : decide ((0 : Int) < (k : Int)) = false := decide_eq_false (by omega)
              have hg2 : decide (0 < k) = false := decide_eq_false (by omega)
              have HV := Lib.hid (subOk_no _ hlt (subElem_val hlt hlt2 hv))
              clear HT hi hv hin0 hvc0 h0
              go_wp2
              refine wp_region_aft (Below.refl wr.heap.size wr) (by kernel_rfl) (by kernel_rfl) ?_
              repeat (go_big_quiet_step (first | (go_at_call 112; exact calls_aft_same (hin _)) | (go_at_call 113; exact calls_aft_same (hvc _))))
              refine wpQuiet_nil ?_
              refine aft_end ?_
              intro w1 hh
              go_wp2
              go_ret
              exact ⟨ret_bool HV.out.symm, hWw.trans (hh.mono hWw.size)⟩
            · obtain ⟨j, rfl⟩ : ∃ j, k = j + 1 := ⟨k - 1, by omega⟩
              have hj : j < x.nulls.length := by omega
              obtain ⟨b2, off2, hA, -, c1⟩ := IntsAt.elem HNl.out j hj
              obtain ⟨rfl, rfl⟩ : b = b2 ∧ off = off2 := by simpa using hA
              have C1 := Aft.cell (B := wr.heap.size) (w := wr) (by omega) ((hWw.cell (p := ⟨b, off + j, none⟩) hb).trans c1)
              clear hA c1
              by_cases ho : x.nulls[j + 1] ≤ x.nulls[j]
              · have hdo : decide (x.nulls[j + 1] ≤ x.nulls[j]) = true := decide_eq_true ho
                have HV := Lib.hid (subOk_no _ hlt (subElem_val hlt hlt2 hv))
                clear HT hi hv hin0 hvc0 ho h0
                go_wp2
                refine wp_region_aft (Below.refl wr.heap.size wr) (by kernel_rfl) (by kernel_rfl) ?_
                repeat (go_big_quiet_step (first | (go_at_call 112; exact calls_aft_same (hin _)) | (go_at_call 113; exact calls_aft_same (hvc _))))
                refine wpQuiet_nil ?_
                refine aft_end ?_
                intro w1 hh
                go_wp2
                go_ret
                exact ⟨ret_bool HV.out.symm, hWw.trans (hh.mono hWw.size)⟩
              · have hdo : decide (x.nulls[j + 1] ≤ x.nulls[j]) = false := decide_eq_false ho
                have HV := Lib.hid (subOk_no _ hlt (subElem_val hlt hlt2 hv))
                clear HT hi hv hin0 hvc0 ho h0
                go_wp2
                refine wp_region_aft (Below.refl wr.heap.size wr) (by kernel_rfl) (by kernel_rfl) ?_
                repeat (go_big_quiet_step (first | (go_at_call 112; exact calls_aft_same (hin _)) | (go_at_call 113; exact calls_aft_same (hvc _))))
                refine wpQuiet_nil ?_
                refine aft_end ?_
                intro w1 hh
                go_wp2
                go_ret
                exact ⟨ret_bool HV.out.symm, hWw.trans (hh.mono hWw.size)⟩
          | true =>
            have hvc := hvc0 true hv
            rcases Nat.eq_zero_or_pos k with h0 | h0
            · have hg1 : decide ((0 : Int) < (k : Int)) = false := decide_eq_false (by omega)
              have hg2 : decide (0 < k) = false := decide_eq_false (by omega)
              have hEl : subElem x k = true := by subst h0; exact subElem_yes0 hlt hlt2 hi hv
              have HN := Lib.hid (HT.out.next (hEl))
              clear HT hi hv hin0 hvc0 h0 hEl
              go_wp2
              refine wp_region_aft (Below.refl wr.heap.size wr) (by kernel_rfl) (by kernel_rfl) ?_
              repeat (go_big_quiet_step (first | (go_at_call 112; exact calls_aft_same (hin _)) | (go_at_call 113; exact calls_aft_same (hvc _))))
              refine wpQuiet_nil ?_
              refine aft_end ?_
              intro w1 hh
              go_wp2
              go_roundw
              case rel => exact ⟨k + 1, by omega, by go_num, HN, hW.trans (hh.mono hW.size)⟩
              case measure => simp [intOf]; omega
            · obtain ⟨j, rfl⟩ : ∃ j, k = j + 1 := ⟨k - 1, by omega⟩
              have hj : j < x.nulls.length := by omega
              obtain ⟨b2, off2, hA, -, c1⟩ := IntsAt.elem HNl.out j hj
              obtain ⟨rfl, rfl⟩ : b = b2 ∧ off = off2 := by simpa using hA
              have C1 := Aft.cell (B := wr.heap.size) (w := wr) (by omega) ((hWw.cell (p := ⟨b, off + j, none⟩) hb).trans c1)
              clear hA c1
              by_cases ho : x.nulls[j + 1] ≤ x.nulls[j]
              · have hdo : decide (x.nulls[j + 1] ≤ x.nulls[j]) = true := decide_eq_true ho
                have HV := Lib.hid (subOk_no _ hlt (subElem_ord hlt hlt2 (by omega)))
                clear HT hi hv hin0 hvc0 ho h0
                go_wp2
                refine wp_region_aft (Below.refl wr.heap.size wr) (by kernel_rfl) (by kernel_rfl) ?_
                repeat (go_big_quiet_step (first | (go_at_call 112; exact calls_aft_same (hin _)) | (go_at_call 113; exact calls_aft_same (hvc _))))
                refine wpQuiet_nil ?_
                refine aft_end ?_
                intro w1 hh
                go_wp2
                go_ret
                exact ⟨ret_bool HV.out.symm, hWw.trans (hh.mono hWw.size)⟩
              · have hdo : decide (x.nulls[j + 1] ≤ x.nulls[j]) = false := decide_eq_false ho
                have HN := Lib.hid (HT.out.next (subElem_yes hlt hlt2 hi (by omega) hv))
                clear HT hi hv hin0 hvc0 ho h0
                go_wp2
                refine wp_region_aft (Below.refl wr.heap.size wr) (by kernel_rfl) (by kernel_rfl) ?_
                repeat (go_big_quiet_step (first | (go_at_call 112; exact calls_aft_same (hin _)) | (go_at_call 113; exact calls_aft_same (hvc _))))
                refine wpQuiet_nil ?_
                refine aft_end ?_
                intro w1 hh
                go_wp2
                go_roundw
                case rel => exact ⟨j + 1 + 1, by omega, by go_num, HN, hW.trans (hh.mono hW.size)⟩
                case measure => simp [intOf]; omega
      · obtain rfl : k = x.nulls.length := by omega
        have HV := Lib.hid (subOk_yes HL.out HT.out)
        go_wp2
        go_ret
        exact ⟨ret_bool HV.out.symm, hWw⟩
  · have HV := Lib.hid (subOk_len hlen)
    have hbn : ((x.nulls.length : Int) != x.vals.length) = true := bne_iff_ne.2 (by omega)
    clear hlen
    go_enter Tryz.func66, Tryz.ntmps66
    go_wp2
    go_ret
    exact ⟨ret_bool HV.out.symm, hE⟩
theorem specIsValidSub_at (x : Sbst) (b : Bool) (hb : subOk x = b) (v : Value) (w : World) (h : Substitution_at w w.heap.size v x) (hw : Substitution_wf x) :
    Calls Tryz.prog 66 #[v] w fun e w' => e = .returned (.bool b) ∧ Below w.heap.size w w' := by
  subst hb; exact specIsValidSub_any v x w h hw
theorem specIsValidSubstitution_c (v : Value) (x : Sbst) (w : World) (h : Substitution_at w w.heap.size v x) (hw : Substitution_wf x) (_ : Substitution_sz x ≤ 1048576) :
    Calls Tryz.prog 66 #[v] w fun e w' => e = .returned (.bool (subOk x)) ∧ Below w.heap.size w w' := specIsValidSub_any v x w h hw

theorem specNullValue_at (k q : Int) (hq : -1 - k = q) (w : World) (h0 : -9223372036854775808 ≤ k) (h1 : k ≤ 9223372036854775807) :
    Calls Tryz.prog 148 #[.int .i64 k] w fun e w' => e = .returned (.int .i64 q) ∧ w = w' := by
  subst hq; exact specNullValue_any k w h0 h1
set_option maxHeartbeats 3200000 in
set_option maxRecDepth 100000 in
theorem specApplyToValue_any (v : Value) (x : Sbst) (z : Int) (w : World) (h : Substitution_at w w.heap.size v x) (hw : Substitution_wf x) :
    Calls Tryz.prog 147 #[v, .int .i64 z] w fun e w' => e = .returned (.int .i64 (applyV x z)) ∧ Below w.heap.size w w' := by
  obtain ⟨P, c, Q, d, rfl⟩ := Substitution_form h
  have HX := Lib.hid h
  obtain ⟨V1, V2, hv, hN, hU⟩ := h
  simp only [Value.agg.injEq, Array.mk.injEq, List.cons.injEq, and_true] at hv
  obtain ⟨rfl, rfl⟩ := hv
  obtain ⟨_, _, hv1, hc1, hc2⟩ := hN.form
  injection hv1 with e1 _ e2
  subst e1 e2
  obtain ⟨_, _, hv2, hd1, hd2⟩ := hU.form
  injection hv2 with e1 _ e2
  subst e1 e2
  unfold maxLen at hc2 hd2
  have HNl := Lib.hid hN
  have HUl := Lib.hid hU
  clear hN hU
  obtain ⟨E, hEq⟩ : ∃ E, E = w.alloc (.cells #[.slice P x.nulls.length c, .slice Q x.vals.length d] 81) := ⟨_, rfl⟩
  have hE : Below w.heap.size w E := by rw [hEq]; exact (Below.refl _ _).alloc (Nat.le_refl _) _
  have HEz := Lib.hid (show w.heap.size + 1 = E.heap.size by rw [hEq]; simp)
  have K0 := Lib.hid (show E.cell? ⟨w.heap.size, 0, none⟩ = some (.slice P x.nulls.length c) by rw [hEq]; simp [go_sem])
  have K1 := Lib.hid (show E.cell? ⟨w.heap.size, 1, none⟩ = some (.slice Q x.vals.length d) by rw [hEq]; simp [go_sem])
  have hcon := fun (bb : Bool) (hq : subOk x = bb) (W : World) (hb : Below w.heap.size w W) => specIsValidSub_at x bb hq _ W (HX.out.later hb) hw
  cases ho : subOk x with
  | false =>
    have HV := Lib.hid (applyV_no ho z)
    replace hcon := hcon false ho
    clear ho
    go_enter Tryz.func147, Tryz.ntmps147
    go_wp2
    rw [← hEq]
    clear hEq
    go_loopw [5] (fun i wr => i = .int .i64 0 ∧ Below E.heap.size E wr) (fun _ _ => 0)
    case atStart => exact ⟨rfl, Below.refl _ _⟩
    case round =>
      obtain ⟨rfl, hW⟩ := hrel
      have hWw := hE.trans (hW.mono hE.size)
      have f0 := (hW.cell (p := ⟨w.heap.size, 0, none⟩) (by show w.heap.size < _; have := HEz.out; omega)).trans K0.out
      have f1 := (hW.cell (p := ⟨w.heap.size, 1, none⟩) (by show w.heap.size < _; have := HEz.out; omega)).trans K1.out
      by_cases hn : 0 < x.nulls.length
      · go_wp2_with (go_at_call 66; refine (hcon _ hWw).mono ?_; rintro e w1 ⟨rfl, hb1⟩)
        go_ret
        exact ⟨ret_int HV.out.symm, hWw.trans (hb1.mono hWw.size)⟩
      · go_wp2
        go_ret
        exact ⟨ret_int HV.out.symm, hWw⟩
  | true =>
    have HO := Lib.hid ho
    replace hcon := hcon true ho
    clear ho
    have HL := Lib.hid (subOk_parts HO.out).len
    go_enter Tryz.func147, Tryz.ntmps147
    go_wp2
    rw [← hEq]
    clear hEq
    go_loopw [5] (fun i wr => ∃ k : Nat, k ≤ x.nulls.length ∧ i = .int .i64 k ∧ Hid (MissTo x z k) ∧ Below E.heap.size E wr) (fun i _ => x.nulls.length - (intOf i).toNat)
    case atStart => exact ⟨0, by omega, rfl, Lib.hid (MissTo.zero x z), Below.refl _ _⟩
    case round =>
      obtain ⟨k, hk, rfl, HT, hW⟩ := hrel
      have hWw := hE.trans (hW.mono hE.size)
      have f0 := (hW.cell (p := ⟨w.heap.size, 0, none⟩) (by show w.heap.size < _; have := HEz.out; omega)).trans K0.out
      have f1 := (hW.cell (p := ⟨w.heap.size, 1, none⟩) (by show w.heap.size < _; have := HEz.out; omega)).trans K1.out
      by_cases hlt : k < x.nulls.length
      · have hlt2 : k < x.vals.length := by have := HL.out; omega
        have hn0 := hw.1 k hlt
        obtain ⟨b, off, rfl, hb, c0⟩ := IntsAt.elem HNl.out k hlt
        obtain ⟨b', off', rfl, hb', d0⟩ := IntsAt.elem HUl.out k hlt2
        have C0 := Lib.hid c0
        have D0 := Lib.hid d0
        clear c0 d0
        go_wp2_with fail
        refine (hcon _ hWw).mono ?_
        rintro e w1 ⟨rfl, hb1⟩
        have hW1 := hW.trans (hb1.mono hW.size)
        have hWw1 := hWw.trans (hb1.mono hWw.size)
        have g0 := (hb1.cell (p := ⟨w.heap.size, 0, none⟩) (by show w.heap.size < _; have h1 := hW.size; have := HEz.out; omega)).trans f0
        have g1 := (hb1.cell (p := ⟨w.heap.size, 1, none⟩) (by show w.heap.size < _; have h1 := hW.size; have := HEz.out; omega)).trans f1
        have c0 := (hWw1.cell (p := ⟨b, off + k, none⟩) hb).trans C0.out
        have d0 := (hWw1.cell (p := ⟨b', off' + k, none⟩) hb').trans D0.out
        clear f0 f1 hcon
        by_cases he : -1 - x.nulls[k] = z
        · have HV := Lib.hid (applyV_hit HO.out HT.out hlt hlt2 he)
          have hnv := specNullValue_at x.nulls[k] z he w1 hn0.1 hn0.2
          have hb2 : (z == z) = true := beq_self_eq_true z
          clear he
          go_wp2_with (go_at_call 148; refine hnv.mono ?_; rintro e w2 ⟨rfl, rfl⟩)
          go_ret
          exact ⟨ret_int HV.out.symm, hWw1⟩
        · have HN := Lib.hid (HT.out.next hlt he)
          have hb2 : (-1 - x.nulls[k] == z) = false := beq_eq_false_iff_ne.2 he
          have hnv := specNullValue_any x.nulls[k] w1 hn0.1 hn0.2
          clear he
          go_wp2_with (go_at_call 148; refine hnv.mono ?_; rintro e w2 ⟨rfl, rfl⟩)
          go_roundw
          case rel => exact ⟨k + 1, by omega, by go_num, HN, hW1⟩
          case measure => simp [intOf]; omega
      · obtain rfl : k = x.nulls.length := by omega
        have HV := Lib.hid (applyV_miss HT.out)
        go_wp2
        go_ret
        exact ⟨ret_int HV.out.symm, hWw⟩
theorem specApplyToValue_c (v : Value) (x : Sbst) (z : Int) (w : World) (h : Substitution_at w w.heap.size v x) (hw : Substitution_wf x) (_ : Substitution_sz x ≤ 1048576) (_ : -9223372036854775808 ≤ z ∧ z ≤ 9223372036854775807) :
    Calls Tryz.prog 147 #[v, .int .i64 z] w fun e w' => e = .returned (.int .i64 (applyV x z)) ∧ Below w.heap.size w w' := specApplyToValue_any v x z w h hw

end Go.Proofs.YtmecdjincmkofaaGreatDoor
