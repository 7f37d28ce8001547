/-
  Walks and plain lemmas for the laws of this seat: what single Go functions return, for every argument.
-/
import Derived.Test.YteogknfhafdbmaaGreatShelf
import Derived.Test.YteogknfhafdbmaaGreatMem
import Derived.Test.YteogknfhafdbmaaGreatNum
import Derived.Test.YteogknfhafdbmaaGreatEqRI
import Derived.Test.YteogknfhafdbmaaGreatSubsVI
namespace Go.Proofs.YteogknfhafdbmaaGreat
open Go.RowKit

set_option maxHeartbeats 3200000 in
set_option maxRecDepth 100000 in
theorem implApplyToValue_any (v : Value) (x : Sbst) (z : Int) (w : World) (h : Substitution_at w w.heap.size v x) (hw : Substitution_wf x) (h0 : -9223372036854775808 ≤ z) (h1 : z ≤ 9223372036854775807) :
    Calls Tryz.prog 71 #[v, .int .i64 z] w fun e w' => e = .returned (.int .i64 (applyV x z)) ∧ Below w.heap.size w w' := by
  obtain ⟨P, c, Q, d, rfl⟩ := Substitution_form h
  have HX := Lib.hid h
  obtain ⟨V1, V2, hv, hN, hU⟩ := h
  simp only [Value.agg.injEq, Array.mk.injEq, List.cons.injEq, and_true] at hv
  obtain ⟨rfl, rfl⟩ := hv
  obtain ⟨_, _, hv1, hc1, hc2⟩ := hN.form
  injection hv1 with e1 _ e2
  subst e1 e2
  obtain ⟨_, _, hv2, hd1, hd2⟩ := hU.form
  injection hv2 with e1 _ e2
  subst e1 e2
  unfold maxLen at hc2 hd2
  have HNl := Lib.hid hN
  have HUl := Lib.hid hU
  clear hN hU
  obtain ⟨E, hEq⟩ : ∃ E, E = w.alloc (.cells #[.slice P x.nulls.length c, .slice Q x.vals.length d] 37) := ⟨_, rfl⟩
  have hE : Below w.heap.size w E := by rw [hEq]; exact (Below.refl _ _).alloc (Nat.le_refl _) _
  have HEz := Lib.hid (show w.heap.size + 1 = E.heap.size by rw [hEq]; simp)
  have K0 := Lib.hid (show E.cell? ⟨w.heap.size, 0, none⟩ = some (.slice P x.nulls.length c) by rw [hEq]; simp [go_sem])
  have K1 := Lib.hid (show E.cell? ⟨w.heap.size, 1, none⟩ = some (.slice Q x.vals.length d) by rw [hEq]; simp [go_sem])
  have hcon := fun (bb : Bool) (hq : subOk x = bb) => implIsValidSub_at x bb hq _ E (HX.out.later hE) hw
  have hnn := fun W => implNullNumber_any z W h0 h1
  by_cases hz : -40 ≤ z ∧ z < 0
  · have hnn' := fun W => hnn W
    rw [nullNum_yes z hz] at hnn
    cases ho : subOk x with
    | false =>
      have HV := Lib.hid (applyV_no ho z)
      replace hcon := hcon false ho
      clear ho hnn' hz
      go_enter Tryz.func71, Tryz.ntmps71
      go_wp2_with fail
      refine (hnn _).mono ?_
      rintro e w0 ⟨rfl, rfl⟩
      rw [← hEq]
      clear hEq hnn
      have f0 := K0.out
      have f1 := K1.out
      go_wp2_with (go_at_call 50; refine hcon.mono ?_; rintro e w1 ⟨rfl, hb1⟩)
      go_ret
      exact ⟨ret_int HV.out.symm, hE.trans (hb1.mono hE.size)⟩
    | true =>
      have HO := Lib.hid ho
      replace hcon := hcon true ho
      have hp := subOk_parts ho
      have hl40 := subOk_len40 ho
      have HA := Lib.hid (asc_le hp.asc)
      obtain ⟨k, hk⟩ : ∃ k, k = -1 - z := ⟨_, rfl⟩
      rw [← hk] at hnn
      have HK := Lib.hid hk
      clear ho hnn' hz hp hk
      go_enter Tryz.func71, Tryz.ntmps71
      go_wp2_with fail
      refine (hnn _).mono ?_
      rintro e w0 ⟨rfl, rfl⟩
      rw [← hEq]
      clear hEq hnn
      have f0 := K0.out
      have f1 := K1.out
      go_wp2_with fail
      refine hcon.mono ?_
      rintro e w1 ⟨rfl, hb1⟩
      have hW1 := hE.trans (hb1.mono hE.size)
      have g0 := (hb1.cell (p := ⟨w.heap.size, 0, none⟩) (by show w.heap.size < _; have := HEz.out; omega)).trans K0.out
      have hbs := implSearchInts_any (.slice P x.nulls.length c) x.nulls k w1 ((HNl.out.below hW1 (Nat.le_refl _)).more hW1.size) HA.out (by omega)
      clear hcon f0 f1
      by_cases hm : k ∈ x.nulls
      · obtain ⟨hp2, hf⟩ := applyV_find HO.out HK.out hm
        have HV := Lib.hid hf
        rw [List.contains_iff_mem.2 hm] at hbs
        generalize x.nulls.countP (· < k) = p at *
        obtain ⟨b', off', rfl, hb', d0⟩ := IntsAt.elem HUl.out p hp2
        clear hm hf
        go_wp2_with fail
        refine hbs.mono ?_
        rintro e w2 ⟨rfl, hb2⟩
        have hb12 := hb1.trans (hb2.mono hb1.size)
        have g1 := (hb12.cell (p := ⟨w.heap.size, 1, none⟩) (by show w.heap.size < _; have := HEz.out; omega)).trans K1.out
        have hW2 := hW1.trans (hb2.mono hW1.size)
        replace d0 := (hW2.cell (p := ⟨b', off' + p, none⟩) hb').trans d0
        clear hbs
        go_wp2
        go_ret
        exact ⟨ret_int HV.out.symm, hW2⟩
      · have HV := Lib.hid (applyV_lost HK.out hm)
        have hcf : x.nulls.contains k = false := by
          cases hc : x.nulls.contains k with
          | false => rfl
          | true => exact absurd (List.contains_iff_mem.1 hc) hm
        rw [hcf] at hbs
        clear hm hcf
        go_wp2_with (go_at_call 95; refine hbs.mono ?_; rintro e w2 ⟨rfl, hb2⟩)
        go_ret
        exact ⟨ret_int HV.out.symm, hW1.trans (hb2.mono hW1.size)⟩
  · have HV := Lib.hid (applyV_notNull (x := x) (show (nullNum z).2 = false by rw [nullNum_no z hz]))
    rw [nullNum_no z hz] at hnn
    clear hz hcon
    go_enter Tryz.func71, Tryz.ntmps71
    go_wp2_with (go_at_call 65; refine (hnn _).mono ?_; rintro e w1 ⟨rfl, rfl⟩)
    go_ret
    rw [← hEq]
    exact ⟨ret_int HV.out.symm, hE⟩
theorem implApplyToValue_c (v : Value) (x : Sbst) (z : Int) (w : World) (h : Substitution_at w w.heap.size v x) (hw : Substitution_wf x) (_ : Substitution_sz x ≤ 1048576) (hz : -9223372036854775808 ≤ z ∧ z ≤ 9223372036854775807) :
    Calls Tryz.prog 71 #[v, .int .i64 z] w fun e w' => e = .returned (.int .i64 (applyV x z)) ∧ Below w.heap.size w w' := implApplyToValue_any v x z w h hw hz.1 hz.2

end Go.Proofs.YteogknfhafdbmaaGreat
