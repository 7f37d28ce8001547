/-
  Walks and plain lemmas for the laws of this seat: what single Go functions return, for every argument.
-/
import Derived.Test.YtigheecckekbfaaShelf
import Derived.Test.YtigheecckekbfaaMem
import Derived.Test.YtigheecckekbfaaInts
import Derived.Test.YtigheecckekbfaaTyInst
import Derived.Test.YtigheecckekbfaaMInst
import Derived.Test.YtigheecckekbfaaMSub
namespace Go.Proofs.Ytigheecckekbfaa
open Go.RowKit

theorem implEqInts_any (l m : List Int) (v u : Value) (w : World) (hl : IntsAt w w.heap.size v l) (hm : IntsAt w w.heap.size u m) :
    Calls Try.prog 90 #[v, u] w fun e w' => e = .returned (.bool (decide (l = m))) ∧ Below w.heap.size w w' := by
  obtain ⟨A, c, rfl, hlc, hcm, hc, -⟩ := hl
  obtain ⟨A', c', rfl, hlc', hcm', hc', -⟩ := hm
  unfold maxLen at hcm hcm'
  by_cases hlen : l.length = m.length
  · rcases Nat.eq_zero_or_pos l.length with h0 | h0
    · have e : l = [] := List.eq_nil_of_length_eq_zero h0
      have e' : m = [] := List.eq_nil_of_length_eq_zero (by omega)
      subst e e'
      refine (Try.slices_Equal_int_empty A A' c 0 c' w (by omega)).mono ?_
      rintro e w' ⟨rfl, hw⟩
      exact ⟨rfl, by rw [hw]; exact Below.refl _ _⟩
    · obtain ⟨b, off, rfl, hb, hc⟩ := hc h0
      obtain ⟨b', off', rfl, hb', hc'⟩ := hc' (by omega)
      have k1 : ∀ j, j < l.length → w.cell? ⟨b, off + j, none⟩ = some (.int .i64 (l.getD j 0)) := fun j hj => hc j _ (by rw [flat_int]; simp [hj])
      have k2 : ∀ j, j < m.length → w.cell? ⟨b', off' + j, none⟩ = some (.int .i64 (m.getD j 0)) := fun j hj => hc' j _ (by rw [flat_int]; simp [hj])
      have h := Try.slices_Equal_int b off l.length c b' off' m.length c' l m w (Nat.le_refl _) (Nat.le_refl _) (by omega) (by omega) k1 k2
      rw [List.take_of_length_le (Nat.le_refl _), List.take_of_length_le (Nat.le_refl _)] at h
      refine h.mono ?_
      rintro e w' ⟨rfl, q, rfl⟩
      refine ⟨?_, below_drewN w q⟩
      by_cases e : l = m
      · subst e; simp
      · rw [decide_eq_false e, beq_eq_false_iff_ne.2 e]
  · refine (Try.slices_Equal_int_lens A A' l.length c m.length c' w hlen).mono ?_
    rintro e w' ⟨rfl, hw⟩
    exact ⟨by rw [decide_eq_false (fun e => hlen (by rw [e]))], by rw [hw]; exact Below.refl _ _⟩

set_option maxHeartbeats 1600000 in
set_option maxRecDepth 100000 in
theorem implEqualSubstitutions_any (v u : Value) (x y : Sbst) (w : World) (h : Substitution_at w w.heap.size v x) (h' : Substitution_at w w.heap.size u y) :
    Calls Try.prog 39 #[v, u] w fun e w' => e = .returned (.bool (eqSub x y)) ∧ Below w.heap.size w w' := by
  obtain ⟨P, c, Q, d, rfl⟩ := Substitution_form h
  obtain ⟨P', c', Q', d', rfl⟩ := Substitution_form h'
  obtain ⟨V1, V2, hv, hR, hF⟩ := h
  obtain ⟨U1, U2, hu, hR', hF'⟩ := h'
  simp only [Value.agg.injEq, Array.mk.injEq, List.cons.injEq, and_true] at hv hu
  obtain ⟨rfl, rfl⟩ := hv
  obtain ⟨rfl, rfl⟩ := hu
  have HF := Lib.hid hF
  have HF' := Lib.hid hF'
  have HR := Lib.hid hR
  have HR' := Lib.hid hR'
  clear hR hF hR' hF'
  obtain ⟨E, hEq⟩ : ∃ E, E = ((w.alloc (.cells #[.slice P x.nulls.length c, .slice Q x.vals.length d] 27)).alloc (.cells #[.slice P' y.nulls.length c', .slice Q' y.vals.length d'] 27)) := ⟨_, rfl⟩
  have hE : Below w.heap.size w E := by rw [hEq]; exact below_more (below_more (Below.refl _ _) _) _
  have HE := Lib.hid (show w.heap.size + 2 = E.heap.size by rw [hEq]; simp)
  have K1 := Lib.hid (show E.cell? ⟨w.heap.size, 1, none⟩ = some (.slice Q x.vals.length d) by rw [hEq]; simp [go_sem])
  have L1 := Lib.hid (show E.cell? ⟨w.heap.size + 1, 1, none⟩ = some (.slice Q' y.vals.length d') by rw [hEq]; simp [go_sem])
  have hrl := implEqInts_any x.nulls y.nulls (.slice P x.nulls.length c) (.slice P' y.nulls.length c') E ((HR.out.below hE (Nat.le_refl _)).more hE.size) ((HR'.out.below hE (Nat.le_refl _)).more hE.size)
  have hfl := fun (W : World) (hb : Below w.heap.size w W) => implEqInts_any x.vals y.vals (.slice Q x.vals.length d) (.slice Q' y.vals.length d') W (HF.out.later hb) (HF'.out.later hb)
  rw [hEq] at hrl
  have HV := Lib.hid (eqSub_eq x y)
  generalize decide (x.vals = y.vals) = q at *
  cases hp : decide (x.nulls = y.nulls) with
  | true =>
    rw [hp] at hrl HV
    clear hp
    go_enter Try.func39, Try.ntmps39
    go_wp2_with fail
    refine hrl.mono ?_
    rintro e w1 ⟨rfl, hb1⟩
    rw [← hEq] at hb1
    have hW1 := hE.trans (hb1.mono hE.size)
    have f1 := (hb1.cell (p := ⟨w.heap.size, 1, none⟩) (by show w.heap.size < _; have := HE.out; omega)).trans K1.out
    have g1 := (hb1.cell (p := ⟨w.heap.size + 1, 1, none⟩) (by show w.heap.size + 1 < _; have := HE.out; omega)).trans L1.out
    replace hfl := hfl w1 hW1
    clear hrl hEq
    go_wp2_with (go_at_call 90; refine hfl.mono ?_; rintro e w2 ⟨rfl, hb2⟩)
    go_ret
    exact ⟨ret_bool HV.out.symm, hW1.trans (hb2.mono hW1.size)⟩
  | false =>
    rw [hp] at hrl HV
    clear hp
    go_enter Try.func39, Try.ntmps39
    go_wp2_with (go_at_call 90; refine hrl.mono ?_; rintro e w1 ⟨rfl, hb1⟩)
    rw [← hEq] at hb1
    go_ret
    exact ⟨ret_bool HV.out.symm, hE.trans (hb1.mono hE.size)⟩
theorem implEqualSubstitutions_c (v : Value) (x : Sbst) (u : Value) (y : Sbst) (w : World) (h : Substitution_at w w.heap.size v x) (_ : Substitution_wf x) (_ : Substitution_sz x ≤ 1048576) (h' : Substitution_at w w.heap.size u y) (_ : Substitution_wf y) (_ : Substitution_sz y ≤ 1048576) :
    Calls Try.prog 39 #[v, u] w fun e w' => e = .returned (.bool (eqSub x y)) ∧ Below w.heap.size w w' := implEqualSubstitutions_any v u x y w h h'

end Go.Proofs.Ytigheecckekbfaa
