/-
  Walks and plain lemmas for the laws of this seat: what single Go functions return, for every argument.
-/
import Derived.Test.YtigheecckekbfaaTyInst
import Derived.Test.YtigheecckekbfaaFactV
import Derived.Test.YtigheecckekbfaaMSub
namespace Go.Proofs.Ytigheecckekbfaa
open Go.RowKit

set_option maxHeartbeats 1600000 in
set_option maxRecDepth 100000 in
theorem specEqualSubstitutions_any (v u : Value) (x y : Sbst) (w : World) (h : Substitution_at w w.heap.size v x) (h' : Substitution_at w w.heap.size u y) :
    Calls Try.prog 38 #[v, u] w fun e w' => e = .returned (.bool (eqSub x y)) ∧ Below w.heap.size w w' := by
  obtain ⟨P, c, Q, d, rfl⟩ := Substitution_form h
  obtain ⟨P', c', Q', d', rfl⟩ := Substitution_form h'
  obtain ⟨V1, V2, hv, hR, hF⟩ := h
  obtain ⟨U1, U2, hu, hR', hF'⟩ := h'
  simp only [Value.agg.injEq, Array.mk.injEq, List.cons.injEq, and_true] at hv hu
  obtain ⟨rfl, rfl⟩ := hv
  obtain ⟨rfl, rfl⟩ := hu
  have HF := Lib.hid hF
  have HF' := Lib.hid hF'
  have HR := Lib.hid hR
  have HR' := Lib.hid hR'
  clear hR hF hR' hF'
  obtain ⟨E, hEq⟩ : ∃ E, E = ((w.alloc (.cells #[.slice P x.nulls.length c, .slice Q x.vals.length d] 27)).alloc (.cells #[.slice P' y.nulls.length c', .slice Q' y.vals.length d'] 27)) := ⟨_, rfl⟩
  have hE : Below w.heap.size w E := by rw [hEq]; exact below_more (below_more (Below.refl _ _) _) _
  have HE := Lib.hid (show w.heap.size + 2 = E.heap.size by rw [hEq]; simp)
  have K1 := Lib.hid (show E.cell? ⟨w.heap.size, 1, none⟩ = some (.slice Q x.vals.length d) by rw [hEq]; simp [go_sem])
  have L1 := Lib.hid (show E.cell? ⟨w.heap.size + 1, 1, none⟩ = some (.slice Q' y.vals.length d') by rw [hEq]; simp [go_sem])
  have hrl := specInts_any (.slice P x.nulls.length c) (.slice P' y.nulls.length c') x.nulls y.nulls E ((HR.out.below hE (Nat.le_refl _)).more hE.size) ((HR'.out.below hE (Nat.le_refl _)).more hE.size)
  have hfl := fun (W : World) (hb : Below w.heap.size w W) => specInts_any (.slice Q x.vals.length d) (.slice Q' y.vals.length d') x.vals y.vals W (HF.out.later hb) (HF'.out.later hb)
  rw [hEq] at hrl
  have HV := Lib.hid (show eqSub x y = (decide (cmpInts x.nulls y.nulls = 0) && decide (cmpInts x.vals y.vals = 0)) from rfl)
  generalize cmpInts x.nulls y.nulls = p at *
  generalize cmpInts x.vals y.vals = q at *
  by_cases hp : p = 0
  · subst hp
    have hz : ((0 : Int) == 0) = true := rfl
    go_enter Try.func38, Try.ntmps38
    go_wp2_with fail
    refine hrl.mono ?_
    rintro e w1 ⟨rfl, hb1⟩
    rw [← hEq] at hb1
    have hW1 := hE.trans (hb1.mono hE.size)
    have f1 := (hb1.cell (p := ⟨w.heap.size, 1, none⟩) (by show w.heap.size < _; have := HE.out; omega)).trans K1.out
    have g1 := (hb1.cell (p := ⟨w.heap.size + 1, 1, none⟩) (by show w.heap.size + 1 < _; have := HE.out; omega)).trans L1.out
    replace hfl := hfl w1 hW1
    clear hrl hEq
    by_cases hq : q = 0
    · subst hq
      go_wp2_with (go_at_call 89; refine hfl.mono ?_; rintro e w2 ⟨rfl, hb2⟩)
      go_ret
      exact ⟨ret_bool HV.out.symm, hW1.trans (hb2.mono hW1.size)⟩
    · have hb : (q == 0) = false := beq_eq_false_iff_ne.2 hq
      have HV2 := Lib.hid (show eqSub x y = false by rw [HV.out, decide_eq_false hq]; rfl)
      clear hq
      go_wp2_with (go_at_call 89; refine hfl.mono ?_; rintro e w2 ⟨rfl, hb2⟩)
      go_ret
      exact ⟨ret_bool HV2.out.symm, hW1.trans (hb2.mono hW1.size)⟩
  · have hb : (p == 0) = false := beq_eq_false_iff_ne.2 hp
    have HV2 := Lib.hid (show eqSub x y = false by rw [HV.out, decide_eq_false hp]; rfl)
    clear hp
    go_enter Try.func38, Try.ntmps38
    go_wp2_with (go_at_call 89; refine hrl.mono ?_; rintro e w1 ⟨rfl, hb1⟩)
    rw [← hEq] at hb1
    go_ret
    exact ⟨ret_bool HV2.out.symm, hE.trans (hb1.mono hE.size)⟩
theorem specEqualSubstitutions_c (v : Value) (x : Sbst) (u : Value) (y : Sbst) (w : World) (h : Substitution_at w w.heap.size v x) (_ : Substitution_wf x) (_ : Substitution_sz x ≤ 1048576) (h' : Substitution_at w w.heap.size u y) (_ : Substitution_wf y) (_ : Substitution_sz y ≤ 1048576) :
    Calls Try.prog 38 #[v, u] w fun e w' => e = .returned (.bool (eqSub x y)) ∧ Below w.heap.size w w' := specEqualSubstitutions_any v u x y w h h'

end Go.Proofs.Ytigheecckekbfaa
