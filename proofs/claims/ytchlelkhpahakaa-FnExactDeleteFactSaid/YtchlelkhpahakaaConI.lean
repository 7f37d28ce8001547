/-
  Walks and plain lemmas for the laws of this seat: what single Go functions return, for every argument.
-/
import Derived.Test.YtchlelkhpahakaaValInI
import Derived.Test.YtchlelkhpahakaaSubI
namespace Go.Proofs.Ytchlelkhpahakaa
open Go.RowKit

set_option maxHeartbeats 1600000 in
set_option maxRecDepth 100000 in
theorem implContainsFact_at (x : Inst) (f : Fct) (q : Bool) (hq : hasInst x f = q) (v u : Value) (w : World) (h : Instance_at w w.heap.size v x) (hw : Instance_wf x) (h' : Fact_at w w.heap.size u f) :
    Calls Try.prog 24 #[v, u] w fun e w' => e = .returned (.bool q) ∧ Below w.heap.size w w' := by
  subst hq
  obtain ⟨P, c, Q, d, rfl⟩ := Instance_form h
  obtain ⟨P', c', rfl⟩ := Fact_form h'
  have HX := Lib.hid h
  have HY := Lib.hid h'
  have HF := Lib.hid (show FactS_at w w.heap.size (.slice Q x.facts.length d) x.facts by
    obtain ⟨V1, V2, hv, hR, hF⟩ := h
    simp only [Value.agg.injEq, Array.mk.injEq, List.cons.injEq, and_true] at hv
    obtain ⟨rfl, rfl⟩ := hv
    exact hF)
  clear h h'
  obtain ⟨E, hEq⟩ : ∃ E, E = ((w.alloc (.cells #[.slice P x.rels.length c, .slice Q x.facts.length d] 43)).alloc (.cells #[.int .i64 f.rel, .slice P' f.vals.length c'] 31)) := ⟨_, rfl⟩
  have hE : Below w.heap.size w E := by rw [hEq]; exact below_more (below_more (Below.refl _ _) _) _
  have HE := Lib.hid (show w.heap.size + 2 = E.heap.size by rw [hEq]; simp)
  have K1 := Lib.hid (show E.cell? ⟨w.heap.size, 1, none⟩ = some (.slice Q x.facts.length d) by rw [hEq]; simp [go_sem])
  have L0 := Lib.hid (show E.cell? ⟨w.heap.size + 1, 0, none⟩ = some (.int .i64 f.rel) by rw [hEq]; simp [go_sem])
  have L1 := Lib.hid (show E.cell? ⟨w.heap.size + 1, 1, none⟩ = some (.slice P' f.vals.length c') by rw [hEq]; simp [go_sem])
  have hiv := fun (q : Bool) (hq : instOk x = q) => implIsValidInstance_at x q hq (.agg #[.slice P x.rels.length c, .slice Q x.facts.length d]) E ((HX.out.below hE (Nat.le_refl _)).more hE.size) hw
  rw [hEq] at hiv
  cases ho : instOk x with
  | false =>
    have HV := Lib.hid (show hasInst x f = false by unfold hasInst; rw [ho]; rfl)
    replace hiv := hiv false ho
    clear ho
    go_enter Try.func24, Try.ntmps24
    go_wp2_with (go_at_call 21; refine hiv.mono ?_; rintro e w1 ⟨rfl, hb1⟩)
    rw [← hEq] at hb1
    go_ret
    exact ⟨ret_bool HV.out.symm, hE.trans (hb1.mono hE.size)⟩
  | true =>
    have HV := Lib.hid (show hasInst x f = x.facts.any (sameP f) by rw [hasInst_any, ho]; rfl)
    replace hiv := hiv true ho
    have hhas := fun (W : World) (hb : Below w.heap.size w W) => implHasFact_at x.facts f _ rfl (.slice Q x.facts.length d) (.agg #[.int .i64 f.rel, .slice P' f.vals.length c']) W (HF.out.later hb) ((HY.out.below hb (Nat.le_refl _)).more hb.size)
    clear ho
    go_enter Try.func24, Try.ntmps24
    go_wp2_with fail
    refine hiv.mono ?_
    rintro e w1 ⟨rfl, hb1⟩
    rw [← hEq] at hb1
    have hW1 := hE.trans (hb1.mono hE.size)
    have f1 := (hb1.cell (p := ⟨w.heap.size, 1, none⟩) (by show w.heap.size < _; have := HE.out; omega)).trans K1.out
    have g0 := (hb1.cell (p := ⟨w.heap.size + 1, 0, none⟩) (by show w.heap.size + 1 < _; have := HE.out; omega)).trans L0.out
    have g1 := (hb1.cell (p := ⟨w.heap.size + 1, 1, none⟩) (by show w.heap.size + 1 < _; have := HE.out; omega)).trans L1.out
    replace hhas := hhas w1 hW1
    clear hiv hEq
    go_wp2_with (go_at_call 59; refine hhas.mono ?_; rintro e w2 ⟨rfl, hb2⟩)
    go_ret
    exact ⟨ret_bool HV.out.symm, hW1.trans (hb2.mono hW1.size)⟩
theorem implContainsFact_c (v : Value) (x : Inst) (u : Value) (y : Fct) (w : World) (h : Instance_at w w.heap.size v x) (hw : Instance_wf x) (_ : Instance_sz x ≤ 1048576) (h' : Fact_at w w.heap.size u y) (_ : Fact_wf y) (_ : Fact_sz y ≤ 1048576) :
    Calls Try.prog 24 #[v, u] w fun e w' => e = .returned (.bool (hasInst x y)) ∧ Below w.heap.size w w' := implContainsFact_at x y _ rfl v u w h hw h'

end Go.Proofs.Ytchlelkhpahakaa
