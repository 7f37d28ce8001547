/-
  Walks and plain lemmas for the laws of this seat: what single Go functions return, for every argument.
-/
import Derived.Test.YteogknfhafdbmaaGreatEqRI
import Derived.Test.YteogknfhafdbmaaGreatMHom
import Derived.Test.YteogknfhafdbmaaGreatValInI
namespace Go.Proofs.YteogknfhafdbmaaGreat
open Go.RowKit

set_option maxHeartbeats 1600000 in
set_option maxRecDepth 100000 in
theorem implHaveEqual_at (x y : Inst) (q : Bool) (hq : sameRels x y = q) (v u : Value) (w : World) (h : Instance_at w w.heap.size v x) (hw : Instance_wf x) (h' : Instance_at w w.heap.size u y) (hw' : Instance_wf y) :
    Calls Tryz.prog 25 #[v, u] w fun e w' => e = .returned (.bool q) ∧ Below w.heap.size w w' := by
  obtain ⟨P, c, Q, d, rfl⟩ := Instance_form h
  obtain ⟨P', c', Q', d', rfl⟩ := Instance_form h'
  have HX := Lib.hid h
  have HY := Lib.hid h'
  obtain ⟨V1, V2, hv, hR, -⟩ := h
  obtain ⟨U1, U2, hu, hR', -⟩ := h'
  simp only [Value.agg.injEq, Array.mk.injEq, List.cons.injEq, and_true] at hv hu
  obtain ⟨rfl, rfl⟩ := hv
  obtain ⟨rfl, rfl⟩ := hu
  have HR := Lib.hid hR
  have HR' := Lib.hid hR'
  clear hR hR'
  obtain ⟨E, hEq⟩ : ∃ E, E = ((w.alloc (.cells #[.slice P x.rels.length c, .slice Q x.facts.length d] 35)).alloc (.cells #[.slice P' y.rels.length c', .slice Q' y.facts.length d'] 35)) := ⟨_, rfl⟩
  have hE : Below w.heap.size w E := by rw [hEq]; exact below_more (below_more (Below.refl _ _) _) _
  have HE := Lib.hid (show w.heap.size + 2 = E.heap.size by rw [hEq]; simp)
  have K0 := Lib.hid (show E.cell? ⟨w.heap.size, 0, none⟩ = some (.slice P x.rels.length c) by rw [hEq]; simp [go_sem])
  have L0 := Lib.hid (show E.cell? ⟨w.heap.size + 1, 0, none⟩ = some (.slice P' y.rels.length c') by rw [hEq]; simp [go_sem])
  have L1 := Lib.hid (show E.cell? ⟨w.heap.size + 1, 1, none⟩ = some (.slice Q' y.facts.length d') by rw [hEq]; simp [go_sem])
  have hcx := fun (b : Bool) (hb : instOk x = b) => implIsValidInstance_at x b hb _ E (HX.out.later hE) hw
  have hcy := fun (b : Bool) (hb : instOk y = b) (W : World) (hW : Below w.heap.size w W) => implIsValidInstance_at y b hb _ W (HY.out.later hW) hw'
  have hcr := fun (b : Bool) (hb : decide (x.rels = y.rels) = b) (W : World) (hW : Below w.heap.size w W) => implEqualRels_at x.rels y.rels b hb _ _ W ((HR.out.below hW (Nat.le_refl _)).more hW.size) ((HR'.out.below hW (Nat.le_refl _)).more hW.size)
  rw [hEq] at hcx
  cases ho : instOk x with
  | false =>
    have HV := Lib.hid ((sameRels_not1 (y := y) ho).symm.trans hq)
    replace hcx := hcx false ho
    clear ho hcy hcr
    go_enter Tryz.func25, Tryz.ntmps25
    go_wp2_with fail
    refine hcx.mono ?_
    rintro e w1 ⟨rfl, b1⟩
    rw [← hEq] at b1
    clear hEq hcx
    go_wp2
    go_ret
    exact ⟨ret_bool HV.out, hE.trans (b1.mono hE.size)⟩
  | true =>
    have HO := Lib.hid ho
    replace hcx := hcx true ho
    clear ho
    go_enter Tryz.func25, Tryz.ntmps25
    go_wp2_with fail
    refine hcx.mono ?_
    rintro e w1 ⟨rfl, b1⟩
    rw [← hEq] at b1
    clear hEq hcx
    have hW1 := hE.trans (b1.mono hE.size)
    have l0 := (b1.cell (p := ⟨w.heap.size + 1, 0, none⟩) (by show w.heap.size + 1 < _; have := HE.out; omega)).trans L0.out
    have l1 := (b1.cell (p := ⟨w.heap.size + 1, 1, none⟩) (by show w.heap.size + 1 < _; have := HE.out; omega)).trans L1.out
    cases hy : instOk y with
    | false =>
      have HV := Lib.hid ((sameRels_not2 (x := x) hy).symm.trans hq)
      replace hcy := hcy false hy w1 hW1
      clear hy hcr
      go_wp2_with fail
      refine hcy.mono ?_
      rintro e w2 ⟨rfl, b2⟩
      go_wp2
      go_ret
      exact ⟨ret_bool HV.out, hW1.trans (b2.mono hW1.size)⟩
    | true =>
      have HOY := Lib.hid hy
      replace hcy := hcy true hy w1 hW1
      clear hy
      go_wp2_with fail
      refine hcy.mono ?_
      rintro e w2 ⟨rfl, b2⟩
      have hW2 := hW1.trans (b2.mono hW1.size)
      have bb := b1.trans (b2.mono b1.size)
      have k0 := (bb.cell (p := ⟨w.heap.size, 0, none⟩) (by show w.heap.size < _; have := HE.out; omega)).trans K0.out
      have m0 := (bb.cell (p := ⟨w.heap.size + 1, 0, none⟩) (by show w.heap.size + 1 < _; have := HE.out; omega)).trans L0.out
      have HV := Lib.hid (fun b (hb : decide (x.rels = y.rels) = b) => show sameRels x y = b by unfold sameRels; rw [HO.out, HOY.out, hb]; rfl)
      clear hcy l0 l1
      cases hr : decide (x.rels = y.rels) with
      | false =>
        have HV' := Lib.hid ((HV.out _ hr).symm.trans hq)
        replace hcr := hcr false hr w2 hW2
        clear hr
        go_wp2_with (go_at_call 46; refine hcr.mono ?_; rintro e w3 ⟨rfl, b3⟩)
        go_ret
        exact ⟨ret_bool HV'.out, hW2.trans (b3.mono hW2.size)⟩
      | true =>
        have HV' := Lib.hid ((HV.out _ hr).symm.trans hq)
        replace hcr := hcr true hr w2 hW2
        clear hr
        go_wp2_with (go_at_call 46; refine hcr.mono ?_; rintro e w3 ⟨rfl, b3⟩)
        go_ret
        exact ⟨ret_bool HV'.out, hW2.trans (b3.mono hW2.size)⟩

end Go.Proofs.YteogknfhafdbmaaGreat
