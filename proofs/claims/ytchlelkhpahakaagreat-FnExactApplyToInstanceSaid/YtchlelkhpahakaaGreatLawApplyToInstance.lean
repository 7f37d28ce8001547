/-
  FnExactApplyToInstance: for every argument the translated law returns true, and each argument reads afterwards as it read before. Conditions: none beyond the given row's own.
-/
import Derived.Test.YtchlelkhpahakaaGreatPlan
import Derived.Test.YtchlelkhpahakaaGreatInstC
import Derived.Test.YtchlelkhpahakaaGreatSubsC
import Derived.Test.YtchlelkhpahakaaGreatSubsN
import Derived.Test.YtchlelkhpahakaaGreatSubsNI
import Derived.Test.YtchlelkhpahakaaGreatLift
namespace Go.Proofs.YtchlelkhpahakaaGreat
open Go.RowKit Go.ChangeShapes Go.WideShapes Go.ChangeAt Go.ChangeMaps

namespace lawFnExactApplyToInstance

set_option maxRecDepth 100000 in
set_option maxHeartbeats 1600000 in
theorem walk (v0 : Value) (x0 : Sbst) (v1 : Value) (x1 : Inst) (w : World) (h0 : Substitution_at w w.heap.size v0 x0) (hw0 : Substitution_wf x0) (h1 : Instance_at w w.heap.size v1 x1) (hw1 : Instance_wf x1) :
    Calls Tryz.prog 3 #[v0, v1] w fun e w' => e = .returned (.bool true) ∧ Below w.heap.size w w' := by
  obtain ⟨v0_0, v0_1, v0_2, v0_3, rfl⟩ := Substitution_form h0
  have A0 := Lib.hid h0
  have W0 := Lib.hid hw0
  clear h0 hw0
  obtain ⟨v1_0, v1_1, v1_2, v1_3, rfl⟩ := Instance_form h1
  have A1 := Lib.hid h1
  have W1 := Lib.hid hw1
  clear h1 hw1
  by_cases hz1 : ((Substitution_sz x0 : Nat) : Int) ≤ 1048576
  rotate_left
  · skip
    have e1 := szLeft_no hz1
    have hb1 : Below w.heap.size w ((w.alloc (.cells #[.slice v0_0 x0.nulls.length v0_1, .slice v0_2 x0.vals.length v0_3] 24)).alloc (.cells #[.slice v1_0 x1.rels.length v1_1, .slice v1_2 x1.facts.length v1_3] 28)) := below_more (below_more (Below.refl _ _) _) _
    have z1 : w.heap.size + 2 ≤ ((w.alloc (.cells #[.slice v0_0 x0.nulls.length v0_1, .slice v0_2 x0.vals.length v0_3] 24)).alloc (.cells #[.slice v1_0 x1.rels.length v1_1, .slice v1_2 x1.facts.length v1_3] 28)).heap.size := by simp
    have K1 := Lib.hid (show ((w.alloc (.cells #[.slice v0_0 x0.nulls.length v0_1, .slice v0_2 x0.vals.length v0_3] 24)).alloc (.cells #[.slice v1_0 x1.rels.length v1_1, .slice v1_2 x1.facts.length v1_3] 28)).cell? ⟨w.heap.size, 0, none⟩ = some (.slice v0_0 x0.nulls.length v0_1) by simp [go_sem])
    have K2 := Lib.hid (show ((w.alloc (.cells #[.slice v0_0 x0.nulls.length v0_1, .slice v0_2 x0.vals.length v0_3] 24)).alloc (.cells #[.slice v1_0 x1.rels.length v1_1, .slice v1_2 x1.facts.length v1_3] 28)).cell? ⟨w.heap.size, 1, none⟩ = some (.slice v0_2 x0.vals.length v0_3) by simp [go_sem])
    have K3 := Lib.hid (show ((w.alloc (.cells #[.slice v0_0 x0.nulls.length v0_1, .slice v0_2 x0.vals.length v0_3] 24)).alloc (.cells #[.slice v1_0 x1.rels.length v1_1, .slice v1_2 x1.facts.length v1_3] 28)).cell? ⟨w.heap.size + 1, 0, none⟩ = some (.slice v1_0 x1.rels.length v1_1) by simp [go_sem])
    have K4 := Lib.hid (show ((w.alloc (.cells #[.slice v0_0 x0.nulls.length v0_1, .slice v0_2 x0.vals.length v0_3] 24)).alloc (.cells #[.slice v1_0 x1.rels.length v1_1, .slice v1_2 x1.facts.length v1_3] 28)).cell? ⟨w.heap.size + 1, 1, none⟩ = some (.slice v1_2 x1.facts.length v1_3) by simp [go_sem])
    go_enter Tryz.func3, Tryz.ntmps3
    have f5 : ((w.alloc (.cells #[.slice v0_0 x0.nulls.length v0_1, .slice v0_2 x0.vals.length v0_3] 24)).alloc (.cells #[.slice v1_0 x1.rels.length v1_1, .slice v1_2 x1.facts.length v1_3] 28)).cell? ⟨w.heap.size, 0, none⟩ = some (.slice v0_0 x0.nulls.length v0_1) := K1.out
    have f6 : ((w.alloc (.cells #[.slice v0_0 x0.nulls.length v0_1, .slice v0_2 x0.vals.length v0_3] 24)).alloc (.cells #[.slice v1_0 x1.rels.length v1_1, .slice v1_2 x1.facts.length v1_3] 28)).cell? ⟨w.heap.size, 1, none⟩ = some (.slice v0_2 x0.vals.length v0_3) := K2.out
    have c0_1 : Below w.heap.size w ((w.alloc (.cells #[.slice v0_0 x0.nulls.length v0_1, .slice v0_2 x0.vals.length v0_3] 24)).alloc (.cells #[.slice v1_0 x1.rels.length v1_1, .slice v1_2 x1.facts.length v1_3] 28)) := hb1
    go_wp2_with fail
    refine (szSubstitution_c _ x0 (1048576) _ ((A0.out.below c0_1 (Nat.le_refl _)).more c0_1.size) W0.out (by omega) (by omega)).mono ?_
    rw [e1]
    rintro e w2 ⟨rfl, hb2⟩
    have z2 : ((w.alloc (.cells #[.slice v0_0 x0.nulls.length v0_1, .slice v0_2 x0.vals.length v0_3] 24)).alloc (.cells #[.slice v1_0 x1.rels.length v1_1, .slice v1_2 x1.facts.length v1_3] 28)).heap.size ≤ w2.heap.size := hb2.size
    clear f5 f6
    have c0_2 : Below w.heap.size w w2 := (c0_1.trans (hb2.mono (by omega)))
    go_wp2
    go_ret
    exact ⟨rfl, c0_2⟩
  by_cases hz2 : ((Instance_sz x1 : Nat) : Int) ≤ 1048576 - (Substitution_sz x0 : Nat)
  rotate_left
  · skip
    have e1 := szLeft_yes hz1
    have e2 := szLeft_no hz2
    have hb1 : Below w.heap.size w ((w.alloc (.cells #[.slice v0_0 x0.nulls.length v0_1, .slice v0_2 x0.vals.length v0_3] 24)).alloc (.cells #[.slice v1_0 x1.rels.length v1_1, .slice v1_2 x1.facts.length v1_3] 28)) := below_more (below_more (Below.refl _ _) _) _
    have z1 : w.heap.size + 2 ≤ ((w.alloc (.cells #[.slice v0_0 x0.nulls.length v0_1, .slice v0_2 x0.vals.length v0_3] 24)).alloc (.cells #[.slice v1_0 x1.rels.length v1_1, .slice v1_2 x1.facts.length v1_3] 28)).heap.size := by simp
    have K1 := Lib.hid (show ((w.alloc (.cells #[.slice v0_0 x0.nulls.length v0_1, .slice v0_2 x0.vals.length v0_3] 24)).alloc (.cells #[.slice v1_0 x1.rels.length v1_1, .slice v1_2 x1.facts.length v1_3] 28)).cell? ⟨w.heap.size, 0, none⟩ = some (.slice v0_0 x0.nulls.length v0_1) by simp [go_sem])
    have K2 := Lib.hid (show ((w.alloc (.cells #[.slice v0_0 x0.nulls.length v0_1, .slice v0_2 x0.vals.length v0_3] 24)).alloc (.cells #[.slice v1_0 x1.rels.length v1_1, .slice v1_2 x1.facts.length v1_3] 28)).cell? ⟨w.heap.size, 1, none⟩ = some (.slice v0_2 x0.vals.length v0_3) by simp [go_sem])
    have K3 := Lib.hid (show ((w.alloc (.cells #[.slice v0_0 x0.nulls.length v0_1, .slice v0_2 x0.vals.length v0_3] 24)).alloc (.cells #[.slice v1_0 x1.rels.length v1_1, .slice v1_2 x1.facts.length v1_3] 28)).cell? ⟨w.heap.size + 1, 0, none⟩ = some (.slice v1_0 x1.rels.length v1_1) by simp [go_sem])
    have K4 := Lib.hid (show ((w.alloc (.cells #[.slice v0_0 x0.nulls.length v0_1, .slice v0_2 x0.vals.length v0_3] 24)).alloc (.cells #[.slice v1_0 x1.rels.length v1_1, .slice v1_2 x1.facts.length v1_3] 28)).cell? ⟨w.heap.size + 1, 1, none⟩ = some (.slice v1_2 x1.facts.length v1_3) by simp [go_sem])
    go_enter Tryz.func3, Tryz.ntmps3
    have f7 : ((w.alloc (.cells #[.slice v0_0 x0.nulls.length v0_1, .slice v0_2 x0.vals.length v0_3] 24)).alloc (.cells #[.slice v1_0 x1.rels.length v1_1, .slice v1_2 x1.facts.length v1_3] 28)).cell? ⟨w.heap.size, 0, none⟩ = some (.slice v0_0 x0.nulls.length v0_1) := K1.out
    have f8 : ((w.alloc (.cells #[.slice v0_0 x0.nulls.length v0_1, .slice v0_2 x0.vals.length v0_3] 24)).alloc (.cells #[.slice v1_0 x1.rels.length v1_1, .slice v1_2 x1.facts.length v1_3] 28)).cell? ⟨w.heap.size, 1, none⟩ = some (.slice v0_2 x0.vals.length v0_3) := K2.out
    have c0_1 : Below w.heap.size w ((w.alloc (.cells #[.slice v0_0 x0.nulls.length v0_1, .slice v0_2 x0.vals.length v0_3] 24)).alloc (.cells #[.slice v1_0 x1.rels.length v1_1, .slice v1_2 x1.facts.length v1_3] 28)) := hb1
    go_wp2_with fail
    refine (szSubstitution_c _ x0 (1048576) _ ((A0.out.below c0_1 (Nat.le_refl _)).more c0_1.size) W0.out (by omega) (by omega)).mono ?_
    rw [e1]
    rintro e w2 ⟨rfl, hb2⟩
    have z2 : ((w.alloc (.cells #[.slice v0_0 x0.nulls.length v0_1, .slice v0_2 x0.vals.length v0_3] 24)).alloc (.cells #[.slice v1_0 x1.rels.length v1_1, .slice v1_2 x1.facts.length v1_3] 28)).heap.size ≤ w2.heap.size := hb2.size
    clear f7 f8
    have c1_2 : Below ((w.alloc (.cells #[.slice v0_0 x0.nulls.length v0_1, .slice v0_2 x0.vals.length v0_3] 24)).alloc (.cells #[.slice v1_0 x1.rels.length v1_1, .slice v1_2 x1.facts.length v1_3] 28)).heap.size ((w.alloc (.cells #[.slice v0_0 x0.nulls.length v0_1, .slice v0_2 x0.vals.length v0_3] 24)).alloc (.cells #[.slice v1_0 x1.rels.length v1_1, .slice v1_2 x1.facts.length v1_3] 28)) w2 := hb2
    have f9 : w2.cell? ⟨w.heap.size + 1, 0, none⟩ = some (.slice v1_0 x1.rels.length v1_1) := ((c1_2).cell (p := ⟨w.heap.size + 1, 0, none⟩) (by show w.heap.size + 1 < _; omega)).trans K3.out
    have f10 : w2.cell? ⟨w.heap.size + 1, 1, none⟩ = some (.slice v1_2 x1.facts.length v1_3) := ((c1_2).cell (p := ⟨w.heap.size + 1, 1, none⟩) (by show w.heap.size + 1 < _; omega)).trans K4.out
    have c0_2 : Below w.heap.size w w2 := (c0_1.trans (hb2.mono (by omega)))
    go_wp2_with fail
    refine (szInstance_c _ x1 (1048576 - (Substitution_sz x0 : Nat)) _ ((A1.out.below c0_2 (Nat.le_refl _)).more c0_2.size) W1.out (by omega) (by omega)).mono ?_
    rw [e2]
    rintro e w3 ⟨rfl, hb3⟩
    have z3 : w2.heap.size ≤ w3.heap.size := hb3.size
    clear f9 f10
    have c0_3 : Below w.heap.size w w3 := (c0_2.trans (hb3.mono (by omega)))
    go_wp2
    go_ret
    exact ⟨rfl, c0_3⟩
  have e1 := szLeft_yes hz1
  have S0 : Substitution_sz x0 ≤ 1048576 := by omega
  have N0 := Substitution_cnt_le x0
  have e2 := szLeft_yes hz2
  have S1 : Instance_sz x1 ≤ 1048576 := by omega
  have N1 := Instance_cnt_le x1
  have hb1 : Below w.heap.size w ((w.alloc (.cells #[.slice v0_0 x0.nulls.length v0_1, .slice v0_2 x0.vals.length v0_3] 24)).alloc (.cells #[.slice v1_0 x1.rels.length v1_1, .slice v1_2 x1.facts.length v1_3] 28)) := below_more (below_more (Below.refl _ _) _) _
  have z1 : w.heap.size + 2 ≤ ((w.alloc (.cells #[.slice v0_0 x0.nulls.length v0_1, .slice v0_2 x0.vals.length v0_3] 24)).alloc (.cells #[.slice v1_0 x1.rels.length v1_1, .slice v1_2 x1.facts.length v1_3] 28)).heap.size := by simp
  have K1 := Lib.hid (show ((w.alloc (.cells #[.slice v0_0 x0.nulls.length v0_1, .slice v0_2 x0.vals.length v0_3] 24)).alloc (.cells #[.slice v1_0 x1.rels.length v1_1, .slice v1_2 x1.facts.length v1_3] 28)).cell? ⟨w.heap.size, 0, none⟩ = some (.slice v0_0 x0.nulls.length v0_1) by simp [go_sem])
  have K2 := Lib.hid (show ((w.alloc (.cells #[.slice v0_0 x0.nulls.length v0_1, .slice v0_2 x0.vals.length v0_3] 24)).alloc (.cells #[.slice v1_0 x1.rels.length v1_1, .slice v1_2 x1.facts.length v1_3] 28)).cell? ⟨w.heap.size, 1, none⟩ = some (.slice v0_2 x0.vals.length v0_3) by simp [go_sem])
  have K3 := Lib.hid (show ((w.alloc (.cells #[.slice v0_0 x0.nulls.length v0_1, .slice v0_2 x0.vals.length v0_3] 24)).alloc (.cells #[.slice v1_0 x1.rels.length v1_1, .slice v1_2 x1.facts.length v1_3] 28)).cell? ⟨w.heap.size + 1, 0, none⟩ = some (.slice v1_0 x1.rels.length v1_1) by simp [go_sem])
  have K4 := Lib.hid (show ((w.alloc (.cells #[.slice v0_0 x0.nulls.length v0_1, .slice v0_2 x0.vals.length v0_3] 24)).alloc (.cells #[.slice v1_0 x1.rels.length v1_1, .slice v1_2 x1.facts.length v1_3] 28)).cell? ⟨w.heap.size + 1, 1, none⟩ = some (.slice v1_2 x1.facts.length v1_3) by simp [go_sem])
  go_enter Tryz.func3, Tryz.ntmps3
  have f11 : ((w.alloc (.cells #[.slice v0_0 x0.nulls.length v0_1, .slice v0_2 x0.vals.length v0_3] 24)).alloc (.cells #[.slice v1_0 x1.rels.length v1_1, .slice v1_2 x1.facts.length v1_3] 28)).cell? ⟨w.heap.size, 0, none⟩ = some (.slice v0_0 x0.nulls.length v0_1) := K1.out
  have f12 : ((w.alloc (.cells #[.slice v0_0 x0.nulls.length v0_1, .slice v0_2 x0.vals.length v0_3] 24)).alloc (.cells #[.slice v1_0 x1.rels.length v1_1, .slice v1_2 x1.facts.length v1_3] 28)).cell? ⟨w.heap.size, 1, none⟩ = some (.slice v0_2 x0.vals.length v0_3) := K2.out
  have c0_1 : Below w.heap.size w ((w.alloc (.cells #[.slice v0_0 x0.nulls.length v0_1, .slice v0_2 x0.vals.length v0_3] 24)).alloc (.cells #[.slice v1_0 x1.rels.length v1_1, .slice v1_2 x1.facts.length v1_3] 28)) := hb1
  go_wp2_with fail
  refine (szSubstitution_c _ x0 (1048576) _ ((A0.out.below c0_1 (Nat.le_refl _)).more c0_1.size) W0.out (by omega) (by omega)).mono ?_
  rw [e1]
  rintro e w2 ⟨rfl, hb2⟩
  have z2 : ((w.alloc (.cells #[.slice v0_0 x0.nulls.length v0_1, .slice v0_2 x0.vals.length v0_3] 24)).alloc (.cells #[.slice v1_0 x1.rels.length v1_1, .slice v1_2 x1.facts.length v1_3] 28)).heap.size ≤ w2.heap.size := hb2.size
  clear f11 f12
  have c1_2 : Below ((w.alloc (.cells #[.slice v0_0 x0.nulls.length v0_1, .slice v0_2 x0.vals.length v0_3] 24)).alloc (.cells #[.slice v1_0 x1.rels.length v1_1, .slice v1_2 x1.facts.length v1_3] 28)).heap.size ((w.alloc (.cells #[.slice v0_0 x0.nulls.length v0_1, .slice v0_2 x0.vals.length v0_3] 24)).alloc (.cells #[.slice v1_0 x1.rels.length v1_1, .slice v1_2 x1.facts.length v1_3] 28)) w2 := hb2
  have f13 : w2.cell? ⟨w.heap.size + 1, 0, none⟩ = some (.slice v1_0 x1.rels.length v1_1) := ((c1_2).cell (p := ⟨w.heap.size + 1, 0, none⟩) (by show w.heap.size + 1 < _; omega)).trans K3.out
  have f14 : w2.cell? ⟨w.heap.size + 1, 1, none⟩ = some (.slice v1_2 x1.facts.length v1_3) := ((c1_2).cell (p := ⟨w.heap.size + 1, 1, none⟩) (by show w.heap.size + 1 < _; omega)).trans K4.out
  have c0_2 : Below w.heap.size w w2 := (c0_1.trans (hb2.mono (by omega)))
  go_wp2_with fail
  refine (szInstance_c _ x1 (1048576 - (Substitution_sz x0 : Nat)) _ ((A1.out.below c0_2 (Nat.le_refl _)).more c0_2.size) W1.out (by omega) (by omega)).mono ?_
  rw [e2]
  rintro e w3 ⟨rfl, hb3⟩
  have z3 : w2.heap.size ≤ w3.heap.size := hb3.size
  clear f13 f14
  have c0_3 : Below w.heap.size w w3 := (c0_2.trans (hb3.mono (by omega)))
  have c1_3 : Below ((w.alloc (.cells #[.slice v0_0 x0.nulls.length v0_1, .slice v0_2 x0.vals.length v0_3] 24)).alloc (.cells #[.slice v1_0 x1.rels.length v1_1, .slice v1_2 x1.facts.length v1_3] 28)).heap.size ((w.alloc (.cells #[.slice v0_0 x0.nulls.length v0_1, .slice v0_2 x0.vals.length v0_3] 24)).alloc (.cells #[.slice v1_0 x1.rels.length v1_1, .slice v1_2 x1.facts.length v1_3] 28)) w3 := (c1_2.trans (hb3.mono (by omega)))
  go_upto_region 8 with fail
  go_cut [6, 7] from 17 (fun sb s7 wx => ∃ (bx : Nat) (r : Value) (Bn Cn : Nat), sb = .pointer (some ⟨bx, 0, none⟩) ∧ s7 = .bool (ApplyToInstance_ok x0 x1) ∧ w3.heap.size ≤ bx ∧ bx < wx.heap.size ∧ w3.heap.size ≤ Bn ∧ Bn ≤ Cn ∧ Cn ≤ wx.heap.size ∧ (bx < Bn ∨ Cn ≤ bx) ∧ Below w3.heap.size w3 wx ∧ Hid (Instance_at wx wx.heap.size r (ApplyToInstance_r0 x0 x1)) ∧ Hid (∀ k, k < 2 → wx.cell? ⟨bx, k, none⟩ = r.cells[k]?))
  case first =>
    have f16 : w3.cell? ⟨w.heap.size, 0, none⟩ = some (.slice v0_0 x0.nulls.length v0_1) := ((c1_3).cell (p := ⟨w.heap.size, 0, none⟩) (by show w.heap.size < _; omega)).trans K1.out
    have gf16 := Aft.cell (B := w3.heap.size) (by omega) f16
    clear f16
    have f17 : w3.cell? ⟨w.heap.size, 1, none⟩ = some (.slice v0_2 x0.vals.length v0_3) := ((c1_3).cell (p := ⟨w.heap.size, 1, none⟩) (by show w.heap.size < _; omega)).trans K2.out
    have gf17 := Aft.cell (B := w3.heap.size) (by omega) f17
    clear f17
    have f18 : w3.cell? ⟨w.heap.size + 1, 0, none⟩ = some (.slice v1_0 x1.rels.length v1_1) := ((c1_3).cell (p := ⟨w.heap.size + 1, 0, none⟩) (by show w.heap.size + 1 < _; omega)).trans K3.out
    have gf18 := Aft.cell (B := w3.heap.size) (by omega) f18
    clear f18
    have f19 : w3.cell? ⟨w.heap.size + 1, 1, none⟩ = some (.slice v1_2 x1.facts.length v1_3) := ((c1_3).cell (p := ⟨w.heap.size + 1, 1, none⟩) (by show w.heap.size + 1 < _; omega)).trans K4.out
    have gf19 := Aft.cell (B := w3.heap.size) (by omega) f19
    clear f19
    have hd15 : Below w3.heap.size w3 w3.drew := (Below.refl _ _).drew
    have AT15_0 := ((A0.out.below c0_3 (Nat.le_refl _)).more c0_3.size)
    have AT15_1 := ((A1.out.below c0_3 (Nat.le_refl _)).more c0_3.size)
    refine wp_region_planL (C := fun w' => ∃ u : Aft w3.heap.size w3, w' = u.now) (.still 0 (.move true 1 (.still 2 (.move true 3 (.move true 4 (.still 5 (.still 6 (.still 7 (.move true 8 (.move true 9 (.still 10 .done) .none) .none)))) (.move true 8 (.move true 4 (.still 5 (.still 6 (.still 7 (.move true 9 (.still 10 .done) .none)))) .none) .none)) (.move true 8 (.move true 3 (.move true 4 (.still 5 (.still 6 (.still 7 (.move true 9 (.still 10 .done) .none)))) .none) .none) .none))) (.move true 8 (.move true 1 (.still 2 (.move true 3 (.move true 4 (.still 5 (.still 6 (.still 7 (.move true 9 (.still 10 .done) .none)))) .none) .none)) .none) .none))) (by kernel_rfl) (by kernel_rfl) (by kernel_rfl) (fun _ => ⟨⟨_, hd15⟩, rfl⟩) ?_
    refine plan_look _ rfl rfl ?_
    go_big_quiet_step (fail)
    refine wpQuiet_nil ?_
    refine plan_call _ 7 _ _ _ _ _ rfl _ Tryz.func7 (by kernel_rfl) (by kernel_rfl) ?_ ?_
    rotate_left
    · skip
      obtain ⟨y15_1, e15_1⟩ : ∃ V, V = (w3.drew.alloc (.cells #[.slice none 0 0, .slice none 0 0] 34)) := ⟨_, rfl⟩
      have hy15_1 : Below w3.drew.heap.size w3.drew y15_1 := by rw [e15_1]; exact (Below.refl _ _).alloc (Nat.le_refl _) _
      have zy15_1 : w3.drew.heap.size < y15_1.heap.size := by rw [e15_1]; simp
      have by15_1 := hd15.size
      have be15_1 : Below w3.heap.size w3 y15_1 := hd15.trans (hy15_1.mono by15_1)
      have kc15_1_0 : y15_1.cell? ⟨w3.drew.heap.size, 0, none⟩ = some (.slice none 0 0) := by rw [e15_1]; simp [go_sem]
      have kc15_1_1 : y15_1.cell? ⟨w3.drew.heap.size, 1, none⟩ = some (.slice none 0 0) := by rw [e15_1]; simp [go_sem]
      have kz15_1 : ∀ o, y15_1.frozen? ⟨w3.drew.heap.size, o, none⟩ = false := by intro o; rw [e15_1]; simp [go_sem]
      obtain ⟨bb15_1, eb15_1⟩ : ∃ b, b = w3.drew.heap.size := ⟨_, rfl⟩
      rw [← eb15_1] at kz15_1 kc15_1_0 kc15_1_1
      refine plan_value (u := .pointer (some ⟨w3.drew.heap.size, 0, none⟩)) (w' := y15_1) _ rfl rfl rfl (by rw [e15_1]; simp [go_sem]) (fun _ => ⟨⟨_, be15_1⟩, rfl⟩) ?_ True.intro
      rw [← eb15_1]
      refine plan_put ?_ (by simp only [Act.put, List.setIfInBounds_toArray, List.set_cons_succ, List.set_cons_zero]; rfl)
      refine plan_call _ 7 _ _ _ _ _ rfl _ Tryz.func7 (by kernel_rfl) (by kernel_rfl) ?_ ?_
      rotate_left
      · exact True.intro
      show Calls Tryz.prog 7 #[.agg #[.slice v0_0 x0.nulls.length v0_1, .slice v0_2 x0.vals.length v0_3]] _ _
      refine (toSubstitution_c _ x0 _ ((AT15_0.below be15_1 (Nat.le_refl _)).more be15_1.size) S0).mono ?_
      rintro e x15_2 ⟨v15_2, rfl, o15_2, hx15_2⟩
      obtain ⟨v15_2_0, v15_2_1, v15_2_2, v15_2_3, rfl⟩ := Substitution_form (o15_2.at_ (Nat.le_refl _))
      have zx15_2 := hx15_2.size
      have bx15_2 := be15_1.size
      have be15_2 : Below w3.heap.size w3 x15_2 := be15_1.trans (hx15_2.mono be15_1.size)
      have kd15_2_0 := (hx15_2.cell (p := ⟨bb15_1, 0, none⟩) (by show bb15_1 < _; omega)).trans kc15_1_0
      have kd15_2_1 := (hx15_2.cell (p := ⟨bb15_1, 1, none⟩) (by show bb15_1 < _; omega)).trans kc15_1_1
      have kw15_2 := fun o => (hx15_2.frozen (p := ⟨bb15_1, o, none⟩) (by show bb15_1 < _; omega)).trans (kz15_1 o)
      refine ⟨_, rfl, fun _ => ⟨⟨_, be15_2⟩, rfl⟩, ?_⟩
      refine plan_put ?_ (by simp only [Act.put, List.setIfInBounds_toArray, List.set_cons_succ, List.set_cons_zero]; rfl)
      refine plan_look _ rfl rfl ?_
      go_big_quiet_step (fail)
      refine wpQuiet_nil ?_
      refine plan_call _ 8 _ _ _ _ _ rfl _ Tryz.func8 (by kernel_rfl) (by kernel_rfl) ?_ ?_
      rotate_left
      · exact True.intro
      show Calls Tryz.prog 8 #[.agg #[.slice v1_0 x1.rels.length v1_1, .slice v1_2 x1.facts.length v1_3]] _ _
      refine (toInstance_c _ x1 _ ((AT15_1.below be15_2 (Nat.le_refl _)).more be15_2.size) S1).mono ?_
      rintro e x15_3 ⟨v15_3, rfl, o15_3, hx15_3⟩
      obtain ⟨v15_3_0, v15_3_1, v15_3_2, v15_3_3, rfl⟩ := Instance_form (o15_3.at_ (Nat.le_refl _))
      have zx15_3 := hx15_3.size
      have bx15_3 := be15_2.size
      have be15_3 : Below w3.heap.size w3 x15_3 := be15_2.trans (hx15_3.mono be15_2.size)
      have kd15_3_0 := (hx15_3.cell (p := ⟨bb15_1, 0, none⟩) (by show bb15_1 < _; omega)).trans kd15_2_0
      have kd15_3_1 := (hx15_3.cell (p := ⟨bb15_1, 1, none⟩) (by show bb15_1 < _; omega)).trans kd15_2_1
      have kw15_3 := fun o => (hx15_3.frozen (p := ⟨bb15_1, o, none⟩) (by show bb15_1 < _; omega)).trans (kw15_2 o)
      refine ⟨_, rfl, fun _ => ⟨⟨_, be15_3⟩, rfl⟩, ?_⟩
      refine plan_put ?_ (by simp only [Act.put, List.setIfInBounds_toArray, List.set_cons_succ, List.set_cons_zero]; rfl)
      refine plan_call _ 6 _ _ _ _ _ rfl _ Tryz.func6 (by kernel_rfl) (by kernel_rfl) ?_ ?_
      rotate_left
      · exact True.intro
      show Calls Tryz.prog 6 #[.agg #[.slice v15_2_0 x0.nulls.length v15_2_1, .slice v15_2_2 x0.vals.length v15_2_3], .agg #[.slice v15_3_0 x1.rels.length v15_3_1, .slice v15_3_2 x1.facts.length v15_3_3]] _ _
      refine (specApplyToInstance_o _ x0 _ x1 _ ((o15_2.below hx15_3 (Nat.le_refl _)).at_ hx15_3.size) W0.out S0 (o15_3.at_ (Nat.le_refl _)) W1.out S1).mono ?_
      rintro e x15_4 ⟨r15_4, rfl, p15_4, hx15_4⟩
      obtain ⟨r15_4_0, r15_4_1, r15_4_2, r15_4_3, rfl⟩ := Instance_form (p15_4.at_ (Nat.le_refl _))
      have zx15_4 := hx15_4.size
      have bx15_4 := be15_3.size
      have be15_4 : Below w3.heap.size w3 x15_4 := be15_3.trans (hx15_4.mono be15_3.size)
      have kd15_4_0 := (hx15_4.cell (p := ⟨bb15_1, 0, none⟩) (by show bb15_1 < _; omega)).trans kd15_3_0
      have kd15_4_1 := (hx15_4.cell (p := ⟨bb15_1, 1, none⟩) (by show bb15_1 < _; omega)).trans kd15_3_1
      have kw15_4 := fun o => (hx15_4.frozen (p := ⟨bb15_1, o, none⟩) (by show bb15_1 < _; omega)).trans (kw15_3 o)
      refine ⟨_, rfl, fun _ => ⟨⟨_, be15_4⟩, rfl⟩, ?_⟩
      refine plan_put ?_ (by simp only [Act.put, List.setIfInBounds_toArray, List.set_cons_succ, List.set_cons_zero]; rfl)
      refine plan_look _ rfl rfl ?_
      go_big_quiet_step (fail)
      refine wpQuiet_nil ?_
      refine plan_look _ rfl rfl ?_
      go_big_quiet_step (fail)
      refine wpQuiet_nil ?_
      refine plan_look _ rfl rfl ?_
      go_big_quiet_step (fail)
      refine wpQuiet_nil ?_
      have lo15_5 : w3.heap.size ≤ bb15_1 := by omega
      have bs15_5 : Below w3.heap.size w3 ((x15_4.setCell ⟨bb15_1, 0, none⟩ (.slice r15_4_0 (ApplyToInstance_r0 x0 x1).rels.length r15_4_1)).setCell ⟨bb15_1, 1, none⟩ (.slice r15_4_2 (ApplyToInstance_r0 x0 x1).facts.length r15_4_3)) := ((be15_4.setCell (p := ⟨bb15_1, 0, none⟩) lo15_5 _).setCell (p := ⟨bb15_1, 1, none⟩) lo15_5 _)
      refine plan_skip (w' := ((x15_4.setCell ⟨bb15_1, 0, none⟩ (.slice r15_4_0 (ApplyToInstance_r0 x0 x1).rels.length r15_4_1)).setCell ⟨bb15_1, 1, none⟩ (.slice r15_4_2 (ApplyToInstance_r0 x0 x1).facts.length r15_4_3))) _ rfl rfl rfl (by simp [go_sem, kd15_4_0, kd15_4_1, kw15_4]) (fun _ => ⟨⟨_, bs15_5⟩, rfl⟩) ?_ True.intro
      refine plan_put ?_ (by simp only [Act.put]; rfl)
      refine plan_look _ rfl rfl ?_
      go_big_quiet_step (fail)
      refine wpQuiet_nil ?_
      have cf15_5 : Chg (Mid bb15_1 (bb15_1 + 1)) x15_4 ((x15_4.setCell ⟨bb15_1, 0, none⟩ (.slice r15_4_0 (ApplyToInstance_r0 x0 x1).rels.length r15_4_1)).setCell ⟨bb15_1, 1, none⟩ (.slice r15_4_2 (ApplyToInstance_r0 x0 x1).facts.length r15_4_3)) := (((Chg.refl (Mid bb15_1 (bb15_1 + 1)) x15_4).setCell (p := ⟨bb15_1, 0, none⟩) ⟨Nat.le_refl _, Nat.lt_succ_self _⟩ _).setCell (p := ⟨bb15_1, 1, none⟩) ⟨Nat.le_refl _, Nat.lt_succ_self _⟩ _)
      have pf15_5 := p15_4.chg cf15_5 (.inr (by omega))
      have zf15_5 := cf15_5.size
      have kf15_5 : ∀ k, k < 2 → ((x15_4.setCell ⟨bb15_1, 0, none⟩ (.slice r15_4_0 (ApplyToInstance_r0 x0 x1).rels.length r15_4_1)).setCell ⟨bb15_1, 1, none⟩ (.slice r15_4_2 (ApplyToInstance_r0 x0 x1).facts.length r15_4_3)).cell? ⟨bb15_1, k, none⟩ = (Value.agg #[.slice r15_4_0 (ApplyToInstance_r0 x0 x1).rels.length r15_4_1, .slice r15_4_2 (ApplyToInstance_r0 x0 x1).facts.length r15_4_3]).cells[k]? := by
        intro k hk
        rcases (show k = 0 ∨ k = 1 by omega) with rfl | rfl
        · simp [go_sem, Value.cells, kd15_4_0]
        · simp [go_sem, Value.cells, kd15_4_1]
      refine plan_done ?_
      go_wp2
      go_meet
      case rel => exact ⟨bb15_1, .agg #[.slice r15_4_0 (ApplyToInstance_r0 x0 x1).rels.length r15_4_1, .slice r15_4_2 (ApplyToInstance_r0 x0 x1).facts.length r15_4_3], x15_3.heap.size, x15_4.heap.size, rfl, rfl, by omega, by omega, by omega, by omega, by omega, .inl (by omega), bs15_5, Lib.hid (pf15_5.at_ (by omega)), Lib.hid kf15_5⟩
    show Calls Tryz.prog 7 #[.agg #[.slice v0_0 x0.nulls.length v0_1, .slice v0_2 x0.vals.length v0_3]] _ _
    refine (toSubstitution_c _ x0 _ ((AT15_0.below hd15 (Nat.le_refl _)).more hd15.size) S0).mono ?_
    rintro e x15_6 ⟨v15_6, rfl, o15_6, hx15_6⟩
    obtain ⟨v15_6_0, v15_6_1, v15_6_2, v15_6_3, rfl⟩ := Substitution_form (o15_6.at_ (Nat.le_refl _))
    have zx15_6 := hx15_6.size
    have bx15_6 := hd15.size
    have be15_6 : Below w3.heap.size w3 x15_6 := hd15.trans (hx15_6.mono hd15.size)
    refine ⟨_, rfl, fun _ => ⟨⟨_, be15_6⟩, rfl⟩, ?_⟩
    refine plan_put ?_ (by simp only [Act.put, List.setIfInBounds_toArray, List.set_cons_succ, List.set_cons_zero]; rfl)
    refine plan_look _ rfl rfl ?_
    go_big_quiet_step (fail)
    refine wpQuiet_nil ?_
    refine plan_call _ 8 _ _ _ _ _ rfl _ Tryz.func8 (by kernel_rfl) (by kernel_rfl) ?_ ?_
    rotate_left
    · skip
      obtain ⟨y15_7, e15_7⟩ : ∃ V, V = (x15_6.alloc (.cells #[.slice none 0 0, .slice none 0 0] 34)) := ⟨_, rfl⟩
      have hy15_7 : Below x15_6.heap.size x15_6 y15_7 := by rw [e15_7]; exact (Below.refl _ _).alloc (Nat.le_refl _) _
      have zy15_7 : x15_6.heap.size < y15_7.heap.size := by rw [e15_7]; simp
      have by15_7 := be15_6.size
      have be15_7 : Below w3.heap.size w3 y15_7 := be15_6.trans (hy15_7.mono by15_7)
      have kc15_7_0 : y15_7.cell? ⟨x15_6.heap.size, 0, none⟩ = some (.slice none 0 0) := by rw [e15_7]; simp [go_sem]
      have kc15_7_1 : y15_7.cell? ⟨x15_6.heap.size, 1, none⟩ = some (.slice none 0 0) := by rw [e15_7]; simp [go_sem]
      have kz15_7 : ∀ o, y15_7.frozen? ⟨x15_6.heap.size, o, none⟩ = false := by intro o; rw [e15_7]; simp [go_sem]
      obtain ⟨bb15_7, eb15_7⟩ : ∃ b, b = x15_6.heap.size := ⟨_, rfl⟩
      rw [← eb15_7] at kz15_7 kc15_7_0 kc15_7_1
      refine plan_value (u := .pointer (some ⟨x15_6.heap.size, 0, none⟩)) (w' := y15_7) _ rfl rfl rfl (by rw [e15_7]; simp [go_sem]) (fun _ => ⟨⟨_, be15_7⟩, rfl⟩) ?_ True.intro
      rw [← eb15_7]
      refine plan_put ?_ (by simp only [Act.put, List.setIfInBounds_toArray, List.set_cons_succ, List.set_cons_zero]; rfl)
      refine plan_call _ 8 _ _ _ _ _ rfl _ Tryz.func8 (by kernel_rfl) (by kernel_rfl) ?_ ?_
      rotate_left
      · exact True.intro
      show Calls Tryz.prog 8 #[.agg #[.slice v1_0 x1.rels.length v1_1, .slice v1_2 x1.facts.length v1_3]] _ _
      refine (toInstance_c _ x1 _ ((AT15_1.below be15_7 (Nat.le_refl _)).more be15_7.size) S1).mono ?_
      rintro e x15_8 ⟨v15_8, rfl, o15_8, hx15_8⟩
      obtain ⟨v15_8_0, v15_8_1, v15_8_2, v15_8_3, rfl⟩ := Instance_form (o15_8.at_ (Nat.le_refl _))
      have zx15_8 := hx15_8.size
      have bx15_8 := be15_7.size
      have be15_8 : Below w3.heap.size w3 x15_8 := be15_7.trans (hx15_8.mono be15_7.size)
      have sc15_8_x15_6 : Below x15_6.heap.size x15_6 x15_8 := hy15_7.trans (hx15_8.mono hy15_7.size)
      have kd15_8_0 := (hx15_8.cell (p := ⟨bb15_7, 0, none⟩) (by show bb15_7 < _; omega)).trans kc15_7_0
      have kd15_8_1 := (hx15_8.cell (p := ⟨bb15_7, 1, none⟩) (by show bb15_7 < _; omega)).trans kc15_7_1
      have kw15_8 := fun o => (hx15_8.frozen (p := ⟨bb15_7, o, none⟩) (by show bb15_7 < _; omega)).trans (kz15_7 o)
      refine ⟨_, rfl, fun _ => ⟨⟨_, be15_8⟩, rfl⟩, ?_⟩
      refine plan_put ?_ (by simp only [Act.put, List.setIfInBounds_toArray, List.set_cons_succ, List.set_cons_zero]; rfl)
      refine plan_call _ 6 _ _ _ _ _ rfl _ Tryz.func6 (by kernel_rfl) (by kernel_rfl) ?_ ?_
      rotate_left
      · exact True.intro
      show Calls Tryz.prog 6 #[.agg #[.slice v15_6_0 x0.nulls.length v15_6_1, .slice v15_6_2 x0.vals.length v15_6_3], .agg #[.slice v15_8_0 x1.rels.length v15_8_1, .slice v15_8_2 x1.facts.length v15_8_3]] _ _
      refine (specApplyToInstance_o _ x0 _ x1 _ ((o15_6.below sc15_8_x15_6 (Nat.le_refl _)).at_ sc15_8_x15_6.size) W0.out S0 (o15_8.at_ (Nat.le_refl _)) W1.out S1).mono ?_
      rintro e x15_9 ⟨r15_9, rfl, p15_9, hx15_9⟩
      obtain ⟨r15_9_0, r15_9_1, r15_9_2, r15_9_3, rfl⟩ := Instance_form (p15_9.at_ (Nat.le_refl _))
      have zx15_9 := hx15_9.size
      have bx15_9 := be15_8.size
      have be15_9 : Below w3.heap.size w3 x15_9 := be15_8.trans (hx15_9.mono be15_8.size)
      have kd15_9_0 := (hx15_9.cell (p := ⟨bb15_7, 0, none⟩) (by show bb15_7 < _; omega)).trans kd15_8_0
      have kd15_9_1 := (hx15_9.cell (p := ⟨bb15_7, 1, none⟩) (by show bb15_7 < _; omega)).trans kd15_8_1
      have kw15_9 := fun o => (hx15_9.frozen (p := ⟨bb15_7, o, none⟩) (by show bb15_7 < _; omega)).trans (kw15_8 o)
      refine ⟨_, rfl, fun _ => ⟨⟨_, be15_9⟩, rfl⟩, ?_⟩
      refine plan_put ?_ (by simp only [Act.put, List.setIfInBounds_toArray, List.set_cons_succ, List.set_cons_zero]; rfl)
      refine plan_look _ rfl rfl ?_
      go_big_quiet_step (fail)
      refine wpQuiet_nil ?_
      refine plan_look _ rfl rfl ?_
      go_big_quiet_step (fail)
      refine wpQuiet_nil ?_
      refine plan_look _ rfl rfl ?_
      go_big_quiet_step (fail)
      refine wpQuiet_nil ?_
      have lo15_10 : w3.heap.size ≤ bb15_7 := by omega
      have bs15_10 : Below w3.heap.size w3 ((x15_9.setCell ⟨bb15_7, 0, none⟩ (.slice r15_9_0 (ApplyToInstance_r0 x0 x1).rels.length r15_9_1)).setCell ⟨bb15_7, 1, none⟩ (.slice r15_9_2 (ApplyToInstance_r0 x0 x1).facts.length r15_9_3)) := ((be15_9.setCell (p := ⟨bb15_7, 0, none⟩) lo15_10 _).setCell (p := ⟨bb15_7, 1, none⟩) lo15_10 _)
      refine plan_skip (w' := ((x15_9.setCell ⟨bb15_7, 0, none⟩ (.slice r15_9_0 (ApplyToInstance_r0 x0 x1).rels.length r15_9_1)).setCell ⟨bb15_7, 1, none⟩ (.slice r15_9_2 (ApplyToInstance_r0 x0 x1).facts.length r15_9_3))) _ rfl rfl rfl (by simp [go_sem, kd15_9_0, kd15_9_1, kw15_9]) (fun _ => ⟨⟨_, bs15_10⟩, rfl⟩) ?_ True.intro
      refine plan_put ?_ (by simp only [Act.put]; rfl)
      refine plan_look _ rfl rfl ?_
      go_big_quiet_step (fail)
      refine wpQuiet_nil ?_
      have cf15_10 : Chg (Mid bb15_7 (bb15_7 + 1)) x15_9 ((x15_9.setCell ⟨bb15_7, 0, none⟩ (.slice r15_9_0 (ApplyToInstance_r0 x0 x1).rels.length r15_9_1)).setCell ⟨bb15_7, 1, none⟩ (.slice r15_9_2 (ApplyToInstance_r0 x0 x1).facts.length r15_9_3)) := (((Chg.refl (Mid bb15_7 (bb15_7 + 1)) x15_9).setCell (p := ⟨bb15_7, 0, none⟩) ⟨Nat.le_refl _, Nat.lt_succ_self _⟩ _).setCell (p := ⟨bb15_7, 1, none⟩) ⟨Nat.le_refl _, Nat.lt_succ_self _⟩ _)
      have pf15_10 := p15_9.chg cf15_10 (.inr (by omega))
      have zf15_10 := cf15_10.size
      have kf15_10 : ∀ k, k < 2 → ((x15_9.setCell ⟨bb15_7, 0, none⟩ (.slice r15_9_0 (ApplyToInstance_r0 x0 x1).rels.length r15_9_1)).setCell ⟨bb15_7, 1, none⟩ (.slice r15_9_2 (ApplyToInstance_r0 x0 x1).facts.length r15_9_3)).cell? ⟨bb15_7, k, none⟩ = (Value.agg #[.slice r15_9_0 (ApplyToInstance_r0 x0 x1).rels.length r15_9_1, .slice r15_9_2 (ApplyToInstance_r0 x0 x1).facts.length r15_9_3]).cells[k]? := by
        intro k hk
        rcases (show k = 0 ∨ k = 1 by omega) with rfl | rfl
        · simp [go_sem, Value.cells, kd15_9_0]
        · simp [go_sem, Value.cells, kd15_9_1]
      refine plan_done ?_
      go_wp2
      go_meet
      case rel => exact ⟨bb15_7, .agg #[.slice r15_9_0 (ApplyToInstance_r0 x0 x1).rels.length r15_9_1, .slice r15_9_2 (ApplyToInstance_r0 x0 x1).facts.length r15_9_3], x15_8.heap.size, x15_9.heap.size, rfl, rfl, by omega, by omega, by omega, by omega, by omega, .inl (by omega), bs15_10, Lib.hid (pf15_10.at_ (by omega)), Lib.hid kf15_10⟩
    show Calls Tryz.prog 8 #[.agg #[.slice v1_0 x1.rels.length v1_1, .slice v1_2 x1.facts.length v1_3]] _ _
    refine (toInstance_c _ x1 _ ((AT15_1.below be15_6 (Nat.le_refl _)).more be15_6.size) S1).mono ?_
    rintro e x15_11 ⟨v15_11, rfl, o15_11, hx15_11⟩
    obtain ⟨v15_11_0, v15_11_1, v15_11_2, v15_11_3, rfl⟩ := Instance_form (o15_11.at_ (Nat.le_refl _))
    have zx15_11 := hx15_11.size
    have bx15_11 := be15_6.size
    have be15_11 : Below w3.heap.size w3 x15_11 := be15_6.trans (hx15_11.mono be15_6.size)
    refine ⟨_, rfl, fun _ => ⟨⟨_, be15_11⟩, rfl⟩, ?_⟩
    refine plan_put ?_ (by simp only [Act.put, List.setIfInBounds_toArray, List.set_cons_succ, List.set_cons_zero]; rfl)
    refine plan_call _ 6 _ _ _ _ _ rfl _ Tryz.func6 (by kernel_rfl) (by kernel_rfl) ?_ ?_
    rotate_left
    · skip
      obtain ⟨y15_12, e15_12⟩ : ∃ V, V = (x15_11.alloc (.cells #[.slice none 0 0, .slice none 0 0] 34)) := ⟨_, rfl⟩
      have hy15_12 : Below x15_11.heap.size x15_11 y15_12 := by rw [e15_12]; exact (Below.refl _ _).alloc (Nat.le_refl _) _
      have zy15_12 : x15_11.heap.size < y15_12.heap.size := by rw [e15_12]; simp
      have by15_12 := be15_11.size
      have be15_12 : Below w3.heap.size w3 y15_12 := be15_11.trans (hy15_12.mono by15_12)
      have kc15_12_0 : y15_12.cell? ⟨x15_11.heap.size, 0, none⟩ = some (.slice none 0 0) := by rw [e15_12]; simp [go_sem]
      have kc15_12_1 : y15_12.cell? ⟨x15_11.heap.size, 1, none⟩ = some (.slice none 0 0) := by rw [e15_12]; simp [go_sem]
      have kz15_12 : ∀ o, y15_12.frozen? ⟨x15_11.heap.size, o, none⟩ = false := by intro o; rw [e15_12]; simp [go_sem]
      obtain ⟨bb15_12, eb15_12⟩ : ∃ b, b = x15_11.heap.size := ⟨_, rfl⟩
      rw [← eb15_12] at kz15_12 kc15_12_0 kc15_12_1
      refine plan_value (u := .pointer (some ⟨x15_11.heap.size, 0, none⟩)) (w' := y15_12) _ rfl rfl rfl (by rw [e15_12]; simp [go_sem]) (fun _ => ⟨⟨_, be15_12⟩, rfl⟩) ?_ True.intro
      rw [← eb15_12]
      refine plan_put ?_ (by simp only [Act.put, List.setIfInBounds_toArray, List.set_cons_succ, List.set_cons_zero]; rfl)
      have sc15_12_x15_6 : Below x15_6.heap.size x15_6 y15_12 := hx15_11.trans (hy15_12.mono hx15_11.size)
      refine plan_call _ 6 _ _ _ _ _ rfl _ Tryz.func6 (by kernel_rfl) (by kernel_rfl) ?_ ?_
      rotate_left
      · exact True.intro
      show Calls Tryz.prog 6 #[.agg #[.slice v15_6_0 x0.nulls.length v15_6_1, .slice v15_6_2 x0.vals.length v15_6_3], .agg #[.slice v15_11_0 x1.rels.length v15_11_1, .slice v15_11_2 x1.facts.length v15_11_3]] _ _
      refine (specApplyToInstance_o _ x0 _ x1 _ ((o15_6.below sc15_12_x15_6 (Nat.le_refl _)).at_ sc15_12_x15_6.size) W0.out S0 ((o15_11.below hy15_12 (Nat.le_refl _)).at_ hy15_12.size) W1.out S1).mono ?_
      rintro e x15_13 ⟨r15_13, rfl, p15_13, hx15_13⟩
      obtain ⟨r15_13_0, r15_13_1, r15_13_2, r15_13_3, rfl⟩ := Instance_form (p15_13.at_ (Nat.le_refl _))
      have zx15_13 := hx15_13.size
      have bx15_13 := be15_12.size
      have be15_13 : Below w3.heap.size w3 x15_13 := be15_12.trans (hx15_13.mono be15_12.size)
      have kd15_13_0 := (hx15_13.cell (p := ⟨bb15_12, 0, none⟩) (by show bb15_12 < _; omega)).trans kc15_12_0
      have kd15_13_1 := (hx15_13.cell (p := ⟨bb15_12, 1, none⟩) (by show bb15_12 < _; omega)).trans kc15_12_1
      have kw15_13 := fun o => (hx15_13.frozen (p := ⟨bb15_12, o, none⟩) (by show bb15_12 < _; omega)).trans (kz15_12 o)
      refine ⟨_, rfl, fun _ => ⟨⟨_, be15_13⟩, rfl⟩, ?_⟩
      refine plan_put ?_ (by simp only [Act.put, List.setIfInBounds_toArray, List.set_cons_succ, List.set_cons_zero]; rfl)
      refine plan_look _ rfl rfl ?_
      go_big_quiet_step (fail)
      refine wpQuiet_nil ?_
      refine plan_look _ rfl rfl ?_
      go_big_quiet_step (fail)
      refine wpQuiet_nil ?_
      refine plan_look _ rfl rfl ?_
      go_big_quiet_step (fail)
      refine wpQuiet_nil ?_
      have lo15_14 : w3.heap.size ≤ bb15_12 := by omega
      have bs15_14 : Below w3.heap.size w3 ((x15_13.setCell ⟨bb15_12, 0, none⟩ (.slice r15_13_0 (ApplyToInstance_r0 x0 x1).rels.length r15_13_1)).setCell ⟨bb15_12, 1, none⟩ (.slice r15_13_2 (ApplyToInstance_r0 x0 x1).facts.length r15_13_3)) := ((be15_13.setCell (p := ⟨bb15_12, 0, none⟩) lo15_14 _).setCell (p := ⟨bb15_12, 1, none⟩) lo15_14 _)
      refine plan_skip (w' := ((x15_13.setCell ⟨bb15_12, 0, none⟩ (.slice r15_13_0 (ApplyToInstance_r0 x0 x1).rels.length r15_13_1)).setCell ⟨bb15_12, 1, none⟩ (.slice r15_13_2 (ApplyToInstance_r0 x0 x1).facts.length r15_13_3))) _ rfl rfl rfl (by simp [go_sem, kd15_13_0, kd15_13_1, kw15_13]) (fun _ => ⟨⟨_, bs15_14⟩, rfl⟩) ?_ True.intro
      refine plan_put ?_ (by simp only [Act.put]; rfl)
      refine plan_look _ rfl rfl ?_
      go_big_quiet_step (fail)
      refine wpQuiet_nil ?_
      have cf15_14 : Chg (Mid bb15_12 (bb15_12 + 1)) x15_13 ((x15_13.setCell ⟨bb15_12, 0, none⟩ (.slice r15_13_0 (ApplyToInstance_r0 x0 x1).rels.length r15_13_1)).setCell ⟨bb15_12, 1, none⟩ (.slice r15_13_2 (ApplyToInstance_r0 x0 x1).facts.length r15_13_3)) := (((Chg.refl (Mid bb15_12 (bb15_12 + 1)) x15_13).setCell (p := ⟨bb15_12, 0, none⟩) ⟨Nat.le_refl _, Nat.lt_succ_self _⟩ _).setCell (p := ⟨bb15_12, 1, none⟩) ⟨Nat.le_refl _, Nat.lt_succ_self _⟩ _)
      have pf15_14 := p15_13.chg cf15_14 (.inr (by omega))
      have zf15_14 := cf15_14.size
      have kf15_14 : ∀ k, k < 2 → ((x15_13.setCell ⟨bb15_12, 0, none⟩ (.slice r15_13_0 (ApplyToInstance_r0 x0 x1).rels.length r15_13_1)).setCell ⟨bb15_12, 1, none⟩ (.slice r15_13_2 (ApplyToInstance_r0 x0 x1).facts.length r15_13_3)).cell? ⟨bb15_12, k, none⟩ = (Value.agg #[.slice r15_13_0 (ApplyToInstance_r0 x0 x1).rels.length r15_13_1, .slice r15_13_2 (ApplyToInstance_r0 x0 x1).facts.length r15_13_3]).cells[k]? := by
        intro k hk
        rcases (show k = 0 ∨ k = 1 by omega) with rfl | rfl
        · simp [go_sem, Value.cells, kd15_13_0]
        · simp [go_sem, Value.cells, kd15_13_1]
      refine plan_done ?_
      go_wp2
      go_meet
      case rel => exact ⟨bb15_12, .agg #[.slice r15_13_0 (ApplyToInstance_r0 x0 x1).rels.length r15_13_1, .slice r15_13_2 (ApplyToInstance_r0 x0 x1).facts.length r15_13_3], y15_12.heap.size, x15_13.heap.size, rfl, rfl, by omega, by omega, by omega, by omega, by omega, .inl (by omega), bs15_14, Lib.hid (pf15_14.at_ (by omega)), Lib.hid kf15_14⟩
    show Calls Tryz.prog 6 #[.agg #[.slice v15_6_0 x0.nulls.length v15_6_1, .slice v15_6_2 x0.vals.length v15_6_3], .agg #[.slice v15_11_0 x1.rels.length v15_11_1, .slice v15_11_2 x1.facts.length v15_11_3]] _ _
    refine (specApplyToInstance_o _ x0 _ x1 _ ((o15_6.below hx15_11 (Nat.le_refl _)).at_ hx15_11.size) W0.out S0 (o15_11.at_ (Nat.le_refl _)) W1.out S1).mono ?_
    rintro e x15_15 ⟨r15_15, rfl, p15_15, hx15_15⟩
    obtain ⟨r15_15_0, r15_15_1, r15_15_2, r15_15_3, rfl⟩ := Instance_form (p15_15.at_ (Nat.le_refl _))
    have zx15_15 := hx15_15.size
    have bx15_15 := be15_11.size
    have be15_15 : Below w3.heap.size w3 x15_15 := be15_11.trans (hx15_15.mono be15_11.size)
    refine ⟨_, rfl, fun _ => ⟨⟨_, be15_15⟩, rfl⟩, ?_⟩
    refine plan_put ?_ (by simp only [Act.put, List.setIfInBounds_toArray, List.set_cons_succ, List.set_cons_zero]; rfl)
    refine plan_look _ rfl rfl ?_
    go_big_quiet_step (fail)
    refine wpQuiet_nil ?_
    refine plan_look _ rfl rfl ?_
    go_big_quiet_step (fail)
    refine wpQuiet_nil ?_
    refine plan_look _ rfl rfl ?_
    go_big_quiet_step (fail)
    refine wpQuiet_nil ?_
    obtain ⟨y15_16, e15_16⟩ : ∃ V, V = (x15_15.alloc (.cells #[.slice none 0 0, .slice none 0 0] 34)) := ⟨_, rfl⟩
    have hy15_16 : Below x15_15.heap.size x15_15 y15_16 := by rw [e15_16]; exact (Below.refl _ _).alloc (Nat.le_refl _) _
    have zy15_16 : x15_15.heap.size < y15_16.heap.size := by rw [e15_16]; simp
    have by15_16 := be15_15.size
    have be15_16 : Below w3.heap.size w3 y15_16 := be15_15.trans (hy15_16.mono by15_16)
    have kc15_16_0 : y15_16.cell? ⟨x15_15.heap.size, 0, none⟩ = some (.slice none 0 0) := by rw [e15_16]; simp [go_sem]
    have kc15_16_1 : y15_16.cell? ⟨x15_15.heap.size, 1, none⟩ = some (.slice none 0 0) := by rw [e15_16]; simp [go_sem]
    have kz15_16 : ∀ o, y15_16.frozen? ⟨x15_15.heap.size, o, none⟩ = false := by intro o; rw [e15_16]; simp [go_sem]
    obtain ⟨bb15_16, eb15_16⟩ : ∃ b, b = x15_15.heap.size := ⟨_, rfl⟩
    rw [← eb15_16] at kz15_16 kc15_16_0 kc15_16_1
    refine plan_value (u := .pointer (some ⟨x15_15.heap.size, 0, none⟩)) (w' := y15_16) _ rfl rfl rfl (by rw [e15_16]; simp [go_sem]) (fun _ => ⟨⟨_, be15_16⟩, rfl⟩) ?_ True.intro
    rw [← eb15_16]
    refine plan_put ?_ (by simp only [Act.put, List.setIfInBounds_toArray, List.set_cons_succ, List.set_cons_zero]; rfl)
    have po15_16 := p15_15.below hy15_16 (Nat.le_refl _)
    have lo15_17 : w3.heap.size ≤ bb15_16 := by omega
    have bs15_17 : Below w3.heap.size w3 ((y15_16.setCell ⟨bb15_16, 0, none⟩ (.slice r15_15_0 (ApplyToInstance_r0 x0 x1).rels.length r15_15_1)).setCell ⟨bb15_16, 1, none⟩ (.slice r15_15_2 (ApplyToInstance_r0 x0 x1).facts.length r15_15_3)) := ((be15_16.setCell (p := ⟨bb15_16, 0, none⟩) lo15_17 _).setCell (p := ⟨bb15_16, 1, none⟩) lo15_17 _)
    refine plan_skip (w' := ((y15_16.setCell ⟨bb15_16, 0, none⟩ (.slice r15_15_0 (ApplyToInstance_r0 x0 x1).rels.length r15_15_1)).setCell ⟨bb15_16, 1, none⟩ (.slice r15_15_2 (ApplyToInstance_r0 x0 x1).facts.length r15_15_3))) _ rfl rfl rfl (by simp [go_sem, kc15_16_0, kc15_16_1, kz15_16]) (fun _ => ⟨⟨_, bs15_17⟩, rfl⟩) ?_ True.intro
    refine plan_put ?_ (by simp only [Act.put]; rfl)
    refine plan_look _ rfl rfl ?_
    go_big_quiet_step (fail)
    refine wpQuiet_nil ?_
    have cf15_17 : Chg (Mid bb15_16 (bb15_16 + 1)) y15_16 ((y15_16.setCell ⟨bb15_16, 0, none⟩ (.slice r15_15_0 (ApplyToInstance_r0 x0 x1).rels.length r15_15_1)).setCell ⟨bb15_16, 1, none⟩ (.slice r15_15_2 (ApplyToInstance_r0 x0 x1).facts.length r15_15_3)) := (((Chg.refl (Mid bb15_16 (bb15_16 + 1)) y15_16).setCell (p := ⟨bb15_16, 0, none⟩) ⟨Nat.le_refl _, Nat.lt_succ_self _⟩ _).setCell (p := ⟨bb15_16, 1, none⟩) ⟨Nat.le_refl _, Nat.lt_succ_self _⟩ _)
    have pf15_17 := po15_16.chg cf15_17 (.inl (by omega))
    have zf15_17 := cf15_17.size
    have kf15_17 : ∀ k, k < 2 → ((y15_16.setCell ⟨bb15_16, 0, none⟩ (.slice r15_15_0 (ApplyToInstance_r0 x0 x1).rels.length r15_15_1)).setCell ⟨bb15_16, 1, none⟩ (.slice r15_15_2 (ApplyToInstance_r0 x0 x1).facts.length r15_15_3)).cell? ⟨bb15_16, k, none⟩ = (Value.agg #[.slice r15_15_0 (ApplyToInstance_r0 x0 x1).rels.length r15_15_1, .slice r15_15_2 (ApplyToInstance_r0 x0 x1).facts.length r15_15_3]).cells[k]? := by
      intro k hk
      rcases (show k = 0 ∨ k = 1 by omega) with rfl | rfl
      · simp [go_sem, Value.cells, kc15_16_0]
      · simp [go_sem, Value.cells, kc15_16_1]
    refine plan_done ?_
    go_wp2
    go_meet
    case rel => exact ⟨bb15_16, .agg #[.slice r15_15_0 (ApplyToInstance_r0 x0 x1).rels.length r15_15_1, .slice r15_15_2 (ApplyToInstance_r0 x0 x1).facts.length r15_15_3], x15_11.heap.size, x15_15.heap.size, rfl, rfl, by omega, by omega, by omega, by omega, by omega, .inr (by omega), bs15_17, Lib.hid (pf15_17.at_ (by omega)), Lib.hid kf15_17⟩
  case rest =>
    obtain ⟨bx15, r15, B15, C15, rfl, rfl, z15_a, z15_b, z15_c, z15_d, z15_e, z15_f, hb6, P15, Q15⟩ := hcut
    have z15_g := hb6.size
    obtain ⟨wc15, rfl⟩ : ∃ V, V = wc := ⟨_, rfl⟩
    have p15_0 := P15.out
    clear P15
    obtain ⟨y20_0, y20_1, y20_2, y20_3, rfl⟩ := Instance_form p15_0
    have K21 := Lib.hid (show wc15.cell? ⟨bx15, 0, none⟩ = some (.slice y20_0 (ApplyToInstance_r0 x0 x1).rels.length y20_1) from (Q15.out 0 (by decide)).trans rfl)
    have K22 := Lib.hid (show wc15.cell? ⟨bx15, 1, none⟩ = some (.slice y20_2 (ApplyToInstance_r0 x0 x1).facts.length y20_3) from (Q15.out 1 (by decide)).trans rfl)
    clear Q15
    have c1_6 : Below ((w.alloc (.cells #[.slice v0_0 x0.nulls.length v0_1, .slice v0_2 x0.vals.length v0_3] 24)).alloc (.cells #[.slice v1_0 x1.rels.length v1_1, .slice v1_2 x1.facts.length v1_3] 28)).heap.size ((w.alloc (.cells #[.slice v0_0 x0.nulls.length v0_1, .slice v0_2 x0.vals.length v0_3] 24)).alloc (.cells #[.slice v1_0 x1.rels.length v1_1, .slice v1_2 x1.facts.length v1_3] 28)) wc15 := (c1_3.trans (hb6.mono (by omega)))
    have f23 : wc15.cell? ⟨w.heap.size, 0, none⟩ = some (.slice v0_0 x0.nulls.length v0_1) := ((c1_6).cell (p := ⟨w.heap.size, 0, none⟩) (by show w.heap.size < _; omega)).trans K1.out
    have f24 : wc15.cell? ⟨w.heap.size, 1, none⟩ = some (.slice v0_2 x0.vals.length v0_3) := ((c1_6).cell (p := ⟨w.heap.size, 1, none⟩) (by show w.heap.size < _; omega)).trans K2.out
    have c0_6 : Below w.heap.size w wc15 := (c0_3.trans (hb6.mono (by omega)))
    go_wp2_with fail
    refine (toSubstitution_c _ x0 _ ((A0.out.below c0_6 (Nat.le_refl _)).more c0_6.size) S0).mono ?_
    rintro e w7 ⟨u25, rfl, ou25, hb7⟩
    have z7 : wc15.heap.size ≤ w7.heap.size := hb7.size
    obtain ⟨y26_0, y26_1, y26_2, y26_3, rfl⟩ := Substitution_form (ou25.at_ (Nat.le_refl _))
    have hb8 : Below w7.heap.size w7 (w7.alloc (.cells #[.slice y26_0 x0.nulls.length y26_1, .slice y26_2 x0.vals.length y26_3] 37)) := below_more (Below.refl _ _) _
    have z8 : w7.heap.size + 1 ≤ (w7.alloc (.cells #[.slice y26_0 x0.nulls.length y26_1, .slice y26_2 x0.vals.length y26_3] 37)).heap.size := by simp
    have K27 := Lib.hid (show (w7.alloc (.cells #[.slice y26_0 x0.nulls.length y26_1, .slice y26_2 x0.vals.length y26_3] 37)).cell? ⟨w7.heap.size, 0, none⟩ = some (.slice y26_0 x0.nulls.length y26_1) by simp [go_sem])
    have K28 := Lib.hid (show (w7.alloc (.cells #[.slice y26_0 x0.nulls.length y26_1, .slice y26_2 x0.vals.length y26_3] 37)).cell? ⟨w7.heap.size, 1, none⟩ = some (.slice y26_2 x0.vals.length y26_3) by simp [go_sem])
    clear f23 f24
    have c1_8 : Below ((w.alloc (.cells #[.slice v0_0 x0.nulls.length v0_1, .slice v0_2 x0.vals.length v0_3] 24)).alloc (.cells #[.slice v1_0 x1.rels.length v1_1, .slice v1_2 x1.facts.length v1_3] 28)).heap.size ((w.alloc (.cells #[.slice v0_0 x0.nulls.length v0_1, .slice v0_2 x0.vals.length v0_3] 24)).alloc (.cells #[.slice v1_0 x1.rels.length v1_1, .slice v1_2 x1.facts.length v1_3] 28)) (w7.alloc (.cells #[.slice y26_0 x0.nulls.length y26_1, .slice y26_2 x0.vals.length y26_3] 37)) := ((c1_6.trans (hb7.mono (by omega))).trans (hb8.mono (by omega)))
    have f29 : (w7.alloc (.cells #[.slice y26_0 x0.nulls.length y26_1, .slice y26_2 x0.vals.length y26_3] 37)).cell? ⟨w.heap.size + 1, 0, none⟩ = some (.slice v1_0 x1.rels.length v1_1) := ((c1_8).cell (p := ⟨w.heap.size + 1, 0, none⟩) (by show w.heap.size + 1 < _; omega)).trans K3.out
    have f30 : (w7.alloc (.cells #[.slice y26_0 x0.nulls.length y26_1, .slice y26_2 x0.vals.length y26_3] 37)).cell? ⟨w.heap.size + 1, 1, none⟩ = some (.slice v1_2 x1.facts.length v1_3) := ((c1_8).cell (p := ⟨w.heap.size + 1, 1, none⟩) (by show w.heap.size + 1 < _; omega)).trans K4.out
    have c0_8 : Below w.heap.size w (w7.alloc (.cells #[.slice y26_0 x0.nulls.length y26_1, .slice y26_2 x0.vals.length y26_3] 37)) := ((c0_6.trans (hb7.mono (by omega))).trans (hb8.mono (by omega)))
    go_wp2_with fail
    refine (toInstance_c _ x1 _ ((A1.out.below c0_8 (Nat.le_refl _)).more c0_8.size) S1).mono ?_
    rintro e w9 ⟨u31, rfl, ou31, hb9⟩
    have z9 : (w7.alloc (.cells #[.slice y26_0 x0.nulls.length y26_1, .slice y26_2 x0.vals.length y26_3] 37)).heap.size ≤ w9.heap.size := hb9.size
    obtain ⟨y32_0, y32_1, y32_2, y32_3, rfl⟩ := Instance_form (ou31.at_ (Nat.le_refl _))
    have hb10 : Below w9.heap.size w9 (w9.alloc (.cells #[.slice y32_0 x1.rels.length y32_1, .slice y32_2 x1.facts.length y32_3] 34)) := below_more (Below.refl _ _) _
    have z10 : w9.heap.size + 1 ≤ (w9.alloc (.cells #[.slice y32_0 x1.rels.length y32_1, .slice y32_2 x1.facts.length y32_3] 34)).heap.size := by simp
    have K33 := Lib.hid (show (w9.alloc (.cells #[.slice y32_0 x1.rels.length y32_1, .slice y32_2 x1.facts.length y32_3] 34)).cell? ⟨w9.heap.size, 0, none⟩ = some (.slice y32_0 x1.rels.length y32_1) by simp [go_sem])
    have K34 := Lib.hid (show (w9.alloc (.cells #[.slice y32_0 x1.rels.length y32_1, .slice y32_2 x1.facts.length y32_3] 34)).cell? ⟨w9.heap.size, 1, none⟩ = some (.slice y32_2 x1.facts.length y32_3) by simp [go_sem])
    clear f29 f30
    have c8_10 : Below (w7.alloc (.cells #[.slice y26_0 x0.nulls.length y26_1, .slice y26_2 x0.vals.length y26_3] 37)).heap.size (w7.alloc (.cells #[.slice y26_0 x0.nulls.length y26_1, .slice y26_2 x0.vals.length y26_3] 37)) (w9.alloc (.cells #[.slice y32_0 x1.rels.length y32_1, .slice y32_2 x1.facts.length y32_3] 34)) := (hb9.trans (hb10.mono (by omega)))
    have f35 : (w9.alloc (.cells #[.slice y32_0 x1.rels.length y32_1, .slice y32_2 x1.facts.length y32_3] 34)).cell? ⟨w7.heap.size, 0, none⟩ = some (.slice y26_0 x0.nulls.length y26_1) := ((c8_10).cell (p := ⟨w7.heap.size, 0, none⟩) (by show w7.heap.size < _; omega)).trans K27.out
    have f36 : (w9.alloc (.cells #[.slice y32_0 x1.rels.length y32_1, .slice y32_2 x1.facts.length y32_3] 34)).cell? ⟨w7.heap.size, 1, none⟩ = some (.slice y26_2 x0.vals.length y26_3) := ((c8_10).cell (p := ⟨w7.heap.size, 1, none⟩) (by show w7.heap.size < _; omega)).trans K28.out
    have f37 : (w9.alloc (.cells #[.slice y32_0 x1.rels.length y32_1, .slice y32_2 x1.facts.length y32_3] 34)).cell? ⟨w9.heap.size, 0, none⟩ = some (.slice y32_0 x1.rels.length y32_1) := K33.out
    have f38 : (w9.alloc (.cells #[.slice y32_0 x1.rels.length y32_1, .slice y32_2 x1.facts.length y32_3] 34)).cell? ⟨w9.heap.size, 1, none⟩ = some (.slice y32_2 x1.facts.length y32_3) := K34.out
    have c7_10 : Below w7.heap.size w7 (w9.alloc (.cells #[.slice y32_0 x1.rels.length y32_1, .slice y32_2 x1.facts.length y32_3] 34)) := ((hb8.trans (hb9.mono (by omega))).trans (hb10.mono (by omega)))
    have c9_10 : Below w9.heap.size w9 (w9.alloc (.cells #[.slice y32_0 x1.rels.length y32_1, .slice y32_2 x1.facts.length y32_3] 34)) := hb10
    go_wp2_with fail
    refine (implApplyToInstance_c _ x0 _ x1 _ ((ou25.below c7_10 (Nat.le_refl _)).at_ (by omega)) W0.out S0 ((ou31.below c9_10 (Nat.le_refl _)).at_ (by omega)) W1.out S1).mono ?_
    rintro e w11 ⟨r39_0, rfl, p39_0, q39_0, hb11⟩
    have z11 : (w9.alloc (.cells #[.slice y32_0 x1.rels.length y32_1, .slice y32_2 x1.facts.length y32_3] 34)).heap.size ≤ w11.heap.size := hb11.size
    have NC39_0 := Instance_cnt_le (ApplyToInstance_r0 x0 x1)
    obtain ⟨y40_0, y40_1, y40_2, y40_3, rfl⟩ := Instance_form (p39_0.at_ (Nat.le_refl _))
    have hb12 : Below w11.heap.size w11 (w11.alloc (.cells #[.slice y40_0 (ApplyToInstance_r0 x0 x1).rels.length y40_1, .slice y40_2 (ApplyToInstance_r0 x0 x1).facts.length y40_3] 34)) := below_more (Below.refl _ _) _
    have z12 : w11.heap.size + 1 ≤ (w11.alloc (.cells #[.slice y40_0 (ApplyToInstance_r0 x0 x1).rels.length y40_1, .slice y40_2 (ApplyToInstance_r0 x0 x1).facts.length y40_3] 34)).heap.size := by simp
    have K41 := Lib.hid (show (w11.alloc (.cells #[.slice y40_0 (ApplyToInstance_r0 x0 x1).rels.length y40_1, .slice y40_2 (ApplyToInstance_r0 x0 x1).facts.length y40_3] 34)).cell? ⟨w11.heap.size, 0, none⟩ = some (.slice y40_0 (ApplyToInstance_r0 x0 x1).rels.length y40_1) by simp [go_sem])
    have K42 := Lib.hid (show (w11.alloc (.cells #[.slice y40_0 (ApplyToInstance_r0 x0 x1).rels.length y40_1, .slice y40_2 (ApplyToInstance_r0 x0 x1).facts.length y40_3] 34)).cell? ⟨w11.heap.size, 1, none⟩ = some (.slice y40_2 (ApplyToInstance_r0 x0 x1).facts.length y40_3) by simp [go_sem])
    clear f35 f36 f37 f38
    have f43 : (w11.alloc (.cells #[.slice y40_0 (ApplyToInstance_r0 x0 x1).rels.length y40_1, .slice y40_2 (ApplyToInstance_r0 x0 x1).facts.length y40_3] 34)).cell? ⟨w11.heap.size, 0, none⟩ = some (.slice y40_0 (ApplyToInstance_r0 x0 x1).rels.length y40_1) := K41.out
    have f44 : (w11.alloc (.cells #[.slice y40_0 (ApplyToInstance_r0 x0 x1).rels.length y40_1, .slice y40_2 (ApplyToInstance_r0 x0 x1).facts.length y40_3] 34)).cell? ⟨w11.heap.size, 1, none⟩ = some (.slice y40_2 (ApplyToInstance_r0 x0 x1).facts.length y40_3) := K42.out
    have c6_12 : Below wc15.heap.size wc15 (w11.alloc (.cells #[.slice y40_0 (ApplyToInstance_r0 x0 x1).rels.length y40_1, .slice y40_2 (ApplyToInstance_r0 x0 x1).facts.length y40_3] 34)) := (((((hb7.trans (hb8.mono (by omega))).trans (hb9.mono (by omega))).trans (hb10.mono (by omega))).trans (hb11.mono (by omega))).trans (hb12.mono (by omega)))
    have f45 : (w11.alloc (.cells #[.slice y40_0 (ApplyToInstance_r0 x0 x1).rels.length y40_1, .slice y40_2 (ApplyToInstance_r0 x0 x1).facts.length y40_3] 34)).cell? ⟨bx15, 0, none⟩ = some (.slice y20_0 (ApplyToInstance_r0 x0 x1).rels.length y20_1) := ((c6_12).cell (p := ⟨bx15, 0, none⟩) (by show bx15 < _; omega)).trans K21.out
    have f46 : (w11.alloc (.cells #[.slice y40_0 (ApplyToInstance_r0 x0 x1).rels.length y40_1, .slice y40_2 (ApplyToInstance_r0 x0 x1).facts.length y40_3] 34)).cell? ⟨bx15, 1, none⟩ = some (.slice y20_2 (ApplyToInstance_r0 x0 x1).facts.length y20_3) := ((c6_12).cell (p := ⟨bx15, 1, none⟩) (by show bx15 < _; omega)).trans K22.out
    have c11_12 : Below w11.heap.size w11 (w11.alloc (.cells #[.slice y40_0 (ApplyToInstance_r0 x0 x1).rels.length y40_1, .slice y40_2 (ApplyToInstance_r0 x0 x1).facts.length y40_3] 34)) := hb12
    go_wp2_with fail
    refine (eqInstance_c _ _ (ApplyToInstance_r0 x0 x1) _ ((p39_0.below c11_12 (Nat.le_refl _)).at_ (by omega)) ((p15_0.below c6_12 (Nat.le_refl _)).more c6_12.size)).mono ?_
    rintro e w13 ⟨rfl, hb13⟩
    have z13 : (w11.alloc (.cells #[.slice y40_0 (ApplyToInstance_r0 x0 x1).rels.length y40_1, .slice y40_2 (ApplyToInstance_r0 x0 x1).facts.length y40_3] 34)).heap.size ≤ w13.heap.size := hb13.size
    clear f43 f44 f45 f46
    go_wp2_with fail
    have c8_13 : Below (w7.alloc (.cells #[.slice y26_0 x0.nulls.length y26_1, .slice y26_2 x0.vals.length y26_3] 37)).heap.size (w7.alloc (.cells #[.slice y26_0 x0.nulls.length y26_1, .slice y26_2 x0.vals.length y26_3] 37)) w13 := (((c8_10.trans (hb11.mono (by omega))).trans (hb12.mono (by omega))).trans (hb13.mono (by omega)))
    have f47 : w13.cell? ⟨w7.heap.size, 0, none⟩ = some (.slice y26_0 x0.nulls.length y26_1) := ((c8_13).cell (p := ⟨w7.heap.size, 0, none⟩) (by show w7.heap.size < _; omega)).trans K27.out
    have gf47 := Aft.cell (B := w13.heap.size) (by omega) f47
    clear f47
    have f48 : w13.cell? ⟨w7.heap.size, 1, none⟩ = some (.slice y26_2 x0.vals.length y26_3) := ((c8_13).cell (p := ⟨w7.heap.size, 1, none⟩) (by show w7.heap.size < _; omega)).trans K28.out
    have gf48 := Aft.cell (B := w13.heap.size) (by omega) f48
    clear f48
    have c1_13 : Below ((w.alloc (.cells #[.slice v0_0 x0.nulls.length v0_1, .slice v0_2 x0.vals.length v0_3] 24)).alloc (.cells #[.slice v1_0 x1.rels.length v1_1, .slice v1_2 x1.facts.length v1_3] 28)).heap.size ((w.alloc (.cells #[.slice v0_0 x0.nulls.length v0_1, .slice v0_2 x0.vals.length v0_3] 24)).alloc (.cells #[.slice v1_0 x1.rels.length v1_1, .slice v1_2 x1.facts.length v1_3] 28)) w13 := (((((c1_8.trans (hb9.mono (by omega))).trans (hb10.mono (by omega))).trans (hb11.mono (by omega))).trans (hb12.mono (by omega))).trans (hb13.mono (by omega)))
    have f49 : w13.cell? ⟨w.heap.size, 0, none⟩ = some (.slice v0_0 x0.nulls.length v0_1) := ((c1_13).cell (p := ⟨w.heap.size, 0, none⟩) (by show w.heap.size < _; omega)).trans K1.out
    have gf49 := Aft.cell (B := w13.heap.size) (by omega) f49
    clear f49
    have f50 : w13.cell? ⟨w.heap.size, 1, none⟩ = some (.slice v0_2 x0.vals.length v0_3) := ((c1_13).cell (p := ⟨w.heap.size, 1, none⟩) (by show w.heap.size < _; omega)).trans K2.out
    have gf50 := Aft.cell (B := w13.heap.size) (by omega) f50
    clear f50
    refine wp_region_plan (C := fun w' => ∃ u : Aft w13.heap.size w13, w' = u.now) (.still 0 (.still 1 (.move true 2 (.move true 3 (.still 4 .done) .none) .none))) (by kernel_rfl) (by kernel_rfl) (by kernel_rfl) (fun _ => ⟨⟨_, (Below.refl _ _).drew⟩, rfl⟩) ?_
    have hb14 : Below w13.heap.size w13 w13.drew := (Below.refl _ _).drew
    have z14 : w13.drew.heap.size = w13.heap.size := rfl
    have c0_14 : Below w.heap.size w w13.drew := ((((((c0_8.trans (hb9.mono (by omega))).trans (hb10.mono (by omega))).trans (hb11.mono (by omega))).trans (hb12.mono (by omega))).trans (hb13.mono (by omega))).trans (hb14.mono (by omega)))
    refine plan_look _ rfl rfl ?_
    go_big_quiet_step (fail)
    refine wpQuiet_nil ?_
    refine plan_look _ rfl rfl ?_
    go_big_quiet_step (fail)
    refine wpQuiet_nil ?_
    refine plan_call _ 7 _ _ _ _ _ rfl _ Tryz.func7 (by kernel_rfl) (by kernel_rfl) ?_ True.intro
    show Calls Tryz.prog 7 #[.agg #[.slice v0_0 x0.nulls.length v0_1, .slice v0_2 x0.vals.length v0_3]] _ _
    refine (toSubstitution_c _ x0 _ ((A0.out.below c0_14 (Nat.le_refl _)).more c0_14.size) S0).mono ?_
    rintro e w15 ⟨u51, rfl, ou51, hb15⟩
    have z15 : w13.drew.heap.size ≤ w15.heap.size := hb15.size
    obtain ⟨y52_0, y52_1, y52_2, y52_3, rfl⟩ := Substitution_form (ou51.at_ (Nat.le_refl _))
    have c13_15 : Below w13.heap.size w13 w15 := (hb14.trans (hb15.mono (by omega)))
    refine ⟨_, rfl, fun _ => ⟨⟨_, c13_15⟩, rfl⟩, ?_⟩
    refine plan_put ?_ (by simp only [Act.put, List.setIfInBounds_toArray, List.set_cons_succ, List.set_cons_zero]; rfl)
    have c7_15 : Below w7.heap.size w7 w15 := (((((c7_10.trans (hb11.mono (by omega))).trans (hb12.mono (by omega))).trans (hb13.mono (by omega))).trans (hb14.mono (by omega))).trans (hb15.mono (by omega)))
    refine plan_call _ 11 _ _ _ _ _ rfl _ Tryz.func11 (by kernel_rfl) (by kernel_rfl) ?_ True.intro
    show Calls Tryz.prog 11 #[.agg #[.slice y26_0 x0.nulls.length y26_1, .slice y26_2 x0.vals.length y26_3], .agg #[.slice y52_0 x0.nulls.length y52_1, .slice y52_2 x0.vals.length y52_3]] _ _
    refine (eqSubstitution_c _ _ x0 _ ((ou25.below c7_15 (Nat.le_refl _)).at_ (by omega)) ((ou51.below (Below.refl w15.heap.size w15) (Nat.le_refl _)).at_ (Nat.le_refl _))).mono ?_
    rintro e w16 ⟨rfl, hb16⟩
    have z16 : w15.heap.size ≤ w16.heap.size := hb16.size
    have c13_16 : Below w13.heap.size w13 w16 := (c13_15.trans (hb16.mono (by omega)))
    refine ⟨_, rfl, fun _ => ⟨⟨_, c13_16⟩, rfl⟩, ?_⟩
    refine plan_put ?_ (by simp only [Act.put, List.setIfInBounds_toArray, List.set_cons_succ, List.set_cons_zero]; rfl)
    refine plan_look _ rfl rfl ?_
    go_big_quiet_step (fail)
    refine wpQuiet_nil ?_
    refine plan_done ?_
    clear gf47 gf48 gf49 gf50
    go_wp2_with fail
    have c10_16 : Below (w9.alloc (.cells #[.slice y32_0 x1.rels.length y32_1, .slice y32_2 x1.facts.length y32_3] 34)).heap.size (w9.alloc (.cells #[.slice y32_0 x1.rels.length y32_1, .slice y32_2 x1.facts.length y32_3] 34)) w16 := (((((hb11.trans (hb12.mono (by omega))).trans (hb13.mono (by omega))).trans (hb14.mono (by omega))).trans (hb15.mono (by omega))).trans (hb16.mono (by omega)))
    have f53 : w16.cell? ⟨w9.heap.size, 0, none⟩ = some (.slice y32_0 x1.rels.length y32_1) := ((c10_16).cell (p := ⟨w9.heap.size, 0, none⟩) (by show w9.heap.size < _; omega)).trans K33.out
    have gf53 := Aft.cell (B := w16.heap.size) (by omega) f53
    clear f53
    have f54 : w16.cell? ⟨w9.heap.size, 1, none⟩ = some (.slice y32_2 x1.facts.length y32_3) := ((c10_16).cell (p := ⟨w9.heap.size, 1, none⟩) (by show w9.heap.size < _; omega)).trans K34.out
    have gf54 := Aft.cell (B := w16.heap.size) (by omega) f54
    clear f54
    have c1_16 : Below ((w.alloc (.cells #[.slice v0_0 x0.nulls.length v0_1, .slice v0_2 x0.vals.length v0_3] 24)).alloc (.cells #[.slice v1_0 x1.rels.length v1_1, .slice v1_2 x1.facts.length v1_3] 28)).heap.size ((w.alloc (.cells #[.slice v0_0 x0.nulls.length v0_1, .slice v0_2 x0.vals.length v0_3] 24)).alloc (.cells #[.slice v1_0 x1.rels.length v1_1, .slice v1_2 x1.facts.length v1_3] 28)) w16 := (((c1_13.trans (hb14.mono (by omega))).trans (hb15.mono (by omega))).trans (hb16.mono (by omega)))
    have f55 : w16.cell? ⟨w.heap.size + 1, 0, none⟩ = some (.slice v1_0 x1.rels.length v1_1) := ((c1_16).cell (p := ⟨w.heap.size + 1, 0, none⟩) (by show w.heap.size + 1 < _; omega)).trans K3.out
    have gf55 := Aft.cell (B := w16.heap.size) (by omega) f55
    clear f55
    have f56 : w16.cell? ⟨w.heap.size + 1, 1, none⟩ = some (.slice v1_2 x1.facts.length v1_3) := ((c1_16).cell (p := ⟨w.heap.size + 1, 1, none⟩) (by show w.heap.size + 1 < _; omega)).trans K4.out
    have gf56 := Aft.cell (B := w16.heap.size) (by omega) f56
    clear f56
    refine wp_region_plan (C := fun w' => ∃ u : Aft w16.heap.size w16, w' = u.now) (.still 0 (.still 1 (.move true 2 (.move true 3 (.still 4 .done) .none) .none))) (by kernel_rfl) (by kernel_rfl) (by kernel_rfl) (fun _ => ⟨⟨_, (Below.refl _ _).drew⟩, rfl⟩) ?_
    have hb17 : Below w16.heap.size w16 w16.drew := (Below.refl _ _).drew
    have z17 : w16.drew.heap.size = w16.heap.size := rfl
    have c0_17 : Below w.heap.size w w16.drew := (((c0_14.trans (hb15.mono (by omega))).trans (hb16.mono (by omega))).trans (hb17.mono (by omega)))
    refine plan_look _ rfl rfl ?_
    go_big_quiet_step (fail)
    refine wpQuiet_nil ?_
    refine plan_look _ rfl rfl ?_
    go_big_quiet_step (fail)
    refine wpQuiet_nil ?_
    refine plan_call _ 8 _ _ _ _ _ rfl _ Tryz.func8 (by kernel_rfl) (by kernel_rfl) ?_ True.intro
    show Calls Tryz.prog 8 #[.agg #[.slice v1_0 x1.rels.length v1_1, .slice v1_2 x1.facts.length v1_3]] _ _
    refine (toInstance_c _ x1 _ ((A1.out.below c0_17 (Nat.le_refl _)).more c0_17.size) S1).mono ?_
    rintro e w18 ⟨u57, rfl, ou57, hb18⟩
    have z18 : w16.drew.heap.size ≤ w18.heap.size := hb18.size
    obtain ⟨y58_0, y58_1, y58_2, y58_3, rfl⟩ := Instance_form (ou57.at_ (Nat.le_refl _))
    have c16_18 : Below w16.heap.size w16 w18 := (hb17.trans (hb18.mono (by omega)))
    refine ⟨_, rfl, fun _ => ⟨⟨_, c16_18⟩, rfl⟩, ?_⟩
    refine plan_put ?_ (by simp only [Act.put, List.setIfInBounds_toArray, List.set_cons_succ, List.set_cons_zero]; rfl)
    have c9_18 : Below w9.heap.size w9 w18 := ((((((((c9_10.trans (hb11.mono (by omega))).trans (hb12.mono (by omega))).trans (hb13.mono (by omega))).trans (hb14.mono (by omega))).trans (hb15.mono (by omega))).trans (hb16.mono (by omega))).trans (hb17.mono (by omega))).trans (hb18.mono (by omega)))
    refine plan_call _ 10 _ _ _ _ _ rfl _ Tryz.func10 (by kernel_rfl) (by kernel_rfl) ?_ True.intro
    show Calls Tryz.prog 10 #[.agg #[.slice y32_0 x1.rels.length y32_1, .slice y32_2 x1.facts.length y32_3], .agg #[.slice y58_0 x1.rels.length y58_1, .slice y58_2 x1.facts.length y58_3]] _ _
    refine (eqInstance_c _ _ x1 _ ((ou31.below c9_18 (Nat.le_refl _)).at_ (by omega)) ((ou57.below (Below.refl w18.heap.size w18) (Nat.le_refl _)).at_ (Nat.le_refl _))).mono ?_
    rintro e w19 ⟨rfl, hb19⟩
    have z19 : w18.heap.size ≤ w19.heap.size := hb19.size
    have c16_19 : Below w16.heap.size w16 w19 := (c16_18.trans (hb19.mono (by omega)))
    refine ⟨_, rfl, fun _ => ⟨⟨_, c16_19⟩, rfl⟩, ?_⟩
    refine plan_put ?_ (by simp only [Act.put, List.setIfInBounds_toArray, List.set_cons_succ, List.set_cons_zero]; rfl)
    refine plan_look _ rfl rfl ?_
    go_big_quiet_step (fail)
    refine wpQuiet_nil ?_
    refine plan_done ?_
    clear gf53 gf54 gf55 gf56
    have c8_19 : Below (w7.alloc (.cells #[.slice y26_0 x0.nulls.length y26_1, .slice y26_2 x0.vals.length y26_3] 37)).heap.size (w7.alloc (.cells #[.slice y26_0 x0.nulls.length y26_1, .slice y26_2 x0.vals.length y26_3] 37)) w19 := ((((((c8_13.trans (hb14.mono (by omega))).trans (hb15.mono (by omega))).trans (hb16.mono (by omega))).trans (hb17.mono (by omega))).trans (hb18.mono (by omega))).trans (hb19.mono (by omega)))
    have f59 : w19.cell? ⟨w7.heap.size, 0, none⟩ = some (.slice y26_0 x0.nulls.length y26_1) := ((c8_19).cell (p := ⟨w7.heap.size, 0, none⟩) (by show w7.heap.size < _; omega)).trans K27.out
    have f60 : w19.cell? ⟨w7.heap.size, 1, none⟩ = some (.slice y26_2 x0.vals.length y26_3) := ((c8_19).cell (p := ⟨w7.heap.size, 1, none⟩) (by show w7.heap.size < _; omega)).trans K28.out
    have c7_19 : Below w7.heap.size w7 w19 := ((((c7_15.trans (hb16.mono (by omega))).trans (hb17.mono (by omega))).trans (hb18.mono (by omega))).trans (hb19.mono (by omega)))
    have c9_19 : Below w9.heap.size w9 w19 := (c9_18.trans (hb19.mono (by omega)))
    have c11_19 : Below w11.heap.size w11 w19 := (((((((c11_12.trans (hb13.mono (by omega))).trans (hb14.mono (by omega))).trans (hb15.mono (by omega))).trans (hb16.mono (by omega))).trans (hb17.mono (by omega))).trans (hb18.mono (by omega))).trans (hb19.mono (by omega)))
    have c10_19 : Below (w9.alloc (.cells #[.slice y32_0 x1.rels.length y32_1, .slice y32_2 x1.facts.length y32_3] 34)).heap.size (w9.alloc (.cells #[.slice y32_0 x1.rels.length y32_1, .slice y32_2 x1.facts.length y32_3] 34)) w19 := (((c10_16.trans (hb17.mono (by omega))).trans (hb18.mono (by omega))).trans (hb19.mono (by omega)))
    have c12_19 : Below (w11.alloc (.cells #[.slice y40_0 (ApplyToInstance_r0 x0 x1).rels.length y40_1, .slice y40_2 (ApplyToInstance_r0 x0 x1).facts.length y40_3] 34)).heap.size (w11.alloc (.cells #[.slice y40_0 (ApplyToInstance_r0 x0 x1).rels.length y40_1, .slice y40_2 (ApplyToInstance_r0 x0 x1).facts.length y40_3] 34)) w19 := ((((((hb13.trans (hb14.mono (by omega))).trans (hb15.mono (by omega))).trans (hb16.mono (by omega))).trans (hb17.mono (by omega))).trans (hb18.mono (by omega))).trans (hb19.mono (by omega)))
    go_wp2_with fail
    refine (markSubstitution_c _ _ _ x0 (1) _ (ou25.below c7_19 (Nat.le_refl _)) S0 (by omega) (by omega)).mono ?_
    rintro e w20 ⟨rfl, om20, hb20⟩
    have om20_tu31 := (ou31.below c9_19 (Nat.le_refl _)).chg hb20 (by omega)
    have om20_g0 := (p39_0.below c11_19 (Nat.le_refl _)).chg hb20 (by omega)
    have z20 : w19.heap.size ≤ w20.heap.size := hb20.size
    clear f59 f60
    have K61 := Lib.hid ((hb20.mid_cell (b := w7.heap.size) (o := 0) (by omega) (by omega)).trans (((c8_19).cell (p := ⟨w7.heap.size, 0, none⟩) (by show w7.heap.size < _; omega)).trans K27.out))
    have K62 := Lib.hid ((hb20.mid_cell (b := w7.heap.size) (o := 1) (by omega) (by omega)).trans (((c8_19).cell (p := ⟨w7.heap.size, 1, none⟩) (by show w7.heap.size < _; omega)).trans K28.out))
    have K63 := Lib.hid ((hb20.mid_cell (b := w9.heap.size) (o := 0) (by omega) (by omega)).trans (((c10_19).cell (p := ⟨w9.heap.size, 0, none⟩) (by show w9.heap.size < _; omega)).trans K33.out))
    have K64 := Lib.hid ((hb20.mid_cell (b := w9.heap.size) (o := 1) (by omega) (by omega)).trans (((c10_19).cell (p := ⟨w9.heap.size, 1, none⟩) (by show w9.heap.size < _; omega)).trans K34.out))
    have K65 := Lib.hid ((hb20.mid_cell (b := w11.heap.size) (o := 0) (by omega) (by omega)).trans (((c12_19).cell (p := ⟨w11.heap.size, 0, none⟩) (by show w11.heap.size < _; omega)).trans K41.out))
    have K66 := Lib.hid ((hb20.mid_cell (b := w11.heap.size) (o := 1) (by omega) (by omega)).trans (((c12_19).cell (p := ⟨w11.heap.size, 1, none⟩) (by show w11.heap.size < _; omega)).trans K42.out))
    have f67 : w20.cell? ⟨w9.heap.size, 0, none⟩ = some (.slice y32_0 x1.rels.length y32_1) := K63.out
    have f68 : w20.cell? ⟨w9.heap.size, 1, none⟩ = some (.slice y32_2 x1.facts.length y32_3) := K64.out
    go_wp2_with fail
    refine (markInstance_c _ _ _ x1 (1 + Substitution_cnt x0) _ (om20_tu31.below (Below.refl w20.heap.size w20) (by omega)) S1 (by omega) (by omega)).mono ?_
    rintro e w21 ⟨rfl, om21, hb21⟩
    have om21_tu25 := (om20.below (Below.refl w20.heap.size w20) (by omega)).chg hb21 (by omega)
    have om21_g0 := (om20_g0.below (Below.refl w20.heap.size w20) (by omega)).chg hb21 (by omega)
    have z21 : w20.heap.size ≤ w21.heap.size := hb21.size
    clear f67 f68
    have K69 := Lib.hid ((hb21.mid_cell (b := w7.heap.size) (o := 0) (by omega) (by omega)).trans (K61.out))
    have K70 := Lib.hid ((hb21.mid_cell (b := w7.heap.size) (o := 1) (by omega) (by omega)).trans (K62.out))
    have K71 := Lib.hid ((hb21.mid_cell (b := w9.heap.size) (o := 0) (by omega) (by omega)).trans (K63.out))
    have K72 := Lib.hid ((hb21.mid_cell (b := w9.heap.size) (o := 1) (by omega) (by omega)).trans (K64.out))
    have K73 := Lib.hid ((hb21.mid_cell (b := w11.heap.size) (o := 0) (by omega) (by omega)).trans (K65.out))
    have K74 := Lib.hid ((hb21.mid_cell (b := w11.heap.size) (o := 1) (by omega) (by omega)).trans (K66.out))
    have f75 : w21.cell? ⟨w11.heap.size, 0, none⟩ = some (.slice y40_0 (ApplyToInstance_r0 x0 x1).rels.length y40_1) := K73.out
    have f76 : w21.cell? ⟨w11.heap.size, 1, none⟩ = some (.slice y40_2 (ApplyToInstance_r0 x0 x1).facts.length y40_3) := K74.out
    have c6_21 : Below wc15.heap.size wc15 w21 := (((((((((c6_12.trans (hb13.mono (by omega))).trans (hb14.mono (by omega))).trans (hb15.mono (by omega))).trans (hb16.mono (by omega))).trans (hb17.mono (by omega))).trans (hb18.mono (by omega))).trans (hb19.mono (by omega))).trans (hb20.mid_below (by omega) (by omega))).trans (hb21.mid_below (by omega) (by omega)))
    have f77 : w21.cell? ⟨bx15, 0, none⟩ = some (.slice y20_0 (ApplyToInstance_r0 x0 x1).rels.length y20_1) := ((c6_21).cell (p := ⟨bx15, 0, none⟩) (by show bx15 < _; omega)).trans K21.out
    have f78 : w21.cell? ⟨bx15, 1, none⟩ = some (.slice y20_2 (ApplyToInstance_r0 x0 x1).facts.length y20_3) := ((c6_21).cell (p := ⟨bx15, 1, none⟩) (by show bx15 < _; omega)).trans K22.out
    go_wp2_with fail
    refine (eqInstance_c _ _ (ApplyToInstance_r0 x0 x1) _ ((om21_g0.below (Below.refl w21.heap.size w21) (by omega)).at_ (by omega)) ((p15_0.below c6_21 (Nat.le_refl _)).more c6_21.size)).mono ?_
    rintro e w22 ⟨rfl, hb22⟩
    have z22 : w21.heap.size ≤ w22.heap.size := hb22.size
    clear f75 f76 f77 f78
    have c21_22 : Below w21.heap.size w21 w22 := hb22
    have f79 : w22.cell? ⟨w11.heap.size, 0, none⟩ = some (.slice y40_0 (ApplyToInstance_r0 x0 x1).rels.length y40_1) := ((c21_22).cell (p := ⟨w11.heap.size, 0, none⟩) (by show w11.heap.size < _; omega)).trans K73.out
    have f80 : w22.cell? ⟨w11.heap.size, 1, none⟩ = some (.slice y40_2 (ApplyToInstance_r0 x0 x1).facts.length y40_3) := ((c21_22).cell (p := ⟨w11.heap.size, 1, none⟩) (by show w11.heap.size < _; omega)).trans K74.out
    go_wp2_with fail
    refine (markInstance_c _ _ _ (ApplyToInstance_r0 x0 x1) (1) _ (om21_g0.below c21_22 (by omega)) q39_0 (by omega) (by omega)).mono ?_
    rintro e w23 ⟨rfl, om23, hb23⟩
    have om23_tu25 := (om21_tu25.below c21_22 (by omega)).chg hb23 (by omega)
    have om23_tu31 := (om21.below c21_22 (by omega)).chg hb23 (by omega)
    have z23 : w22.heap.size ≤ w23.heap.size := hb23.size
    clear f79 f80
    have K81 := Lib.hid ((hb23.mid_cell (b := w7.heap.size) (o := 0) (by omega) (by omega)).trans (((c21_22).cell (p := ⟨w7.heap.size, 0, none⟩) (by show w7.heap.size < _; omega)).trans K69.out))
    have K82 := Lib.hid ((hb23.mid_cell (b := w7.heap.size) (o := 1) (by omega) (by omega)).trans (((c21_22).cell (p := ⟨w7.heap.size, 1, none⟩) (by show w7.heap.size < _; omega)).trans K70.out))
    have K83 := Lib.hid ((hb23.mid_cell (b := w9.heap.size) (o := 0) (by omega) (by omega)).trans (((c21_22).cell (p := ⟨w9.heap.size, 0, none⟩) (by show w9.heap.size < _; omega)).trans K71.out))
    have K84 := Lib.hid ((hb23.mid_cell (b := w9.heap.size) (o := 1) (by omega) (by omega)).trans (((c21_22).cell (p := ⟨w9.heap.size, 1, none⟩) (by show w9.heap.size < _; omega)).trans K72.out))
    have K85 := Lib.hid ((hb23.mid_cell (b := w11.heap.size) (o := 0) (by omega) (by omega)).trans (((c21_22).cell (p := ⟨w11.heap.size, 0, none⟩) (by show w11.heap.size < _; omega)).trans K73.out))
    have K86 := Lib.hid ((hb23.mid_cell (b := w11.heap.size) (o := 1) (by omega) (by omega)).trans (((c21_22).cell (p := ⟨w11.heap.size, 1, none⟩) (by show w11.heap.size < _; omega)).trans K74.out))
    have f87 : w23.cell? ⟨w11.heap.size, 0, none⟩ = some (.slice y40_0 (ApplyToInstance_r0 x0 x1).rels.length y40_1) := K85.out
    have f88 : w23.cell? ⟨w11.heap.size, 1, none⟩ = some (.slice y40_2 (ApplyToInstance_r0 x0 x1).facts.length y40_3) := K86.out
    go_wp2_with fail
    refine (heldInstance_c _ (ApplyToInstance_r0 x0 x1) (1) _ ((om23.below (Below.refl w23.heap.size w23) (by omega)).at_ (by omega)) q39_0 (by omega) (by omega)).mono ?_
    rintro e w24 ⟨rfl, hb24⟩
    have z24 : w23.heap.size ≤ w24.heap.size := hb24.size
    clear f87 f88
    have c0_24 : Below w.heap.size w w24 := (((((((c0_17.trans (hb18.mono (by omega))).trans (hb19.mono (by omega))).trans (hb20.mid_below (by omega) (by omega))).trans (hb21.mid_below (by omega) (by omega))).trans (hb22.mono (by omega))).trans (hb23.mid_below (by omega) (by omega))).trans (hb24.mono (by omega)))
    have c1_24 : Below ((w.alloc (.cells #[.slice v0_0 x0.nulls.length v0_1, .slice v0_2 x0.vals.length v0_3] 24)).alloc (.cells #[.slice v1_0 x1.rels.length v1_1, .slice v1_2 x1.facts.length v1_3] 28)).heap.size ((w.alloc (.cells #[.slice v0_0 x0.nulls.length v0_1, .slice v0_2 x0.vals.length v0_3] 24)).alloc (.cells #[.slice v1_0 x1.rels.length v1_1, .slice v1_2 x1.facts.length v1_3] 28)) w24 := ((((((((c1_16.trans (hb17.mono (by omega))).trans (hb18.mono (by omega))).trans (hb19.mono (by omega))).trans (hb20.mid_below (by omega) (by omega))).trans (hb21.mid_below (by omega) (by omega))).trans (hb22.mono (by omega))).trans (hb23.mid_below (by omega) (by omega))).trans (hb24.mono (by omega)))
    go_upto_region 31 with fail
    go_cut [15, 16] from 17 (fun sb s16 wx => ∃ (bx : Nat) (r : Value) (Bn Cn : Nat), sb = .pointer (some ⟨bx, 0, none⟩) ∧ s16 = .bool (ApplyToInstance_ok x0 x1) ∧ w24.heap.size ≤ bx ∧ bx < wx.heap.size ∧ w24.heap.size ≤ Bn ∧ Bn ≤ Cn ∧ Cn ≤ wx.heap.size ∧ (bx < Bn ∨ Cn ≤ bx) ∧ Below w24.heap.size w24 wx ∧ Hid (Instance_own Bn Cn r (ApplyToInstance_r0 x0 x1) wx ∧ Instance_sz (ApplyToInstance_r0 x0 x1) ≤ 1048576) ∧ Hid (∀ k, k < 2 → wx.cell? ⟨bx, k, none⟩ = r.cells[k]?))
    case first =>
      have f90 : w24.cell? ⟨w.heap.size, 0, none⟩ = some (.slice v0_0 x0.nulls.length v0_1) := ((c1_24).cell (p := ⟨w.heap.size, 0, none⟩) (by show w.heap.size < _; omega)).trans K1.out
      have gf90 := Aft.cell (B := w24.heap.size) (by omega) f90
      clear f90
      have f91 : w24.cell? ⟨w.heap.size, 1, none⟩ = some (.slice v0_2 x0.vals.length v0_3) := ((c1_24).cell (p := ⟨w.heap.size, 1, none⟩) (by show w.heap.size < _; omega)).trans K2.out
      have gf91 := Aft.cell (B := w24.heap.size) (by omega) f91
      clear f91
      have f92 : w24.cell? ⟨w.heap.size + 1, 0, none⟩ = some (.slice v1_0 x1.rels.length v1_1) := ((c1_24).cell (p := ⟨w.heap.size + 1, 0, none⟩) (by show w.heap.size + 1 < _; omega)).trans K3.out
      have gf92 := Aft.cell (B := w24.heap.size) (by omega) f92
      clear f92
      have f93 : w24.cell? ⟨w.heap.size + 1, 1, none⟩ = some (.slice v1_2 x1.facts.length v1_3) := ((c1_24).cell (p := ⟨w.heap.size + 1, 1, none⟩) (by show w.heap.size + 1 < _; omega)).trans K4.out
      have gf93 := Aft.cell (B := w24.heap.size) (by omega) f93
      clear f93
      have hd89 : Below w24.heap.size w24 w24.drew := (Below.refl _ _).drew
      have AT89_0 := ((A0.out.below c0_24 (Nat.le_refl _)).more c0_24.size)
      have AT89_1 := ((A1.out.below c0_24 (Nat.le_refl _)).more c0_24.size)
      refine wp_region_planL (C := fun w' => ∃ u : Aft w24.heap.size w24, w' = u.now) (.still 0 (.move true 1 (.still 2 (.move true 3 (.move true 4 (.still 5 (.still 6 (.still 7 (.move true 8 (.move true 9 (.still 10 .done) .none) .none)))) (.move true 8 (.move true 4 (.still 5 (.still 6 (.still 7 (.move true 9 (.still 10 .done) .none)))) .none) .none)) (.move true 8 (.move true 3 (.move true 4 (.still 5 (.still 6 (.still 7 (.move true 9 (.still 10 .done) .none)))) .none) .none) .none))) (.move true 8 (.move true 1 (.still 2 (.move true 3 (.move true 4 (.still 5 (.still 6 (.still 7 (.move true 9 (.still 10 .done) .none)))) .none) .none)) .none) .none))) (by kernel_rfl) (by kernel_rfl) (by kernel_rfl) (fun _ => ⟨⟨_, hd89⟩, rfl⟩) ?_
      refine plan_look _ rfl rfl ?_
      go_big_quiet_step (fail)
      refine wpQuiet_nil ?_
      refine plan_call _ 7 _ _ _ _ _ rfl _ Tryz.func7 (by kernel_rfl) (by kernel_rfl) ?_ ?_
      rotate_left
      · skip
        obtain ⟨y89_1, e89_1⟩ : ∃ V, V = (w24.drew.alloc (.cells #[.slice none 0 0, .slice none 0 0] 34)) := ⟨_, rfl⟩
        have hy89_1 : Below w24.drew.heap.size w24.drew y89_1 := by rw [e89_1]; exact (Below.refl _ _).alloc (Nat.le_refl _) _
        have zy89_1 : w24.drew.heap.size < y89_1.heap.size := by rw [e89_1]; simp
        have by89_1 := hd89.size
        have be89_1 : Below w24.heap.size w24 y89_1 := hd89.trans (hy89_1.mono by89_1)
        have kc89_1_0 : y89_1.cell? ⟨w24.drew.heap.size, 0, none⟩ = some (.slice none 0 0) := by rw [e89_1]; simp [go_sem]
        have kc89_1_1 : y89_1.cell? ⟨w24.drew.heap.size, 1, none⟩ = some (.slice none 0 0) := by rw [e89_1]; simp [go_sem]
        have kz89_1 : ∀ o, y89_1.frozen? ⟨w24.drew.heap.size, o, none⟩ = false := by intro o; rw [e89_1]; simp [go_sem]
        obtain ⟨bb89_1, eb89_1⟩ : ∃ b, b = w24.drew.heap.size := ⟨_, rfl⟩
        rw [← eb89_1] at kz89_1 kc89_1_0 kc89_1_1
        refine plan_value (u := .pointer (some ⟨w24.drew.heap.size, 0, none⟩)) (w' := y89_1) _ rfl rfl rfl (by rw [e89_1]; simp [go_sem]) (fun _ => ⟨⟨_, be89_1⟩, rfl⟩) ?_ True.intro
        rw [← eb89_1]
        refine plan_put ?_ (by simp only [Act.put, List.setIfInBounds_toArray, List.set_cons_succ, List.set_cons_zero]; rfl)
        refine plan_call _ 7 _ _ _ _ _ rfl _ Tryz.func7 (by kernel_rfl) (by kernel_rfl) ?_ ?_
        rotate_left
        · exact True.intro
        show Calls Tryz.prog 7 #[.agg #[.slice v0_0 x0.nulls.length v0_1, .slice v0_2 x0.vals.length v0_3]] _ _
        refine (toSubstitution_c _ x0 _ ((AT89_0.below be89_1 (Nat.le_refl _)).more be89_1.size) S0).mono ?_
        rintro e x89_2 ⟨v89_2, rfl, o89_2, hx89_2⟩
        obtain ⟨v89_2_0, v89_2_1, v89_2_2, v89_2_3, rfl⟩ := Substitution_form (o89_2.at_ (Nat.le_refl _))
        have zx89_2 := hx89_2.size
        have bx89_2 := be89_1.size
        have be89_2 : Below w24.heap.size w24 x89_2 := be89_1.trans (hx89_2.mono be89_1.size)
        have kd89_2_0 := (hx89_2.cell (p := ⟨bb89_1, 0, none⟩) (by show bb89_1 < _; omega)).trans kc89_1_0
        have kd89_2_1 := (hx89_2.cell (p := ⟨bb89_1, 1, none⟩) (by show bb89_1 < _; omega)).trans kc89_1_1
        have kw89_2 := fun o => (hx89_2.frozen (p := ⟨bb89_1, o, none⟩) (by show bb89_1 < _; omega)).trans (kz89_1 o)
        refine ⟨_, rfl, fun _ => ⟨⟨_, be89_2⟩, rfl⟩, ?_⟩
        refine plan_put ?_ (by simp only [Act.put, List.setIfInBounds_toArray, List.set_cons_succ, List.set_cons_zero]; rfl)
        refine plan_look _ rfl rfl ?_
        go_big_quiet_step (fail)
        refine wpQuiet_nil ?_
        refine plan_call _ 8 _ _ _ _ _ rfl _ Tryz.func8 (by kernel_rfl) (by kernel_rfl) ?_ ?_
        rotate_left
        · exact True.intro
        show Calls Tryz.prog 8 #[.agg #[.slice v1_0 x1.rels.length v1_1, .slice v1_2 x1.facts.length v1_3]] _ _
        refine (toInstance_c _ x1 _ ((AT89_1.below be89_2 (Nat.le_refl _)).more be89_2.size) S1).mono ?_
        rintro e x89_3 ⟨v89_3, rfl, o89_3, hx89_3⟩
        obtain ⟨v89_3_0, v89_3_1, v89_3_2, v89_3_3, rfl⟩ := Instance_form (o89_3.at_ (Nat.le_refl _))
        have zx89_3 := hx89_3.size
        have bx89_3 := be89_2.size
        have be89_3 : Below w24.heap.size w24 x89_3 := be89_2.trans (hx89_3.mono be89_2.size)
        have kd89_3_0 := (hx89_3.cell (p := ⟨bb89_1, 0, none⟩) (by show bb89_1 < _; omega)).trans kd89_2_0
        have kd89_3_1 := (hx89_3.cell (p := ⟨bb89_1, 1, none⟩) (by show bb89_1 < _; omega)).trans kd89_2_1
        have kw89_3 := fun o => (hx89_3.frozen (p := ⟨bb89_1, o, none⟩) (by show bb89_1 < _; omega)).trans (kw89_2 o)
        refine ⟨_, rfl, fun _ => ⟨⟨_, be89_3⟩, rfl⟩, ?_⟩
        refine plan_put ?_ (by simp only [Act.put, List.setIfInBounds_toArray, List.set_cons_succ, List.set_cons_zero]; rfl)
        refine plan_call _ 9 _ _ _ _ _ rfl _ Tryz.func9 (by kernel_rfl) (by kernel_rfl) ?_ ?_
        rotate_left
        · exact True.intro
        show Calls Tryz.prog 9 #[.agg #[.slice v89_2_0 x0.nulls.length v89_2_1, .slice v89_2_2 x0.vals.length v89_2_3], .agg #[.slice v89_3_0 x1.rels.length v89_3_1, .slice v89_3_2 x1.facts.length v89_3_3]] _ _
        refine (implApplyToInstance_c _ x0 _ x1 _ ((o89_2.below hx89_3 (Nat.le_refl _)).at_ hx89_3.size) W0.out S0 (o89_3.at_ (Nat.le_refl _)) W1.out S1).mono ?_
        rintro e x89_4 ⟨r89_4, rfl, p89_4, q89_4, hx89_4⟩
        obtain ⟨r89_4_0, r89_4_1, r89_4_2, r89_4_3, rfl⟩ := Instance_form (p89_4.at_ (Nat.le_refl _))
        have zx89_4 := hx89_4.size
        have bx89_4 := be89_3.size
        have be89_4 : Below w24.heap.size w24 x89_4 := be89_3.trans (hx89_4.mono be89_3.size)
        have kd89_4_0 := (hx89_4.cell (p := ⟨bb89_1, 0, none⟩) (by show bb89_1 < _; omega)).trans kd89_3_0
        have kd89_4_1 := (hx89_4.cell (p := ⟨bb89_1, 1, none⟩) (by show bb89_1 < _; omega)).trans kd89_3_1
        have kw89_4 := fun o => (hx89_4.frozen (p := ⟨bb89_1, o, none⟩) (by show bb89_1 < _; omega)).trans (kw89_3 o)
        refine ⟨_, rfl, fun _ => ⟨⟨_, be89_4⟩, rfl⟩, ?_⟩
        refine plan_put ?_ (by simp only [Act.put, List.setIfInBounds_toArray, List.set_cons_succ, List.set_cons_zero]; rfl)
        refine plan_look _ rfl rfl ?_
        go_big_quiet_step (fail)
        refine wpQuiet_nil ?_
        refine plan_look _ rfl rfl ?_
        go_big_quiet_step (fail)
        refine wpQuiet_nil ?_
        refine plan_look _ rfl rfl ?_
        go_big_quiet_step (fail)
        refine wpQuiet_nil ?_
        have lo89_5 : w24.heap.size ≤ bb89_1 := by omega
        have bs89_5 : Below w24.heap.size w24 ((x89_4.setCell ⟨bb89_1, 0, none⟩ (.slice r89_4_0 (ApplyToInstance_r0 x0 x1).rels.length r89_4_1)).setCell ⟨bb89_1, 1, none⟩ (.slice r89_4_2 (ApplyToInstance_r0 x0 x1).facts.length r89_4_3)) := ((be89_4.setCell (p := ⟨bb89_1, 0, none⟩) lo89_5 _).setCell (p := ⟨bb89_1, 1, none⟩) lo89_5 _)
        refine plan_skip (w' := ((x89_4.setCell ⟨bb89_1, 0, none⟩ (.slice r89_4_0 (ApplyToInstance_r0 x0 x1).rels.length r89_4_1)).setCell ⟨bb89_1, 1, none⟩ (.slice r89_4_2 (ApplyToInstance_r0 x0 x1).facts.length r89_4_3))) _ rfl rfl rfl (by simp [go_sem, kd89_4_0, kd89_4_1, kw89_4]) (fun _ => ⟨⟨_, bs89_5⟩, rfl⟩) ?_ True.intro
        refine plan_put ?_ (by simp only [Act.put]; rfl)
        refine plan_look _ rfl rfl ?_
        go_big_quiet_step (fail)
        refine wpQuiet_nil ?_
        have cf89_5 : Chg (Mid bb89_1 (bb89_1 + 1)) x89_4 ((x89_4.setCell ⟨bb89_1, 0, none⟩ (.slice r89_4_0 (ApplyToInstance_r0 x0 x1).rels.length r89_4_1)).setCell ⟨bb89_1, 1, none⟩ (.slice r89_4_2 (ApplyToInstance_r0 x0 x1).facts.length r89_4_3)) := (((Chg.refl (Mid bb89_1 (bb89_1 + 1)) x89_4).setCell (p := ⟨bb89_1, 0, none⟩) ⟨Nat.le_refl _, Nat.lt_succ_self _⟩ _).setCell (p := ⟨bb89_1, 1, none⟩) ⟨Nat.le_refl _, Nat.lt_succ_self _⟩ _)
        have pf89_5 := p89_4.chg cf89_5 (.inr (by omega))
        have zf89_5 := cf89_5.size
        have kf89_5 : ∀ k, k < 2 → ((x89_4.setCell ⟨bb89_1, 0, none⟩ (.slice r89_4_0 (ApplyToInstance_r0 x0 x1).rels.length r89_4_1)).setCell ⟨bb89_1, 1, none⟩ (.slice r89_4_2 (ApplyToInstance_r0 x0 x1).facts.length r89_4_3)).cell? ⟨bb89_1, k, none⟩ = (Value.agg #[.slice r89_4_0 (ApplyToInstance_r0 x0 x1).rels.length r89_4_1, .slice r89_4_2 (ApplyToInstance_r0 x0 x1).facts.length r89_4_3]).cells[k]? := by
          intro k hk
          rcases (show k = 0 ∨ k = 1 by omega) with rfl | rfl
          · simp [go_sem, Value.cells, kd89_4_0]
          · simp [go_sem, Value.cells, kd89_4_1]
        refine plan_done ?_
        go_wp2
        go_meet
        case rel => exact ⟨bb89_1, .agg #[.slice r89_4_0 (ApplyToInstance_r0 x0 x1).rels.length r89_4_1, .slice r89_4_2 (ApplyToInstance_r0 x0 x1).facts.length r89_4_3], x89_3.heap.size, x89_4.heap.size, rfl, rfl, by omega, by omega, by omega, by omega, by omega, .inl (by omega), bs89_5, Lib.hid ⟨pf89_5, q89_4⟩, Lib.hid kf89_5⟩
      show Calls Tryz.prog 7 #[.agg #[.slice v0_0 x0.nulls.length v0_1, .slice v0_2 x0.vals.length v0_3]] _ _
      refine (toSubstitution_c _ x0 _ ((AT89_0.below hd89 (Nat.le_refl _)).more hd89.size) S0).mono ?_
      rintro e x89_6 ⟨v89_6, rfl, o89_6, hx89_6⟩
      obtain ⟨v89_6_0, v89_6_1, v89_6_2, v89_6_3, rfl⟩ := Substitution_form (o89_6.at_ (Nat.le_refl _))
      have zx89_6 := hx89_6.size
      have bx89_6 := hd89.size
      have be89_6 : Below w24.heap.size w24 x89_6 := hd89.trans (hx89_6.mono hd89.size)
      refine ⟨_, rfl, fun _ => ⟨⟨_, be89_6⟩, rfl⟩, ?_⟩
      refine plan_put ?_ (by simp only [Act.put, List.setIfInBounds_toArray, List.set_cons_succ, List.set_cons_zero]; rfl)
      refine plan_look _ rfl rfl ?_
      go_big_quiet_step (fail)
      refine wpQuiet_nil ?_
      refine plan_call _ 8 _ _ _ _ _ rfl _ Tryz.func8 (by kernel_rfl) (by kernel_rfl) ?_ ?_
      rotate_left
      · skip
        obtain ⟨y89_7, e89_7⟩ : ∃ V, V = (x89_6.alloc (.cells #[.slice none 0 0, .slice none 0 0] 34)) := ⟨_, rfl⟩
        have hy89_7 : Below x89_6.heap.size x89_6 y89_7 := by rw [e89_7]; exact (Below.refl _ _).alloc (Nat.le_refl _) _
        have zy89_7 : x89_6.heap.size < y89_7.heap.size := by rw [e89_7]; simp
        have by89_7 := be89_6.size
        have be89_7 : Below w24.heap.size w24 y89_7 := be89_6.trans (hy89_7.mono by89_7)
        have kc89_7_0 : y89_7.cell? ⟨x89_6.heap.size, 0, none⟩ = some (.slice none 0 0) := by rw [e89_7]; simp [go_sem]
        have kc89_7_1 : y89_7.cell? ⟨x89_6.heap.size, 1, none⟩ = some (.slice none 0 0) := by rw [e89_7]; simp [go_sem]
        have kz89_7 : ∀ o, y89_7.frozen? ⟨x89_6.heap.size, o, none⟩ = false := by intro o; rw [e89_7]; simp [go_sem]
        obtain ⟨bb89_7, eb89_7⟩ : ∃ b, b = x89_6.heap.size := ⟨_, rfl⟩
        rw [← eb89_7] at kz89_7 kc89_7_0 kc89_7_1
        refine plan_value (u := .pointer (some ⟨x89_6.heap.size, 0, none⟩)) (w' := y89_7) _ rfl rfl rfl (by rw [e89_7]; simp [go_sem]) (fun _ => ⟨⟨_, be89_7⟩, rfl⟩) ?_ True.intro
        rw [← eb89_7]
        refine plan_put ?_ (by simp only [Act.put, List.setIfInBounds_toArray, List.set_cons_succ, List.set_cons_zero]; rfl)
        refine plan_call _ 8 _ _ _ _ _ rfl _ Tryz.func8 (by kernel_rfl) (by kernel_rfl) ?_ ?_
        rotate_left
        · exact True.intro
        show Calls Tryz.prog 8 #[.agg #[.slice v1_0 x1.rels.length v1_1, .slice v1_2 x1.facts.length v1_3]] _ _
        refine (toInstance_c _ x1 _ ((AT89_1.below be89_7 (Nat.le_refl _)).more be89_7.size) S1).mono ?_
        rintro e x89_8 ⟨v89_8, rfl, o89_8, hx89_8⟩
        obtain ⟨v89_8_0, v89_8_1, v89_8_2, v89_8_3, rfl⟩ := Instance_form (o89_8.at_ (Nat.le_refl _))
        have zx89_8 := hx89_8.size
        have bx89_8 := be89_7.size
        have be89_8 : Below w24.heap.size w24 x89_8 := be89_7.trans (hx89_8.mono be89_7.size)
        have sc89_8_x89_6 : Below x89_6.heap.size x89_6 x89_8 := hy89_7.trans (hx89_8.mono hy89_7.size)
        have kd89_8_0 := (hx89_8.cell (p := ⟨bb89_7, 0, none⟩) (by show bb89_7 < _; omega)).trans kc89_7_0
        have kd89_8_1 := (hx89_8.cell (p := ⟨bb89_7, 1, none⟩) (by show bb89_7 < _; omega)).trans kc89_7_1
        have kw89_8 := fun o => (hx89_8.frozen (p := ⟨bb89_7, o, none⟩) (by show bb89_7 < _; omega)).trans (kz89_7 o)
        refine ⟨_, rfl, fun _ => ⟨⟨_, be89_8⟩, rfl⟩, ?_⟩
        refine plan_put ?_ (by simp only [Act.put, List.setIfInBounds_toArray, List.set_cons_succ, List.set_cons_zero]; rfl)
        refine plan_call _ 9 _ _ _ _ _ rfl _ Tryz.func9 (by kernel_rfl) (by kernel_rfl) ?_ ?_
        rotate_left
        · exact True.intro
        show Calls Tryz.prog 9 #[.agg #[.slice v89_6_0 x0.nulls.length v89_6_1, .slice v89_6_2 x0.vals.length v89_6_3], .agg #[.slice v89_8_0 x1.rels.length v89_8_1, .slice v89_8_2 x1.facts.length v89_8_3]] _ _
        refine (implApplyToInstance_c _ x0 _ x1 _ ((o89_6.below sc89_8_x89_6 (Nat.le_refl _)).at_ sc89_8_x89_6.size) W0.out S0 (o89_8.at_ (Nat.le_refl _)) W1.out S1).mono ?_
        rintro e x89_9 ⟨r89_9, rfl, p89_9, q89_9, hx89_9⟩
        obtain ⟨r89_9_0, r89_9_1, r89_9_2, r89_9_3, rfl⟩ := Instance_form (p89_9.at_ (Nat.le_refl _))
        have zx89_9 := hx89_9.size
        have bx89_9 := be89_8.size
        have be89_9 : Below w24.heap.size w24 x89_9 := be89_8.trans (hx89_9.mono be89_8.size)
        have kd89_9_0 := (hx89_9.cell (p := ⟨bb89_7, 0, none⟩) (by show bb89_7 < _; omega)).trans kd89_8_0
        have kd89_9_1 := (hx89_9.cell (p := ⟨bb89_7, 1, none⟩) (by show bb89_7 < _; omega)).trans kd89_8_1
        have kw89_9 := fun o => (hx89_9.frozen (p := ⟨bb89_7, o, none⟩) (by show bb89_7 < _; omega)).trans (kw89_8 o)
        refine ⟨_, rfl, fun _ => ⟨⟨_, be89_9⟩, rfl⟩, ?_⟩
        refine plan_put ?_ (by simp only [Act.put, List.setIfInBounds_toArray, List.set_cons_succ, List.set_cons_zero]; rfl)
        refine plan_look _ rfl rfl ?_
        go_big_quiet_step (fail)
        refine wpQuiet_nil ?_
        refine plan_look _ rfl rfl ?_
        go_big_quiet_step (fail)
        refine wpQuiet_nil ?_
        refine plan_look _ rfl rfl ?_
        go_big_quiet_step (fail)
        refine wpQuiet_nil ?_
        have lo89_10 : w24.heap.size ≤ bb89_7 := by omega
        have bs89_10 : Below w24.heap.size w24 ((x89_9.setCell ⟨bb89_7, 0, none⟩ (.slice r89_9_0 (ApplyToInstance_r0 x0 x1).rels.length r89_9_1)).setCell ⟨bb89_7, 1, none⟩ (.slice r89_9_2 (ApplyToInstance_r0 x0 x1).facts.length r89_9_3)) := ((be89_9.setCell (p := ⟨bb89_7, 0, none⟩) lo89_10 _).setCell (p := ⟨bb89_7, 1, none⟩) lo89_10 _)
        refine plan_skip (w' := ((x89_9.setCell ⟨bb89_7, 0, none⟩ (.slice r89_9_0 (ApplyToInstance_r0 x0 x1).rels.length r89_9_1)).setCell ⟨bb89_7, 1, none⟩ (.slice r89_9_2 (ApplyToInstance_r0 x0 x1).facts.length r89_9_3))) _ rfl rfl rfl (by simp [go_sem, kd89_9_0, kd89_9_1, kw89_9]) (fun _ => ⟨⟨_, bs89_10⟩, rfl⟩) ?_ True.intro
        refine plan_put ?_ (by simp only [Act.put]; rfl)
        refine plan_look _ rfl rfl ?_
        go_big_quiet_step (fail)
        refine wpQuiet_nil ?_
        have cf89_10 : Chg (Mid bb89_7 (bb89_7 + 1)) x89_9 ((x89_9.setCell ⟨bb89_7, 0, none⟩ (.slice r89_9_0 (ApplyToInstance_r0 x0 x1).rels.length r89_9_1)).setCell ⟨bb89_7, 1, none⟩ (.slice r89_9_2 (ApplyToInstance_r0 x0 x1).facts.length r89_9_3)) := (((Chg.refl (Mid bb89_7 (bb89_7 + 1)) x89_9).setCell (p := ⟨bb89_7, 0, none⟩) ⟨Nat.le_refl _, Nat.lt_succ_self _⟩ _).setCell (p := ⟨bb89_7, 1, none⟩) ⟨Nat.le_refl _, Nat.lt_succ_self _⟩ _)
        have pf89_10 := p89_9.chg cf89_10 (.inr (by omega))
        have zf89_10 := cf89_10.size
        have kf89_10 : ∀ k, k < 2 → ((x89_9.setCell ⟨bb89_7, 0, none⟩ (.slice r89_9_0 (ApplyToInstance_r0 x0 x1).rels.length r89_9_1)).setCell ⟨bb89_7, 1, none⟩ (.slice r89_9_2 (ApplyToInstance_r0 x0 x1).facts.length r89_9_3)).cell? ⟨bb89_7, k, none⟩ = (Value.agg #[.slice r89_9_0 (ApplyToInstance_r0 x0 x1).rels.length r89_9_1, .slice r89_9_2 (ApplyToInstance_r0 x0 x1).facts.length r89_9_3]).cells[k]? := by
          intro k hk
          rcases (show k = 0 ∨ k = 1 by omega) with rfl | rfl
          · simp [go_sem, Value.cells, kd89_9_0]
          · simp [go_sem, Value.cells, kd89_9_1]
        refine plan_done ?_
        go_wp2
        go_meet
        case rel => exact ⟨bb89_7, .agg #[.slice r89_9_0 (ApplyToInstance_r0 x0 x1).rels.length r89_9_1, .slice r89_9_2 (ApplyToInstance_r0 x0 x1).facts.length r89_9_3], x89_8.heap.size, x89_9.heap.size, rfl, rfl, by omega, by omega, by omega, by omega, by omega, .inl (by omega), bs89_10, Lib.hid ⟨pf89_10, q89_9⟩, Lib.hid kf89_10⟩
      show Calls Tryz.prog 8 #[.agg #[.slice v1_0 x1.rels.length v1_1, .slice v1_2 x1.facts.length v1_3]] _ _
      refine (toInstance_c _ x1 _ ((AT89_1.below be89_6 (Nat.le_refl _)).more be89_6.size) S1).mono ?_
      rintro e x89_11 ⟨v89_11, rfl, o89_11, hx89_11⟩
      obtain ⟨v89_11_0, v89_11_1, v89_11_2, v89_11_3, rfl⟩ := Instance_form (o89_11.at_ (Nat.le_refl _))
      have zx89_11 := hx89_11.size
      have bx89_11 := be89_6.size
      have be89_11 : Below w24.heap.size w24 x89_11 := be89_6.trans (hx89_11.mono be89_6.size)
      refine ⟨_, rfl, fun _ => ⟨⟨_, be89_11⟩, rfl⟩, ?_⟩
      refine plan_put ?_ (by simp only [Act.put, List.setIfInBounds_toArray, List.set_cons_succ, List.set_cons_zero]; rfl)
      refine plan_call _ 9 _ _ _ _ _ rfl _ Tryz.func9 (by kernel_rfl) (by kernel_rfl) ?_ ?_
      rotate_left
      · skip
        obtain ⟨y89_12, e89_12⟩ : ∃ V, V = (x89_11.alloc (.cells #[.slice none 0 0, .slice none 0 0] 34)) := ⟨_, rfl⟩
        have hy89_12 : Below x89_11.heap.size x89_11 y89_12 := by rw [e89_12]; exact (Below.refl _ _).alloc (Nat.le_refl _) _
        have zy89_12 : x89_11.heap.size < y89_12.heap.size := by rw [e89_12]; simp
        have by89_12 := be89_11.size
        have be89_12 : Below w24.heap.size w24 y89_12 := be89_11.trans (hy89_12.mono by89_12)
        have kc89_12_0 : y89_12.cell? ⟨x89_11.heap.size, 0, none⟩ = some (.slice none 0 0) := by rw [e89_12]; simp [go_sem]
        have kc89_12_1 : y89_12.cell? ⟨x89_11.heap.size, 1, none⟩ = some (.slice none 0 0) := by rw [e89_12]; simp [go_sem]
        have kz89_12 : ∀ o, y89_12.frozen? ⟨x89_11.heap.size, o, none⟩ = false := by intro o; rw [e89_12]; simp [go_sem]
        obtain ⟨bb89_12, eb89_12⟩ : ∃ b, b = x89_11.heap.size := ⟨_, rfl⟩
        rw [← eb89_12] at kz89_12 kc89_12_0 kc89_12_1
        refine plan_value (u := .pointer (some ⟨x89_11.heap.size, 0, none⟩)) (w' := y89_12) _ rfl rfl rfl (by rw [e89_12]; simp [go_sem]) (fun _ => ⟨⟨_, be89_12⟩, rfl⟩) ?_ True.intro
        rw [← eb89_12]
        refine plan_put ?_ (by simp only [Act.put, List.setIfInBounds_toArray, List.set_cons_succ, List.set_cons_zero]; rfl)
        have sc89_12_x89_6 : Below x89_6.heap.size x89_6 y89_12 := hx89_11.trans (hy89_12.mono hx89_11.size)
        refine plan_call _ 9 _ _ _ _ _ rfl _ Tryz.func9 (by kernel_rfl) (by kernel_rfl) ?_ ?_
        rotate_left
        · exact True.intro
        show Calls Tryz.prog 9 #[.agg #[.slice v89_6_0 x0.nulls.length v89_6_1, .slice v89_6_2 x0.vals.length v89_6_3], .agg #[.slice v89_11_0 x1.rels.length v89_11_1, .slice v89_11_2 x1.facts.length v89_11_3]] _ _
        refine (implApplyToInstance_c _ x0 _ x1 _ ((o89_6.below sc89_12_x89_6 (Nat.le_refl _)).at_ sc89_12_x89_6.size) W0.out S0 ((o89_11.below hy89_12 (Nat.le_refl _)).at_ hy89_12.size) W1.out S1).mono ?_
        rintro e x89_13 ⟨r89_13, rfl, p89_13, q89_13, hx89_13⟩
        obtain ⟨r89_13_0, r89_13_1, r89_13_2, r89_13_3, rfl⟩ := Instance_form (p89_13.at_ (Nat.le_refl _))
        have zx89_13 := hx89_13.size
        have bx89_13 := be89_12.size
        have be89_13 : Below w24.heap.size w24 x89_13 := be89_12.trans (hx89_13.mono be89_12.size)
        have kd89_13_0 := (hx89_13.cell (p := ⟨bb89_12, 0, none⟩) (by show bb89_12 < _; omega)).trans kc89_12_0
        have kd89_13_1 := (hx89_13.cell (p := ⟨bb89_12, 1, none⟩) (by show bb89_12 < _; omega)).trans kc89_12_1
        have kw89_13 := fun o => (hx89_13.frozen (p := ⟨bb89_12, o, none⟩) (by show bb89_12 < _; omega)).trans (kz89_12 o)
        refine ⟨_, rfl, fun _ => ⟨⟨_, be89_13⟩, rfl⟩, ?_⟩
        refine plan_put ?_ (by simp only [Act.put, List.setIfInBounds_toArray, List.set_cons_succ, List.set_cons_zero]; rfl)
        refine plan_look _ rfl rfl ?_
        go_big_quiet_step (fail)
        refine wpQuiet_nil ?_
        refine plan_look _ rfl rfl ?_
        go_big_quiet_step (fail)
        refine wpQuiet_nil ?_
        refine plan_look _ rfl rfl ?_
        go_big_quiet_step (fail)
        refine wpQuiet_nil ?_
        have lo89_14 : w24.heap.size ≤ bb89_12 := by omega
        have bs89_14 : Below w24.heap.size w24 ((x89_13.setCell ⟨bb89_12, 0, none⟩ (.slice r89_13_0 (ApplyToInstance_r0 x0 x1).rels.length r89_13_1)).setCell ⟨bb89_12, 1, none⟩ (.slice r89_13_2 (ApplyToInstance_r0 x0 x1).facts.length r89_13_3)) := ((be89_13.setCell (p := ⟨bb89_12, 0, none⟩) lo89_14 _).setCell (p := ⟨bb89_12, 1, none⟩) lo89_14 _)
        refine plan_skip (w' := ((x89_13.setCell ⟨bb89_12, 0, none⟩ (.slice r89_13_0 (ApplyToInstance_r0 x0 x1).rels.length r89_13_1)).setCell ⟨bb89_12, 1, none⟩ (.slice r89_13_2 (ApplyToInstance_r0 x0 x1).facts.length r89_13_3))) _ rfl rfl rfl (by simp [go_sem, kd89_13_0, kd89_13_1, kw89_13]) (fun _ => ⟨⟨_, bs89_14⟩, rfl⟩) ?_ True.intro
        refine plan_put ?_ (by simp only [Act.put]; rfl)
        refine plan_look _ rfl rfl ?_
        go_big_quiet_step (fail)
        refine wpQuiet_nil ?_
        have cf89_14 : Chg (Mid bb89_12 (bb89_12 + 1)) x89_13 ((x89_13.setCell ⟨bb89_12, 0, none⟩ (.slice r89_13_0 (ApplyToInstance_r0 x0 x1).rels.length r89_13_1)).setCell ⟨bb89_12, 1, none⟩ (.slice r89_13_2 (ApplyToInstance_r0 x0 x1).facts.length r89_13_3)) := (((Chg.refl (Mid bb89_12 (bb89_12 + 1)) x89_13).setCell (p := ⟨bb89_12, 0, none⟩) ⟨Nat.le_refl _, Nat.lt_succ_self _⟩ _).setCell (p := ⟨bb89_12, 1, none⟩) ⟨Nat.le_refl _, Nat.lt_succ_self _⟩ _)
        have pf89_14 := p89_13.chg cf89_14 (.inr (by omega))
        have zf89_14 := cf89_14.size
        have kf89_14 : ∀ k, k < 2 → ((x89_13.setCell ⟨bb89_12, 0, none⟩ (.slice r89_13_0 (ApplyToInstance_r0 x0 x1).rels.length r89_13_1)).setCell ⟨bb89_12, 1, none⟩ (.slice r89_13_2 (ApplyToInstance_r0 x0 x1).facts.length r89_13_3)).cell? ⟨bb89_12, k, none⟩ = (Value.agg #[.slice r89_13_0 (ApplyToInstance_r0 x0 x1).rels.length r89_13_1, .slice r89_13_2 (ApplyToInstance_r0 x0 x1).facts.length r89_13_3]).cells[k]? := by
          intro k hk
          rcases (show k = 0 ∨ k = 1 by omega) with rfl | rfl
          · simp [go_sem, Value.cells, kd89_13_0]
          · simp [go_sem, Value.cells, kd89_13_1]
        refine plan_done ?_
        go_wp2
        go_meet
        case rel => exact ⟨bb89_12, .agg #[.slice r89_13_0 (ApplyToInstance_r0 x0 x1).rels.length r89_13_1, .slice r89_13_2 (ApplyToInstance_r0 x0 x1).facts.length r89_13_3], y89_12.heap.size, x89_13.heap.size, rfl, rfl, by omega, by omega, by omega, by omega, by omega, .inl (by omega), bs89_14, Lib.hid ⟨pf89_14, q89_13⟩, Lib.hid kf89_14⟩
      show Calls Tryz.prog 9 #[.agg #[.slice v89_6_0 x0.nulls.length v89_6_1, .slice v89_6_2 x0.vals.length v89_6_3], .agg #[.slice v89_11_0 x1.rels.length v89_11_1, .slice v89_11_2 x1.facts.length v89_11_3]] _ _
      refine (implApplyToInstance_c _ x0 _ x1 _ ((o89_6.below hx89_11 (Nat.le_refl _)).at_ hx89_11.size) W0.out S0 (o89_11.at_ (Nat.le_refl _)) W1.out S1).mono ?_
      rintro e x89_15 ⟨r89_15, rfl, p89_15, q89_15, hx89_15⟩
      obtain ⟨r89_15_0, r89_15_1, r89_15_2, r89_15_3, rfl⟩ := Instance_form (p89_15.at_ (Nat.le_refl _))
      have zx89_15 := hx89_15.size
      have bx89_15 := be89_11.size
      have be89_15 : Below w24.heap.size w24 x89_15 := be89_11.trans (hx89_15.mono be89_11.size)
      refine ⟨_, rfl, fun _ => ⟨⟨_, be89_15⟩, rfl⟩, ?_⟩
      refine plan_put ?_ (by simp only [Act.put, List.setIfInBounds_toArray, List.set_cons_succ, List.set_cons_zero]; rfl)
      refine plan_look _ rfl rfl ?_
      go_big_quiet_step (fail)
      refine wpQuiet_nil ?_
      refine plan_look _ rfl rfl ?_
      go_big_quiet_step (fail)
      refine wpQuiet_nil ?_
      refine plan_look _ rfl rfl ?_
      go_big_quiet_step (fail)
      refine wpQuiet_nil ?_
      obtain ⟨y89_16, e89_16⟩ : ∃ V, V = (x89_15.alloc (.cells #[.slice none 0 0, .slice none 0 0] 34)) := ⟨_, rfl⟩
      have hy89_16 : Below x89_15.heap.size x89_15 y89_16 := by rw [e89_16]; exact (Below.refl _ _).alloc (Nat.le_refl _) _
      have zy89_16 : x89_15.heap.size < y89_16.heap.size := by rw [e89_16]; simp
      have by89_16 := be89_15.size
      have be89_16 : Below w24.heap.size w24 y89_16 := be89_15.trans (hy89_16.mono by89_16)
      have kc89_16_0 : y89_16.cell? ⟨x89_15.heap.size, 0, none⟩ = some (.slice none 0 0) := by rw [e89_16]; simp [go_sem]
      have kc89_16_1 : y89_16.cell? ⟨x89_15.heap.size, 1, none⟩ = some (.slice none 0 0) := by rw [e89_16]; simp [go_sem]
      have kz89_16 : ∀ o, y89_16.frozen? ⟨x89_15.heap.size, o, none⟩ = false := by intro o; rw [e89_16]; simp [go_sem]
      obtain ⟨bb89_16, eb89_16⟩ : ∃ b, b = x89_15.heap.size := ⟨_, rfl⟩
      rw [← eb89_16] at kz89_16 kc89_16_0 kc89_16_1
      refine plan_value (u := .pointer (some ⟨x89_15.heap.size, 0, none⟩)) (w' := y89_16) _ rfl rfl rfl (by rw [e89_16]; simp [go_sem]) (fun _ => ⟨⟨_, be89_16⟩, rfl⟩) ?_ True.intro
      rw [← eb89_16]
      refine plan_put ?_ (by simp only [Act.put, List.setIfInBounds_toArray, List.set_cons_succ, List.set_cons_zero]; rfl)
      have po89_16 := p89_15.below hy89_16 (Nat.le_refl _)
      have lo89_17 : w24.heap.size ≤ bb89_16 := by omega
      have bs89_17 : Below w24.heap.size w24 ((y89_16.setCell ⟨bb89_16, 0, none⟩ (.slice r89_15_0 (ApplyToInstance_r0 x0 x1).rels.length r89_15_1)).setCell ⟨bb89_16, 1, none⟩ (.slice r89_15_2 (ApplyToInstance_r0 x0 x1).facts.length r89_15_3)) := ((be89_16.setCell (p := ⟨bb89_16, 0, none⟩) lo89_17 _).setCell (p := ⟨bb89_16, 1, none⟩) lo89_17 _)
      refine plan_skip (w' := ((y89_16.setCell ⟨bb89_16, 0, none⟩ (.slice r89_15_0 (ApplyToInstance_r0 x0 x1).rels.length r89_15_1)).setCell ⟨bb89_16, 1, none⟩ (.slice r89_15_2 (ApplyToInstance_r0 x0 x1).facts.length r89_15_3))) _ rfl rfl rfl (by simp [go_sem, kc89_16_0, kc89_16_1, kz89_16]) (fun _ => ⟨⟨_, bs89_17⟩, rfl⟩) ?_ True.intro
      refine plan_put ?_ (by simp only [Act.put]; rfl)
      refine plan_look _ rfl rfl ?_
      go_big_quiet_step (fail)
      refine wpQuiet_nil ?_
      have cf89_17 : Chg (Mid bb89_16 (bb89_16 + 1)) y89_16 ((y89_16.setCell ⟨bb89_16, 0, none⟩ (.slice r89_15_0 (ApplyToInstance_r0 x0 x1).rels.length r89_15_1)).setCell ⟨bb89_16, 1, none⟩ (.slice r89_15_2 (ApplyToInstance_r0 x0 x1).facts.length r89_15_3)) := (((Chg.refl (Mid bb89_16 (bb89_16 + 1)) y89_16).setCell (p := ⟨bb89_16, 0, none⟩) ⟨Nat.le_refl _, Nat.lt_succ_self _⟩ _).setCell (p := ⟨bb89_16, 1, none⟩) ⟨Nat.le_refl _, Nat.lt_succ_self _⟩ _)
      have pf89_17 := po89_16.chg cf89_17 (.inl (by omega))
      have zf89_17 := cf89_17.size
      have kf89_17 : ∀ k, k < 2 → ((y89_16.setCell ⟨bb89_16, 0, none⟩ (.slice r89_15_0 (ApplyToInstance_r0 x0 x1).rels.length r89_15_1)).setCell ⟨bb89_16, 1, none⟩ (.slice r89_15_2 (ApplyToInstance_r0 x0 x1).facts.length r89_15_3)).cell? ⟨bb89_16, k, none⟩ = (Value.agg #[.slice r89_15_0 (ApplyToInstance_r0 x0 x1).rels.length r89_15_1, .slice r89_15_2 (ApplyToInstance_r0 x0 x1).facts.length r89_15_3]).cells[k]? := by
        intro k hk
        rcases (show k = 0 ∨ k = 1 by omega) with rfl | rfl
        · simp [go_sem, Value.cells, kc89_16_0]
        · simp [go_sem, Value.cells, kc89_16_1]
      refine plan_done ?_
      go_wp2
      go_meet
      case rel => exact ⟨bb89_16, .agg #[.slice r89_15_0 (ApplyToInstance_r0 x0 x1).rels.length r89_15_1, .slice r89_15_2 (ApplyToInstance_r0 x0 x1).facts.length r89_15_3], x89_11.heap.size, x89_15.heap.size, rfl, rfl, by omega, by omega, by omega, by omega, by omega, .inr (by omega), bs89_17, Lib.hid ⟨pf89_17, q89_15⟩, Lib.hid kf89_17⟩
    case rest =>
      obtain ⟨bx89, r89, B89, C89, rfl, rfl, z89_a, z89_b, z89_c, z89_d, z89_e, z89_f, hb27, P89, Q89⟩ := hcut
      have z89_g := hb27.size
      obtain ⟨wc89, rfl⟩ : ∃ V, V = wc := ⟨_, rfl⟩
      obtain ⟨p89_0, q89_0⟩ := P89.out
      have NC89_0 := Instance_cnt_le (ApplyToInstance_r0 x0 x1)
      clear P89
      obtain ⟨y94_0, y94_1, y94_2, y94_3, rfl⟩ := Instance_form (p89_0.at_ z89_e)
      have K95 := Lib.hid (show wc89.cell? ⟨bx89, 0, none⟩ = some (.slice y94_0 (ApplyToInstance_r0 x0 x1).rels.length y94_1) from (Q89.out 0 (by decide)).trans rfl)
      have K96 := Lib.hid (show wc89.cell? ⟨bx89, 1, none⟩ = some (.slice y94_2 (ApplyToInstance_r0 x0 x1).facts.length y94_3) from (Q89.out 1 (by decide)).trans rfl)
      clear Q89
      have f97 : wc89.cell? ⟨bx89, 0, none⟩ = some (.slice y94_0 (ApplyToInstance_r0 x0 x1).rels.length y94_1) := K95.out
      have f98 : wc89.cell? ⟨bx89, 1, none⟩ = some (.slice y94_2 (ApplyToInstance_r0 x0 x1).facts.length y94_3) := K96.out
      have c6_27 : Below wc15.heap.size wc15 wc89 := ((((c6_21.trans (hb22.mono (by omega))).trans (hb23.mid_below (by omega) (by omega))).trans (hb24.mono (by omega))).trans (hb27.mono (by omega)))
      have f99 : wc89.cell? ⟨bx15, 0, none⟩ = some (.slice y20_0 (ApplyToInstance_r0 x0 x1).rels.length y20_1) := ((c6_27).cell (p := ⟨bx15, 0, none⟩) (by show bx15 < _; omega)).trans K21.out
      have f100 : wc89.cell? ⟨bx15, 1, none⟩ = some (.slice y20_2 (ApplyToInstance_r0 x0 x1).facts.length y20_3) := ((c6_27).cell (p := ⟨bx15, 1, none⟩) (by show bx15 < _; omega)).trans K22.out
      go_wp2_with fail
      refine (eqInstance_c _ _ (ApplyToInstance_r0 x0 x1) _ ((p89_0.below (Below.refl wc89.heap.size wc89) (by omega)).at_ (by omega)) ((p15_0.below c6_27 (Nat.le_refl _)).more c6_27.size)).mono ?_
      rintro e w28 ⟨rfl, hb28⟩
      have z28 : wc89.heap.size ≤ w28.heap.size := hb28.size
      clear f97 f98 f99 f100
      have c23_28 : Below w23.heap.size w23 w28 := ((hb24.trans (hb27.mono (by omega))).trans (hb28.mono (by omega)))
      have f101 : w28.cell? ⟨w11.heap.size, 0, none⟩ = some (.slice y40_0 (ApplyToInstance_r0 x0 x1).rels.length y40_1) := ((c23_28).cell (p := ⟨w11.heap.size, 0, none⟩) (by show w11.heap.size < _; omega)).trans K85.out
      have f102 : w28.cell? ⟨w11.heap.size, 1, none⟩ = some (.slice y40_2 (ApplyToInstance_r0 x0 x1).facts.length y40_3) := ((c23_28).cell (p := ⟨w11.heap.size, 1, none⟩) (by show w11.heap.size < _; omega)).trans K86.out
      go_wp2_with fail
      refine (heldInstance_c _ (ApplyToInstance_r0 x0 x1) (1) _ ((om23.below c23_28 (by omega)).at_ (by omega)) q89_0 (by omega) (by omega)).mono ?_
      rintro e w29 ⟨rfl, hb29⟩
      have z29 : w28.heap.size ≤ w29.heap.size := hb29.size
      clear f101 f102
      have c0_29 : Below w.heap.size w w29 := (((c0_24.trans (hb27.mono (by omega))).trans (hb28.mono (by omega))).trans (hb29.mono (by omega)))
      go_wp2
      go_ret
      exact ⟨rfl, c0_29⟩

theorem ty : ∀ t ∈ Tryz.f3.params.toList, Tryz.prog.readableRec t = true ∧ t < Tryz.prog.types.size := by
  rw [Tryz.params3]; intro t ht
  simp only [List.mem_cons, List.not_mem_nil, or_false] at ht
  rcases ht with rfl | rfl <;> exact ⟨by kernel_rfl, of_decide_eq_true (by kernel_rfl)⟩
set_option maxRecDepth 100000 in
theorem lifted (os : Os) (started : os.Started) (H : Type) (enc : TypeId × Value → H) :
    ReturnsInHanded {} Tryz.checked os 3 .any (Rows.fnExactApplyToInstanceSpec.pre6 enc Tryz.prog Tryz.f3 Rows.fnExactApplyToInstanceRow.domain false) (Rows.fnExactApplyToInstanceSpec.post enc Tryz.prog Tryz.f3 false true false false) := by
  refine returnsInHanded_of_change (C := Tryz.checked) ownFact started (by kernel_rfl) Tryz.func3
    (ChangeSpec.witness6 (enc := enc) (C := Tryz.checked) false ⟨#[], #[.agg #[.slice none 0 0, .slice none 0 0], .agg #[.slice none 0 0, .slice none 0 0]], []⟩ 8 (by kernel_rfl) (by kernel_rfl) (by kernel_rfl) (by kernel_rfl)) ?_
  intro W base args ds gs before hval0 hW hcnd _
  have hval : ∀ (j : Nat) t v, Tryz.f3.params[j]? = some t → args[j]? = some v → Value.okWide Tryz.prog W .any base t v := hval0
  have hW' := hW
  obtain ⟨p, q, hA0, hV, _, hfz, hnd⟩ := hW
  have hA : DataW.TrodAll enc Tryz.prog W 0 (fun _ => true) true Tryz.f3.params.toList args.toList ds p := hA0
  rw [Tryz.params3] at hA hval
  obtain ⟨v0, vs0, d0, ds0, p0, q0, hargs, rfl, _, h0, r0⟩ := trodAll_cons hA
  obtain ⟨v1, vs1, d1, ds1, p1, q1, rfl, rfl, _, h1, r1⟩ := trodAll_cons r0
  obtain ⟨rfl, rfl, _⟩ := trodAll_nil r1
  obtain rfl : args = #[v0, v1] := by cases args; simp_all
  obtain ⟨rfl, _⟩ := trodVars_none hV
  obtain ⟨x0, hx0, hwx0⟩ := open_Substitution (hval 0 _ v0 rfl rfl) h0 (DataW.TrodAll.lt (trodAll_mk1 h0))
  obtain ⟨x1, hx1, hwx1⟩ := open_Instance (hval 1 _ v1 rfl rfl) h1 (DataW.TrodAll.lt (trodAll_mk1 h1))
  refine (walk v0 x0 v1 x1 W hx0 hwx0 hx1 hwx1).mono fun e W' ⟨he, hb⟩ => ?_
  subst he
  exact ⟨_, rfl, law_post laidFact ty Tryz.underlying4 (by kernel_rfl) rfl hW' rfl hb⟩
theorem holds : Rows.FnExactApplyToInstanceSaid :=
  OpenClaim.holds_of_wide 3 Tryz.f3 rfl rfl rfl rfl rfl rfl rfl ⟨rfl, rfl, rfl, rfl, rfl⟩ rfl rfl rfl rfl rfl (by kernel_rfl) Tryz.func3 (by kernel_rfl)
    (of_decide_eq_true (by kernel_rfl)) (by unfold Func.isWrapper; first | (rw [if_pos (by decide +kernel)]; kernel_rfl) | (rw [if_neg (by decide +kernel)]; exact ⟨rfl, rfl⟩))
    (fun os started H enc _ => lifted os started H enc)
end lawFnExactApplyToInstance

end Go.Proofs.YtchlelkhpahakaaGreat
