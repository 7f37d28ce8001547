/-
  FnExactIsHomomorphism: for every argument the translated law returns true, and each argument reads afterwards as it read before. Conditions: none beyond the given row's own.
-/
import Derived.Test.YteogknfhafdbmaaGreatPlan
import Derived.Test.YteogknfhafdbmaaGreatInstC
import Derived.Test.YteogknfhafdbmaaGreatSubsC
import Derived.Test.YteogknfhafdbmaaGreatHomS
import Derived.Test.YteogknfhafdbmaaGreatHomI
import Derived.Test.YteogknfhafdbmaaGreatLift
namespace Go.Proofs.YteogknfhafdbmaaGreat
open Go.RowKit Go.ChangeShapes Go.WideShapes Go.ChangeAt Go.ChangeMaps

namespace lawFnExactIsHomomorphism

set_option maxRecDepth 100000 in
set_option maxHeartbeats 1600000 in
theorem walk (v0 : Value) (x0 : Inst) (v1 : Value) (x1 : Inst) (v2 : Value) (x2 : Sbst) (w : World) (h0 : Instance_at w w.heap.size v0 x0) (hw0 : Instance_wf x0) (h1 : Instance_at w w.heap.size v1 x1) (hw1 : Instance_wf x1) (h2 : Substitution_at w w.heap.size v2 x2) (hw2 : Substitution_wf x2) :
    Calls Tryz.prog 3 #[v0, v1, v2] w fun e w' => e = .returned (.bool true) ∧ Below w.heap.size w w' := by
  obtain ⟨v0_0, v0_1, v0_2, v0_3, rfl⟩ := Instance_form h0
  have A0 := Lib.hid h0
  have W0 := Lib.hid hw0
  clear h0 hw0
  obtain ⟨v1_0, v1_1, v1_2, v1_3, rfl⟩ := Instance_form h1
  have A1 := Lib.hid h1
  have W1 := Lib.hid hw1
  clear h1 hw1
  obtain ⟨v2_0, v2_1, v2_2, v2_3, rfl⟩ := Substitution_form h2
  have A2 := Lib.hid h2
  have W2 := Lib.hid hw2
  clear h2 hw2
  by_cases hz1 : ((Instance_sz x0 : Nat) : Int) ≤ 1048576
  rotate_left
  · skip
    have e1 := szLeft_no hz1
    have hb1 : Below w.heap.size w (((w.alloc (.cells #[.slice v0_0 x0.rels.length v0_1, .slice v0_2 x0.facts.length v0_3] 25)).alloc (.cells #[.slice v1_0 x1.rels.length v1_1, .slice v1_2 x1.facts.length v1_3] 25)).alloc (.cells #[.slice v2_0 x2.nulls.length v2_1, .slice v2_2 x2.vals.length v2_3] 28)) := below_more (below_more (below_more (Below.refl _ _) _) _) _
    have z1 : w.heap.size + 3 ≤ (((w.alloc (.cells #[.slice v0_0 x0.rels.length v0_1, .slice v0_2 x0.facts.length v0_3] 25)).alloc (.cells #[.slice v1_0 x1.rels.length v1_1, .slice v1_2 x1.facts.length v1_3] 25)).alloc (.cells #[.slice v2_0 x2.nulls.length v2_1, .slice v2_2 x2.vals.length v2_3] 28)).heap.size := by simp
    have K1 := Lib.hid (show (((w.alloc (.cells #[.slice v0_0 x0.rels.length v0_1, .slice v0_2 x0.facts.length v0_3] 25)).alloc (.cells #[.slice v1_0 x1.rels.length v1_1, .slice v1_2 x1.facts.length v1_3] 25)).alloc (.cells #[.slice v2_0 x2.nulls.length v2_1, .slice v2_2 x2.vals.length v2_3] 28)).cell? ⟨w.heap.size, 0, none⟩ = some (.slice v0_0 x0.rels.length v0_1) by simp [go_sem])
    have K2 := Lib.hid (show (((w.alloc (.cells #[.slice v0_0 x0.rels.length v0_1, .slice v0_2 x0.facts.length v0_3] 25)).alloc (.cells #[.slice v1_0 x1.rels.length v1_1, .slice v1_2 x1.facts.length v1_3] 25)).alloc (.cells #[.slice v2_0 x2.nulls.length v2_1, .slice v2_2 x2.vals.length v2_3] 28)).cell? ⟨w.heap.size, 1, none⟩ = some (.slice v0_2 x0.facts.length v0_3) by simp [go_sem])
    have K3 := Lib.hid (show (((w.alloc (.cells #[.slice v0_0 x0.rels.length v0_1, .slice v0_2 x0.facts.length v0_3] 25)).alloc (.cells #[.slice v1_0 x1.rels.length v1_1, .slice v1_2 x1.facts.length v1_3] 25)).alloc (.cells #[.slice v2_0 x2.nulls.length v2_1, .slice v2_2 x2.vals.length v2_3] 28)).cell? ⟨w.heap.size + 1, 0, none⟩ = some (.slice v1_0 x1.rels.length v1_1) by simp [go_sem])
    have K4 := Lib.hid (show (((w.alloc (.cells #[.slice v0_0 x0.rels.length v0_1, .slice v0_2 x0.facts.length v0_3] 25)).alloc (.cells #[.slice v1_0 x1.rels.length v1_1, .slice v1_2 x1.facts.length v1_3] 25)).alloc (.cells #[.slice v2_0 x2.nulls.length v2_1, .slice v2_2 x2.vals.length v2_3] 28)).cell? ⟨w.heap.size + 1, 1, none⟩ = some (.slice v1_2 x1.facts.length v1_3) by simp [go_sem])
    have K5 := Lib.hid (show (((w.alloc (.cells #[.slice v0_0 x0.rels.length v0_1, .slice v0_2 x0.facts.length v0_3] 25)).alloc (.cells #[.slice v1_0 x1.rels.length v1_1, .slice v1_2 x1.facts.length v1_3] 25)).alloc (.cells #[.slice v2_0 x2.nulls.length v2_1, .slice v2_2 x2.vals.length v2_3] 28)).cell? ⟨w.heap.size + 1 + 1, 0, none⟩ = some (.slice v2_0 x2.nulls.length v2_1) by simp [go_sem])
    have K6 := Lib.hid (show (((w.alloc (.cells #[.slice v0_0 x0.rels.length v0_1, .slice v0_2 x0.facts.length v0_3] 25)).alloc (.cells #[.slice v1_0 x1.rels.length v1_1, .slice v1_2 x1.facts.length v1_3] 25)).alloc (.cells #[.slice v2_0 x2.nulls.length v2_1, .slice v2_2 x2.vals.length v2_3] 28)).cell? ⟨w.heap.size + 1 + 1, 1, none⟩ = some (.slice v2_2 x2.vals.length v2_3) by simp [go_sem])
    go_enter Tryz.func3, Tryz.ntmps3
    have f7 : (((w.alloc (.cells #[.slice v0_0 x0.rels.length v0_1, .slice v0_2 x0.facts.length v0_3] 25)).alloc (.cells #[.slice v1_0 x1.rels.length v1_1, .slice v1_2 x1.facts.length v1_3] 25)).alloc (.cells #[.slice v2_0 x2.nulls.length v2_1, .slice v2_2 x2.vals.length v2_3] 28)).cell? ⟨w.heap.size, 0, none⟩ = some (.slice v0_0 x0.rels.length v0_1) := K1.out
    have f8 : (((w.alloc (.cells #[.slice v0_0 x0.rels.length v0_1, .slice v0_2 x0.facts.length v0_3] 25)).alloc (.cells #[.slice v1_0 x1.rels.length v1_1, .slice v1_2 x1.facts.length v1_3] 25)).alloc (.cells #[.slice v2_0 x2.nulls.length v2_1, .slice v2_2 x2.vals.length v2_3] 28)).cell? ⟨w.heap.size, 1, none⟩ = some (.slice v0_2 x0.facts.length v0_3) := K2.out
    have c0_1 : Below w.heap.size w (((w.alloc (.cells #[.slice v0_0 x0.rels.length v0_1, .slice v0_2 x0.facts.length v0_3] 25)).alloc (.cells #[.slice v1_0 x1.rels.length v1_1, .slice v1_2 x1.facts.length v1_3] 25)).alloc (.cells #[.slice v2_0 x2.nulls.length v2_1, .slice v2_2 x2.vals.length v2_3] 28)) := hb1
    go_wp2_with fail
    refine (szInstance_c _ x0 (1048576) _ ((A0.out.below c0_1 (Nat.le_refl _)).more c0_1.size) W0.out (by omega) (by omega)).mono ?_
    rw [e1]
    rintro e w2 ⟨rfl, hb2⟩
    have z2 : (((w.alloc (.cells #[.slice v0_0 x0.rels.length v0_1, .slice v0_2 x0.facts.length v0_3] 25)).alloc (.cells #[.slice v1_0 x1.rels.length v1_1, .slice v1_2 x1.facts.length v1_3] 25)).alloc (.cells #[.slice v2_0 x2.nulls.length v2_1, .slice v2_2 x2.vals.length v2_3] 28)).heap.size ≤ w2.heap.size := hb2.size
    clear f7 f8
    have c0_2 : Below w.heap.size w w2 := (c0_1.trans (hb2.mono (by omega)))
    go_wp2
    go_ret
    exact ⟨rfl, c0_2⟩
  by_cases hz2 : ((Instance_sz x1 : Nat) : Int) ≤ 1048576 - (Instance_sz x0 : Nat)
  rotate_left
  · skip
    have e1 := szLeft_yes hz1
    have e2 := szLeft_no hz2
    have hb1 : Below w.heap.size w (((w.alloc (.cells #[.slice v0_0 x0.rels.length v0_1, .slice v0_2 x0.facts.length v0_3] 25)).alloc (.cells #[.slice v1_0 x1.rels.length v1_1, .slice v1_2 x1.facts.length v1_3] 25)).alloc (.cells #[.slice v2_0 x2.nulls.length v2_1, .slice v2_2 x2.vals.length v2_3] 28)) := below_more (below_more (below_more (Below.refl _ _) _) _) _
    have z1 : w.heap.size + 3 ≤ (((w.alloc (.cells #[.slice v0_0 x0.rels.length v0_1, .slice v0_2 x0.facts.length v0_3] 25)).alloc (.cells #[.slice v1_0 x1.rels.length v1_1, .slice v1_2 x1.facts.length v1_3] 25)).alloc (.cells #[.slice v2_0 x2.nulls.length v2_1, .slice v2_2 x2.vals.length v2_3] 28)).heap.size := by simp
    have K1 := Lib.hid (show (((w.alloc (.cells #[.slice v0_0 x0.rels.length v0_1, .slice v0_2 x0.facts.length v0_3] 25)).alloc (.cells #[.slice v1_0 x1.rels.length v1_1, .slice v1_2 x1.facts.length v1_3] 25)).alloc (.cells #[.slice v2_0 x2.nulls.length v2_1, .slice v2_2 x2.vals.length v2_3] 28)).cell? ⟨w.heap.size, 0, none⟩ = some (.slice v0_0 x0.rels.length v0_1) by simp [go_sem])
    have K2 := Lib.hid (show (((w.alloc (.cells #[.slice v0_0 x0.rels.length v0_1, .slice v0_2 x0.facts.length v0_3] 25)).alloc (.cells #[.slice v1_0 x1.rels.length v1_1, .slice v1_2 x1.facts.length v1_3] 25)).alloc (.cells #[.slice v2_0 x2.nulls.length v2_1, .slice v2_2 x2.vals.length v2_3] 28)).cell? ⟨w.heap.size, 1, none⟩ = some (.slice v0_2 x0.facts.length v0_3) by simp [go_sem])
    have K3 := Lib.hid (show (((w.alloc (.cells #[.slice v0_0 x0.rels.length v0_1, .slice v0_2 x0.facts.length v0_3] 25)).alloc (.cells #[.slice v1_0 x1.rels.length v1_1, .slice v1_2 x1.facts.length v1_3] 25)).alloc (.cells #[.slice v2_0 x2.nulls.length v2_1, .slice v2_2 x2.vals.length v2_3] 28)).cell? ⟨w.heap.size + 1, 0, none⟩ = some (.slice v1_0 x1.rels.length v1_1) by simp [go_sem])
    have K4 := Lib.hid (show (((w.alloc (.cells #[.slice v0_0 x0.rels.length v0_1, .slice v0_2 x0.facts.length v0_3] 25)).alloc (.cells #[.slice v1_0 x1.rels.length v1_1, .slice v1_2 x1.facts.length v1_3] 25)).alloc (.cells #[.slice v2_0 x2.nulls.length v2_1, .slice v2_2 x2.vals.length v2_3] 28)).cell? ⟨w.heap.size + 1, 1, none⟩ = some (.slice v1_2 x1.facts.length v1_3) by simp [go_sem])
    have K5 := Lib.hid (show (((w.alloc (.cells #[.slice v0_0 x0.rels.length v0_1, .slice v0_2 x0.facts.length v0_3] 25)).alloc (.cells #[.slice v1_0 x1.rels.length v1_1, .slice v1_2 x1.facts.length v1_3] 25)).alloc (.cells #[.slice v2_0 x2.nulls.length v2_1, .slice v2_2 x2.vals.length v2_3] 28)).cell? ⟨w.heap.size + 1 + 1, 0, none⟩ = some (.slice v2_0 x2.nulls.length v2_1) by simp [go_sem])
    have K6 := Lib.hid (show (((w.alloc (.cells #[.slice v0_0 x0.rels.length v0_1, .slice v0_2 x0.facts.length v0_3] 25)).alloc (.cells #[.slice v1_0 x1.rels.length v1_1, .slice v1_2 x1.facts.length v1_3] 25)).alloc (.cells #[.slice v2_0 x2.nulls.length v2_1, .slice v2_2 x2.vals.length v2_3] 28)).cell? ⟨w.heap.size + 1 + 1, 1, none⟩ = some (.slice v2_2 x2.vals.length v2_3) by simp [go_sem])
    go_enter Tryz.func3, Tryz.ntmps3
    have f9 : (((w.alloc (.cells #[.slice v0_0 x0.rels.length v0_1, .slice v0_2 x0.facts.length v0_3] 25)).alloc (.cells #[.slice v1_0 x1.rels.length v1_1, .slice v1_2 x1.facts.length v1_3] 25)).alloc (.cells #[.slice v2_0 x2.nulls.length v2_1, .slice v2_2 x2.vals.length v2_3] 28)).cell? ⟨w.heap.size, 0, none⟩ = some (.slice v0_0 x0.rels.length v0_1) := K1.out
    have f10 : (((w.alloc (.cells #[.slice v0_0 x0.rels.length v0_1, .slice v0_2 x0.facts.length v0_3] 25)).alloc (.cells #[.slice v1_0 x1.rels.length v1_1, .slice v1_2 x1.facts.length v1_3] 25)).alloc (.cells #[.slice v2_0 x2.nulls.length v2_1, .slice v2_2 x2.vals.length v2_3] 28)).cell? ⟨w.heap.size, 1, none⟩ = some (.slice v0_2 x0.facts.length v0_3) := K2.out
    have c0_1 : Below w.heap.size w (((w.alloc (.cells #[.slice v0_0 x0.rels.length v0_1, .slice v0_2 x0.facts.length v0_3] 25)).alloc (.cells #[.slice v1_0 x1.rels.length v1_1, .slice v1_2 x1.facts.length v1_3] 25)).alloc (.cells #[.slice v2_0 x2.nulls.length v2_1, .slice v2_2 x2.vals.length v2_3] 28)) := hb1
    go_wp2_with fail
    refine (szInstance_c _ x0 (1048576) _ ((A0.out.below c0_1 (Nat.le_refl _)).more c0_1.size) W0.out (by omega) (by omega)).mono ?_
    rw [e1]
    rintro e w2 ⟨rfl, hb2⟩
    have z2 : (((w.alloc (.cells #[.slice v0_0 x0.rels.length v0_1, .slice v0_2 x0.facts.length v0_3] 25)).alloc (.cells #[.slice v1_0 x1.rels.length v1_1, .slice v1_2 x1.facts.length v1_3] 25)).alloc (.cells #[.slice v2_0 x2.nulls.length v2_1, .slice v2_2 x2.vals.length v2_3] 28)).heap.size ≤ w2.heap.size := hb2.size
    clear f9 f10
    have c1_2 : Below (((w.alloc (.cells #[.slice v0_0 x0.rels.length v0_1, .slice v0_2 x0.facts.length v0_3] 25)).alloc (.cells #[.slice v1_0 x1.rels.length v1_1, .slice v1_2 x1.facts.length v1_3] 25)).alloc (.cells #[.slice v2_0 x2.nulls.length v2_1, .slice v2_2 x2.vals.length v2_3] 28)).heap.size (((w.alloc (.cells #[.slice v0_0 x0.rels.length v0_1, .slice v0_2 x0.facts.length v0_3] 25)).alloc (.cells #[.slice v1_0 x1.rels.length v1_1, .slice v1_2 x1.facts.length v1_3] 25)).alloc (.cells #[.slice v2_0 x2.nulls.length v2_1, .slice v2_2 x2.vals.length v2_3] 28)) w2 := hb2
    have f11 : w2.cell? ⟨w.heap.size + 1, 0, none⟩ = some (.slice v1_0 x1.rels.length v1_1) := ((c1_2).cell (p := ⟨w.heap.size + 1, 0, none⟩) (by show w.heap.size + 1 < _; omega)).trans K3.out
    have f12 : w2.cell? ⟨w.heap.size + 1, 1, none⟩ = some (.slice v1_2 x1.facts.length v1_3) := ((c1_2).cell (p := ⟨w.heap.size + 1, 1, none⟩) (by show w.heap.size + 1 < _; omega)).trans K4.out
    have c0_2 : Below w.heap.size w w2 := (c0_1.trans (hb2.mono (by omega)))
    go_wp2_with fail
    refine (szInstance_c _ x1 (1048576 - (Instance_sz x0 : Nat)) _ ((A1.out.below c0_2 (Nat.le_refl _)).more c0_2.size) W1.out (by omega) (by omega)).mono ?_
    rw [e2]
    rintro e w3 ⟨rfl, hb3⟩
    have z3 : w2.heap.size ≤ w3.heap.size := hb3.size
    clear f11 f12
    have c0_3 : Below w.heap.size w w3 := (c0_2.trans (hb3.mono (by omega)))
    go_wp2
    go_ret
    exact ⟨rfl, c0_3⟩
  by_cases hz3 : ((Substitution_sz x2 : Nat) : Int) ≤ 1048576 - (Instance_sz x0 : Nat) - (Instance_sz x1 : Nat)
  rotate_left
  · skip
    have e1 := szLeft_yes hz1
    have e2 := szLeft_yes hz2
    have e3 := szLeft_no hz3
    have hb1 : Below w.heap.size w (((w.alloc (.cells #[.slice v0_0 x0.rels.length v0_1, .slice v0_2 x0.facts.length v0_3] 25)).alloc (.cells #[.slice v1_0 x1.rels.length v1_1, .slice v1_2 x1.facts.length v1_3] 25)).alloc (.cells #[.slice v2_0 x2.nulls.length v2_1, .slice v2_2 x2.vals.length v2_3] 28)) := below_more (below_more (below_more (Below.refl _ _) _) _) _
    have z1 : w.heap.size + 3 ≤ (((w.alloc (.cells #[.slice v0_0 x0.rels.length v0_1, .slice v0_2 x0.facts.length v0_3] 25)).alloc (.cells #[.slice v1_0 x1.rels.length v1_1, .slice v1_2 x1.facts.length v1_3] 25)).alloc (.cells #[.slice v2_0 x2.nulls.length v2_1, .slice v2_2 x2.vals.length v2_3] 28)).heap.size := by simp
    have K1 := Lib.hid (show (((w.alloc (.cells #[.slice v0_0 x0.rels.length v0_1, .slice v0_2 x0.facts.length v0_3] 25)).alloc (.cells #[.slice v1_0 x1.rels.length v1_1, .slice v1_2 x1.facts.length v1_3] 25)).alloc (.cells #[.slice v2_0 x2.nulls.length v2_1, .slice v2_2 x2.vals.length v2_3] 28)).cell? ⟨w.heap.size, 0, none⟩ = some (.slice v0_0 x0.rels.length v0_1) by simp [go_sem])
    have K2 := Lib.hid (show (((w.alloc (.cells #[.slice v0_0 x0.rels.length v0_1, .slice v0_2 x0.facts.length v0_3] 25)).alloc (.cells #[.slice v1_0 x1.rels.length v1_1, .slice v1_2 x1.facts.length v1_3] 25)).alloc (.cells #[.slice v2_0 x2.nulls.length v2_1, .slice v2_2 x2.vals.length v2_3] 28)).cell? ⟨w.heap.size, 1, none⟩ = some (.slice v0_2 x0.facts.length v0_3) by simp [go_sem])
    have K3 := Lib.hid (show (((w.alloc (.cells #[.slice v0_0 x0.rels.length v0_1, .slice v0_2 x0.facts.length v0_3] 25)).alloc (.cells #[.slice v1_0 x1.rels.length v1_1, .slice v1_2 x1.facts.length v1_3] 25)).alloc (.cells #[.slice v2_0 x2.nulls.length v2_1, .slice v2_2 x2.vals.length v2_3] 28)).cell? ⟨w.heap.size + 1, 0, none⟩ = some (.slice v1_0 x1.rels.length v1_1) by simp [go_sem])
    have K4 := Lib.hid (show (((w.alloc (.cells #[.slice v0_0 x0.rels.length v0_1, .slice v0_2 x0.facts.length v0_3] 25)).alloc (.cells #[.slice v1_0 x1.rels.length v1_1, .slice v1_2 x1.facts.length v1_3] 25)).alloc (.cells #[.slice v2_0 x2.nulls.length v2_1, .slice v2_2 x2.vals.length v2_3] 28)).cell? ⟨w.heap.size + 1, 1, none⟩ = some (.slice v1_2 x1.facts.length v1_3) by simp [go_sem])
    have K5 := Lib.hid (show (((w.alloc (.cells #[.slice v0_0 x0.rels.length v0_1, .slice v0_2 x0.facts.length v0_3] 25)).alloc (.cells #[.slice v1_0 x1.rels.length v1_1, .slice v1_2 x1.facts.length v1_3] 25)).alloc (.cells #[.slice v2_0 x2.nulls.length v2_1, .slice v2_2 x2.vals.length v2_3] 28)).cell? ⟨w.heap.size + 1 + 1, 0, none⟩ = some (.slice v2_0 x2.nulls.length v2_1) by simp [go_sem])
    have K6 := Lib.hid (show (((w.alloc (.cells #[.slice v0_0 x0.rels.length v0_1, .slice v0_2 x0.facts.length v0_3] 25)).alloc (.cells #[.slice v1_0 x1.rels.length v1_1, .slice v1_2 x1.facts.length v1_3] 25)).alloc (.cells #[.slice v2_0 x2.nulls.length v2_1, .slice v2_2 x2.vals.length v2_3] 28)).cell? ⟨w.heap.size + 1 + 1, 1, none⟩ = some (.slice v2_2 x2.vals.length v2_3) by simp [go_sem])
    go_enter Tryz.func3, Tryz.ntmps3
    have f13 : (((w.alloc (.cells #[.slice v0_0 x0.rels.length v0_1, .slice v0_2 x0.facts.length v0_3] 25)).alloc (.cells #[.slice v1_0 x1.rels.length v1_1, .slice v1_2 x1.facts.length v1_3] 25)).alloc (.cells #[.slice v2_0 x2.nulls.length v2_1, .slice v2_2 x2.vals.length v2_3] 28)).cell? ⟨w.heap.size, 0, none⟩ = some (.slice v0_0 x0.rels.length v0_1) := K1.out
    have f14 : (((w.alloc (.cells #[.slice v0_0 x0.rels.length v0_1, .slice v0_2 x0.facts.length v0_3] 25)).alloc (.cells #[.slice v1_0 x1.rels.length v1_1, .slice v1_2 x1.facts.length v1_3] 25)).alloc (.cells #[.slice v2_0 x2.nulls.length v2_1, .slice v2_2 x2.vals.length v2_3] 28)).cell? ⟨w.heap.size, 1, none⟩ = some (.slice v0_2 x0.facts.length v0_3) := K2.out
    have c0_1 : Below w.heap.size w (((w.alloc (.cells #[.slice v0_0 x0.rels.length v0_1, .slice v0_2 x0.facts.length v0_3] 25)).alloc (.cells #[.slice v1_0 x1.rels.length v1_1, .slice v1_2 x1.facts.length v1_3] 25)).alloc (.cells #[.slice v2_0 x2.nulls.length v2_1, .slice v2_2 x2.vals.length v2_3] 28)) := hb1
    go_wp2_with fail
    refine (szInstance_c _ x0 (1048576) _ ((A0.out.below c0_1 (Nat.le_refl _)).more c0_1.size) W0.out (by omega) (by omega)).mono ?_
    rw [e1]
    rintro e w2 ⟨rfl, hb2⟩
    have z2 : (((w.alloc (.cells #[.slice v0_0 x0.rels.length v0_1, .slice v0_2 x0.facts.length v0_3] 25)).alloc (.cells #[.slice v1_0 x1.rels.length v1_1, .slice v1_2 x1.facts.length v1_3] 25)).alloc (.cells #[.slice v2_0 x2.nulls.length v2_1, .slice v2_2 x2.vals.length v2_3] 28)).heap.size ≤ w2.heap.size := hb2.size
    clear f13 f14
    have c1_2 : Below (((w.alloc (.cells #[.slice v0_0 x0.rels.length v0_1, .slice v0_2 x0.facts.length v0_3] 25)).alloc (.cells #[.slice v1_0 x1.rels.length v1_1, .slice v1_2 x1.facts.length v1_3] 25)).alloc (.cells #[.slice v2_0 x2.nulls.length v2_1, .slice v2_2 x2.vals.length v2_3] 28)).heap.size (((w.alloc (.cells #[.slice v0_0 x0.rels.length v0_1, .slice v0_2 x0.facts.length v0_3] 25)).alloc (.cells #[.slice v1_0 x1.rels.length v1_1, .slice v1_2 x1.facts.length v1_3] 25)).alloc (.cells #[.slice v2_0 x2.nulls.length v2_1, .slice v2_2 x2.vals.length v2_3] 28)) w2 := hb2
    have f15 : w2.cell? ⟨w.heap.size + 1, 0, none⟩ = some (.slice v1_0 x1.rels.length v1_1) := ((c1_2).cell (p := ⟨w.heap.size + 1, 0, none⟩) (by show w.heap.size + 1 < _; omega)).trans K3.out
    have f16 : w2.cell? ⟨w.heap.size + 1, 1, none⟩ = some (.slice v1_2 x1.facts.length v1_3) := ((c1_2).cell (p := ⟨w.heap.size + 1, 1, none⟩) (by show w.heap.size + 1 < _; omega)).trans K4.out
    have c0_2 : Below w.heap.size w w2 := (c0_1.trans (hb2.mono (by omega)))
    go_wp2_with fail
    refine (szInstance_c _ x1 (1048576 - (Instance_sz x0 : Nat)) _ ((A1.out.below c0_2 (Nat.le_refl _)).more c0_2.size) W1.out (by omega) (by omega)).mono ?_
    rw [e2]
    rintro e w3 ⟨rfl, hb3⟩
    have z3 : w2.heap.size ≤ w3.heap.size := hb3.size
    clear f15 f16
    have c1_3 : Below (((w.alloc (.cells #[.slice v0_0 x0.rels.length v0_1, .slice v0_2 x0.facts.length v0_3] 25)).alloc (.cells #[.slice v1_0 x1.rels.length v1_1, .slice v1_2 x1.facts.length v1_3] 25)).alloc (.cells #[.slice v2_0 x2.nulls.length v2_1, .slice v2_2 x2.vals.length v2_3] 28)).heap.size (((w.alloc (.cells #[.slice v0_0 x0.rels.length v0_1, .slice v0_2 x0.facts.length v0_3] 25)).alloc (.cells #[.slice v1_0 x1.rels.length v1_1, .slice v1_2 x1.facts.length v1_3] 25)).alloc (.cells #[.slice v2_0 x2.nulls.length v2_1, .slice v2_2 x2.vals.length v2_3] 28)) w3 := (c1_2.trans (hb3.mono (by omega)))
    have f17 : w3.cell? ⟨w.heap.size + 1 + 1, 0, none⟩ = some (.slice v2_0 x2.nulls.length v2_1) := ((c1_3).cell (p := ⟨w.heap.size + 1 + 1, 0, none⟩) (by show w.heap.size + 1 + 1 < _; omega)).trans K5.out
    have f18 : w3.cell? ⟨w.heap.size + 1 + 1, 1, none⟩ = some (.slice v2_2 x2.vals.length v2_3) := ((c1_3).cell (p := ⟨w.heap.size + 1 + 1, 1, none⟩) (by show w.heap.size + 1 + 1 < _; omega)).trans K6.out
    have c0_3 : Below w.heap.size w w3 := (c0_2.trans (hb3.mono (by omega)))
    go_wp2_with fail
    refine (szSubstitution_c _ x2 (1048576 - (Instance_sz x0 : Nat) - (Instance_sz x1 : Nat)) _ ((A2.out.below c0_3 (Nat.le_refl _)).more c0_3.size) W2.out (by omega) (by omega)).mono ?_
    rw [e3]
    rintro e w4 ⟨rfl, hb4⟩
    have z4 : w3.heap.size ≤ w4.heap.size := hb4.size
    clear f17 f18
    have c0_4 : Below w.heap.size w w4 := (c0_3.trans (hb4.mono (by omega)))
    go_wp2
    go_ret
    exact ⟨rfl, c0_4⟩
  have e1 := szLeft_yes hz1
  have S0 : Instance_sz x0 ≤ 1048576 := by omega
  have N0 := Instance_cnt_le x0
  have e2 := szLeft_yes hz2
  have S1 : Instance_sz x1 ≤ 1048576 := by omega
  have N1 := Instance_cnt_le x1
  have e3 := szLeft_yes hz3
  have S2 : Substitution_sz x2 ≤ 1048576 := by omega
  have N2 := Substitution_cnt_le x2
  have hb1 : Below w.heap.size w (((w.alloc (.cells #[.slice v0_0 x0.rels.length v0_1, .slice v0_2 x0.facts.length v0_3] 25)).alloc (.cells #[.slice v1_0 x1.rels.length v1_1, .slice v1_2 x1.facts.length v1_3] 25)).alloc (.cells #[.slice v2_0 x2.nulls.length v2_1, .slice v2_2 x2.vals.length v2_3] 28)) := below_more (below_more (below_more (Below.refl _ _) _) _) _
  have z1 : w.heap.size + 3 ≤ (((w.alloc (.cells #[.slice v0_0 x0.rels.length v0_1, .slice v0_2 x0.facts.length v0_3] 25)).alloc (.cells #[.slice v1_0 x1.rels.length v1_1, .slice v1_2 x1.facts.length v1_3] 25)).alloc (.cells #[.slice v2_0 x2.nulls.length v2_1, .slice v2_2 x2.vals.length v2_3] 28)).heap.size := by simp
  have K1 := Lib.hid (show (((w.alloc (.cells #[.slice v0_0 x0.rels.length v0_1, .slice v0_2 x0.facts.length v0_3] 25)).alloc (.cells #[.slice v1_0 x1.rels.length v1_1, .slice v1_2 x1.facts.length v1_3] 25)).alloc (.cells #[.slice v2_0 x2.nulls.length v2_1, .slice v2_2 x2.vals.length v2_3] 28)).cell? ⟨w.heap.size, 0, none⟩ = some (.slice v0_0 x0.rels.length v0_1) by simp [go_sem])
  have K2 := Lib.hid (show (((w.alloc (.cells #[.slice v0_0 x0.rels.length v0_1, .slice v0_2 x0.facts.length v0_3] 25)).alloc (.cells #[.slice v1_0 x1.rels.length v1_1, .slice v1_2 x1.facts.length v1_3] 25)).alloc (.cells #[.slice v2_0 x2.nulls.length v2_1, .slice v2_2 x2.vals.length v2_3] 28)).cell? ⟨w.heap.size, 1, none⟩ = some (.slice v0_2 x0.facts.length v0_3) by simp [go_sem])
  have K3 := Lib.hid (show (((w.alloc (.cells #[.slice v0_0 x0.rels.length v0_1, .slice v0_2 x0.facts.length v0_3] 25)).alloc (.cells #[.slice v1_0 x1.rels.length v1_1, .slice v1_2 x1.facts.length v1_3] 25)).alloc (.cells #[.slice v2_0 x2.nulls.length v2_1, .slice v2_2 x2.vals.length v2_3] 28)).cell? ⟨w.heap.size + 1, 0, none⟩ = some (.slice v1_0 x1.rels.length v1_1) by simp [go_sem])
  have K4 := Lib.hid (show (((w.alloc (.cells #[.slice v0_0 x0.rels.length v0_1, .slice v0_2 x0.facts.length v0_3] 25)).alloc (.cells #[.slice v1_0 x1.rels.length v1_1, .slice v1_2 x1.facts.length v1_3] 25)).alloc (.cells #[.slice v2_0 x2.nulls.length v2_1, .slice v2_2 x2.vals.length v2_3] 28)).cell? ⟨w.heap.size + 1, 1, none⟩ = some (.slice v1_2 x1.facts.length v1_3) by simp [go_sem])
  have K5 := Lib.hid (show (((w.alloc (.cells #[.slice v0_0 x0.rels.length v0_1, .slice v0_2 x0.facts.length v0_3] 25)).alloc (.cells #[.slice v1_0 x1.rels.length v1_1, .slice v1_2 x1.facts.length v1_3] 25)).alloc (.cells #[.slice v2_0 x2.nulls.length v2_1, .slice v2_2 x2.vals.length v2_3] 28)).cell? ⟨w.heap.size + 1 + 1, 0, none⟩ = some (.slice v2_0 x2.nulls.length v2_1) by simp [go_sem])
  have K6 := Lib.hid (show (((w.alloc (.cells #[.slice v0_0 x0.rels.length v0_1, .slice v0_2 x0.facts.length v0_3] 25)).alloc (.cells #[.slice v1_0 x1.rels.length v1_1, .slice v1_2 x1.facts.length v1_3] 25)).alloc (.cells #[.slice v2_0 x2.nulls.length v2_1, .slice v2_2 x2.vals.length v2_3] 28)).cell? ⟨w.heap.size + 1 + 1, 1, none⟩ = some (.slice v2_2 x2.vals.length v2_3) by simp [go_sem])
  go_enter Tryz.func3, Tryz.ntmps3
  have f19 : (((w.alloc (.cells #[.slice v0_0 x0.rels.length v0_1, .slice v0_2 x0.facts.length v0_3] 25)).alloc (.cells #[.slice v1_0 x1.rels.length v1_1, .slice v1_2 x1.facts.length v1_3] 25)).alloc (.cells #[.slice v2_0 x2.nulls.length v2_1, .slice v2_2 x2.vals.length v2_3] 28)).cell? ⟨w.heap.size, 0, none⟩ = some (.slice v0_0 x0.rels.length v0_1) := K1.out
  have f20 : (((w.alloc (.cells #[.slice v0_0 x0.rels.length v0_1, .slice v0_2 x0.facts.length v0_3] 25)).alloc (.cells #[.slice v1_0 x1.rels.length v1_1, .slice v1_2 x1.facts.length v1_3] 25)).alloc (.cells #[.slice v2_0 x2.nulls.length v2_1, .slice v2_2 x2.vals.length v2_3] 28)).cell? ⟨w.heap.size, 1, none⟩ = some (.slice v0_2 x0.facts.length v0_3) := K2.out
  have c0_1 : Below w.heap.size w (((w.alloc (.cells #[.slice v0_0 x0.rels.length v0_1, .slice v0_2 x0.facts.length v0_3] 25)).alloc (.cells #[.slice v1_0 x1.rels.length v1_1, .slice v1_2 x1.facts.length v1_3] 25)).alloc (.cells #[.slice v2_0 x2.nulls.length v2_1, .slice v2_2 x2.vals.length v2_3] 28)) := hb1
  go_wp2_with fail
  refine (szInstance_c _ x0 (1048576) _ ((A0.out.below c0_1 (Nat.le_refl _)).more c0_1.size) W0.out (by omega) (by omega)).mono ?_
  rw [e1]
  rintro e w2 ⟨rfl, hb2⟩
  have z2 : (((w.alloc (.cells #[.slice v0_0 x0.rels.length v0_1, .slice v0_2 x0.facts.length v0_3] 25)).alloc (.cells #[.slice v1_0 x1.rels.length v1_1, .slice v1_2 x1.facts.length v1_3] 25)).alloc (.cells #[.slice v2_0 x2.nulls.length v2_1, .slice v2_2 x2.vals.length v2_3] 28)).heap.size ≤ w2.heap.size := hb2.size
  clear f19 f20
  have c1_2 : Below (((w.alloc (.cells #[.slice v0_0 x0.rels.length v0_1, .slice v0_2 x0.facts.length v0_3] 25)).alloc (.cells #[.slice v1_0 x1.rels.length v1_1, .slice v1_2 x1.facts.length v1_3] 25)).alloc (.cells #[.slice v2_0 x2.nulls.length v2_1, .slice v2_2 x2.vals.length v2_3] 28)).heap.size (((w.alloc (.cells #[.slice v0_0 x0.rels.length v0_1, .slice v0_2 x0.facts.length v0_3] 25)).alloc (.cells #[.slice v1_0 x1.rels.length v1_1, .slice v1_2 x1.facts.length v1_3] 25)).alloc (.cells #[.slice v2_0 x2.nulls.length v2_1, .slice v2_2 x2.vals.length v2_3] 28)) w2 := hb2
  have f21 : w2.cell? ⟨w.heap.size + 1, 0, none⟩ = some (.slice v1_0 x1.rels.length v1_1) := ((c1_2).cell (p := ⟨w.heap.size + 1, 0, none⟩) (by show w.heap.size + 1 < _; omega)).trans K3.out
  have f22 : w2.cell? ⟨w.heap.size + 1, 1, none⟩ = some (.slice v1_2 x1.facts.length v1_3) := ((c1_2).cell (p := ⟨w.heap.size + 1, 1, none⟩) (by show w.heap.size + 1 < _; omega)).trans K4.out
  have c0_2 : Below w.heap.size w w2 := (c0_1.trans (hb2.mono (by omega)))
  go_wp2_with fail
  refine (szInstance_c _ x1 (1048576 - (Instance_sz x0 : Nat)) _ ((A1.out.below c0_2 (Nat.le_refl _)).more c0_2.size) W1.out (by omega) (by omega)).mono ?_
  rw [e2]
  rintro e w3 ⟨rfl, hb3⟩
  have z3 : w2.heap.size ≤ w3.heap.size := hb3.size
  clear f21 f22
  have c1_3 : Below (((w.alloc (.cells #[.slice v0_0 x0.rels.length v0_1, .slice v0_2 x0.facts.length v0_3] 25)).alloc (.cells #[.slice v1_0 x1.rels.length v1_1, .slice v1_2 x1.facts.length v1_3] 25)).alloc (.cells #[.slice v2_0 x2.nulls.length v2_1, .slice v2_2 x2.vals.length v2_3] 28)).heap.size (((w.alloc (.cells #[.slice v0_0 x0.rels.length v0_1, .slice v0_2 x0.facts.length v0_3] 25)).alloc (.cells #[.slice v1_0 x1.rels.length v1_1, .slice v1_2 x1.facts.length v1_3] 25)).alloc (.cells #[.slice v2_0 x2.nulls.length v2_1, .slice v2_2 x2.vals.length v2_3] 28)) w3 := (c1_2.trans (hb3.mono (by omega)))
  have f23 : w3.cell? ⟨w.heap.size + 1 + 1, 0, none⟩ = some (.slice v2_0 x2.nulls.length v2_1) := ((c1_3).cell (p := ⟨w.heap.size + 1 + 1, 0, none⟩) (by show w.heap.size + 1 + 1 < _; omega)).trans K5.out
  have f24 : w3.cell? ⟨w.heap.size + 1 + 1, 1, none⟩ = some (.slice v2_2 x2.vals.length v2_3) := ((c1_3).cell (p := ⟨w.heap.size + 1 + 1, 1, none⟩) (by show w.heap.size + 1 + 1 < _; omega)).trans K6.out
  have c0_3 : Below w.heap.size w w3 := (c0_2.trans (hb3.mono (by omega)))
  go_wp2_with fail
  refine (szSubstitution_c _ x2 (1048576 - (Instance_sz x0 : Nat) - (Instance_sz x1 : Nat)) _ ((A2.out.below c0_3 (Nat.le_refl _)).more c0_3.size) W2.out (by omega) (by omega)).mono ?_
  rw [e3]
  rintro e w4 ⟨rfl, hb4⟩
  have z4 : w3.heap.size ≤ w4.heap.size := hb4.size
  clear f23 f24
  go_wp2_with fail
  have c1_4 : Below (((w.alloc (.cells #[.slice v0_0 x0.rels.length v0_1, .slice v0_2 x0.facts.length v0_3] 25)).alloc (.cells #[.slice v1_0 x1.rels.length v1_1, .slice v1_2 x1.facts.length v1_3] 25)).alloc (.cells #[.slice v2_0 x2.nulls.length v2_1, .slice v2_2 x2.vals.length v2_3] 28)).heap.size (((w.alloc (.cells #[.slice v0_0 x0.rels.length v0_1, .slice v0_2 x0.facts.length v0_3] 25)).alloc (.cells #[.slice v1_0 x1.rels.length v1_1, .slice v1_2 x1.facts.length v1_3] 25)).alloc (.cells #[.slice v2_0 x2.nulls.length v2_1, .slice v2_2 x2.vals.length v2_3] 28)) w4 := (c1_3.trans (hb4.mono (by omega)))
  have f25 : w4.cell? ⟨w.heap.size, 0, none⟩ = some (.slice v0_0 x0.rels.length v0_1) := ((c1_4).cell (p := ⟨w.heap.size, 0, none⟩) (by show w.heap.size < _; omega)).trans K1.out
  have gf25 := Aft.cell (B := w4.heap.size) (by omega) f25
  clear f25
  have f26 : w4.cell? ⟨w.heap.size, 1, none⟩ = some (.slice v0_2 x0.facts.length v0_3) := ((c1_4).cell (p := ⟨w.heap.size, 1, none⟩) (by show w.heap.size < _; omega)).trans K2.out
  have gf26 := Aft.cell (B := w4.heap.size) (by omega) f26
  clear f26
  have f27 : w4.cell? ⟨w.heap.size + 1, 0, none⟩ = some (.slice v1_0 x1.rels.length v1_1) := ((c1_4).cell (p := ⟨w.heap.size + 1, 0, none⟩) (by show w.heap.size + 1 < _; omega)).trans K3.out
  have gf27 := Aft.cell (B := w4.heap.size) (by omega) f27
  clear f27
  have f28 : w4.cell? ⟨w.heap.size + 1, 1, none⟩ = some (.slice v1_2 x1.facts.length v1_3) := ((c1_4).cell (p := ⟨w.heap.size + 1, 1, none⟩) (by show w.heap.size + 1 < _; omega)).trans K4.out
  have gf28 := Aft.cell (B := w4.heap.size) (by omega) f28
  clear f28
  have f29 : w4.cell? ⟨w.heap.size + 1 + 1, 0, none⟩ = some (.slice v2_0 x2.nulls.length v2_1) := ((c1_4).cell (p := ⟨w.heap.size + 1 + 1, 0, none⟩) (by show w.heap.size + 1 + 1 < _; omega)).trans K5.out
  have gf29 := Aft.cell (B := w4.heap.size) (by omega) f29
  clear f29
  have f30 : w4.cell? ⟨w.heap.size + 1 + 1, 1, none⟩ = some (.slice v2_2 x2.vals.length v2_3) := ((c1_4).cell (p := ⟨w.heap.size + 1 + 1, 1, none⟩) (by show w.heap.size + 1 + 1 < _; omega)).trans K6.out
  have gf30 := Aft.cell (B := w4.heap.size) (by omega) f30
  clear f30
  refine wp_region_plan (C := fun w' => ∃ u : Aft w4.heap.size w4, w' = u.now) (.still 0 (.move true 1 (.still 2 (.move true 3 (.still 4 (.move true 5 (.move true 6 (.still 7 .done) .none) .none)) .none)) .none)) (by kernel_rfl) (by kernel_rfl) (by kernel_rfl) (fun _ => ⟨⟨_, (Below.refl _ _).drew⟩, rfl⟩) ?_
  have hb5 : Below w4.heap.size w4 w4.drew := (Below.refl _ _).drew
  have z5 : w4.drew.heap.size = w4.heap.size := rfl
  have c0_5 : Below w.heap.size w w4.drew := ((c0_3.trans (hb4.mono (by omega))).trans (hb5.mono (by omega)))
  refine plan_look _ rfl rfl ?_
  go_big_quiet_step (fail)
  refine wpQuiet_nil ?_
  refine plan_call _ 7 _ _ _ _ _ rfl _ Tryz.func7 (by kernel_rfl) (by kernel_rfl) ?_ True.intro
  show Calls Tryz.prog 7 #[.agg #[.slice v0_0 x0.rels.length v0_1, .slice v0_2 x0.facts.length v0_3]] _ _
  refine (toInstance_c _ x0 _ ((A0.out.below c0_5 (Nat.le_refl _)).more c0_5.size) S0).mono ?_
  rintro e w6 ⟨u31, rfl, ou31, hb6⟩
  have z6 : w4.drew.heap.size ≤ w6.heap.size := hb6.size
  obtain ⟨y32_0, y32_1, y32_2, y32_3, rfl⟩ := Instance_form (ou31.at_ (Nat.le_refl _))
  have c4_6 : Below w4.heap.size w4 w6 := (hb5.trans (hb6.mono (by omega)))
  refine ⟨_, rfl, fun _ => ⟨⟨_, c4_6⟩, rfl⟩, ?_⟩
  refine plan_put ?_ (by simp only [Act.put, List.setIfInBounds_toArray, List.set_cons_succ, List.set_cons_zero]; rfl)
  have c0_6 : Below w.heap.size w w6 := (c0_5.trans (hb6.mono (by omega)))
  refine plan_look _ rfl rfl ?_
  go_big_quiet_step (fail)
  refine wpQuiet_nil ?_
  refine plan_call _ 7 _ _ _ _ _ rfl _ Tryz.func7 (by kernel_rfl) (by kernel_rfl) ?_ True.intro
  show Calls Tryz.prog 7 #[.agg #[.slice v1_0 x1.rels.length v1_1, .slice v1_2 x1.facts.length v1_3]] _ _
  refine (toInstance_c _ x1 _ ((A1.out.below c0_6 (Nat.le_refl _)).more c0_6.size) S1).mono ?_
  rintro e w7 ⟨u33, rfl, ou33, hb7⟩
  have z7 : w6.heap.size ≤ w7.heap.size := hb7.size
  obtain ⟨y34_0, y34_1, y34_2, y34_3, rfl⟩ := Instance_form (ou33.at_ (Nat.le_refl _))
  have c4_7 : Below w4.heap.size w4 w7 := (c4_6.trans (hb7.mono (by omega)))
  refine ⟨_, rfl, fun _ => ⟨⟨_, c4_7⟩, rfl⟩, ?_⟩
  refine plan_put ?_ (by simp only [Act.put, List.setIfInBounds_toArray, List.set_cons_succ, List.set_cons_zero]; rfl)
  have c0_7 : Below w.heap.size w w7 := (c0_6.trans (hb7.mono (by omega)))
  refine plan_look _ rfl rfl ?_
  go_big_quiet_step (fail)
  refine wpQuiet_nil ?_
  refine plan_call _ 8 _ _ _ _ _ rfl _ Tryz.func8 (by kernel_rfl) (by kernel_rfl) ?_ True.intro
  show Calls Tryz.prog 8 #[.agg #[.slice v2_0 x2.nulls.length v2_1, .slice v2_2 x2.vals.length v2_3]] _ _
  refine (toSubstitution_c _ x2 _ ((A2.out.below c0_7 (Nat.le_refl _)).more c0_7.size) S2).mono ?_
  rintro e w8 ⟨u35, rfl, ou35, hb8⟩
  have z8 : w7.heap.size ≤ w8.heap.size := hb8.size
  obtain ⟨y36_0, y36_1, y36_2, y36_3, rfl⟩ := Substitution_form (ou35.at_ (Nat.le_refl _))
  have c4_8 : Below w4.heap.size w4 w8 := (c4_7.trans (hb8.mono (by omega)))
  refine ⟨_, rfl, fun _ => ⟨⟨_, c4_8⟩, rfl⟩, ?_⟩
  refine plan_put ?_ (by simp only [Act.put, List.setIfInBounds_toArray, List.set_cons_succ, List.set_cons_zero]; rfl)
  have c6_8 : Below w6.heap.size w6 w8 := (hb7.trans (hb8.mono (by omega)))
  have c7_8 : Below w7.heap.size w7 w8 := hb8
  refine plan_call _ 6 _ _ _ _ _ rfl _ Tryz.func6 (by kernel_rfl) (by kernel_rfl) ?_ True.intro
  show Calls Tryz.prog 6 #[.agg #[.slice y32_0 x0.rels.length y32_1, .slice y32_2 x0.facts.length y32_3], .agg #[.slice y34_0 x1.rels.length y34_1, .slice y34_2 x1.facts.length y34_3], .agg #[.slice y36_0 x2.nulls.length y36_1, .slice y36_2 x2.vals.length y36_3]] _ _
  refine (specIsHomomorphism_c _ x0 _ x1 _ x2 _ ((ou31.below c6_8 (Nat.le_refl _)).at_ (by omega)) W0.out S0 ((ou33.below c7_8 (Nat.le_refl _)).at_ (by omega)) W1.out S1 ((ou35.below (Below.refl w8.heap.size w8) (Nat.le_refl _)).at_ (Nat.le_refl _)) W2.out S2).mono ?_
  rintro e w9 ⟨rfl, hb9⟩
  have z9 : w8.heap.size ≤ w9.heap.size := hb9.size
  have c4_9 : Below w4.heap.size w4 w9 := (c4_8.trans (hb9.mono (by omega)))
  refine ⟨_, rfl, fun _ => ⟨⟨_, c4_9⟩, rfl⟩, ?_⟩
  refine plan_put ?_ (by simp only [Act.put, List.setIfInBounds_toArray, List.set_cons_succ, List.set_cons_zero]; rfl)
  refine plan_look _ rfl rfl ?_
  go_big_quiet_step (fail)
  refine wpQuiet_nil ?_
  refine plan_done ?_
  clear gf25 gf26 gf27 gf28 gf29 gf30
  have c1_9 : Below (((w.alloc (.cells #[.slice v0_0 x0.rels.length v0_1, .slice v0_2 x0.facts.length v0_3] 25)).alloc (.cells #[.slice v1_0 x1.rels.length v1_1, .slice v1_2 x1.facts.length v1_3] 25)).alloc (.cells #[.slice v2_0 x2.nulls.length v2_1, .slice v2_2 x2.vals.length v2_3] 28)).heap.size (((w.alloc (.cells #[.slice v0_0 x0.rels.length v0_1, .slice v0_2 x0.facts.length v0_3] 25)).alloc (.cells #[.slice v1_0 x1.rels.length v1_1, .slice v1_2 x1.facts.length v1_3] 25)).alloc (.cells #[.slice v2_0 x2.nulls.length v2_1, .slice v2_2 x2.vals.length v2_3] 28)) w9 := (((((c1_4.trans (hb5.mono (by omega))).trans (hb6.mono (by omega))).trans (hb7.mono (by omega))).trans (hb8.mono (by omega))).trans (hb9.mono (by omega)))
  have f38 : w9.cell? ⟨w.heap.size, 0, none⟩ = some (.slice v0_0 x0.rels.length v0_1) := ((c1_9).cell (p := ⟨w.heap.size, 0, none⟩) (by show w.heap.size < _; omega)).trans K1.out
  have f39 : w9.cell? ⟨w.heap.size, 1, none⟩ = some (.slice v0_2 x0.facts.length v0_3) := ((c1_9).cell (p := ⟨w.heap.size, 1, none⟩) (by show w.heap.size < _; omega)).trans K2.out
  have c0_9 : Below w.heap.size w w9 := ((c0_7.trans (hb8.mono (by omega))).trans (hb9.mono (by omega)))
  go_wp2_with fail
  refine (toInstance_c _ x0 _ ((A0.out.below c0_9 (Nat.le_refl _)).more c0_9.size) S0).mono ?_
  rintro e w10 ⟨u40, rfl, ou40, hb10⟩
  have z10 : w9.heap.size ≤ w10.heap.size := hb10.size
  obtain ⟨y41_0, y41_1, y41_2, y41_3, rfl⟩ := Instance_form (ou40.at_ (Nat.le_refl _))
  have hb11 : Below w10.heap.size w10 (w10.alloc (.cells #[.slice y41_0 x0.rels.length y41_1, .slice y41_2 x0.facts.length y41_3] 35)) := below_more (Below.refl _ _) _
  have z11 : w10.heap.size + 1 ≤ (w10.alloc (.cells #[.slice y41_0 x0.rels.length y41_1, .slice y41_2 x0.facts.length y41_3] 35)).heap.size := by simp
  have K42 := Lib.hid (show (w10.alloc (.cells #[.slice y41_0 x0.rels.length y41_1, .slice y41_2 x0.facts.length y41_3] 35)).cell? ⟨w10.heap.size, 0, none⟩ = some (.slice y41_0 x0.rels.length y41_1) by simp [go_sem])
  have K43 := Lib.hid (show (w10.alloc (.cells #[.slice y41_0 x0.rels.length y41_1, .slice y41_2 x0.facts.length y41_3] 35)).cell? ⟨w10.heap.size, 1, none⟩ = some (.slice y41_2 x0.facts.length y41_3) by simp [go_sem])
  clear f38 f39
  have c1_11 : Below (((w.alloc (.cells #[.slice v0_0 x0.rels.length v0_1, .slice v0_2 x0.facts.length v0_3] 25)).alloc (.cells #[.slice v1_0 x1.rels.length v1_1, .slice v1_2 x1.facts.length v1_3] 25)).alloc (.cells #[.slice v2_0 x2.nulls.length v2_1, .slice v2_2 x2.vals.length v2_3] 28)).heap.size (((w.alloc (.cells #[.slice v0_0 x0.rels.length v0_1, .slice v0_2 x0.facts.length v0_3] 25)).alloc (.cells #[.slice v1_0 x1.rels.length v1_1, .slice v1_2 x1.facts.length v1_3] 25)).alloc (.cells #[.slice v2_0 x2.nulls.length v2_1, .slice v2_2 x2.vals.length v2_3] 28)) (w10.alloc (.cells #[.slice y41_0 x0.rels.length y41_1, .slice y41_2 x0.facts.length y41_3] 35)) := ((c1_9.trans (hb10.mono (by omega))).trans (hb11.mono (by omega)))
  have f44 : (w10.alloc (.cells #[.slice y41_0 x0.rels.length y41_1, .slice y41_2 x0.facts.length y41_3] 35)).cell? ⟨w.heap.size + 1, 0, none⟩ = some (.slice v1_0 x1.rels.length v1_1) := ((c1_11).cell (p := ⟨w.heap.size + 1, 0, none⟩) (by show w.heap.size + 1 < _; omega)).trans K3.out
  have f45 : (w10.alloc (.cells #[.slice y41_0 x0.rels.length y41_1, .slice y41_2 x0.facts.length y41_3] 35)).cell? ⟨w.heap.size + 1, 1, none⟩ = some (.slice v1_2 x1.facts.length v1_3) := ((c1_11).cell (p := ⟨w.heap.size + 1, 1, none⟩) (by show w.heap.size + 1 < _; omega)).trans K4.out
  have c0_11 : Below w.heap.size w (w10.alloc (.cells #[.slice y41_0 x0.rels.length y41_1, .slice y41_2 x0.facts.length y41_3] 35)) := ((c0_9.trans (hb10.mono (by omega))).trans (hb11.mono (by omega)))
  go_wp2_with fail
  refine (toInstance_c _ x1 _ ((A1.out.below c0_11 (Nat.le_refl _)).more c0_11.size) S1).mono ?_
  rintro e w12 ⟨u46, rfl, ou46, hb12⟩
  have z12 : (w10.alloc (.cells #[.slice y41_0 x0.rels.length y41_1, .slice y41_2 x0.facts.length y41_3] 35)).heap.size ≤ w12.heap.size := hb12.size
  obtain ⟨y47_0, y47_1, y47_2, y47_3, rfl⟩ := Instance_form (ou46.at_ (Nat.le_refl _))
  have hb13 : Below w12.heap.size w12 (w12.alloc (.cells #[.slice y47_0 x1.rels.length y47_1, .slice y47_2 x1.facts.length y47_3] 35)) := below_more (Below.refl _ _) _
  have z13 : w12.heap.size + 1 ≤ (w12.alloc (.cells #[.slice y47_0 x1.rels.length y47_1, .slice y47_2 x1.facts.length y47_3] 35)).heap.size := by simp
  have K48 := Lib.hid (show (w12.alloc (.cells #[.slice y47_0 x1.rels.length y47_1, .slice y47_2 x1.facts.length y47_3] 35)).cell? ⟨w12.heap.size, 0, none⟩ = some (.slice y47_0 x1.rels.length y47_1) by simp [go_sem])
  have K49 := Lib.hid (show (w12.alloc (.cells #[.slice y47_0 x1.rels.length y47_1, .slice y47_2 x1.facts.length y47_3] 35)).cell? ⟨w12.heap.size, 1, none⟩ = some (.slice y47_2 x1.facts.length y47_3) by simp [go_sem])
  clear f44 f45
  have c1_13 : Below (((w.alloc (.cells #[.slice v0_0 x0.rels.length v0_1, .slice v0_2 x0.facts.length v0_3] 25)).alloc (.cells #[.slice v1_0 x1.rels.length v1_1, .slice v1_2 x1.facts.length v1_3] 25)).alloc (.cells #[.slice v2_0 x2.nulls.length v2_1, .slice v2_2 x2.vals.length v2_3] 28)).heap.size (((w.alloc (.cells #[.slice v0_0 x0.rels.length v0_1, .slice v0_2 x0.facts.length v0_3] 25)).alloc (.cells #[.slice v1_0 x1.rels.length v1_1, .slice v1_2 x1.facts.length v1_3] 25)).alloc (.cells #[.slice v2_0 x2.nulls.length v2_1, .slice v2_2 x2.vals.length v2_3] 28)) (w12.alloc (.cells #[.slice y47_0 x1.rels.length y47_1, .slice y47_2 x1.facts.length y47_3] 35)) := ((c1_11.trans (hb12.mono (by omega))).trans (hb13.mono (by omega)))
  have f50 : (w12.alloc (.cells #[.slice y47_0 x1.rels.length y47_1, .slice y47_2 x1.facts.length y47_3] 35)).cell? ⟨w.heap.size + 1 + 1, 0, none⟩ = some (.slice v2_0 x2.nulls.length v2_1) := ((c1_13).cell (p := ⟨w.heap.size + 1 + 1, 0, none⟩) (by show w.heap.size + 1 + 1 < _; omega)).trans K5.out
  have f51 : (w12.alloc (.cells #[.slice y47_0 x1.rels.length y47_1, .slice y47_2 x1.facts.length y47_3] 35)).cell? ⟨w.heap.size + 1 + 1, 1, none⟩ = some (.slice v2_2 x2.vals.length v2_3) := ((c1_13).cell (p := ⟨w.heap.size + 1 + 1, 1, none⟩) (by show w.heap.size + 1 + 1 < _; omega)).trans K6.out
  have c0_13 : Below w.heap.size w (w12.alloc (.cells #[.slice y47_0 x1.rels.length y47_1, .slice y47_2 x1.facts.length y47_3] 35)) := ((c0_11.trans (hb12.mono (by omega))).trans (hb13.mono (by omega)))
  go_wp2_with fail
  refine (toSubstitution_c _ x2 _ ((A2.out.below c0_13 (Nat.le_refl _)).more c0_13.size) S2).mono ?_
  rintro e w14 ⟨u52, rfl, ou52, hb14⟩
  have z14 : (w12.alloc (.cells #[.slice y47_0 x1.rels.length y47_1, .slice y47_2 x1.facts.length y47_3] 35)).heap.size ≤ w14.heap.size := hb14.size
  obtain ⟨y53_0, y53_1, y53_2, y53_3, rfl⟩ := Substitution_form (ou52.at_ (Nat.le_refl _))
  have hb15 : Below w14.heap.size w14 (w14.alloc (.cells #[.slice y53_0 x2.nulls.length y53_1, .slice y53_2 x2.vals.length y53_3] 37)) := below_more (Below.refl _ _) _
  have z15 : w14.heap.size + 1 ≤ (w14.alloc (.cells #[.slice y53_0 x2.nulls.length y53_1, .slice y53_2 x2.vals.length y53_3] 37)).heap.size := by simp
  have K54 := Lib.hid (show (w14.alloc (.cells #[.slice y53_0 x2.nulls.length y53_1, .slice y53_2 x2.vals.length y53_3] 37)).cell? ⟨w14.heap.size, 0, none⟩ = some (.slice y53_0 x2.nulls.length y53_1) by simp [go_sem])
  have K55 := Lib.hid (show (w14.alloc (.cells #[.slice y53_0 x2.nulls.length y53_1, .slice y53_2 x2.vals.length y53_3] 37)).cell? ⟨w14.heap.size, 1, none⟩ = some (.slice y53_2 x2.vals.length y53_3) by simp [go_sem])
  clear f50 f51
  have c11_15 : Below (w10.alloc (.cells #[.slice y41_0 x0.rels.length y41_1, .slice y41_2 x0.facts.length y41_3] 35)).heap.size (w10.alloc (.cells #[.slice y41_0 x0.rels.length y41_1, .slice y41_2 x0.facts.length y41_3] 35)) (w14.alloc (.cells #[.slice y53_0 x2.nulls.length y53_1, .slice y53_2 x2.vals.length y53_3] 37)) := (((hb12.trans (hb13.mono (by omega))).trans (hb14.mono (by omega))).trans (hb15.mono (by omega)))
  have f56 : (w14.alloc (.cells #[.slice y53_0 x2.nulls.length y53_1, .slice y53_2 x2.vals.length y53_3] 37)).cell? ⟨w10.heap.size, 0, none⟩ = some (.slice y41_0 x0.rels.length y41_1) := ((c11_15).cell (p := ⟨w10.heap.size, 0, none⟩) (by show w10.heap.size < _; omega)).trans K42.out
  have f57 : (w14.alloc (.cells #[.slice y53_0 x2.nulls.length y53_1, .slice y53_2 x2.vals.length y53_3] 37)).cell? ⟨w10.heap.size, 1, none⟩ = some (.slice y41_2 x0.facts.length y41_3) := ((c11_15).cell (p := ⟨w10.heap.size, 1, none⟩) (by show w10.heap.size < _; omega)).trans K43.out
  have c13_15 : Below (w12.alloc (.cells #[.slice y47_0 x1.rels.length y47_1, .slice y47_2 x1.facts.length y47_3] 35)).heap.size (w12.alloc (.cells #[.slice y47_0 x1.rels.length y47_1, .slice y47_2 x1.facts.length y47_3] 35)) (w14.alloc (.cells #[.slice y53_0 x2.nulls.length y53_1, .slice y53_2 x2.vals.length y53_3] 37)) := (hb14.trans (hb15.mono (by omega)))
  have f58 : (w14.alloc (.cells #[.slice y53_0 x2.nulls.length y53_1, .slice y53_2 x2.vals.length y53_3] 37)).cell? ⟨w12.heap.size, 0, none⟩ = some (.slice y47_0 x1.rels.length y47_1) := ((c13_15).cell (p := ⟨w12.heap.size, 0, none⟩) (by show w12.heap.size < _; omega)).trans K48.out
  have f59 : (w14.alloc (.cells #[.slice y53_0 x2.nulls.length y53_1, .slice y53_2 x2.vals.length y53_3] 37)).cell? ⟨w12.heap.size, 1, none⟩ = some (.slice y47_2 x1.facts.length y47_3) := ((c13_15).cell (p := ⟨w12.heap.size, 1, none⟩) (by show w12.heap.size < _; omega)).trans K49.out
  have f60 : (w14.alloc (.cells #[.slice y53_0 x2.nulls.length y53_1, .slice y53_2 x2.vals.length y53_3] 37)).cell? ⟨w14.heap.size, 0, none⟩ = some (.slice y53_0 x2.nulls.length y53_1) := K54.out
  have f61 : (w14.alloc (.cells #[.slice y53_0 x2.nulls.length y53_1, .slice y53_2 x2.vals.length y53_3] 37)).cell? ⟨w14.heap.size, 1, none⟩ = some (.slice y53_2 x2.vals.length y53_3) := K55.out
  have c10_15 : Below w10.heap.size w10 (w14.alloc (.cells #[.slice y53_0 x2.nulls.length y53_1, .slice y53_2 x2.vals.length y53_3] 37)) := ((((hb11.trans (hb12.mono (by omega))).trans (hb13.mono (by omega))).trans (hb14.mono (by omega))).trans (hb15.mono (by omega)))
  have c12_15 : Below w12.heap.size w12 (w14.alloc (.cells #[.slice y53_0 x2.nulls.length y53_1, .slice y53_2 x2.vals.length y53_3] 37)) := ((hb13.trans (hb14.mono (by omega))).trans (hb15.mono (by omega)))
  have c14_15 : Below w14.heap.size w14 (w14.alloc (.cells #[.slice y53_0 x2.nulls.length y53_1, .slice y53_2 x2.vals.length y53_3] 37)) := hb15
  go_wp2_with fail
  refine (implIsHomomorphism_c _ x0 _ x1 _ x2 _ ((ou40.below c10_15 (Nat.le_refl _)).at_ (by omega)) W0.out S0 ((ou46.below c12_15 (Nat.le_refl _)).at_ (by omega)) W1.out S1 ((ou52.below c14_15 (Nat.le_refl _)).at_ (by omega)) W2.out S2).mono ?_
  rintro e w16 ⟨rfl, hb16⟩
  have z16 : (w14.alloc (.cells #[.slice y53_0 x2.nulls.length y53_1, .slice y53_2 x2.vals.length y53_3] 37)).heap.size ≤ w16.heap.size := hb16.size
  clear f56 f57 f58 f59 f60 f61
  go_wp2_with fail
  have c11_16 : Below (w10.alloc (.cells #[.slice y41_0 x0.rels.length y41_1, .slice y41_2 x0.facts.length y41_3] 35)).heap.size (w10.alloc (.cells #[.slice y41_0 x0.rels.length y41_1, .slice y41_2 x0.facts.length y41_3] 35)) w16 := (c11_15.trans (hb16.mono (by omega)))
  have f63 : w16.cell? ⟨w10.heap.size, 0, none⟩ = some (.slice y41_0 x0.rels.length y41_1) := ((c11_16).cell (p := ⟨w10.heap.size, 0, none⟩) (by show w10.heap.size < _; omega)).trans K42.out
  have gf63 := Aft.cell (B := w16.heap.size) (by omega) f63
  clear f63
  have f64 : w16.cell? ⟨w10.heap.size, 1, none⟩ = some (.slice y41_2 x0.facts.length y41_3) := ((c11_16).cell (p := ⟨w10.heap.size, 1, none⟩) (by show w10.heap.size < _; omega)).trans K43.out
  have gf64 := Aft.cell (B := w16.heap.size) (by omega) f64
  clear f64
  have c1_16 : Below (((w.alloc (.cells #[.slice v0_0 x0.rels.length v0_1, .slice v0_2 x0.facts.length v0_3] 25)).alloc (.cells #[.slice v1_0 x1.rels.length v1_1, .slice v1_2 x1.facts.length v1_3] 25)).alloc (.cells #[.slice v2_0 x2.nulls.length v2_1, .slice v2_2 x2.vals.length v2_3] 28)).heap.size (((w.alloc (.cells #[.slice v0_0 x0.rels.length v0_1, .slice v0_2 x0.facts.length v0_3] 25)).alloc (.cells #[.slice v1_0 x1.rels.length v1_1, .slice v1_2 x1.facts.length v1_3] 25)).alloc (.cells #[.slice v2_0 x2.nulls.length v2_1, .slice v2_2 x2.vals.length v2_3] 28)) w16 := (((c1_13.trans (hb14.mono (by omega))).trans (hb15.mono (by omega))).trans (hb16.mono (by omega)))
  have f65 : w16.cell? ⟨w.heap.size, 0, none⟩ = some (.slice v0_0 x0.rels.length v0_1) := ((c1_16).cell (p := ⟨w.heap.size, 0, none⟩) (by show w.heap.size < _; omega)).trans K1.out
  have gf65 := Aft.cell (B := w16.heap.size) (by omega) f65
  clear f65
  have f66 : w16.cell? ⟨w.heap.size, 1, none⟩ = some (.slice v0_2 x0.facts.length v0_3) := ((c1_16).cell (p := ⟨w.heap.size, 1, none⟩) (by show w.heap.size < _; omega)).trans K2.out
  have gf66 := Aft.cell (B := w16.heap.size) (by omega) f66
  clear f66
  refine wp_region_plan (C := fun w' => ∃ u : Aft w16.heap.size w16, w' = u.now) (.still 0 (.still 1 (.move true 2 (.move true 3 (.still 4 .done) .none) .none))) (by kernel_rfl) (by kernel_rfl) (by kernel_rfl) (fun _ => ⟨⟨_, (Below.refl _ _).drew⟩, rfl⟩) ?_
  have hb17 : Below w16.heap.size w16 w16.drew := (Below.refl _ _).drew
  have z17 : w16.drew.heap.size = w16.heap.size := rfl
  have c0_17 : Below w.heap.size w w16.drew := ((((c0_13.trans (hb14.mono (by omega))).trans (hb15.mono (by omega))).trans (hb16.mono (by omega))).trans (hb17.mono (by omega)))
  refine plan_look _ rfl rfl ?_
  go_big_quiet_step (fail)
  refine wpQuiet_nil ?_
  refine plan_look _ rfl rfl ?_
  go_big_quiet_step (fail)
  refine wpQuiet_nil ?_
  refine plan_call _ 7 _ _ _ _ _ rfl _ Tryz.func7 (by kernel_rfl) (by kernel_rfl) ?_ True.intro
  show Calls Tryz.prog 7 #[.agg #[.slice v0_0 x0.rels.length v0_1, .slice v0_2 x0.facts.length v0_3]] _ _
  refine (toInstance_c _ x0 _ ((A0.out.below c0_17 (Nat.le_refl _)).more c0_17.size) S0).mono ?_
  rintro e w18 ⟨u67, rfl, ou67, hb18⟩
  have z18 : w16.drew.heap.size ≤ w18.heap.size := hb18.size
  obtain ⟨y68_0, y68_1, y68_2, y68_3, rfl⟩ := Instance_form (ou67.at_ (Nat.le_refl _))
  have c16_18 : Below w16.heap.size w16 w18 := (hb17.trans (hb18.mono (by omega)))
  refine ⟨_, rfl, fun _ => ⟨⟨_, c16_18⟩, rfl⟩, ?_⟩
  refine plan_put ?_ (by simp only [Act.put, List.setIfInBounds_toArray, List.set_cons_succ, List.set_cons_zero]; rfl)
  have c10_18 : Below w10.heap.size w10 w18 := (((c10_15.trans (hb16.mono (by omega))).trans (hb17.mono (by omega))).trans (hb18.mono (by omega)))
  refine plan_call _ 10 _ _ _ _ _ rfl _ Tryz.func10 (by kernel_rfl) (by kernel_rfl) ?_ True.intro
  show Calls Tryz.prog 10 #[.agg #[.slice y41_0 x0.rels.length y41_1, .slice y41_2 x0.facts.length y41_3], .agg #[.slice y68_0 x0.rels.length y68_1, .slice y68_2 x0.facts.length y68_3]] _ _
  refine (eqInstance_c _ _ x0 _ ((ou40.below c10_18 (Nat.le_refl _)).at_ (by omega)) ((ou67.below (Below.refl w18.heap.size w18) (Nat.le_refl _)).at_ (Nat.le_refl _))).mono ?_
  rintro e w19 ⟨rfl, hb19⟩
  have z19 : w18.heap.size ≤ w19.heap.size := hb19.size
  have c16_19 : Below w16.heap.size w16 w19 := (c16_18.trans (hb19.mono (by omega)))
  refine ⟨_, rfl, fun _ => ⟨⟨_, c16_19⟩, rfl⟩, ?_⟩
  refine plan_put ?_ (by simp only [Act.put, List.setIfInBounds_toArray, List.set_cons_succ, List.set_cons_zero]; rfl)
  refine plan_look _ rfl rfl ?_
  go_big_quiet_step (fail)
  refine wpQuiet_nil ?_
  refine plan_done ?_
  clear gf63 gf64 gf65 gf66
  go_wp2_with fail
  have c13_19 : Below (w12.alloc (.cells #[.slice y47_0 x1.rels.length y47_1, .slice y47_2 x1.facts.length y47_3] 35)).heap.size (w12.alloc (.cells #[.slice y47_0 x1.rels.length y47_1, .slice y47_2 x1.facts.length y47_3] 35)) w19 := ((((c13_15.trans (hb16.mono (by omega))).trans (hb17.mono (by omega))).trans (hb18.mono (by omega))).trans (hb19.mono (by omega)))
  have f69 : w19.cell? ⟨w12.heap.size, 0, none⟩ = some (.slice y47_0 x1.rels.length y47_1) := ((c13_19).cell (p := ⟨w12.heap.size, 0, none⟩) (by show w12.heap.size < _; omega)).trans K48.out
  have gf69 := Aft.cell (B := w19.heap.size) (by omega) f69
  clear f69
  have f70 : w19.cell? ⟨w12.heap.size, 1, none⟩ = some (.slice y47_2 x1.facts.length y47_3) := ((c13_19).cell (p := ⟨w12.heap.size, 1, none⟩) (by show w12.heap.size < _; omega)).trans K49.out
  have gf70 := Aft.cell (B := w19.heap.size) (by omega) f70
  clear f70
  have c1_19 : Below (((w.alloc (.cells #[.slice v0_0 x0.rels.length v0_1, .slice v0_2 x0.facts.length v0_3] 25)).alloc (.cells #[.slice v1_0 x1.rels.length v1_1, .slice v1_2 x1.facts.length v1_3] 25)).alloc (.cells #[.slice v2_0 x2.nulls.length v2_1, .slice v2_2 x2.vals.length v2_3] 28)).heap.size (((w.alloc (.cells #[.slice v0_0 x0.rels.length v0_1, .slice v0_2 x0.facts.length v0_3] 25)).alloc (.cells #[.slice v1_0 x1.rels.length v1_1, .slice v1_2 x1.facts.length v1_3] 25)).alloc (.cells #[.slice v2_0 x2.nulls.length v2_1, .slice v2_2 x2.vals.length v2_3] 28)) w19 := (((c1_16.trans (hb17.mono (by omega))).trans (hb18.mono (by omega))).trans (hb19.mono (by omega)))
  have f71 : w19.cell? ⟨w.heap.size + 1, 0, none⟩ = some (.slice v1_0 x1.rels.length v1_1) := ((c1_19).cell (p := ⟨w.heap.size + 1, 0, none⟩) (by show w.heap.size + 1 < _; omega)).trans K3.out
  have gf71 := Aft.cell (B := w19.heap.size) (by omega) f71
  clear f71
  have f72 : w19.cell? ⟨w.heap.size + 1, 1, none⟩ = some (.slice v1_2 x1.facts.length v1_3) := ((c1_19).cell (p := ⟨w.heap.size + 1, 1, none⟩) (by show w.heap.size + 1 < _; omega)).trans K4.out
  have gf72 := Aft.cell (B := w19.heap.size) (by omega) f72
  clear f72
  refine wp_region_plan (C := fun w' => ∃ u : Aft w19.heap.size w19, w' = u.now) (.still 0 (.still 1 (.move true 2 (.move true 3 (.still 4 .done) .none) .none))) (by kernel_rfl) (by kernel_rfl) (by kernel_rfl) (fun _ => ⟨⟨_, (Below.refl _ _).drew⟩, rfl⟩) ?_
  have hb20 : Below w19.heap.size w19 w19.drew := (Below.refl _ _).drew
  have z20 : w19.drew.heap.size = w19.heap.size := rfl
  have c0_20 : Below w.heap.size w w19.drew := (((c0_17.trans (hb18.mono (by omega))).trans (hb19.mono (by omega))).trans (hb20.mono (by omega)))
  refine plan_look _ rfl rfl ?_
  go_big_quiet_step (fail)
  refine wpQuiet_nil ?_
  refine plan_look _ rfl rfl ?_
  go_big_quiet_step (fail)
  refine wpQuiet_nil ?_
  refine plan_call _ 7 _ _ _ _ _ rfl _ Tryz.func7 (by kernel_rfl) (by kernel_rfl) ?_ True.intro
  show Calls Tryz.prog 7 #[.agg #[.slice v1_0 x1.rels.length v1_1, .slice v1_2 x1.facts.length v1_3]] _ _
  refine (toInstance_c _ x1 _ ((A1.out.below c0_20 (Nat.le_refl _)).more c0_20.size) S1).mono ?_
  rintro e w21 ⟨u73, rfl, ou73, hb21⟩
  have z21 : w19.drew.heap.size ≤ w21.heap.size := hb21.size
  obtain ⟨y74_0, y74_1, y74_2, y74_3, rfl⟩ := Instance_form (ou73.at_ (Nat.le_refl _))
  have c19_21 : Below w19.heap.size w19 w21 := (hb20.trans (hb21.mono (by omega)))
  refine ⟨_, rfl, fun _ => ⟨⟨_, c19_21⟩, rfl⟩, ?_⟩
  refine plan_put ?_ (by simp only [Act.put, List.setIfInBounds_toArray, List.set_cons_succ, List.set_cons_zero]; rfl)
  have c12_21 : Below w12.heap.size w12 w21 := ((((((c12_15.trans (hb16.mono (by omega))).trans (hb17.mono (by omega))).trans (hb18.mono (by omega))).trans (hb19.mono (by omega))).trans (hb20.mono (by omega))).trans (hb21.mono (by omega)))
  refine plan_call _ 10 _ _ _ _ _ rfl _ Tryz.func10 (by kernel_rfl) (by kernel_rfl) ?_ True.intro
  show Calls Tryz.prog 10 #[.agg #[.slice y47_0 x1.rels.length y47_1, .slice y47_2 x1.facts.length y47_3], .agg #[.slice y74_0 x1.rels.length y74_1, .slice y74_2 x1.facts.length y74_3]] _ _
  refine (eqInstance_c _ _ x1 _ ((ou46.below c12_21 (Nat.le_refl _)).at_ (by omega)) ((ou73.below (Below.refl w21.heap.size w21) (Nat.le_refl _)).at_ (Nat.le_refl _))).mono ?_
  rintro e w22 ⟨rfl, hb22⟩
  have z22 : w21.heap.size ≤ w22.heap.size := hb22.size
  have c19_22 : Below w19.heap.size w19 w22 := (c19_21.trans (hb22.mono (by omega)))
  refine ⟨_, rfl, fun _ => ⟨⟨_, c19_22⟩, rfl⟩, ?_⟩
  refine plan_put ?_ (by simp only [Act.put, List.setIfInBounds_toArray, List.set_cons_succ, List.set_cons_zero]; rfl)
  refine plan_look _ rfl rfl ?_
  go_big_quiet_step (fail)
  refine wpQuiet_nil ?_
  refine plan_done ?_
  clear gf69 gf70 gf71 gf72
  go_wp2_with fail
  have c15_22 : Below (w14.alloc (.cells #[.slice y53_0 x2.nulls.length y53_1, .slice y53_2 x2.vals.length y53_3] 37)).heap.size (w14.alloc (.cells #[.slice y53_0 x2.nulls.length y53_1, .slice y53_2 x2.vals.length y53_3] 37)) w22 := ((((((hb16.trans (hb17.mono (by omega))).trans (hb18.mono (by omega))).trans (hb19.mono (by omega))).trans (hb20.mono (by omega))).trans (hb21.mono (by omega))).trans (hb22.mono (by omega)))
  have f75 : w22.cell? ⟨w14.heap.size, 0, none⟩ = some (.slice y53_0 x2.nulls.length y53_1) := ((c15_22).cell (p := ⟨w14.heap.size, 0, none⟩) (by show w14.heap.size < _; omega)).trans K54.out
  have gf75 := Aft.cell (B := w22.heap.size) (by omega) f75
  clear f75
  have f76 : w22.cell? ⟨w14.heap.size, 1, none⟩ = some (.slice y53_2 x2.vals.length y53_3) := ((c15_22).cell (p := ⟨w14.heap.size, 1, none⟩) (by show w14.heap.size < _; omega)).trans K55.out
  have gf76 := Aft.cell (B := w22.heap.size) (by omega) f76
  clear f76
  have c1_22 : Below (((w.alloc (.cells #[.slice v0_0 x0.rels.length v0_1, .slice v0_2 x0.facts.length v0_3] 25)).alloc (.cells #[.slice v1_0 x1.rels.length v1_1, .slice v1_2 x1.facts.length v1_3] 25)).alloc (.cells #[.slice v2_0 x2.nulls.length v2_1, .slice v2_2 x2.vals.length v2_3] 28)).heap.size (((w.alloc (.cells #[.slice v0_0 x0.rels.length v0_1, .slice v0_2 x0.facts.length v0_3] 25)).alloc (.cells #[.slice v1_0 x1.rels.length v1_1, .slice v1_2 x1.facts.length v1_3] 25)).alloc (.cells #[.slice v2_0 x2.nulls.length v2_1, .slice v2_2 x2.vals.length v2_3] 28)) w22 := (((c1_19.trans (hb20.mono (by omega))).trans (hb21.mono (by omega))).trans (hb22.mono (by omega)))
  have f77 : w22.cell? ⟨w.heap.size + 1 + 1, 0, none⟩ = some (.slice v2_0 x2.nulls.length v2_1) := ((c1_22).cell (p := ⟨w.heap.size + 1 + 1, 0, none⟩) (by show w.heap.size + 1 + 1 < _; omega)).trans K5.out
  have gf77 := Aft.cell (B := w22.heap.size) (by omega) f77
  clear f77
  have f78 : w22.cell? ⟨w.heap.size + 1 + 1, 1, none⟩ = some (.slice v2_2 x2.vals.length v2_3) := ((c1_22).cell (p := ⟨w.heap.size + 1 + 1, 1, none⟩) (by show w.heap.size + 1 + 1 < _; omega)).trans K6.out
  have gf78 := Aft.cell (B := w22.heap.size) (by omega) f78
  clear f78
  refine wp_region_plan (C := fun w' => ∃ u : Aft w22.heap.size w22, w' = u.now) (.still 0 (.still 1 (.move true 2 (.move true 3 (.still 4 .done) .none) .none))) (by kernel_rfl) (by kernel_rfl) (by kernel_rfl) (fun _ => ⟨⟨_, (Below.refl _ _).drew⟩, rfl⟩) ?_
  have hb23 : Below w22.heap.size w22 w22.drew := (Below.refl _ _).drew
  have z23 : w22.drew.heap.size = w22.heap.size := rfl
  have c0_23 : Below w.heap.size w w22.drew := (((c0_20.trans (hb21.mono (by omega))).trans (hb22.mono (by omega))).trans (hb23.mono (by omega)))
  refine plan_look _ rfl rfl ?_
  go_big_quiet_step (fail)
  refine wpQuiet_nil ?_
  refine plan_look _ rfl rfl ?_
  go_big_quiet_step (fail)
  refine wpQuiet_nil ?_
  refine plan_call _ 8 _ _ _ _ _ rfl _ Tryz.func8 (by kernel_rfl) (by kernel_rfl) ?_ True.intro
  show Calls Tryz.prog 8 #[.agg #[.slice v2_0 x2.nulls.length v2_1, .slice v2_2 x2.vals.length v2_3]] _ _
  refine (toSubstitution_c _ x2 _ ((A2.out.below c0_23 (Nat.le_refl _)).more c0_23.size) S2).mono ?_
  rintro e w24 ⟨u79, rfl, ou79, hb24⟩
  have z24 : w22.drew.heap.size ≤ w24.heap.size := hb24.size
  obtain ⟨y80_0, y80_1, y80_2, y80_3, rfl⟩ := Substitution_form (ou79.at_ (Nat.le_refl _))
  have c22_24 : Below w22.heap.size w22 w24 := (hb23.trans (hb24.mono (by omega)))
  refine ⟨_, rfl, fun _ => ⟨⟨_, c22_24⟩, rfl⟩, ?_⟩
  refine plan_put ?_ (by simp only [Act.put, List.setIfInBounds_toArray, List.set_cons_succ, List.set_cons_zero]; rfl)
  have c14_24 : Below w14.heap.size w14 w24 := (((((((((c14_15.trans (hb16.mono (by omega))).trans (hb17.mono (by omega))).trans (hb18.mono (by omega))).trans (hb19.mono (by omega))).trans (hb20.mono (by omega))).trans (hb21.mono (by omega))).trans (hb22.mono (by omega))).trans (hb23.mono (by omega))).trans (hb24.mono (by omega)))
  refine plan_call _ 11 _ _ _ _ _ rfl _ Tryz.func11 (by kernel_rfl) (by kernel_rfl) ?_ True.intro
  show Calls Tryz.prog 11 #[.agg #[.slice y53_0 x2.nulls.length y53_1, .slice y53_2 x2.vals.length y53_3], .agg #[.slice y80_0 x2.nulls.length y80_1, .slice y80_2 x2.vals.length y80_3]] _ _
  refine (eqSubstitution_c _ _ x2 _ ((ou52.below c14_24 (Nat.le_refl _)).at_ (by omega)) ((ou79.below (Below.refl w24.heap.size w24) (Nat.le_refl _)).at_ (Nat.le_refl _))).mono ?_
  rintro e w25 ⟨rfl, hb25⟩
  have z25 : w24.heap.size ≤ w25.heap.size := hb25.size
  have c22_25 : Below w22.heap.size w22 w25 := (c22_24.trans (hb25.mono (by omega)))
  refine ⟨_, rfl, fun _ => ⟨⟨_, c22_25⟩, rfl⟩, ?_⟩
  refine plan_put ?_ (by simp only [Act.put, List.setIfInBounds_toArray, List.set_cons_succ, List.set_cons_zero]; rfl)
  refine plan_look _ rfl rfl ?_
  go_big_quiet_step (fail)
  refine wpQuiet_nil ?_
  refine plan_done ?_
  clear gf75 gf76 gf77 gf78
  have c0_25 : Below w.heap.size w w25 := ((c0_23.trans (hb24.mono (by omega))).trans (hb25.mono (by omega)))
  go_wp2
  go_ret
  exact ⟨rfl, c0_25⟩

theorem ty : ∀ t ∈ Tryz.f3.params.toList, Tryz.prog.readableRec t = true ∧ t < Tryz.prog.types.size := by
  rw [Tryz.params3]; intro t ht
  simp only [List.mem_cons, List.not_mem_nil, or_false] at ht
  rcases ht with rfl | rfl | rfl <;> exact ⟨by kernel_rfl, of_decide_eq_true (by kernel_rfl)⟩
set_option maxRecDepth 100000 in
theorem lifted (os : Os) (started : os.Started) (H : Type) (enc : TypeId × Value → H) :
    ReturnsInHanded {} Tryz.checked os 3 .any (Rows.fnExactIsHomomorphismSpec.pre6 enc Tryz.prog Tryz.f3 Rows.fnExactIsHomomorphismRow.domain false) (Rows.fnExactIsHomomorphismSpec.post enc Tryz.prog Tryz.f3 false true false false) := by
  refine returnsInHanded_of_change (C := Tryz.checked) ownFact started (by kernel_rfl) Tryz.func3
    (ChangeSpec.witness6 (enc := enc) (C := Tryz.checked) false ⟨#[], #[.agg #[.slice none 0 0, .slice none 0 0], .agg #[.slice none 0 0, .slice none 0 0], .agg #[.slice none 0 0, .slice none 0 0]], []⟩ 8 (by kernel_rfl) (by kernel_rfl) (by kernel_rfl) (by kernel_rfl)) ?_
  intro W base args ds gs before hval0 hW hcnd _
  have hval : ∀ (j : Nat) t v, Tryz.f3.params[j]? = some t → args[j]? = some v → Value.okWide Tryz.prog W .any base t v := hval0
  have hW' := hW
  obtain ⟨p, q, hA0, hV, _, hfz, hnd⟩ := hW
  have hA : DataW.TrodAll enc Tryz.prog W 0 (fun _ => true) true Tryz.f3.params.toList args.toList ds p := hA0
  rw [Tryz.params3] at hA hval
  obtain ⟨v0, vs0, d0, ds0, p0, q0, hargs, rfl, _, h0, r0⟩ := trodAll_cons hA
  obtain ⟨v1, vs1, d1, ds1, p1, q1, rfl, rfl, _, h1, r1⟩ := trodAll_cons r0
  obtain ⟨v2, vs2, d2, ds2, p2, q2, rfl, rfl, _, h2, r2⟩ := trodAll_cons r1
  obtain ⟨rfl, rfl, _⟩ := trodAll_nil r2
  obtain rfl : args = #[v0, v1, v2] := by cases args; simp_all
  obtain ⟨rfl, _⟩ := trodVars_none hV
  obtain ⟨x0, hx0, hwx0⟩ := open_Instance (hval 0 _ v0 rfl rfl) h0 (DataW.TrodAll.lt (trodAll_mk1 h0))
  obtain ⟨x1, hx1, hwx1⟩ := open_Instance (hval 1 _ v1 rfl rfl) h1 (DataW.TrodAll.lt (trodAll_mk1 h1))
  obtain ⟨x2, hx2, hwx2⟩ := open_Substitution (hval 2 _ v2 rfl rfl) h2 (DataW.TrodAll.lt (trodAll_mk1 h2))
  refine (walk v0 x0 v1 x1 v2 x2 W hx0 hwx0 hx1 hwx1 hx2 hwx2).mono fun e W' ⟨he, hb⟩ => ?_
  subst he
  exact ⟨_, rfl, law_post laidFact ty Tryz.underlying4 (by kernel_rfl) rfl hW' rfl hb⟩
theorem holds : Rows.FnExactIsHomomorphismSaid :=
  OpenClaim.holds_of_wide 3 Tryz.f3 rfl rfl rfl rfl rfl rfl rfl ⟨rfl, rfl, rfl, rfl, rfl⟩ rfl rfl rfl rfl rfl (by kernel_rfl) Tryz.func3 (by kernel_rfl)
    (of_decide_eq_true (by kernel_rfl)) (by unfold Func.isWrapper; first | (rw [if_pos (by decide +kernel)]; kernel_rfl) | (rw [if_neg (by decide +kernel)]; exact ⟨rfl, rfl⟩))
    (fun os started H enc _ => lifted os started H enc)
end lawFnExactIsHomomorphism

end Go.Proofs.YteogknfhafdbmaaGreat
