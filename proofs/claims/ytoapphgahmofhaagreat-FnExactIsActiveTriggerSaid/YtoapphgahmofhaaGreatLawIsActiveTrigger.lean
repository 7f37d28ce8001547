/-
  FnExactIsActiveTrigger: for every argument the translated law returns true, and each argument reads afterwards as it read before. Conditions: none beyond the given row's own.
-/
import Derived.Test.YtoapphgahmofhaaGreatPlan
import Derived.Test.YtoapphgahmofhaaGreatFactC
import Derived.Test.YtoapphgahmofhaaGreatDepC
import Derived.Test.YtoapphgahmofhaaGreatLift
import Derived.Test.YtoapphgahmofhaaGreatInstC
import Derived.Test.YtoapphgahmofhaaGreatActS
namespace Go.Proofs.YtoapphgahmofhaaGreat
open Go.RowKit Go.ChangeShapes Go.WideShapes Go.ChangeAt Go.ChangeMaps

namespace lawFnExactIsActiveTrigger

set_option maxRecDepth 100000 in
set_option maxHeartbeats 1600000 in
theorem walk (v0 : Value) (x0 : Inst) (v1 : Value) (x1 : Dep) (v2 : Value) (x2 : List Int) (w : World) (h0 : Instance_at w w.heap.size v0 x0) (hw0 : Instance_wf x0) (h1 : Dependency_at w w.heap.size v1 x1) (hw1 : Dependency_wf x1) (h2 : IntS_at w w.heap.size v2 x2) (hw2 : IntS_wf x2) :
    Calls Tryz.prog 5 #[v0, v1, v2] w fun e w' => e = .returned (.bool true) ∧ Below w.heap.size w w' := by
  obtain ⟨v0_0, v0_1, v0_2, v0_3, rfl⟩ := Instance_form h0
  have A0 := Lib.hid h0
  have W0 := Lib.hid hw0
  clear h0 hw0
  obtain ⟨v1_0, v1_1, v1_2, v1_3, rfl⟩ := Dependency_form h1
  have A1 := Lib.hid h1
  have W1 := Lib.hid hw1
  clear h1 hw1
  obtain ⟨PI2, cI2, rfl, -, cL2, -⟩ := id h2
  unfold maxLen at cL2
  have A2 := Lib.hid h2
  have W2 := Lib.hid hw2
  clear h2 hw2
  by_cases hlong2 : 1048576 < x2.length
  · skip
    go_enter Tryz.func5, Tryz.ntmps5
    go_wp2
    go_ret
    exact ⟨rfl, below_more (below_more (Below.refl _ _) _) _⟩
  by_cases hz1 : ((Instance_sz x0 : Nat) : Int) ≤ 1048576
  rotate_left
  · skip
    have e1 := szLeft_no hz1
    have hb1 : Below w.heap.size w ((w.alloc (.cells #[.slice v0_0 x0.rels.length v0_1, .slice v0_2 x0.facts.length v0_3] 43)).alloc (.cells #[.slice v1_0 x1.body.length v1_1, .slice v1_2 x1.head.length v1_3, .bool x1.egd, .int .i64 x1.left, .int .i64 x1.right] 46)) := below_more (below_more (Below.refl _ _) _) _
    have z1 : w.heap.size + 2 ≤ ((w.alloc (.cells #[.slice v0_0 x0.rels.length v0_1, .slice v0_2 x0.facts.length v0_3] 43)).alloc (.cells #[.slice v1_0 x1.body.length v1_1, .slice v1_2 x1.head.length v1_3, .bool x1.egd, .int .i64 x1.left, .int .i64 x1.right] 46)).heap.size := by simp
    have K1 := Lib.hid (show ((w.alloc (.cells #[.slice v0_0 x0.rels.length v0_1, .slice v0_2 x0.facts.length v0_3] 43)).alloc (.cells #[.slice v1_0 x1.body.length v1_1, .slice v1_2 x1.head.length v1_3, .bool x1.egd, .int .i64 x1.left, .int .i64 x1.right] 46)).cell? ⟨w.heap.size, 0, none⟩ = some (.slice v0_0 x0.rels.length v0_1) by simp [go_sem])
    have K2 := Lib.hid (show ((w.alloc (.cells #[.slice v0_0 x0.rels.length v0_1, .slice v0_2 x0.facts.length v0_3] 43)).alloc (.cells #[.slice v1_0 x1.body.length v1_1, .slice v1_2 x1.head.length v1_3, .bool x1.egd, .int .i64 x1.left, .int .i64 x1.right] 46)).cell? ⟨w.heap.size, 1, none⟩ = some (.slice v0_2 x0.facts.length v0_3) by simp [go_sem])
    have K3 := Lib.hid (show ((w.alloc (.cells #[.slice v0_0 x0.rels.length v0_1, .slice v0_2 x0.facts.length v0_3] 43)).alloc (.cells #[.slice v1_0 x1.body.length v1_1, .slice v1_2 x1.head.length v1_3, .bool x1.egd, .int .i64 x1.left, .int .i64 x1.right] 46)).cell? ⟨w.heap.size + 1, 0, none⟩ = some (.slice v1_0 x1.body.length v1_1) by simp [go_sem])
    have K4 := Lib.hid (show ((w.alloc (.cells #[.slice v0_0 x0.rels.length v0_1, .slice v0_2 x0.facts.length v0_3] 43)).alloc (.cells #[.slice v1_0 x1.body.length v1_1, .slice v1_2 x1.head.length v1_3, .bool x1.egd, .int .i64 x1.left, .int .i64 x1.right] 46)).cell? ⟨w.heap.size + 1, 1, none⟩ = some (.slice v1_2 x1.head.length v1_3) by simp [go_sem])
    have K5 := Lib.hid (show ((w.alloc (.cells #[.slice v0_0 x0.rels.length v0_1, .slice v0_2 x0.facts.length v0_3] 43)).alloc (.cells #[.slice v1_0 x1.body.length v1_1, .slice v1_2 x1.head.length v1_3, .bool x1.egd, .int .i64 x1.left, .int .i64 x1.right] 46)).cell? ⟨w.heap.size + 1, 2, none⟩ = some (.bool x1.egd) by simp [go_sem])
    have K6 := Lib.hid (show ((w.alloc (.cells #[.slice v0_0 x0.rels.length v0_1, .slice v0_2 x0.facts.length v0_3] 43)).alloc (.cells #[.slice v1_0 x1.body.length v1_1, .slice v1_2 x1.head.length v1_3, .bool x1.egd, .int .i64 x1.left, .int .i64 x1.right] 46)).cell? ⟨w.heap.size + 1, 3, none⟩ = some (.int .i64 x1.left) by simp [go_sem])
    have K7 := Lib.hid (show ((w.alloc (.cells #[.slice v0_0 x0.rels.length v0_1, .slice v0_2 x0.facts.length v0_3] 43)).alloc (.cells #[.slice v1_0 x1.body.length v1_1, .slice v1_2 x1.head.length v1_3, .bool x1.egd, .int .i64 x1.left, .int .i64 x1.right] 46)).cell? ⟨w.heap.size + 1, 4, none⟩ = some (.int .i64 x1.right) by simp [go_sem])
    go_enter Tryz.func5, Tryz.ntmps5
    have f8 : ((w.alloc (.cells #[.slice v0_0 x0.rels.length v0_1, .slice v0_2 x0.facts.length v0_3] 43)).alloc (.cells #[.slice v1_0 x1.body.length v1_1, .slice v1_2 x1.head.length v1_3, .bool x1.egd, .int .i64 x1.left, .int .i64 x1.right] 46)).cell? ⟨w.heap.size, 0, none⟩ = some (.slice v0_0 x0.rels.length v0_1) := K1.out
    have f9 : ((w.alloc (.cells #[.slice v0_0 x0.rels.length v0_1, .slice v0_2 x0.facts.length v0_3] 43)).alloc (.cells #[.slice v1_0 x1.body.length v1_1, .slice v1_2 x1.head.length v1_3, .bool x1.egd, .int .i64 x1.left, .int .i64 x1.right] 46)).cell? ⟨w.heap.size, 1, none⟩ = some (.slice v0_2 x0.facts.length v0_3) := K2.out
    have c0_1 : Below w.heap.size w ((w.alloc (.cells #[.slice v0_0 x0.rels.length v0_1, .slice v0_2 x0.facts.length v0_3] 43)).alloc (.cells #[.slice v1_0 x1.body.length v1_1, .slice v1_2 x1.head.length v1_3, .bool x1.egd, .int .i64 x1.left, .int .i64 x1.right] 46)) := hb1
    go_wp2_with fail
    refine (szInstance_c _ x0 (1048576) _ ((A0.out.below c0_1 (Nat.le_refl _)).more c0_1.size) W0.out (by omega) (by omega)).mono ?_
    rw [e1]
    rintro e w2 ⟨rfl, hb2⟩
    have z2 : ((w.alloc (.cells #[.slice v0_0 x0.rels.length v0_1, .slice v0_2 x0.facts.length v0_3] 43)).alloc (.cells #[.slice v1_0 x1.body.length v1_1, .slice v1_2 x1.head.length v1_3, .bool x1.egd, .int .i64 x1.left, .int .i64 x1.right] 46)).heap.size ≤ w2.heap.size := hb2.size
    clear f8 f9
    have c0_2 : Below w.heap.size w w2 := (c0_1.trans (hb2.mono (by omega)))
    go_wp2
    go_ret
    exact ⟨rfl, c0_2⟩
  by_cases hz2 : ((Dependency_sz x1 : Nat) : Int) ≤ 1048576 - (Instance_sz x0 : Nat)
  rotate_left
  · skip
    have e1 := szLeft_yes hz1
    have e2 := szLeft_no hz2
    have hb1 : Below w.heap.size w ((w.alloc (.cells #[.slice v0_0 x0.rels.length v0_1, .slice v0_2 x0.facts.length v0_3] 43)).alloc (.cells #[.slice v1_0 x1.body.length v1_1, .slice v1_2 x1.head.length v1_3, .bool x1.egd, .int .i64 x1.left, .int .i64 x1.right] 46)) := below_more (below_more (Below.refl _ _) _) _
    have z1 : w.heap.size + 2 ≤ ((w.alloc (.cells #[.slice v0_0 x0.rels.length v0_1, .slice v0_2 x0.facts.length v0_3] 43)).alloc (.cells #[.slice v1_0 x1.body.length v1_1, .slice v1_2 x1.head.length v1_3, .bool x1.egd, .int .i64 x1.left, .int .i64 x1.right] 46)).heap.size := by simp
    have K1 := Lib.hid (show ((w.alloc (.cells #[.slice v0_0 x0.rels.length v0_1, .slice v0_2 x0.facts.length v0_3] 43)).alloc (.cells #[.slice v1_0 x1.body.length v1_1, .slice v1_2 x1.head.length v1_3, .bool x1.egd, .int .i64 x1.left, .int .i64 x1.right] 46)).cell? ⟨w.heap.size, 0, none⟩ = some (.slice v0_0 x0.rels.length v0_1) by simp [go_sem])
    have K2 := Lib.hid (show ((w.alloc (.cells #[.slice v0_0 x0.rels.length v0_1, .slice v0_2 x0.facts.length v0_3] 43)).alloc (.cells #[.slice v1_0 x1.body.length v1_1, .slice v1_2 x1.head.length v1_3, .bool x1.egd, .int .i64 x1.left, .int .i64 x1.right] 46)).cell? ⟨w.heap.size, 1, none⟩ = some (.slice v0_2 x0.facts.length v0_3) by simp [go_sem])
    have K3 := Lib.hid (show ((w.alloc (.cells #[.slice v0_0 x0.rels.length v0_1, .slice v0_2 x0.facts.length v0_3] 43)).alloc (.cells #[.slice v1_0 x1.body.length v1_1, .slice v1_2 x1.head.length v1_3, .bool x1.egd, .int .i64 x1.left, .int .i64 x1.right] 46)).cell? ⟨w.heap.size + 1, 0, none⟩ = some (.slice v1_0 x1.body.length v1_1) by simp [go_sem])
    have K4 := Lib.hid (show ((w.alloc (.cells #[.slice v0_0 x0.rels.length v0_1, .slice v0_2 x0.facts.length v0_3] 43)).alloc (.cells #[.slice v1_0 x1.body.length v1_1, .slice v1_2 x1.head.length v1_3, .bool x1.egd, .int .i64 x1.left, .int .i64 x1.right] 46)).cell? ⟨w.heap.size + 1, 1, none⟩ = some (.slice v1_2 x1.head.length v1_3) by simp [go_sem])
    have K5 := Lib.hid (show ((w.alloc (.cells #[.slice v0_0 x0.rels.length v0_1, .slice v0_2 x0.facts.length v0_3] 43)).alloc (.cells #[.slice v1_0 x1.body.length v1_1, .slice v1_2 x1.head.length v1_3, .bool x1.egd, .int .i64 x1.left, .int .i64 x1.right] 46)).cell? ⟨w.heap.size + 1, 2, none⟩ = some (.bool x1.egd) by simp [go_sem])
    have K6 := Lib.hid (show ((w.alloc (.cells #[.slice v0_0 x0.rels.length v0_1, .slice v0_2 x0.facts.length v0_3] 43)).alloc (.cells #[.slice v1_0 x1.body.length v1_1, .slice v1_2 x1.head.length v1_3, .bool x1.egd, .int .i64 x1.left, .int .i64 x1.right] 46)).cell? ⟨w.heap.size + 1, 3, none⟩ = some (.int .i64 x1.left) by simp [go_sem])
    have K7 := Lib.hid (show ((w.alloc (.cells #[.slice v0_0 x0.rels.length v0_1, .slice v0_2 x0.facts.length v0_3] 43)).alloc (.cells #[.slice v1_0 x1.body.length v1_1, .slice v1_2 x1.head.length v1_3, .bool x1.egd, .int .i64 x1.left, .int .i64 x1.right] 46)).cell? ⟨w.heap.size + 1, 4, none⟩ = some (.int .i64 x1.right) by simp [go_sem])
    go_enter Tryz.func5, Tryz.ntmps5
    have f10 : ((w.alloc (.cells #[.slice v0_0 x0.rels.length v0_1, .slice v0_2 x0.facts.length v0_3] 43)).alloc (.cells #[.slice v1_0 x1.body.length v1_1, .slice v1_2 x1.head.length v1_3, .bool x1.egd, .int .i64 x1.left, .int .i64 x1.right] 46)).cell? ⟨w.heap.size, 0, none⟩ = some (.slice v0_0 x0.rels.length v0_1) := K1.out
    have f11 : ((w.alloc (.cells #[.slice v0_0 x0.rels.length v0_1, .slice v0_2 x0.facts.length v0_3] 43)).alloc (.cells #[.slice v1_0 x1.body.length v1_1, .slice v1_2 x1.head.length v1_3, .bool x1.egd, .int .i64 x1.left, .int .i64 x1.right] 46)).cell? ⟨w.heap.size, 1, none⟩ = some (.slice v0_2 x0.facts.length v0_3) := K2.out
    have c0_1 : Below w.heap.size w ((w.alloc (.cells #[.slice v0_0 x0.rels.length v0_1, .slice v0_2 x0.facts.length v0_3] 43)).alloc (.cells #[.slice v1_0 x1.body.length v1_1, .slice v1_2 x1.head.length v1_3, .bool x1.egd, .int .i64 x1.left, .int .i64 x1.right] 46)) := hb1
    go_wp2_with fail
    refine (szInstance_c _ x0 (1048576) _ ((A0.out.below c0_1 (Nat.le_refl _)).more c0_1.size) W0.out (by omega) (by omega)).mono ?_
    rw [e1]
    rintro e w2 ⟨rfl, hb2⟩
    have z2 : ((w.alloc (.cells #[.slice v0_0 x0.rels.length v0_1, .slice v0_2 x0.facts.length v0_3] 43)).alloc (.cells #[.slice v1_0 x1.body.length v1_1, .slice v1_2 x1.head.length v1_3, .bool x1.egd, .int .i64 x1.left, .int .i64 x1.right] 46)).heap.size ≤ w2.heap.size := hb2.size
    clear f10 f11
    have c1_2 : Below ((w.alloc (.cells #[.slice v0_0 x0.rels.length v0_1, .slice v0_2 x0.facts.length v0_3] 43)).alloc (.cells #[.slice v1_0 x1.body.length v1_1, .slice v1_2 x1.head.length v1_3, .bool x1.egd, .int .i64 x1.left, .int .i64 x1.right] 46)).heap.size ((w.alloc (.cells #[.slice v0_0 x0.rels.length v0_1, .slice v0_2 x0.facts.length v0_3] 43)).alloc (.cells #[.slice v1_0 x1.body.length v1_1, .slice v1_2 x1.head.length v1_3, .bool x1.egd, .int .i64 x1.left, .int .i64 x1.right] 46)) w2 := hb2
    have f12 : w2.cell? ⟨w.heap.size + 1, 0, none⟩ = some (.slice v1_0 x1.body.length v1_1) := ((c1_2).cell (p := ⟨w.heap.size + 1, 0, none⟩) (by show w.heap.size + 1 < _; omega)).trans K3.out
    have f13 : w2.cell? ⟨w.heap.size + 1, 1, none⟩ = some (.slice v1_2 x1.head.length v1_3) := ((c1_2).cell (p := ⟨w.heap.size + 1, 1, none⟩) (by show w.heap.size + 1 < _; omega)).trans K4.out
    have f14 : w2.cell? ⟨w.heap.size + 1, 2, none⟩ = some (.bool x1.egd) := ((c1_2).cell (p := ⟨w.heap.size + 1, 2, none⟩) (by show w.heap.size + 1 < _; omega)).trans K5.out
    have f15 : w2.cell? ⟨w.heap.size + 1, 3, none⟩ = some (.int .i64 x1.left) := ((c1_2).cell (p := ⟨w.heap.size + 1, 3, none⟩) (by show w.heap.size + 1 < _; omega)).trans K6.out
    have f16 : w2.cell? ⟨w.heap.size + 1, 4, none⟩ = some (.int .i64 x1.right) := ((c1_2).cell (p := ⟨w.heap.size + 1, 4, none⟩) (by show w.heap.size + 1 < _; omega)).trans K7.out
    have c0_2 : Below w.heap.size w w2 := (c0_1.trans (hb2.mono (by omega)))
    go_wp2_with fail
    refine (szDependency_c _ x1 (1048576 - (Instance_sz x0 : Nat)) _ ((A1.out.below c0_2 (Nat.le_refl _)).more c0_2.size) W1.out (by omega) (by omega)).mono ?_
    rw [e2]
    rintro e w3 ⟨rfl, hb3⟩
    have z3 : w2.heap.size ≤ w3.heap.size := hb3.size
    clear f12 f13 f14 f15 f16
    have c0_3 : Below w.heap.size w w3 := (c0_2.trans (hb3.mono (by omega)))
    go_wp2
    go_ret
    exact ⟨rfl, c0_3⟩
  have e1 := szLeft_yes hz1
  have S0 : Instance_sz x0 ≤ 1048576 := by omega
  have N0 := Instance_cnt_le x0
  have e2 := szLeft_yes hz2
  have S1 : Dependency_sz x1 ≤ 1048576 := by omega
  have N1 := Dependency_cnt_le x1
  have S2 : IntS_sz x2 ≤ 1048576 := by show x2.length ≤ _; omega
  have N2 := IntS_cnt_le x2
  have hb1 : Below w.heap.size w ((w.alloc (.cells #[.slice v0_0 x0.rels.length v0_1, .slice v0_2 x0.facts.length v0_3] 43)).alloc (.cells #[.slice v1_0 x1.body.length v1_1, .slice v1_2 x1.head.length v1_3, .bool x1.egd, .int .i64 x1.left, .int .i64 x1.right] 46)) := below_more (below_more (Below.refl _ _) _) _
  have z1 : w.heap.size + 2 ≤ ((w.alloc (.cells #[.slice v0_0 x0.rels.length v0_1, .slice v0_2 x0.facts.length v0_3] 43)).alloc (.cells #[.slice v1_0 x1.body.length v1_1, .slice v1_2 x1.head.length v1_3, .bool x1.egd, .int .i64 x1.left, .int .i64 x1.right] 46)).heap.size := by simp
  have K1 := Lib.hid (show ((w.alloc (.cells #[.slice v0_0 x0.rels.length v0_1, .slice v0_2 x0.facts.length v0_3] 43)).alloc (.cells #[.slice v1_0 x1.body.length v1_1, .slice v1_2 x1.head.length v1_3, .bool x1.egd, .int .i64 x1.left, .int .i64 x1.right] 46)).cell? ⟨w.heap.size, 0, none⟩ = some (.slice v0_0 x0.rels.length v0_1) by simp [go_sem])
  have K2 := Lib.hid (show ((w.alloc (.cells #[.slice v0_0 x0.rels.length v0_1, .slice v0_2 x0.facts.length v0_3] 43)).alloc (.cells #[.slice v1_0 x1.body.length v1_1, .slice v1_2 x1.head.length v1_3, .bool x1.egd, .int .i64 x1.left, .int .i64 x1.right] 46)).cell? ⟨w.heap.size, 1, none⟩ = some (.slice v0_2 x0.facts.length v0_3) by simp [go_sem])
  have K3 := Lib.hid (show ((w.alloc (.cells #[.slice v0_0 x0.rels.length v0_1, .slice v0_2 x0.facts.length v0_3] 43)).alloc (.cells #[.slice v1_0 x1.body.length v1_1, .slice v1_2 x1.head.length v1_3, .bool x1.egd, .int .i64 x1.left, .int .i64 x1.right] 46)).cell? ⟨w.heap.size + 1, 0, none⟩ = some (.slice v1_0 x1.body.length v1_1) by simp [go_sem])
  have K4 := Lib.hid (show ((w.alloc (.cells #[.slice v0_0 x0.rels.length v0_1, .slice v0_2 x0.facts.length v0_3] 43)).alloc (.cells #[.slice v1_0 x1.body.length v1_1, .slice v1_2 x1.head.length v1_3, .bool x1.egd, .int .i64 x1.left, .int .i64 x1.right] 46)).cell? ⟨w.heap.size + 1, 1, none⟩ = some (.slice v1_2 x1.head.length v1_3) by simp [go_sem])
  have K5 := Lib.hid (show ((w.alloc (.cells #[.slice v0_0 x0.rels.length v0_1, .slice v0_2 x0.facts.length v0_3] 43)).alloc (.cells #[.slice v1_0 x1.body.length v1_1, .slice v1_2 x1.head.length v1_3, .bool x1.egd, .int .i64 x1.left, .int .i64 x1.right] 46)).cell? ⟨w.heap.size + 1, 2, none⟩ = some (.bool x1.egd) by simp [go_sem])
  have K6 := Lib.hid (show ((w.alloc (.cells #[.slice v0_0 x0.rels.length v0_1, .slice v0_2 x0.facts.length v0_3] 43)).alloc (.cells #[.slice v1_0 x1.body.length v1_1, .slice v1_2 x1.head.length v1_3, .bool x1.egd, .int .i64 x1.left, .int .i64 x1.right] 46)).cell? ⟨w.heap.size + 1, 3, none⟩ = some (.int .i64 x1.left) by simp [go_sem])
  have K7 := Lib.hid (show ((w.alloc (.cells #[.slice v0_0 x0.rels.length v0_1, .slice v0_2 x0.facts.length v0_3] 43)).alloc (.cells #[.slice v1_0 x1.body.length v1_1, .slice v1_2 x1.head.length v1_3, .bool x1.egd, .int .i64 x1.left, .int .i64 x1.right] 46)).cell? ⟨w.heap.size + 1, 4, none⟩ = some (.int .i64 x1.right) by simp [go_sem])
  go_enter Tryz.func5, Tryz.ntmps5
  have f17 : ((w.alloc (.cells #[.slice v0_0 x0.rels.length v0_1, .slice v0_2 x0.facts.length v0_3] 43)).alloc (.cells #[.slice v1_0 x1.body.length v1_1, .slice v1_2 x1.head.length v1_3, .bool x1.egd, .int .i64 x1.left, .int .i64 x1.right] 46)).cell? ⟨w.heap.size, 0, none⟩ = some (.slice v0_0 x0.rels.length v0_1) := K1.out
  have f18 : ((w.alloc (.cells #[.slice v0_0 x0.rels.length v0_1, .slice v0_2 x0.facts.length v0_3] 43)).alloc (.cells #[.slice v1_0 x1.body.length v1_1, .slice v1_2 x1.head.length v1_3, .bool x1.egd, .int .i64 x1.left, .int .i64 x1.right] 46)).cell? ⟨w.heap.size, 1, none⟩ = some (.slice v0_2 x0.facts.length v0_3) := K2.out
  have c0_1 : Below w.heap.size w ((w.alloc (.cells #[.slice v0_0 x0.rels.length v0_1, .slice v0_2 x0.facts.length v0_3] 43)).alloc (.cells #[.slice v1_0 x1.body.length v1_1, .slice v1_2 x1.head.length v1_3, .bool x1.egd, .int .i64 x1.left, .int .i64 x1.right] 46)) := hb1
  go_wp2_with fail
  refine (szInstance_c _ x0 (1048576) _ ((A0.out.below c0_1 (Nat.le_refl _)).more c0_1.size) W0.out (by omega) (by omega)).mono ?_
  rw [e1]
  rintro e w2 ⟨rfl, hb2⟩
  have z2 : ((w.alloc (.cells #[.slice v0_0 x0.rels.length v0_1, .slice v0_2 x0.facts.length v0_3] 43)).alloc (.cells #[.slice v1_0 x1.body.length v1_1, .slice v1_2 x1.head.length v1_3, .bool x1.egd, .int .i64 x1.left, .int .i64 x1.right] 46)).heap.size ≤ w2.heap.size := hb2.size
  clear f17 f18
  have c1_2 : Below ((w.alloc (.cells #[.slice v0_0 x0.rels.length v0_1, .slice v0_2 x0.facts.length v0_3] 43)).alloc (.cells #[.slice v1_0 x1.body.length v1_1, .slice v1_2 x1.head.length v1_3, .bool x1.egd, .int .i64 x1.left, .int .i64 x1.right] 46)).heap.size ((w.alloc (.cells #[.slice v0_0 x0.rels.length v0_1, .slice v0_2 x0.facts.length v0_3] 43)).alloc (.cells #[.slice v1_0 x1.body.length v1_1, .slice v1_2 x1.head.length v1_3, .bool x1.egd, .int .i64 x1.left, .int .i64 x1.right] 46)) w2 := hb2
  have f19 : w2.cell? ⟨w.heap.size + 1, 0, none⟩ = some (.slice v1_0 x1.body.length v1_1) := ((c1_2).cell (p := ⟨w.heap.size + 1, 0, none⟩) (by show w.heap.size + 1 < _; omega)).trans K3.out
  have f20 : w2.cell? ⟨w.heap.size + 1, 1, none⟩ = some (.slice v1_2 x1.head.length v1_3) := ((c1_2).cell (p := ⟨w.heap.size + 1, 1, none⟩) (by show w.heap.size + 1 < _; omega)).trans K4.out
  have f21 : w2.cell? ⟨w.heap.size + 1, 2, none⟩ = some (.bool x1.egd) := ((c1_2).cell (p := ⟨w.heap.size + 1, 2, none⟩) (by show w.heap.size + 1 < _; omega)).trans K5.out
  have f22 : w2.cell? ⟨w.heap.size + 1, 3, none⟩ = some (.int .i64 x1.left) := ((c1_2).cell (p := ⟨w.heap.size + 1, 3, none⟩) (by show w.heap.size + 1 < _; omega)).trans K6.out
  have f23 : w2.cell? ⟨w.heap.size + 1, 4, none⟩ = some (.int .i64 x1.right) := ((c1_2).cell (p := ⟨w.heap.size + 1, 4, none⟩) (by show w.heap.size + 1 < _; omega)).trans K7.out
  have c0_2 : Below w.heap.size w w2 := (c0_1.trans (hb2.mono (by omega)))
  go_wp2_with fail
  refine (szDependency_c _ x1 (1048576 - (Instance_sz x0 : Nat)) _ ((A1.out.below c0_2 (Nat.le_refl _)).more c0_2.size) W1.out (by omega) (by omega)).mono ?_
  rw [e2]
  rintro e w3 ⟨rfl, hb3⟩
  have z3 : w2.heap.size ≤ w3.heap.size := hb3.size
  clear f19 f20 f21 f22 f23
  go_wp2_with fail
  have c1_3 : Below ((w.alloc (.cells #[.slice v0_0 x0.rels.length v0_1, .slice v0_2 x0.facts.length v0_3] 43)).alloc (.cells #[.slice v1_0 x1.body.length v1_1, .slice v1_2 x1.head.length v1_3, .bool x1.egd, .int .i64 x1.left, .int .i64 x1.right] 46)).heap.size ((w.alloc (.cells #[.slice v0_0 x0.rels.length v0_1, .slice v0_2 x0.facts.length v0_3] 43)).alloc (.cells #[.slice v1_0 x1.body.length v1_1, .slice v1_2 x1.head.length v1_3, .bool x1.egd, .int .i64 x1.left, .int .i64 x1.right] 46)) w3 := (c1_2.trans (hb3.mono (by omega)))
  have f24 : w3.cell? ⟨w.heap.size, 0, none⟩ = some (.slice v0_0 x0.rels.length v0_1) := ((c1_3).cell (p := ⟨w.heap.size, 0, none⟩) (by show w.heap.size < _; omega)).trans K1.out
  have gf24 := Aft.cell (B := w3.heap.size) (by omega) f24
  clear f24
  have f25 : w3.cell? ⟨w.heap.size, 1, none⟩ = some (.slice v0_2 x0.facts.length v0_3) := ((c1_3).cell (p := ⟨w.heap.size, 1, none⟩) (by show w.heap.size < _; omega)).trans K2.out
  have gf25 := Aft.cell (B := w3.heap.size) (by omega) f25
  clear f25
  have f26 : w3.cell? ⟨w.heap.size + 1, 0, none⟩ = some (.slice v1_0 x1.body.length v1_1) := ((c1_3).cell (p := ⟨w.heap.size + 1, 0, none⟩) (by show w.heap.size + 1 < _; omega)).trans K3.out
  have gf26 := Aft.cell (B := w3.heap.size) (by omega) f26
  clear f26
  have f27 : w3.cell? ⟨w.heap.size + 1, 1, none⟩ = some (.slice v1_2 x1.head.length v1_3) := ((c1_3).cell (p := ⟨w.heap.size + 1, 1, none⟩) (by show w.heap.size + 1 < _; omega)).trans K4.out
  have gf27 := Aft.cell (B := w3.heap.size) (by omega) f27
  clear f27
  have f28 : w3.cell? ⟨w.heap.size + 1, 2, none⟩ = some (.bool x1.egd) := ((c1_3).cell (p := ⟨w.heap.size + 1, 2, none⟩) (by show w.heap.size + 1 < _; omega)).trans K5.out
  have gf28 := Aft.cell (B := w3.heap.size) (by omega) f28
  clear f28
  have f29 : w3.cell? ⟨w.heap.size + 1, 3, none⟩ = some (.int .i64 x1.left) := ((c1_3).cell (p := ⟨w.heap.size + 1, 3, none⟩) (by show w.heap.size + 1 < _; omega)).trans K6.out
  have gf29 := Aft.cell (B := w3.heap.size) (by omega) f29
  clear f29
  have f30 : w3.cell? ⟨w.heap.size + 1, 4, none⟩ = some (.int .i64 x1.right) := ((c1_3).cell (p := ⟨w.heap.size + 1, 4, none⟩) (by show w.heap.size + 1 < _; omega)).trans K7.out
  have gf30 := Aft.cell (B := w3.heap.size) (by omega) f30
  clear f30
  refine wp_region_plan (C := fun w' => ∃ u : Aft w3.heap.size w3, w' = u.now) (.still 0 (.move true 1 (.still 2 (.move true 3 (.still 4 (.move true 5 (.move true 6 (.still 7 .done) .none) .none)) .none)) .none)) (by kernel_rfl) (by kernel_rfl) (by kernel_rfl) (fun _ => ⟨⟨_, (Below.refl _ _).drew⟩, rfl⟩) ?_
  have hb4 : Below w3.heap.size w3 w3.drew := (Below.refl _ _).drew
  have z4 : w3.drew.heap.size = w3.heap.size := rfl
  have c0_4 : Below w.heap.size w w3.drew := ((c0_2.trans (hb3.mono (by omega))).trans (hb4.mono (by omega)))
  refine plan_look _ rfl rfl ?_
  go_big_quiet_step (fail)
  refine wpQuiet_nil ?_
  refine plan_call _ 20 _ _ _ _ _ rfl _ Tryz.func20 (by kernel_rfl) (by kernel_rfl) ?_ True.intro
  show Calls Tryz.prog 20 #[.agg #[.slice v0_0 x0.rels.length v0_1, .slice v0_2 x0.facts.length v0_3]] _ _
  refine (toInstance_c _ x0 _ ((A0.out.below c0_4 (Nat.le_refl _)).more c0_4.size) S0).mono ?_
  rintro e w5 ⟨u31, rfl, ou31, hb5⟩
  have z5 : w3.drew.heap.size ≤ w5.heap.size := hb5.size
  obtain ⟨y32_0, y32_1, y32_2, y32_3, rfl⟩ := Instance_form (ou31.at_ (Nat.le_refl _))
  have c3_5 : Below w3.heap.size w3 w5 := (hb4.trans (hb5.mono (by omega)))
  refine ⟨_, rfl, fun _ => ⟨⟨_, c3_5⟩, rfl⟩, ?_⟩
  refine plan_put ?_ (by simp only [Act.put, List.setIfInBounds_toArray, List.set_cons_succ, List.set_cons_zero]; rfl)
  have c0_5 : Below w.heap.size w w5 := (c0_4.trans (hb5.mono (by omega)))
  refine plan_look _ rfl rfl ?_
  go_big_quiet_step (fail)
  refine wpQuiet_nil ?_
  refine plan_call _ 21 _ _ _ _ _ rfl _ Tryz.func21 (by kernel_rfl) (by kernel_rfl) ?_ True.intro
  show Calls Tryz.prog 21 #[.agg #[.slice v1_0 x1.body.length v1_1, .slice v1_2 x1.head.length v1_3, .bool x1.egd, .int .i64 x1.left, .int .i64 x1.right]] _ _
  refine (toDependency_c _ x1 _ ((A1.out.below c0_5 (Nat.le_refl _)).more c0_5.size) S1).mono ?_
  rintro e w6 ⟨u33, rfl, ou33, hb6⟩
  have z6 : w5.heap.size ≤ w6.heap.size := hb6.size
  obtain ⟨y34_0, y34_1, y34_2, y34_3, rfl⟩ := Dependency_form (ou33.at_ (Nat.le_refl _))
  have c3_6 : Below w3.heap.size w3 w6 := (c3_5.trans (hb6.mono (by omega)))
  refine ⟨_, rfl, fun _ => ⟨⟨_, c3_6⟩, rfl⟩, ?_⟩
  refine plan_put ?_ (by simp only [Act.put, List.setIfInBounds_toArray, List.set_cons_succ, List.set_cons_zero]; rfl)
  have c0_6 : Below w.heap.size w w6 := (c0_5.trans (hb6.mono (by omega)))
  refine plan_look _ rfl rfl ?_
  go_big_quiet_step (fail)
  refine wpQuiet_nil ?_
  refine plan_call _ 22 _ _ _ _ _ rfl _ Tryz.func22 (by kernel_rfl) (by kernel_rfl) ?_ True.intro
  show Calls Tryz.prog 22 #[(.slice PI2 x2.length cI2)] _ _
  refine (toIntS_c _ x2 _ ((A2.out.below c0_6 (Nat.le_refl _)).more c0_6.size) S2).mono ?_
  rintro e w7 ⟨u35, rfl, ou35, hb7⟩
  have z7 : w6.heap.size ≤ w7.heap.size := hb7.size
  have c3_7 : Below w3.heap.size w3 w7 := (c3_6.trans (hb7.mono (by omega)))
  refine ⟨_, rfl, fun _ => ⟨⟨_, c3_7⟩, rfl⟩, ?_⟩
  refine plan_put ?_ (by simp only [Act.put, List.setIfInBounds_toArray, List.set_cons_succ, List.set_cons_zero]; rfl)
  have c5_7 : Below w5.heap.size w5 w7 := (hb6.trans (hb7.mono (by omega)))
  have c6_7 : Below w6.heap.size w6 w7 := hb7
  refine plan_call _ 12 _ _ _ _ _ rfl _ Tryz.func12 (by kernel_rfl) (by kernel_rfl) ?_ True.intro
  show Calls Tryz.prog 12 #[.agg #[.slice y32_0 x0.rels.length y32_1, .slice y32_2 x0.facts.length y32_3], .agg #[.slice y34_0 x1.body.length y34_1, .slice y34_2 x1.head.length y34_3, .bool x1.egd, .int .i64 x1.left, .int .i64 x1.right], u35] _ _
  refine (specIsActiveTrigger_c _ x0 _ x1 _ x2 _ ((ou31.below c5_7 (Nat.le_refl _)).at_ (by omega)) W0.out S0 ((ou33.below c6_7 (Nat.le_refl _)).at_ (by omega)) W1.out S1 ((ou35.below (Below.refl w7.heap.size w7) (Nat.le_refl _)).at_ (Nat.le_refl _)) W2.out S2).mono ?_
  rintro e w8 ⟨rfl, hb8⟩
  have z8 : w7.heap.size ≤ w8.heap.size := hb8.size
  have c3_8 : Below w3.heap.size w3 w8 := (c3_7.trans (hb8.mono (by omega)))
  refine ⟨_, rfl, fun _ => ⟨⟨_, c3_8⟩, rfl⟩, ?_⟩
  refine plan_put ?_ (by simp only [Act.put, List.setIfInBounds_toArray, List.set_cons_succ, List.set_cons_zero]; rfl)
  refine plan_look _ rfl rfl ?_
  go_big_quiet_step (fail)
  refine wpQuiet_nil ?_
  refine plan_done ?_
  clear gf24 gf25 gf26 gf27 gf28 gf29 gf30
  have c1_8 : Below ((w.alloc (.cells #[.slice v0_0 x0.rels.length v0_1, .slice v0_2 x0.facts.length v0_3] 43)).alloc (.cells #[.slice v1_0 x1.body.length v1_1, .slice v1_2 x1.head.length v1_3, .bool x1.egd, .int .i64 x1.left, .int .i64 x1.right] 46)).heap.size ((w.alloc (.cells #[.slice v0_0 x0.rels.length v0_1, .slice v0_2 x0.facts.length v0_3] 43)).alloc (.cells #[.slice v1_0 x1.body.length v1_1, .slice v1_2 x1.head.length v1_3, .bool x1.egd, .int .i64 x1.left, .int .i64 x1.right] 46)) w8 := (((((c1_3.trans (hb4.mono (by omega))).trans (hb5.mono (by omega))).trans (hb6.mono (by omega))).trans (hb7.mono (by omega))).trans (hb8.mono (by omega)))
  have f37 : w8.cell? ⟨w.heap.size, 0, none⟩ = some (.slice v0_0 x0.rels.length v0_1) := ((c1_8).cell (p := ⟨w.heap.size, 0, none⟩) (by show w.heap.size < _; omega)).trans K1.out
  have f38 : w8.cell? ⟨w.heap.size, 1, none⟩ = some (.slice v0_2 x0.facts.length v0_3) := ((c1_8).cell (p := ⟨w.heap.size, 1, none⟩) (by show w.heap.size < _; omega)).trans K2.out
  have c0_8 : Below w.heap.size w w8 := ((c0_6.trans (hb7.mono (by omega))).trans (hb8.mono (by omega)))
  go_wp2_with fail
  refine (toInstance_c _ x0 _ ((A0.out.below c0_8 (Nat.le_refl _)).more c0_8.size) S0).mono ?_
  rintro e w9 ⟨u39, rfl, ou39, hb9⟩
  have z9 : w8.heap.size ≤ w9.heap.size := hb9.size
  obtain ⟨y40_0, y40_1, y40_2, y40_3, rfl⟩ := Instance_form (ou39.at_ (Nat.le_refl _))
  have hb10 : Below w9.heap.size w9 (w9.alloc (.cells #[.slice y40_0 x0.rels.length y40_1, .slice y40_2 x0.facts.length y40_3] 27)) := below_more (Below.refl _ _) _
  have z10 : w9.heap.size + 1 ≤ (w9.alloc (.cells #[.slice y40_0 x0.rels.length y40_1, .slice y40_2 x0.facts.length y40_3] 27)).heap.size := by simp
  have K41 := Lib.hid (show (w9.alloc (.cells #[.slice y40_0 x0.rels.length y40_1, .slice y40_2 x0.facts.length y40_3] 27)).cell? ⟨w9.heap.size, 0, none⟩ = some (.slice y40_0 x0.rels.length y40_1) by simp [go_sem])
  have K42 := Lib.hid (show (w9.alloc (.cells #[.slice y40_0 x0.rels.length y40_1, .slice y40_2 x0.facts.length y40_3] 27)).cell? ⟨w9.heap.size, 1, none⟩ = some (.slice y40_2 x0.facts.length y40_3) by simp [go_sem])
  clear f37 f38
  have c1_10 : Below ((w.alloc (.cells #[.slice v0_0 x0.rels.length v0_1, .slice v0_2 x0.facts.length v0_3] 43)).alloc (.cells #[.slice v1_0 x1.body.length v1_1, .slice v1_2 x1.head.length v1_3, .bool x1.egd, .int .i64 x1.left, .int .i64 x1.right] 46)).heap.size ((w.alloc (.cells #[.slice v0_0 x0.rels.length v0_1, .slice v0_2 x0.facts.length v0_3] 43)).alloc (.cells #[.slice v1_0 x1.body.length v1_1, .slice v1_2 x1.head.length v1_3, .bool x1.egd, .int .i64 x1.left, .int .i64 x1.right] 46)) (w9.alloc (.cells #[.slice y40_0 x0.rels.length y40_1, .slice y40_2 x0.facts.length y40_3] 27)) := ((c1_8.trans (hb9.mono (by omega))).trans (hb10.mono (by omega)))
  have f43 : (w9.alloc (.cells #[.slice y40_0 x0.rels.length y40_1, .slice y40_2 x0.facts.length y40_3] 27)).cell? ⟨w.heap.size + 1, 0, none⟩ = some (.slice v1_0 x1.body.length v1_1) := ((c1_10).cell (p := ⟨w.heap.size + 1, 0, none⟩) (by show w.heap.size + 1 < _; omega)).trans K3.out
  have f44 : (w9.alloc (.cells #[.slice y40_0 x0.rels.length y40_1, .slice y40_2 x0.facts.length y40_3] 27)).cell? ⟨w.heap.size + 1, 1, none⟩ = some (.slice v1_2 x1.head.length v1_3) := ((c1_10).cell (p := ⟨w.heap.size + 1, 1, none⟩) (by show w.heap.size + 1 < _; omega)).trans K4.out
  have f45 : (w9.alloc (.cells #[.slice y40_0 x0.rels.length y40_1, .slice y40_2 x0.facts.length y40_3] 27)).cell? ⟨w.heap.size + 1, 2, none⟩ = some (.bool x1.egd) := ((c1_10).cell (p := ⟨w.heap.size + 1, 2, none⟩) (by show w.heap.size + 1 < _; omega)).trans K5.out
  have f46 : (w9.alloc (.cells #[.slice y40_0 x0.rels.length y40_1, .slice y40_2 x0.facts.length y40_3] 27)).cell? ⟨w.heap.size + 1, 3, none⟩ = some (.int .i64 x1.left) := ((c1_10).cell (p := ⟨w.heap.size + 1, 3, none⟩) (by show w.heap.size + 1 < _; omega)).trans K6.out
  have f47 : (w9.alloc (.cells #[.slice y40_0 x0.rels.length y40_1, .slice y40_2 x0.facts.length y40_3] 27)).cell? ⟨w.heap.size + 1, 4, none⟩ = some (.int .i64 x1.right) := ((c1_10).cell (p := ⟨w.heap.size + 1, 4, none⟩) (by show w.heap.size + 1 < _; omega)).trans K7.out
  have c0_10 : Below w.heap.size w (w9.alloc (.cells #[.slice y40_0 x0.rels.length y40_1, .slice y40_2 x0.facts.length y40_3] 27)) := ((c0_8.trans (hb9.mono (by omega))).trans (hb10.mono (by omega)))
  go_wp2_with fail
  refine (toDependency_c _ x1 _ ((A1.out.below c0_10 (Nat.le_refl _)).more c0_10.size) S1).mono ?_
  rintro e w11 ⟨u48, rfl, ou48, hb11⟩
  have z11 : (w9.alloc (.cells #[.slice y40_0 x0.rels.length y40_1, .slice y40_2 x0.facts.length y40_3] 27)).heap.size ≤ w11.heap.size := hb11.size
  obtain ⟨y49_0, y49_1, y49_2, y49_3, rfl⟩ := Dependency_form (ou48.at_ (Nat.le_refl _))
  have hb12 : Below w11.heap.size w11 (w11.alloc (.cells #[.slice y49_0 x1.body.length y49_1, .slice y49_2 x1.head.length y49_3, .bool x1.egd, .int .i64 x1.left, .int .i64 x1.right] 30)) := below_more (Below.refl _ _) _
  have z12 : w11.heap.size + 1 ≤ (w11.alloc (.cells #[.slice y49_0 x1.body.length y49_1, .slice y49_2 x1.head.length y49_3, .bool x1.egd, .int .i64 x1.left, .int .i64 x1.right] 30)).heap.size := by simp
  have K50 := Lib.hid (show (w11.alloc (.cells #[.slice y49_0 x1.body.length y49_1, .slice y49_2 x1.head.length y49_3, .bool x1.egd, .int .i64 x1.left, .int .i64 x1.right] 30)).cell? ⟨w11.heap.size, 0, none⟩ = some (.slice y49_0 x1.body.length y49_1) by simp [go_sem])
  have K51 := Lib.hid (show (w11.alloc (.cells #[.slice y49_0 x1.body.length y49_1, .slice y49_2 x1.head.length y49_3, .bool x1.egd, .int .i64 x1.left, .int .i64 x1.right] 30)).cell? ⟨w11.heap.size, 1, none⟩ = some (.slice y49_2 x1.head.length y49_3) by simp [go_sem])
  have K52 := Lib.hid (show (w11.alloc (.cells #[.slice y49_0 x1.body.length y49_1, .slice y49_2 x1.head.length y49_3, .bool x1.egd, .int .i64 x1.left, .int .i64 x1.right] 30)).cell? ⟨w11.heap.size, 2, none⟩ = some (.bool x1.egd) by simp [go_sem])
  have K53 := Lib.hid (show (w11.alloc (.cells #[.slice y49_0 x1.body.length y49_1, .slice y49_2 x1.head.length y49_3, .bool x1.egd, .int .i64 x1.left, .int .i64 x1.right] 30)).cell? ⟨w11.heap.size, 3, none⟩ = some (.int .i64 x1.left) by simp [go_sem])
  have K54 := Lib.hid (show (w11.alloc (.cells #[.slice y49_0 x1.body.length y49_1, .slice y49_2 x1.head.length y49_3, .bool x1.egd, .int .i64 x1.left, .int .i64 x1.right] 30)).cell? ⟨w11.heap.size, 4, none⟩ = some (.int .i64 x1.right) by simp [go_sem])
  clear f43 f44 f45 f46 f47
  have c0_12 : Below w.heap.size w (w11.alloc (.cells #[.slice y49_0 x1.body.length y49_1, .slice y49_2 x1.head.length y49_3, .bool x1.egd, .int .i64 x1.left, .int .i64 x1.right] 30)) := ((c0_10.trans (hb11.mono (by omega))).trans (hb12.mono (by omega)))
  go_wp2_with fail
  refine (toIntS_c _ x2 _ ((A2.out.below c0_12 (Nat.le_refl _)).more c0_12.size) S2).mono ?_
  rintro e w13 ⟨u55, rfl, ou55, hb13⟩
  have z13 : (w11.alloc (.cells #[.slice y49_0 x1.body.length y49_1, .slice y49_2 x1.head.length y49_3, .bool x1.egd, .int .i64 x1.left, .int .i64 x1.right] 30)).heap.size ≤ w13.heap.size := hb13.size
  have c10_13 : Below (w9.alloc (.cells #[.slice y40_0 x0.rels.length y40_1, .slice y40_2 x0.facts.length y40_3] 27)).heap.size (w9.alloc (.cells #[.slice y40_0 x0.rels.length y40_1, .slice y40_2 x0.facts.length y40_3] 27)) w13 := ((hb11.trans (hb12.mono (by omega))).trans (hb13.mono (by omega)))
  have f56 : w13.cell? ⟨w9.heap.size, 0, none⟩ = some (.slice y40_0 x0.rels.length y40_1) := ((c10_13).cell (p := ⟨w9.heap.size, 0, none⟩) (by show w9.heap.size < _; omega)).trans K41.out
  have f57 : w13.cell? ⟨w9.heap.size, 1, none⟩ = some (.slice y40_2 x0.facts.length y40_3) := ((c10_13).cell (p := ⟨w9.heap.size, 1, none⟩) (by show w9.heap.size < _; omega)).trans K42.out
  have c12_13 : Below (w11.alloc (.cells #[.slice y49_0 x1.body.length y49_1, .slice y49_2 x1.head.length y49_3, .bool x1.egd, .int .i64 x1.left, .int .i64 x1.right] 30)).heap.size (w11.alloc (.cells #[.slice y49_0 x1.body.length y49_1, .slice y49_2 x1.head.length y49_3, .bool x1.egd, .int .i64 x1.left, .int .i64 x1.right] 30)) w13 := hb13
  have f58 : w13.cell? ⟨w11.heap.size, 0, none⟩ = some (.slice y49_0 x1.body.length y49_1) := ((c12_13).cell (p := ⟨w11.heap.size, 0, none⟩) (by show w11.heap.size < _; omega)).trans K50.out
  have f59 : w13.cell? ⟨w11.heap.size, 1, none⟩ = some (.slice y49_2 x1.head.length y49_3) := ((c12_13).cell (p := ⟨w11.heap.size, 1, none⟩) (by show w11.heap.size < _; omega)).trans K51.out
  have f60 : w13.cell? ⟨w11.heap.size, 2, none⟩ = some (.bool x1.egd) := ((c12_13).cell (p := ⟨w11.heap.size, 2, none⟩) (by show w11.heap.size < _; omega)).trans K52.out
  have f61 : w13.cell? ⟨w11.heap.size, 3, none⟩ = some (.int .i64 x1.left) := ((c12_13).cell (p := ⟨w11.heap.size, 3, none⟩) (by show w11.heap.size < _; omega)).trans K53.out
  have f62 : w13.cell? ⟨w11.heap.size, 4, none⟩ = some (.int .i64 x1.right) := ((c12_13).cell (p := ⟨w11.heap.size, 4, none⟩) (by show w11.heap.size < _; omega)).trans K54.out
  have c9_13 : Below w9.heap.size w9 w13 := (((hb10.trans (hb11.mono (by omega))).trans (hb12.mono (by omega))).trans (hb13.mono (by omega)))
  have c11_13 : Below w11.heap.size w11 w13 := (hb12.trans (hb13.mono (by omega)))
  go_wp2_with fail
  refine (implIsActiveTrigger_c _ x0 _ x1 _ x2 _ ((ou39.below c9_13 (Nat.le_refl _)).at_ (by omega)) W0.out S0 ((ou48.below c11_13 (Nat.le_refl _)).at_ (by omega)) W1.out S1 ((ou55.below (Below.refl w13.heap.size w13) (Nat.le_refl _)).at_ (Nat.le_refl _)) W2.out S2).mono ?_
  rintro e w14 ⟨rfl, hb14⟩
  have z14 : w13.heap.size ≤ w14.heap.size := hb14.size
  clear f56 f57 f58 f59 f60 f61 f62
  go_wp2_with fail
  have c10_14 : Below (w9.alloc (.cells #[.slice y40_0 x0.rels.length y40_1, .slice y40_2 x0.facts.length y40_3] 27)).heap.size (w9.alloc (.cells #[.slice y40_0 x0.rels.length y40_1, .slice y40_2 x0.facts.length y40_3] 27)) w14 := (c10_13.trans (hb14.mono (by omega)))
  have f64 : w14.cell? ⟨w9.heap.size, 0, none⟩ = some (.slice y40_0 x0.rels.length y40_1) := ((c10_14).cell (p := ⟨w9.heap.size, 0, none⟩) (by show w9.heap.size < _; omega)).trans K41.out
  have gf64 := Aft.cell (B := w14.heap.size) (by omega) f64
  clear f64
  have f65 : w14.cell? ⟨w9.heap.size, 1, none⟩ = some (.slice y40_2 x0.facts.length y40_3) := ((c10_14).cell (p := ⟨w9.heap.size, 1, none⟩) (by show w9.heap.size < _; omega)).trans K42.out
  have gf65 := Aft.cell (B := w14.heap.size) (by omega) f65
  clear f65
  have c1_14 : Below ((w.alloc (.cells #[.slice v0_0 x0.rels.length v0_1, .slice v0_2 x0.facts.length v0_3] 43)).alloc (.cells #[.slice v1_0 x1.body.length v1_1, .slice v1_2 x1.head.length v1_3, .bool x1.egd, .int .i64 x1.left, .int .i64 x1.right] 46)).heap.size ((w.alloc (.cells #[.slice v0_0 x0.rels.length v0_1, .slice v0_2 x0.facts.length v0_3] 43)).alloc (.cells #[.slice v1_0 x1.body.length v1_1, .slice v1_2 x1.head.length v1_3, .bool x1.egd, .int .i64 x1.left, .int .i64 x1.right] 46)) w14 := ((((c1_10.trans (hb11.mono (by omega))).trans (hb12.mono (by omega))).trans (hb13.mono (by omega))).trans (hb14.mono (by omega)))
  have f66 : w14.cell? ⟨w.heap.size, 0, none⟩ = some (.slice v0_0 x0.rels.length v0_1) := ((c1_14).cell (p := ⟨w.heap.size, 0, none⟩) (by show w.heap.size < _; omega)).trans K1.out
  have gf66 := Aft.cell (B := w14.heap.size) (by omega) f66
  clear f66
  have f67 : w14.cell? ⟨w.heap.size, 1, none⟩ = some (.slice v0_2 x0.facts.length v0_3) := ((c1_14).cell (p := ⟨w.heap.size, 1, none⟩) (by show w.heap.size < _; omega)).trans K2.out
  have gf67 := Aft.cell (B := w14.heap.size) (by omega) f67
  clear f67
  refine wp_region_plan (C := fun w' => ∃ u : Aft w14.heap.size w14, w' = u.now) (.still 0 (.still 1 (.move true 2 (.move true 3 (.still 4 .done) .none) .none))) (by kernel_rfl) (by kernel_rfl) (by kernel_rfl) (fun _ => ⟨⟨_, (Below.refl _ _).drew⟩, rfl⟩) ?_
  have hb15 : Below w14.heap.size w14 w14.drew := (Below.refl _ _).drew
  have z15 : w14.drew.heap.size = w14.heap.size := rfl
  have c0_15 : Below w.heap.size w w14.drew := (((c0_12.trans (hb13.mono (by omega))).trans (hb14.mono (by omega))).trans (hb15.mono (by omega)))
  refine plan_look _ rfl rfl ?_
  go_big_quiet_step (fail)
  refine wpQuiet_nil ?_
  refine plan_look _ rfl rfl ?_
  go_big_quiet_step (fail)
  refine wpQuiet_nil ?_
  refine plan_call _ 20 _ _ _ _ _ rfl _ Tryz.func20 (by kernel_rfl) (by kernel_rfl) ?_ True.intro
  show Calls Tryz.prog 20 #[.agg #[.slice v0_0 x0.rels.length v0_1, .slice v0_2 x0.facts.length v0_3]] _ _
  refine (toInstance_c _ x0 _ ((A0.out.below c0_15 (Nat.le_refl _)).more c0_15.size) S0).mono ?_
  rintro e w16 ⟨u68, rfl, ou68, hb16⟩
  have z16 : w14.drew.heap.size ≤ w16.heap.size := hb16.size
  obtain ⟨y69_0, y69_1, y69_2, y69_3, rfl⟩ := Instance_form (ou68.at_ (Nat.le_refl _))
  have c14_16 : Below w14.heap.size w14 w16 := (hb15.trans (hb16.mono (by omega)))
  refine ⟨_, rfl, fun _ => ⟨⟨_, c14_16⟩, rfl⟩, ?_⟩
  refine plan_put ?_ (by simp only [Act.put, List.setIfInBounds_toArray, List.set_cons_succ, List.set_cons_zero]; rfl)
  have c9_16 : Below w9.heap.size w9 w16 := (((c9_13.trans (hb14.mono (by omega))).trans (hb15.mono (by omega))).trans (hb16.mono (by omega)))
  refine plan_call _ 23 _ _ _ _ _ rfl _ Tryz.func23 (by kernel_rfl) (by kernel_rfl) ?_ True.intro
  show Calls Tryz.prog 23 #[.agg #[.slice y40_0 x0.rels.length y40_1, .slice y40_2 x0.facts.length y40_3], .agg #[.slice y69_0 x0.rels.length y69_1, .slice y69_2 x0.facts.length y69_3]] _ _
  refine (eqInstance_c _ _ x0 _ ((ou39.below c9_16 (Nat.le_refl _)).at_ (by omega)) ((ou68.below (Below.refl w16.heap.size w16) (Nat.le_refl _)).at_ (Nat.le_refl _))).mono ?_
  rintro e w17 ⟨rfl, hb17⟩
  have z17 : w16.heap.size ≤ w17.heap.size := hb17.size
  have c14_17 : Below w14.heap.size w14 w17 := (c14_16.trans (hb17.mono (by omega)))
  refine ⟨_, rfl, fun _ => ⟨⟨_, c14_17⟩, rfl⟩, ?_⟩
  refine plan_put ?_ (by simp only [Act.put, List.setIfInBounds_toArray, List.set_cons_succ, List.set_cons_zero]; rfl)
  refine plan_look _ rfl rfl ?_
  go_big_quiet_step (fail)
  refine wpQuiet_nil ?_
  refine plan_done ?_
  clear gf64 gf65 gf66 gf67
  go_wp2_with fail
  have c12_17 : Below (w11.alloc (.cells #[.slice y49_0 x1.body.length y49_1, .slice y49_2 x1.head.length y49_3, .bool x1.egd, .int .i64 x1.left, .int .i64 x1.right] 30)).heap.size (w11.alloc (.cells #[.slice y49_0 x1.body.length y49_1, .slice y49_2 x1.head.length y49_3, .bool x1.egd, .int .i64 x1.left, .int .i64 x1.right] 30)) w17 := ((((c12_13.trans (hb14.mono (by omega))).trans (hb15.mono (by omega))).trans (hb16.mono (by omega))).trans (hb17.mono (by omega)))
  have f70 : w17.cell? ⟨w11.heap.size, 0, none⟩ = some (.slice y49_0 x1.body.length y49_1) := ((c12_17).cell (p := ⟨w11.heap.size, 0, none⟩) (by show w11.heap.size < _; omega)).trans K50.out
  have gf70 := Aft.cell (B := w17.heap.size) (by omega) f70
  clear f70
  have f71 : w17.cell? ⟨w11.heap.size, 1, none⟩ = some (.slice y49_2 x1.head.length y49_3) := ((c12_17).cell (p := ⟨w11.heap.size, 1, none⟩) (by show w11.heap.size < _; omega)).trans K51.out
  have gf71 := Aft.cell (B := w17.heap.size) (by omega) f71
  clear f71
  have f72 : w17.cell? ⟨w11.heap.size, 2, none⟩ = some (.bool x1.egd) := ((c12_17).cell (p := ⟨w11.heap.size, 2, none⟩) (by show w11.heap.size < _; omega)).trans K52.out
  have gf72 := Aft.cell (B := w17.heap.size) (by omega) f72
  clear f72
  have f73 : w17.cell? ⟨w11.heap.size, 3, none⟩ = some (.int .i64 x1.left) := ((c12_17).cell (p := ⟨w11.heap.size, 3, none⟩) (by show w11.heap.size < _; omega)).trans K53.out
  have gf73 := Aft.cell (B := w17.heap.size) (by omega) f73
  clear f73
  have f74 : w17.cell? ⟨w11.heap.size, 4, none⟩ = some (.int .i64 x1.right) := ((c12_17).cell (p := ⟨w11.heap.size, 4, none⟩) (by show w11.heap.size < _; omega)).trans K54.out
  have gf74 := Aft.cell (B := w17.heap.size) (by omega) f74
  clear f74
  have c1_17 : Below ((w.alloc (.cells #[.slice v0_0 x0.rels.length v0_1, .slice v0_2 x0.facts.length v0_3] 43)).alloc (.cells #[.slice v1_0 x1.body.length v1_1, .slice v1_2 x1.head.length v1_3, .bool x1.egd, .int .i64 x1.left, .int .i64 x1.right] 46)).heap.size ((w.alloc (.cells #[.slice v0_0 x0.rels.length v0_1, .slice v0_2 x0.facts.length v0_3] 43)).alloc (.cells #[.slice v1_0 x1.body.length v1_1, .slice v1_2 x1.head.length v1_3, .bool x1.egd, .int .i64 x1.left, .int .i64 x1.right] 46)) w17 := (((c1_14.trans (hb15.mono (by omega))).trans (hb16.mono (by omega))).trans (hb17.mono (by omega)))
  have f75 : w17.cell? ⟨w.heap.size + 1, 0, none⟩ = some (.slice v1_0 x1.body.length v1_1) := ((c1_17).cell (p := ⟨w.heap.size + 1, 0, none⟩) (by show w.heap.size + 1 < _; omega)).trans K3.out
  have gf75 := Aft.cell (B := w17.heap.size) (by omega) f75
  clear f75
  have f76 : w17.cell? ⟨w.heap.size + 1, 1, none⟩ = some (.slice v1_2 x1.head.length v1_3) := ((c1_17).cell (p := ⟨w.heap.size + 1, 1, none⟩) (by show w.heap.size + 1 < _; omega)).trans K4.out
  have gf76 := Aft.cell (B := w17.heap.size) (by omega) f76
  clear f76
  have f77 : w17.cell? ⟨w.heap.size + 1, 2, none⟩ = some (.bool x1.egd) := ((c1_17).cell (p := ⟨w.heap.size + 1, 2, none⟩) (by show w.heap.size + 1 < _; omega)).trans K5.out
  have gf77 := Aft.cell (B := w17.heap.size) (by omega) f77
  clear f77
  have f78 : w17.cell? ⟨w.heap.size + 1, 3, none⟩ = some (.int .i64 x1.left) := ((c1_17).cell (p := ⟨w.heap.size + 1, 3, none⟩) (by show w.heap.size + 1 < _; omega)).trans K6.out
  have gf78 := Aft.cell (B := w17.heap.size) (by omega) f78
  clear f78
  have f79 : w17.cell? ⟨w.heap.size + 1, 4, none⟩ = some (.int .i64 x1.right) := ((c1_17).cell (p := ⟨w.heap.size + 1, 4, none⟩) (by show w.heap.size + 1 < _; omega)).trans K7.out
  have gf79 := Aft.cell (B := w17.heap.size) (by omega) f79
  clear f79
  refine wp_region_plan (C := fun w' => ∃ u : Aft w17.heap.size w17, w' = u.now) (.still 0 (.still 1 (.move true 2 (.move true 3 (.still 4 .done) .none) .none))) (by kernel_rfl) (by kernel_rfl) (by kernel_rfl) (fun _ => ⟨⟨_, (Below.refl _ _).drew⟩, rfl⟩) ?_
  have hb18 : Below w17.heap.size w17 w17.drew := (Below.refl _ _).drew
  have z18 : w17.drew.heap.size = w17.heap.size := rfl
  have c0_18 : Below w.heap.size w w17.drew := (((c0_15.trans (hb16.mono (by omega))).trans (hb17.mono (by omega))).trans (hb18.mono (by omega)))
  refine plan_look _ rfl rfl ?_
  go_big_quiet_step (fail)
  refine wpQuiet_nil ?_
  refine plan_look _ rfl rfl ?_
  go_big_quiet_step (fail)
  refine wpQuiet_nil ?_
  refine plan_call _ 21 _ _ _ _ _ rfl _ Tryz.func21 (by kernel_rfl) (by kernel_rfl) ?_ True.intro
  show Calls Tryz.prog 21 #[.agg #[.slice v1_0 x1.body.length v1_1, .slice v1_2 x1.head.length v1_3, .bool x1.egd, .int .i64 x1.left, .int .i64 x1.right]] _ _
  refine (toDependency_c _ x1 _ ((A1.out.below c0_18 (Nat.le_refl _)).more c0_18.size) S1).mono ?_
  rintro e w19 ⟨u80, rfl, ou80, hb19⟩
  have z19 : w17.drew.heap.size ≤ w19.heap.size := hb19.size
  obtain ⟨y81_0, y81_1, y81_2, y81_3, rfl⟩ := Dependency_form (ou80.at_ (Nat.le_refl _))
  have c17_19 : Below w17.heap.size w17 w19 := (hb18.trans (hb19.mono (by omega)))
  refine ⟨_, rfl, fun _ => ⟨⟨_, c17_19⟩, rfl⟩, ?_⟩
  refine plan_put ?_ (by simp only [Act.put, List.setIfInBounds_toArray, List.set_cons_succ, List.set_cons_zero]; rfl)
  have c11_19 : Below w11.heap.size w11 w19 := ((((((c11_13.trans (hb14.mono (by omega))).trans (hb15.mono (by omega))).trans (hb16.mono (by omega))).trans (hb17.mono (by omega))).trans (hb18.mono (by omega))).trans (hb19.mono (by omega)))
  refine plan_call _ 24 _ _ _ _ _ rfl _ Tryz.func24 (by kernel_rfl) (by kernel_rfl) ?_ True.intro
  show Calls Tryz.prog 24 #[.agg #[.slice y49_0 x1.body.length y49_1, .slice y49_2 x1.head.length y49_3, .bool x1.egd, .int .i64 x1.left, .int .i64 x1.right], .agg #[.slice y81_0 x1.body.length y81_1, .slice y81_2 x1.head.length y81_3, .bool x1.egd, .int .i64 x1.left, .int .i64 x1.right]] _ _
  refine (eqDependency_c _ _ x1 _ ((ou48.below c11_19 (Nat.le_refl _)).at_ (by omega)) ((ou80.below (Below.refl w19.heap.size w19) (Nat.le_refl _)).at_ (Nat.le_refl _))).mono ?_
  rintro e w20 ⟨rfl, hb20⟩
  have z20 : w19.heap.size ≤ w20.heap.size := hb20.size
  have c17_20 : Below w17.heap.size w17 w20 := (c17_19.trans (hb20.mono (by omega)))
  refine ⟨_, rfl, fun _ => ⟨⟨_, c17_20⟩, rfl⟩, ?_⟩
  refine plan_put ?_ (by simp only [Act.put, List.setIfInBounds_toArray, List.set_cons_succ, List.set_cons_zero]; rfl)
  refine plan_look _ rfl rfl ?_
  go_big_quiet_step (fail)
  refine wpQuiet_nil ?_
  refine plan_done ?_
  clear gf70 gf71 gf72 gf73 gf74 gf75 gf76 gf77 gf78 gf79
  have c0_20 : Below w.heap.size w w20 := ((c0_18.trans (hb19.mono (by omega))).trans (hb20.mono (by omega)))
  go_wp2_with fail
  refine (toIntS_c _ x2 _ ((A2.out.below c0_20 (Nat.le_refl _)).more c0_20.size) S2).mono ?_
  rintro e w21 ⟨u82, rfl, ou82, hb21⟩
  have z21 : w20.heap.size ≤ w21.heap.size := hb21.size
  have c13_21 : Below w13.heap.size w13 w21 := (((((((hb14.trans (hb15.mono (by omega))).trans (hb16.mono (by omega))).trans (hb17.mono (by omega))).trans (hb18.mono (by omega))).trans (hb19.mono (by omega))).trans (hb20.mono (by omega))).trans (hb21.mono (by omega)))
  go_wp2_with fail
  refine (eqIntS_c _ _ x2 _ ((ou55.below c13_21 (Nat.le_refl _)).at_ (by omega)) ((ou82.below (Below.refl w21.heap.size w21) (Nat.le_refl _)).at_ (Nat.le_refl _))).mono ?_
  rintro e w22 ⟨rfl, hb22⟩
  have z22 : w21.heap.size ≤ w22.heap.size := hb22.size
  have c0_22 : Below w.heap.size w w22 := ((c0_20.trans (hb21.mono (by omega))).trans (hb22.mono (by omega)))
  go_wp2
  go_ret
  exact ⟨rfl, c0_22⟩

theorem ty : ∀ t ∈ Tryz.f5.params.toList, Tryz.prog.readableRec t = true ∧ t < Tryz.prog.types.size := by
  rw [Tryz.params5]; intro t ht
  simp only [List.mem_cons, List.not_mem_nil, or_false] at ht
  rcases ht with rfl | rfl | rfl <;> exact ⟨by kernel_rfl, of_decide_eq_true (by kernel_rfl)⟩
set_option maxRecDepth 100000 in
theorem lifted (os : Os) (started : os.Started) (H : Type) (enc : TypeId × Value → H) :
    ReturnsInHanded {} Tryz.checked os 5 .any (Rows.fnExactIsActiveTriggerSpec.pre6 enc Tryz.prog Tryz.f5 Rows.fnExactIsActiveTriggerRow.domain false) (Rows.fnExactIsActiveTriggerSpec.post enc Tryz.prog Tryz.f5 false true false false) := by
  refine returnsInHanded_of_change (C := Tryz.checked) ownFact started (by kernel_rfl) Tryz.func5
    (ChangeSpec.witness6 (enc := enc) (C := Tryz.checked) false ⟨#[], #[.agg #[.slice none 0 0, .slice none 0 0], .agg #[.slice none 0 0, .slice none 0 0, .bool false, .int .i64 0, .int .i64 0], .slice none 0 0], []⟩ 8 (by kernel_rfl) (by kernel_rfl) (by kernel_rfl) (by kernel_rfl)) ?_
  intro W base args ds gs before hval0 hW hcnd _
  have hval : ∀ (j : Nat) t v, Tryz.f5.params[j]? = some t → args[j]? = some v → Value.okWide Tryz.prog W .any base t v := hval0
  have hW' := hW
  obtain ⟨p, q, hA0, hV, _, hfz, hnd⟩ := hW
  have hA : DataW.TrodAll enc Tryz.prog W 0 (fun _ => true) true Tryz.f5.params.toList args.toList ds p := hA0
  rw [Tryz.params5] at hA hval
  obtain ⟨v0, vs0, d0, ds0, p0, q0, hargs, rfl, _, h0, r0⟩ := trodAll_cons hA
  obtain ⟨v1, vs1, d1, ds1, p1, q1, rfl, rfl, _, h1, r1⟩ := trodAll_cons r0
  obtain ⟨v2, vs2, d2, ds2, p2, q2, rfl, rfl, _, h2, r2⟩ := trodAll_cons r1
  obtain ⟨rfl, rfl, _⟩ := trodAll_nil r2
  obtain rfl : args = #[v0, v1, v2] := by cases args; simp_all
  obtain ⟨rfl, _⟩ := trodVars_none hV
  obtain ⟨x0, hx0, hwx0⟩ := open_Instance (hval 0 _ v0 rfl rfl) h0 (DataW.TrodAll.lt (trodAll_mk1 h0))
  obtain ⟨x1, hx1, hwx1⟩ := open_Dependency (hval 1 _ v1 rfl rfl) h1 (DataW.TrodAll.lt (trodAll_mk1 h1))
  obtain ⟨x2, hx2, hwx2⟩ := open_IntS (hval 2 _ v2 rfl rfl) h2 (DataW.TrodAll.lt (trodAll_mk1 h2))
  refine (walk v0 x0 v1 x1 v2 x2 W hx0 hwx0 hx1 hwx1 hx2 hwx2).mono fun e W' ⟨he, hb⟩ => ?_
  subst he
  exact ⟨_, rfl, law_post laidFact ty Tryz.underlying4 (by kernel_rfl) rfl hW' rfl hb⟩
theorem holds : Rows.FnExactIsActiveTriggerSaid :=
  OpenClaim.holds_of_wide 5 Tryz.f5 rfl rfl rfl rfl rfl rfl rfl ⟨rfl, rfl, rfl, rfl, rfl⟩ rfl rfl rfl rfl rfl (by kernel_rfl) Tryz.func5 (by kernel_rfl)
    (of_decide_eq_true (by kernel_rfl)) (by unfold Func.isWrapper; first | (rw [if_pos (by decide +kernel)]; kernel_rfl) | (rw [if_neg (by decide +kernel)]; exact ⟨rfl, rfl⟩))
    (fun os started H enc _ => lifted os started H enc)
end lawFnExactIsActiveTrigger

end Go.Proofs.YtoapphgahmofhaaGreat
