/-
  FnExactActiveTriggers: for every argument the translated law returns true, and each argument reads afterwards as it read before. Conditions: none beyond the given row's own.
-/
import Derived.Test.YtoapphgahmofhaaGreatPlan
import Derived.Test.YtoapphgahmofhaaGreatDepC
import Derived.Test.YtoapphgahmofhaaGreatLift
import Derived.Test.YtoapphgahmofhaaGreatSSC
import Derived.Test.YtoapphgahmofhaaGreatInstC
import Derived.Test.YtoapphgahmofhaaGreatActsS
import Derived.Test.YtoapphgahmofhaaGreatActsI
namespace Go.Proofs.YtoapphgahmofhaaGreat
open Go.RowKit Go.ChangeShapes Go.WideShapes Go.ChangeAt Go.ChangeMaps

namespace lawFnExactActiveTriggers

set_option maxRecDepth 100000 in
set_option maxHeartbeats 1600000 in
theorem walk (v0 : Value) (x0 : Inst) (v1 : Value) (x1 : Dep) (w : World) (h0 : Instance_at w w.heap.size v0 x0) (hw0 : Instance_wf x0) (h1 : Dependency_at w w.heap.size v1 x1) (hw1 : Dependency_wf x1) :
    Calls Tryz.prog 6 #[v0, v1] w fun e w' => e = .returned (.bool true) ∧ Below w.heap.size w w' := by
  obtain ⟨v0_0, v0_1, v0_2, v0_3, rfl⟩ := Instance_form h0
  have A0 := Lib.hid h0
  have W0 := Lib.hid hw0
  clear h0 hw0
  obtain ⟨v1_0, v1_1, v1_2, v1_3, rfl⟩ := Dependency_form h1
  have A1 := Lib.hid h1
  have W1 := Lib.hid hw1
  clear h1 hw1
  by_cases hz1 : ((Instance_sz x0 : Nat) : Int) ≤ 1048576
  rotate_left
  · skip
    have e1 := szLeft_no hz1
    have hb1 : Below w.heap.size w ((w.alloc (.cells #[.slice v0_0 x0.rels.length v0_1, .slice v0_2 x0.facts.length v0_3] 43)).alloc (.cells #[.slice v1_0 x1.body.length v1_1, .slice v1_2 x1.head.length v1_3, .bool x1.egd, .int .i64 x1.left, .int .i64 x1.right] 46)) := below_more (below_more (Below.refl _ _) _) _
    have z1 : w.heap.size + 2 ≤ ((w.alloc (.cells #[.slice v0_0 x0.rels.length v0_1, .slice v0_2 x0.facts.length v0_3] 43)).alloc (.cells #[.slice v1_0 x1.body.length v1_1, .slice v1_2 x1.head.length v1_3, .bool x1.egd, .int .i64 x1.left, .int .i64 x1.right] 46)).heap.size := by simp
    have K1 := Lib.hid (show ((w.alloc (.cells #[.slice v0_0 x0.rels.length v0_1, .slice v0_2 x0.facts.length v0_3] 43)).alloc (.cells #[.slice v1_0 x1.body.length v1_1, .slice v1_2 x1.head.length v1_3, .bool x1.egd, .int .i64 x1.left, .int .i64 x1.right] 46)).cell? ⟨w.heap.size, 0, none⟩ = some (.slice v0_0 x0.rels.length v0_1) by simp [go_sem])
    have K2 := Lib.hid (show ((w.alloc (.cells #[.slice v0_0 x0.rels.length v0_1, .slice v0_2 x0.facts.length v0_3] 43)).alloc (.cells #[.slice v1_0 x1.body.length v1_1, .slice v1_2 x1.head.length v1_3, .bool x1.egd, .int .i64 x1.left, .int .i64 x1.right] 46)).cell? ⟨w.heap.size, 1, none⟩ = some (.slice v0_2 x0.facts.length v0_3) by simp [go_sem])
    have K3 := Lib.hid (show ((w.alloc (.cells #[.slice v0_0 x0.rels.length v0_1, .slice v0_2 x0.facts.length v0_3] 43)).alloc (.cells #[.slice v1_0 x1.body.length v1_1, .slice v1_2 x1.head.length v1_3, .bool x1.egd, .int .i64 x1.left, .int .i64 x1.right] 46)).cell? ⟨w.heap.size + 1, 0, none⟩ = some (.slice v1_0 x1.body.length v1_1) by simp [go_sem])
    have K4 := Lib.hid (show ((w.alloc (.cells #[.slice v0_0 x0.rels.length v0_1, .slice v0_2 x0.facts.length v0_3] 43)).alloc (.cells #[.slice v1_0 x1.body.length v1_1, .slice v1_2 x1.head.length v1_3, .bool x1.egd, .int .i64 x1.left, .int .i64 x1.right] 46)).cell? ⟨w.heap.size + 1, 1, none⟩ = some (.slice v1_2 x1.head.length v1_3) by simp [go_sem])
    have K5 := Lib.hid (show ((w.alloc (.cells #[.slice v0_0 x0.rels.length v0_1, .slice v0_2 x0.facts.length v0_3] 43)).alloc (.cells #[.slice v1_0 x1.body.length v1_1, .slice v1_2 x1.head.length v1_3, .bool x1.egd, .int .i64 x1.left, .int .i64 x1.right] 46)).cell? ⟨w.heap.size + 1, 2, none⟩ = some (.bool x1.egd) by simp [go_sem])
    have K6 := Lib.hid (show ((w.alloc (.cells #[.slice v0_0 x0.rels.length v0_1, .slice v0_2 x0.facts.length v0_3] 43)).alloc (.cells #[.slice v1_0 x1.body.length v1_1, .slice v1_2 x1.head.length v1_3, .bool x1.egd, .int .i64 x1.left, .int .i64 x1.right] 46)).cell? ⟨w.heap.size + 1, 3, none⟩ = some (.int .i64 x1.left) by simp [go_sem])
    have K7 := Lib.hid (show ((w.alloc (.cells #[.slice v0_0 x0.rels.length v0_1, .slice v0_2 x0.facts.length v0_3] 43)).alloc (.cells #[.slice v1_0 x1.body.length v1_1, .slice v1_2 x1.head.length v1_3, .bool x1.egd, .int .i64 x1.left, .int .i64 x1.right] 46)).cell? ⟨w.heap.size + 1, 4, none⟩ = some (.int .i64 x1.right) by simp [go_sem])
    go_enter Tryz.func6, Tryz.ntmps6
    have f8 : ((w.alloc (.cells #[.slice v0_0 x0.rels.length v0_1, .slice v0_2 x0.facts.length v0_3] 43)).alloc (.cells #[.slice v1_0 x1.body.length v1_1, .slice v1_2 x1.head.length v1_3, .bool x1.egd, .int .i64 x1.left, .int .i64 x1.right] 46)).cell? ⟨w.heap.size, 0, none⟩ = some (.slice v0_0 x0.rels.length v0_1) := K1.out
    have f9 : ((w.alloc (.cells #[.slice v0_0 x0.rels.length v0_1, .slice v0_2 x0.facts.length v0_3] 43)).alloc (.cells #[.slice v1_0 x1.body.length v1_1, .slice v1_2 x1.head.length v1_3, .bool x1.egd, .int .i64 x1.left, .int .i64 x1.right] 46)).cell? ⟨w.heap.size, 1, none⟩ = some (.slice v0_2 x0.facts.length v0_3) := K2.out
    have c0_1 : Below w.heap.size w ((w.alloc (.cells #[.slice v0_0 x0.rels.length v0_1, .slice v0_2 x0.facts.length v0_3] 43)).alloc (.cells #[.slice v1_0 x1.body.length v1_1, .slice v1_2 x1.head.length v1_3, .bool x1.egd, .int .i64 x1.left, .int .i64 x1.right] 46)) := hb1
    go_wp2_with fail
    refine (szInstance_c _ x0 (1048576) _ ((A0.out.below c0_1 (Nat.le_refl _)).more c0_1.size) W0.out (by omega) (by omega)).mono ?_
    rw [e1]
    rintro e w2 ⟨rfl, hb2⟩
    have z2 : ((w.alloc (.cells #[.slice v0_0 x0.rels.length v0_1, .slice v0_2 x0.facts.length v0_3] 43)).alloc (.cells #[.slice v1_0 x1.body.length v1_1, .slice v1_2 x1.head.length v1_3, .bool x1.egd, .int .i64 x1.left, .int .i64 x1.right] 46)).heap.size ≤ w2.heap.size := hb2.size
    clear f8 f9
    have c0_2 : Below w.heap.size w w2 := (c0_1.trans (hb2.mono (by omega)))
    go_wp2
    go_ret
    exact ⟨rfl, c0_2⟩
  by_cases hz2 : ((Dependency_sz x1 : Nat) : Int) ≤ 1048576 - (Instance_sz x0 : Nat)
  rotate_left
  · skip
    have e1 := szLeft_yes hz1
    have e2 := szLeft_no hz2
    have hb1 : Below w.heap.size w ((w.alloc (.cells #[.slice v0_0 x0.rels.length v0_1, .slice v0_2 x0.facts.length v0_3] 43)).alloc (.cells #[.slice v1_0 x1.body.length v1_1, .slice v1_2 x1.head.length v1_3, .bool x1.egd, .int .i64 x1.left, .int .i64 x1.right] 46)) := below_more (below_more (Below.refl _ _) _) _
    have z1 : w.heap.size + 2 ≤ ((w.alloc (.cells #[.slice v0_0 x0.rels.length v0_1, .slice v0_2 x0.facts.length v0_3] 43)).alloc (.cells #[.slice v1_0 x1.body.length v1_1, .slice v1_2 x1.head.length v1_3, .bool x1.egd, .int .i64 x1.left, .int .i64 x1.right] 46)).heap.size := by simp
    have K1 := Lib.hid (show ((w.alloc (.cells #[.slice v0_0 x0.rels.length v0_1, .slice v0_2 x0.facts.length v0_3] 43)).alloc (.cells #[.slice v1_0 x1.body.length v1_1, .slice v1_2 x1.head.length v1_3, .bool x1.egd, .int .i64 x1.left, .int .i64 x1.right] 46)).cell? ⟨w.heap.size, 0, none⟩ = some (.slice v0_0 x0.rels.length v0_1) by simp [go_sem])
    have K2 := Lib.hid (show ((w.alloc (.cells #[.slice v0_0 x0.rels.length v0_1, .slice v0_2 x0.facts.length v0_3] 43)).alloc (.cells #[.slice v1_0 x1.body.length v1_1, .slice v1_2 x1.head.length v1_3, .bool x1.egd, .int .i64 x1.left, .int .i64 x1.right] 46)).cell? ⟨w.heap.size, 1, none⟩ = some (.slice v0_2 x0.facts.length v0_3) by simp [go_sem])
    have K3 := Lib.hid (show ((w.alloc (.cells #[.slice v0_0 x0.rels.length v0_1, .slice v0_2 x0.facts.length v0_3] 43)).alloc (.cells #[.slice v1_0 x1.body.length v1_1, .slice v1_2 x1.head.length v1_3, .bool x1.egd, .int .i64 x1.left, .int .i64 x1.right] 46)).cell? ⟨w.heap.size + 1, 0, none⟩ = some (.slice v1_0 x1.body.length v1_1) by simp [go_sem])
    have K4 := Lib.hid (show ((w.alloc (.cells #[.slice v0_0 x0.rels.length v0_1, .slice v0_2 x0.facts.length v0_3] 43)).alloc (.cells #[.slice v1_0 x1.body.length v1_1, .slice v1_2 x1.head.length v1_3, .bool x1.egd, .int .i64 x1.left, .int .i64 x1.right] 46)).cell? ⟨w.heap.size + 1, 1, none⟩ = some (.slice v1_2 x1.head.length v1_3) by simp [go_sem])
    have K5 := Lib.hid (show ((w.alloc (.cells #[.slice v0_0 x0.rels.length v0_1, .slice v0_2 x0.facts.length v0_3] 43)).alloc (.cells #[.slice v1_0 x1.body.length v1_1, .slice v1_2 x1.head.length v1_3, .bool x1.egd, .int .i64 x1.left, .int .i64 x1.right] 46)).cell? ⟨w.heap.size + 1, 2, none⟩ = some (.bool x1.egd) by simp [go_sem])
    have K6 := Lib.hid (show ((w.alloc (.cells #[.slice v0_0 x0.rels.length v0_1, .slice v0_2 x0.facts.length v0_3] 43)).alloc (.cells #[.slice v1_0 x1.body.length v1_1, .slice v1_2 x1.head.length v1_3, .bool x1.egd, .int .i64 x1.left, .int .i64 x1.right] 46)).cell? ⟨w.heap.size + 1, 3, none⟩ = some (.int .i64 x1.left) by simp [go_sem])
    have K7 := Lib.hid (show ((w.alloc (.cells #[.slice v0_0 x0.rels.length v0_1, .slice v0_2 x0.facts.length v0_3] 43)).alloc (.cells #[.slice v1_0 x1.body.length v1_1, .slice v1_2 x1.head.length v1_3, .bool x1.egd, .int .i64 x1.left, .int .i64 x1.right] 46)).cell? ⟨w.heap.size + 1, 4, none⟩ = some (.int .i64 x1.right) by simp [go_sem])
    go_enter Tryz.func6, Tryz.ntmps6
    have f10 : ((w.alloc (.cells #[.slice v0_0 x0.rels.length v0_1, .slice v0_2 x0.facts.length v0_3] 43)).alloc (.cells #[.slice v1_0 x1.body.length v1_1, .slice v1_2 x1.head.length v1_3, .bool x1.egd, .int .i64 x1.left, .int .i64 x1.right] 46)).cell? ⟨w.heap.size, 0, none⟩ = some (.slice v0_0 x0.rels.length v0_1) := K1.out
    have f11 : ((w.alloc (.cells #[.slice v0_0 x0.rels.length v0_1, .slice v0_2 x0.facts.length v0_3] 43)).alloc (.cells #[.slice v1_0 x1.body.length v1_1, .slice v1_2 x1.head.length v1_3, .bool x1.egd, .int .i64 x1.left, .int .i64 x1.right] 46)).cell? ⟨w.heap.size, 1, none⟩ = some (.slice v0_2 x0.facts.length v0_3) := K2.out
    have c0_1 : Below w.heap.size w ((w.alloc (.cells #[.slice v0_0 x0.rels.length v0_1, .slice v0_2 x0.facts.length v0_3] 43)).alloc (.cells #[.slice v1_0 x1.body.length v1_1, .slice v1_2 x1.head.length v1_3, .bool x1.egd, .int .i64 x1.left, .int .i64 x1.right] 46)) := hb1
    go_wp2_with fail
    refine (szInstance_c _ x0 (1048576) _ ((A0.out.below c0_1 (Nat.le_refl _)).more c0_1.size) W0.out (by omega) (by omega)).mono ?_
    rw [e1]
    rintro e w2 ⟨rfl, hb2⟩
    have z2 : ((w.alloc (.cells #[.slice v0_0 x0.rels.length v0_1, .slice v0_2 x0.facts.length v0_3] 43)).alloc (.cells #[.slice v1_0 x1.body.length v1_1, .slice v1_2 x1.head.length v1_3, .bool x1.egd, .int .i64 x1.left, .int .i64 x1.right] 46)).heap.size ≤ w2.heap.size := hb2.size
    clear f10 f11
    have c1_2 : Below ((w.alloc (.cells #[.slice v0_0 x0.rels.length v0_1, .slice v0_2 x0.facts.length v0_3] 43)).alloc (.cells #[.slice v1_0 x1.body.length v1_1, .slice v1_2 x1.head.length v1_3, .bool x1.egd, .int .i64 x1.left, .int .i64 x1.right] 46)).heap.size ((w.alloc (.cells #[.slice v0_0 x0.rels.length v0_1, .slice v0_2 x0.facts.length v0_3] 43)).alloc (.cells #[.slice v1_0 x1.body.length v1_1, .slice v1_2 x1.head.length v1_3, .bool x1.egd, .int .i64 x1.left, .int .i64 x1.right] 46)) w2 := hb2
    have f12 : w2.cell? ⟨w.heap.size + 1, 0, none⟩ = some (.slice v1_0 x1.body.length v1_1) := ((c1_2).cell (p := ⟨w.heap.size + 1, 0, none⟩) (by show w.heap.size + 1 < _; omega)).trans K3.out
    have f13 : w2.cell? ⟨w.heap.size + 1, 1, none⟩ = some (.slice v1_2 x1.head.length v1_3) := ((c1_2).cell (p := ⟨w.heap.size + 1, 1, none⟩) (by show w.heap.size + 1 < _; omega)).trans K4.out
    have f14 : w2.cell? ⟨w.heap.size + 1, 2, none⟩ = some (.bool x1.egd) := ((c1_2).cell (p := ⟨w.heap.size + 1, 2, none⟩) (by show w.heap.size + 1 < _; omega)).trans K5.out
    have f15 : w2.cell? ⟨w.heap.size + 1, 3, none⟩ = some (.int .i64 x1.left) := ((c1_2).cell (p := ⟨w.heap.size + 1, 3, none⟩) (by show w.heap.size + 1 < _; omega)).trans K6.out
    have f16 : w2.cell? ⟨w.heap.size + 1, 4, none⟩ = some (.int .i64 x1.right) := ((c1_2).cell (p := ⟨w.heap.size + 1, 4, none⟩) (by show w.heap.size + 1 < _; omega)).trans K7.out
    have c0_2 : Below w.heap.size w w2 := (c0_1.trans (hb2.mono (by omega)))
    go_wp2_with fail
    refine (szDependency_c _ x1 (1048576 - (Instance_sz x0 : Nat)) _ ((A1.out.below c0_2 (Nat.le_refl _)).more c0_2.size) W1.out (by omega) (by omega)).mono ?_
    rw [e2]
    rintro e w3 ⟨rfl, hb3⟩
    have z3 : w2.heap.size ≤ w3.heap.size := hb3.size
    clear f12 f13 f14 f15 f16
    have c0_3 : Below w.heap.size w w3 := (c0_2.trans (hb3.mono (by omega)))
    go_wp2
    go_ret
    exact ⟨rfl, c0_3⟩
  have e1 := szLeft_yes hz1
  have S0 : Instance_sz x0 ≤ 1048576 := by omega
  have N0 := Instance_cnt_le x0
  have e2 := szLeft_yes hz2
  have S1 : Dependency_sz x1 ≤ 1048576 := by omega
  have N1 := Dependency_cnt_le x1
  have hb1 : Below w.heap.size w ((w.alloc (.cells #[.slice v0_0 x0.rels.length v0_1, .slice v0_2 x0.facts.length v0_3] 43)).alloc (.cells #[.slice v1_0 x1.body.length v1_1, .slice v1_2 x1.head.length v1_3, .bool x1.egd, .int .i64 x1.left, .int .i64 x1.right] 46)) := below_more (below_more (Below.refl _ _) _) _
  have z1 : w.heap.size + 2 ≤ ((w.alloc (.cells #[.slice v0_0 x0.rels.length v0_1, .slice v0_2 x0.facts.length v0_3] 43)).alloc (.cells #[.slice v1_0 x1.body.length v1_1, .slice v1_2 x1.head.length v1_3, .bool x1.egd, .int .i64 x1.left, .int .i64 x1.right] 46)).heap.size := by simp
  have K1 := Lib.hid (show ((w.alloc (.cells #[.slice v0_0 x0.rels.length v0_1, .slice v0_2 x0.facts.length v0_3] 43)).alloc (.cells #[.slice v1_0 x1.body.length v1_1, .slice v1_2 x1.head.length v1_3, .bool x1.egd, .int .i64 x1.left, .int .i64 x1.right] 46)).cell? ⟨w.heap.size, 0, none⟩ = some (.slice v0_0 x0.rels.length v0_1) by simp [go_sem])
  have K2 := Lib.hid (show ((w.alloc (.cells #[.slice v0_0 x0.rels.length v0_1, .slice v0_2 x0.facts.length v0_3] 43)).alloc (.cells #[.slice v1_0 x1.body.length v1_1, .slice v1_2 x1.head.length v1_3, .bool x1.egd, .int .i64 x1.left, .int .i64 x1.right] 46)).cell? ⟨w.heap.size, 1, none⟩ = some (.slice v0_2 x0.facts.length v0_3) by simp [go_sem])
  have K3 := Lib.hid (show ((w.alloc (.cells #[.slice v0_0 x0.rels.length v0_1, .slice v0_2 x0.facts.length v0_3] 43)).alloc (.cells #[.slice v1_0 x1.body.length v1_1, .slice v1_2 x1.head.length v1_3, .bool x1.egd, .int .i64 x1.left, .int .i64 x1.right] 46)).cell? ⟨w.heap.size + 1, 0, none⟩ = some (.slice v1_0 x1.body.length v1_1) by simp [go_sem])
  have K4 := Lib.hid (show ((w.alloc (.cells #[.slice v0_0 x0.rels.length v0_1, .slice v0_2 x0.facts.length v0_3] 43)).alloc (.cells #[.slice v1_0 x1.body.length v1_1, .slice v1_2 x1.head.length v1_3, .bool x1.egd, .int .i64 x1.left, .int .i64 x1.right] 46)).cell? ⟨w.heap.size + 1, 1, none⟩ = some (.slice v1_2 x1.head.length v1_3) by simp [go_sem])
  have K5 := Lib.hid (show ((w.alloc (.cells #[.slice v0_0 x0.rels.length v0_1, .slice v0_2 x0.facts.length v0_3] 43)).alloc (.cells #[.slice v1_0 x1.body.length v1_1, .slice v1_2 x1.head.length v1_3, .bool x1.egd, .int .i64 x1.left, .int .i64 x1.right] 46)).cell? ⟨w.heap.size + 1, 2, none⟩ = some (.bool x1.egd) by simp [go_sem])
  have K6 := Lib.hid (show ((w.alloc (.cells #[.slice v0_0 x0.rels.length v0_1, .slice v0_2 x0.facts.length v0_3] 43)).alloc (.cells #[.slice v1_0 x1.body.length v1_1, .slice v1_2 x1.head.length v1_3, .bool x1.egd, .int .i64 x1.left, .int .i64 x1.right] 46)).cell? ⟨w.heap.size + 1, 3, none⟩ = some (.int .i64 x1.left) by simp [go_sem])
  have K7 := Lib.hid (show ((w.alloc (.cells #[.slice v0_0 x0.rels.length v0_1, .slice v0_2 x0.facts.length v0_3] 43)).alloc (.cells #[.slice v1_0 x1.body.length v1_1, .slice v1_2 x1.head.length v1_3, .bool x1.egd, .int .i64 x1.left, .int .i64 x1.right] 46)).cell? ⟨w.heap.size + 1, 4, none⟩ = some (.int .i64 x1.right) by simp [go_sem])
  go_enter Tryz.func6, Tryz.ntmps6
  have f17 : ((w.alloc (.cells #[.slice v0_0 x0.rels.length v0_1, .slice v0_2 x0.facts.length v0_3] 43)).alloc (.cells #[.slice v1_0 x1.body.length v1_1, .slice v1_2 x1.head.length v1_3, .bool x1.egd, .int .i64 x1.left, .int .i64 x1.right] 46)).cell? ⟨w.heap.size, 0, none⟩ = some (.slice v0_0 x0.rels.length v0_1) := K1.out
  have f18 : ((w.alloc (.cells #[.slice v0_0 x0.rels.length v0_1, .slice v0_2 x0.facts.length v0_3] 43)).alloc (.cells #[.slice v1_0 x1.body.length v1_1, .slice v1_2 x1.head.length v1_3, .bool x1.egd, .int .i64 x1.left, .int .i64 x1.right] 46)).cell? ⟨w.heap.size, 1, none⟩ = some (.slice v0_2 x0.facts.length v0_3) := K2.out
  have c0_1 : Below w.heap.size w ((w.alloc (.cells #[.slice v0_0 x0.rels.length v0_1, .slice v0_2 x0.facts.length v0_3] 43)).alloc (.cells #[.slice v1_0 x1.body.length v1_1, .slice v1_2 x1.head.length v1_3, .bool x1.egd, .int .i64 x1.left, .int .i64 x1.right] 46)) := hb1
  go_wp2_with fail
  refine (szInstance_c _ x0 (1048576) _ ((A0.out.below c0_1 (Nat.le_refl _)).more c0_1.size) W0.out (by omega) (by omega)).mono ?_
  rw [e1]
  rintro e w2 ⟨rfl, hb2⟩
  have z2 : ((w.alloc (.cells #[.slice v0_0 x0.rels.length v0_1, .slice v0_2 x0.facts.length v0_3] 43)).alloc (.cells #[.slice v1_0 x1.body.length v1_1, .slice v1_2 x1.head.length v1_3, .bool x1.egd, .int .i64 x1.left, .int .i64 x1.right] 46)).heap.size ≤ w2.heap.size := hb2.size
  clear f17 f18
  have c1_2 : Below ((w.alloc (.cells #[.slice v0_0 x0.rels.length v0_1, .slice v0_2 x0.facts.length v0_3] 43)).alloc (.cells #[.slice v1_0 x1.body.length v1_1, .slice v1_2 x1.head.length v1_3, .bool x1.egd, .int .i64 x1.left, .int .i64 x1.right] 46)).heap.size ((w.alloc (.cells #[.slice v0_0 x0.rels.length v0_1, .slice v0_2 x0.facts.length v0_3] 43)).alloc (.cells #[.slice v1_0 x1.body.length v1_1, .slice v1_2 x1.head.length v1_3, .bool x1.egd, .int .i64 x1.left, .int .i64 x1.right] 46)) w2 := hb2
  have f19 : w2.cell? ⟨w.heap.size + 1, 0, none⟩ = some (.slice v1_0 x1.body.length v1_1) := ((c1_2).cell (p := ⟨w.heap.size + 1, 0, none⟩) (by show w.heap.size + 1 < _; omega)).trans K3.out
  have f20 : w2.cell? ⟨w.heap.size + 1, 1, none⟩ = some (.slice v1_2 x1.head.length v1_3) := ((c1_2).cell (p := ⟨w.heap.size + 1, 1, none⟩) (by show w.heap.size + 1 < _; omega)).trans K4.out
  have f21 : w2.cell? ⟨w.heap.size + 1, 2, none⟩ = some (.bool x1.egd) := ((c1_2).cell (p := ⟨w.heap.size + 1, 2, none⟩) (by show w.heap.size + 1 < _; omega)).trans K5.out
  have f22 : w2.cell? ⟨w.heap.size + 1, 3, none⟩ = some (.int .i64 x1.left) := ((c1_2).cell (p := ⟨w.heap.size + 1, 3, none⟩) (by show w.heap.size + 1 < _; omega)).trans K6.out
  have f23 : w2.cell? ⟨w.heap.size + 1, 4, none⟩ = some (.int .i64 x1.right) := ((c1_2).cell (p := ⟨w.heap.size + 1, 4, none⟩) (by show w.heap.size + 1 < _; omega)).trans K7.out
  have c0_2 : Below w.heap.size w w2 := (c0_1.trans (hb2.mono (by omega)))
  go_wp2_with fail
  refine (szDependency_c _ x1 (1048576 - (Instance_sz x0 : Nat)) _ ((A1.out.below c0_2 (Nat.le_refl _)).more c0_2.size) W1.out (by omega) (by omega)).mono ?_
  rw [e2]
  rintro e w3 ⟨rfl, hb3⟩
  have z3 : w2.heap.size ≤ w3.heap.size := hb3.size
  clear f19 f20 f21 f22 f23
  go_wp2_with fail
  have c1_3 : Below ((w.alloc (.cells #[.slice v0_0 x0.rels.length v0_1, .slice v0_2 x0.facts.length v0_3] 43)).alloc (.cells #[.slice v1_0 x1.body.length v1_1, .slice v1_2 x1.head.length v1_3, .bool x1.egd, .int .i64 x1.left, .int .i64 x1.right] 46)).heap.size ((w.alloc (.cells #[.slice v0_0 x0.rels.length v0_1, .slice v0_2 x0.facts.length v0_3] 43)).alloc (.cells #[.slice v1_0 x1.body.length v1_1, .slice v1_2 x1.head.length v1_3, .bool x1.egd, .int .i64 x1.left, .int .i64 x1.right] 46)) w3 := (c1_2.trans (hb3.mono (by omega)))
  have f24 : w3.cell? ⟨w.heap.size, 0, none⟩ = some (.slice v0_0 x0.rels.length v0_1) := ((c1_3).cell (p := ⟨w.heap.size, 0, none⟩) (by show w.heap.size < _; omega)).trans K1.out
  have gf24 := Aft.cell (B := w3.heap.size) (by omega) f24
  clear f24
  have f25 : w3.cell? ⟨w.heap.size, 1, none⟩ = some (.slice v0_2 x0.facts.length v0_3) := ((c1_3).cell (p := ⟨w.heap.size, 1, none⟩) (by show w.heap.size < _; omega)).trans K2.out
  have gf25 := Aft.cell (B := w3.heap.size) (by omega) f25
  clear f25
  have f26 : w3.cell? ⟨w.heap.size + 1, 0, none⟩ = some (.slice v1_0 x1.body.length v1_1) := ((c1_3).cell (p := ⟨w.heap.size + 1, 0, none⟩) (by show w.heap.size + 1 < _; omega)).trans K3.out
  have gf26 := Aft.cell (B := w3.heap.size) (by omega) f26
  clear f26
  have f27 : w3.cell? ⟨w.heap.size + 1, 1, none⟩ = some (.slice v1_2 x1.head.length v1_3) := ((c1_3).cell (p := ⟨w.heap.size + 1, 1, none⟩) (by show w.heap.size + 1 < _; omega)).trans K4.out
  have gf27 := Aft.cell (B := w3.heap.size) (by omega) f27
  clear f27
  have f28 : w3.cell? ⟨w.heap.size + 1, 2, none⟩ = some (.bool x1.egd) := ((c1_3).cell (p := ⟨w.heap.size + 1, 2, none⟩) (by show w.heap.size + 1 < _; omega)).trans K5.out
  have gf28 := Aft.cell (B := w3.heap.size) (by omega) f28
  clear f28
  have f29 : w3.cell? ⟨w.heap.size + 1, 3, none⟩ = some (.int .i64 x1.left) := ((c1_3).cell (p := ⟨w.heap.size + 1, 3, none⟩) (by show w.heap.size + 1 < _; omega)).trans K6.out
  have gf29 := Aft.cell (B := w3.heap.size) (by omega) f29
  clear f29
  have f30 : w3.cell? ⟨w.heap.size + 1, 4, none⟩ = some (.int .i64 x1.right) := ((c1_3).cell (p := ⟨w.heap.size + 1, 4, none⟩) (by show w.heap.size + 1 < _; omega)).trans K7.out
  have gf30 := Aft.cell (B := w3.heap.size) (by omega) f30
  clear f30
  refine wp_region_plan (C := fun w' => ∃ u : Aft w3.heap.size w3, w' = u.now) (.still 0 (.move true 1 (.still 2 (.move true 3 (.move true 4 (.still 5 .done) .none) .none)) .none)) (by kernel_rfl) (by kernel_rfl) (by kernel_rfl) (fun _ => ⟨⟨_, (Below.refl _ _).drew⟩, rfl⟩) ?_
  have hb4 : Below w3.heap.size w3 w3.drew := (Below.refl _ _).drew
  have z4 : w3.drew.heap.size = w3.heap.size := rfl
  have c0_4 : Below w.heap.size w w3.drew := ((c0_2.trans (hb3.mono (by omega))).trans (hb4.mono (by omega)))
  refine plan_look _ rfl rfl ?_
  go_big_quiet_step (fail)
  refine wpQuiet_nil ?_
  refine plan_call _ 20 _ _ _ _ _ rfl _ Tryz.func20 (by kernel_rfl) (by kernel_rfl) ?_ True.intro
  show Calls Tryz.prog 20 #[.agg #[.slice v0_0 x0.rels.length v0_1, .slice v0_2 x0.facts.length v0_3]] _ _
  refine (toInstance_c _ x0 _ ((A0.out.below c0_4 (Nat.le_refl _)).more c0_4.size) S0).mono ?_
  rintro e w5 ⟨u31, rfl, ou31, hb5⟩
  have z5 : w3.drew.heap.size ≤ w5.heap.size := hb5.size
  obtain ⟨y32_0, y32_1, y32_2, y32_3, rfl⟩ := Instance_form (ou31.at_ (Nat.le_refl _))
  have c3_5 : Below w3.heap.size w3 w5 := (hb4.trans (hb5.mono (by omega)))
  refine ⟨_, rfl, fun _ => ⟨⟨_, c3_5⟩, rfl⟩, ?_⟩
  refine plan_put ?_ (by simp only [Act.put, List.setIfInBounds_toArray, List.set_cons_succ, List.set_cons_zero]; rfl)
  have c0_5 : Below w.heap.size w w5 := (c0_4.trans (hb5.mono (by omega)))
  refine plan_look _ rfl rfl ?_
  go_big_quiet_step (fail)
  refine wpQuiet_nil ?_
  refine plan_call _ 21 _ _ _ _ _ rfl _ Tryz.func21 (by kernel_rfl) (by kernel_rfl) ?_ True.intro
  show Calls Tryz.prog 21 #[.agg #[.slice v1_0 x1.body.length v1_1, .slice v1_2 x1.head.length v1_3, .bool x1.egd, .int .i64 x1.left, .int .i64 x1.right]] _ _
  refine (toDependency_c _ x1 _ ((A1.out.below c0_5 (Nat.le_refl _)).more c0_5.size) S1).mono ?_
  rintro e w6 ⟨u33, rfl, ou33, hb6⟩
  have z6 : w5.heap.size ≤ w6.heap.size := hb6.size
  obtain ⟨y34_0, y34_1, y34_2, y34_3, rfl⟩ := Dependency_form (ou33.at_ (Nat.le_refl _))
  have c3_6 : Below w3.heap.size w3 w6 := (c3_5.trans (hb6.mono (by omega)))
  refine ⟨_, rfl, fun _ => ⟨⟨_, c3_6⟩, rfl⟩, ?_⟩
  refine plan_put ?_ (by simp only [Act.put, List.setIfInBounds_toArray, List.set_cons_succ, List.set_cons_zero]; rfl)
  have c5_6 : Below w5.heap.size w5 w6 := hb6
  refine plan_call _ 15 _ _ _ _ _ rfl _ Tryz.func15 (by kernel_rfl) (by kernel_rfl) ?_ True.intro
  show Calls Tryz.prog 15 #[.agg #[.slice y32_0 x0.rels.length y32_1, .slice y32_2 x0.facts.length y32_3], .agg #[.slice y34_0 x1.body.length y34_1, .slice y34_2 x1.head.length y34_3, .bool x1.egd, .int .i64 x1.left, .int .i64 x1.right]] _ _
  refine (specActiveTriggers_c _ x0 _ x1 _ ((ou31.below c5_6 (Nat.le_refl _)).at_ (by omega)) W0.out S0 ((ou33.below (Below.refl w6.heap.size w6) (Nat.le_refl _)).at_ (Nat.le_refl _)) W1.out S1).mono ?_
  rintro e w7 ⟨r35_0, rfl, p35_0, hb7⟩
  have z7 : w6.heap.size ≤ w7.heap.size := hb7.size
  have c3_7 : Below w3.heap.size w3 w7 := (c3_6.trans (hb7.mono (by omega)))
  refine ⟨_, rfl, fun _ => ⟨⟨_, c3_7⟩, rfl⟩, ?_⟩
  refine plan_put ?_ (by simp only [Act.put, List.setIfInBounds_toArray, List.set_cons_succ, List.set_cons_zero]; rfl)
  refine plan_look _ rfl rfl ?_
  go_big_quiet_step (fail)
  refine wpQuiet_nil ?_
  refine plan_done ?_
  clear gf24 gf25 gf26 gf27 gf28 gf29 gf30
  have c1_7 : Below ((w.alloc (.cells #[.slice v0_0 x0.rels.length v0_1, .slice v0_2 x0.facts.length v0_3] 43)).alloc (.cells #[.slice v1_0 x1.body.length v1_1, .slice v1_2 x1.head.length v1_3, .bool x1.egd, .int .i64 x1.left, .int .i64 x1.right] 46)).heap.size ((w.alloc (.cells #[.slice v0_0 x0.rels.length v0_1, .slice v0_2 x0.facts.length v0_3] 43)).alloc (.cells #[.slice v1_0 x1.body.length v1_1, .slice v1_2 x1.head.length v1_3, .bool x1.egd, .int .i64 x1.left, .int .i64 x1.right] 46)) w7 := ((((c1_3.trans (hb4.mono (by omega))).trans (hb5.mono (by omega))).trans (hb6.mono (by omega))).trans (hb7.mono (by omega)))
  have f36 : w7.cell? ⟨w.heap.size, 0, none⟩ = some (.slice v0_0 x0.rels.length v0_1) := ((c1_7).cell (p := ⟨w.heap.size, 0, none⟩) (by show w.heap.size < _; omega)).trans K1.out
  have f37 : w7.cell? ⟨w.heap.size, 1, none⟩ = some (.slice v0_2 x0.facts.length v0_3) := ((c1_7).cell (p := ⟨w.heap.size, 1, none⟩) (by show w.heap.size < _; omega)).trans K2.out
  have c0_7 : Below w.heap.size w w7 := ((c0_5.trans (hb6.mono (by omega))).trans (hb7.mono (by omega)))
  go_wp2_with fail
  refine (toInstance_c _ x0 _ ((A0.out.below c0_7 (Nat.le_refl _)).more c0_7.size) S0).mono ?_
  rintro e w8 ⟨u38, rfl, ou38, hb8⟩
  have z8 : w7.heap.size ≤ w8.heap.size := hb8.size
  obtain ⟨y39_0, y39_1, y39_2, y39_3, rfl⟩ := Instance_form (ou38.at_ (Nat.le_refl _))
  have hb9 : Below w8.heap.size w8 (w8.alloc (.cells #[.slice y39_0 x0.rels.length y39_1, .slice y39_2 x0.facts.length y39_3] 27)) := below_more (Below.refl _ _) _
  have z9 : w8.heap.size + 1 ≤ (w8.alloc (.cells #[.slice y39_0 x0.rels.length y39_1, .slice y39_2 x0.facts.length y39_3] 27)).heap.size := by simp
  have K40 := Lib.hid (show (w8.alloc (.cells #[.slice y39_0 x0.rels.length y39_1, .slice y39_2 x0.facts.length y39_3] 27)).cell? ⟨w8.heap.size, 0, none⟩ = some (.slice y39_0 x0.rels.length y39_1) by simp [go_sem])
  have K41 := Lib.hid (show (w8.alloc (.cells #[.slice y39_0 x0.rels.length y39_1, .slice y39_2 x0.facts.length y39_3] 27)).cell? ⟨w8.heap.size, 1, none⟩ = some (.slice y39_2 x0.facts.length y39_3) by simp [go_sem])
  clear f36 f37
  have c1_9 : Below ((w.alloc (.cells #[.slice v0_0 x0.rels.length v0_1, .slice v0_2 x0.facts.length v0_3] 43)).alloc (.cells #[.slice v1_0 x1.body.length v1_1, .slice v1_2 x1.head.length v1_3, .bool x1.egd, .int .i64 x1.left, .int .i64 x1.right] 46)).heap.size ((w.alloc (.cells #[.slice v0_0 x0.rels.length v0_1, .slice v0_2 x0.facts.length v0_3] 43)).alloc (.cells #[.slice v1_0 x1.body.length v1_1, .slice v1_2 x1.head.length v1_3, .bool x1.egd, .int .i64 x1.left, .int .i64 x1.right] 46)) (w8.alloc (.cells #[.slice y39_0 x0.rels.length y39_1, .slice y39_2 x0.facts.length y39_3] 27)) := ((c1_7.trans (hb8.mono (by omega))).trans (hb9.mono (by omega)))
  have f42 : (w8.alloc (.cells #[.slice y39_0 x0.rels.length y39_1, .slice y39_2 x0.facts.length y39_3] 27)).cell? ⟨w.heap.size + 1, 0, none⟩ = some (.slice v1_0 x1.body.length v1_1) := ((c1_9).cell (p := ⟨w.heap.size + 1, 0, none⟩) (by show w.heap.size + 1 < _; omega)).trans K3.out
  have f43 : (w8.alloc (.cells #[.slice y39_0 x0.rels.length y39_1, .slice y39_2 x0.facts.length y39_3] 27)).cell? ⟨w.heap.size + 1, 1, none⟩ = some (.slice v1_2 x1.head.length v1_3) := ((c1_9).cell (p := ⟨w.heap.size + 1, 1, none⟩) (by show w.heap.size + 1 < _; omega)).trans K4.out
  have f44 : (w8.alloc (.cells #[.slice y39_0 x0.rels.length y39_1, .slice y39_2 x0.facts.length y39_3] 27)).cell? ⟨w.heap.size + 1, 2, none⟩ = some (.bool x1.egd) := ((c1_9).cell (p := ⟨w.heap.size + 1, 2, none⟩) (by show w.heap.size + 1 < _; omega)).trans K5.out
  have f45 : (w8.alloc (.cells #[.slice y39_0 x0.rels.length y39_1, .slice y39_2 x0.facts.length y39_3] 27)).cell? ⟨w.heap.size + 1, 3, none⟩ = some (.int .i64 x1.left) := ((c1_9).cell (p := ⟨w.heap.size + 1, 3, none⟩) (by show w.heap.size + 1 < _; omega)).trans K6.out
  have f46 : (w8.alloc (.cells #[.slice y39_0 x0.rels.length y39_1, .slice y39_2 x0.facts.length y39_3] 27)).cell? ⟨w.heap.size + 1, 4, none⟩ = some (.int .i64 x1.right) := ((c1_9).cell (p := ⟨w.heap.size + 1, 4, none⟩) (by show w.heap.size + 1 < _; omega)).trans K7.out
  have c0_9 : Below w.heap.size w (w8.alloc (.cells #[.slice y39_0 x0.rels.length y39_1, .slice y39_2 x0.facts.length y39_3] 27)) := ((c0_7.trans (hb8.mono (by omega))).trans (hb9.mono (by omega)))
  go_wp2_with fail
  refine (toDependency_c _ x1 _ ((A1.out.below c0_9 (Nat.le_refl _)).more c0_9.size) S1).mono ?_
  rintro e w10 ⟨u47, rfl, ou47, hb10⟩
  have z10 : (w8.alloc (.cells #[.slice y39_0 x0.rels.length y39_1, .slice y39_2 x0.facts.length y39_3] 27)).heap.size ≤ w10.heap.size := hb10.size
  obtain ⟨y48_0, y48_1, y48_2, y48_3, rfl⟩ := Dependency_form (ou47.at_ (Nat.le_refl _))
  have hb11 : Below w10.heap.size w10 (w10.alloc (.cells #[.slice y48_0 x1.body.length y48_1, .slice y48_2 x1.head.length y48_3, .bool x1.egd, .int .i64 x1.left, .int .i64 x1.right] 30)) := below_more (Below.refl _ _) _
  have z11 : w10.heap.size + 1 ≤ (w10.alloc (.cells #[.slice y48_0 x1.body.length y48_1, .slice y48_2 x1.head.length y48_3, .bool x1.egd, .int .i64 x1.left, .int .i64 x1.right] 30)).heap.size := by simp
  have K49 := Lib.hid (show (w10.alloc (.cells #[.slice y48_0 x1.body.length y48_1, .slice y48_2 x1.head.length y48_3, .bool x1.egd, .int .i64 x1.left, .int .i64 x1.right] 30)).cell? ⟨w10.heap.size, 0, none⟩ = some (.slice y48_0 x1.body.length y48_1) by simp [go_sem])
  have K50 := Lib.hid (show (w10.alloc (.cells #[.slice y48_0 x1.body.length y48_1, .slice y48_2 x1.head.length y48_3, .bool x1.egd, .int .i64 x1.left, .int .i64 x1.right] 30)).cell? ⟨w10.heap.size, 1, none⟩ = some (.slice y48_2 x1.head.length y48_3) by simp [go_sem])
  have K51 := Lib.hid (show (w10.alloc (.cells #[.slice y48_0 x1.body.length y48_1, .slice y48_2 x1.head.length y48_3, .bool x1.egd, .int .i64 x1.left, .int .i64 x1.right] 30)).cell? ⟨w10.heap.size, 2, none⟩ = some (.bool x1.egd) by simp [go_sem])
  have K52 := Lib.hid (show (w10.alloc (.cells #[.slice y48_0 x1.body.length y48_1, .slice y48_2 x1.head.length y48_3, .bool x1.egd, .int .i64 x1.left, .int .i64 x1.right] 30)).cell? ⟨w10.heap.size, 3, none⟩ = some (.int .i64 x1.left) by simp [go_sem])
  have K53 := Lib.hid (show (w10.alloc (.cells #[.slice y48_0 x1.body.length y48_1, .slice y48_2 x1.head.length y48_3, .bool x1.egd, .int .i64 x1.left, .int .i64 x1.right] 30)).cell? ⟨w10.heap.size, 4, none⟩ = some (.int .i64 x1.right) by simp [go_sem])
  clear f42 f43 f44 f45 f46
  have c9_11 : Below (w8.alloc (.cells #[.slice y39_0 x0.rels.length y39_1, .slice y39_2 x0.facts.length y39_3] 27)).heap.size (w8.alloc (.cells #[.slice y39_0 x0.rels.length y39_1, .slice y39_2 x0.facts.length y39_3] 27)) (w10.alloc (.cells #[.slice y48_0 x1.body.length y48_1, .slice y48_2 x1.head.length y48_3, .bool x1.egd, .int .i64 x1.left, .int .i64 x1.right] 30)) := (hb10.trans (hb11.mono (by omega)))
  have f54 : (w10.alloc (.cells #[.slice y48_0 x1.body.length y48_1, .slice y48_2 x1.head.length y48_3, .bool x1.egd, .int .i64 x1.left, .int .i64 x1.right] 30)).cell? ⟨w8.heap.size, 0, none⟩ = some (.slice y39_0 x0.rels.length y39_1) := ((c9_11).cell (p := ⟨w8.heap.size, 0, none⟩) (by show w8.heap.size < _; omega)).trans K40.out
  have f55 : (w10.alloc (.cells #[.slice y48_0 x1.body.length y48_1, .slice y48_2 x1.head.length y48_3, .bool x1.egd, .int .i64 x1.left, .int .i64 x1.right] 30)).cell? ⟨w8.heap.size, 1, none⟩ = some (.slice y39_2 x0.facts.length y39_3) := ((c9_11).cell (p := ⟨w8.heap.size, 1, none⟩) (by show w8.heap.size < _; omega)).trans K41.out
  have f56 : (w10.alloc (.cells #[.slice y48_0 x1.body.length y48_1, .slice y48_2 x1.head.length y48_3, .bool x1.egd, .int .i64 x1.left, .int .i64 x1.right] 30)).cell? ⟨w10.heap.size, 0, none⟩ = some (.slice y48_0 x1.body.length y48_1) := K49.out
  have f57 : (w10.alloc (.cells #[.slice y48_0 x1.body.length y48_1, .slice y48_2 x1.head.length y48_3, .bool x1.egd, .int .i64 x1.left, .int .i64 x1.right] 30)).cell? ⟨w10.heap.size, 1, none⟩ = some (.slice y48_2 x1.head.length y48_3) := K50.out
  have f58 : (w10.alloc (.cells #[.slice y48_0 x1.body.length y48_1, .slice y48_2 x1.head.length y48_3, .bool x1.egd, .int .i64 x1.left, .int .i64 x1.right] 30)).cell? ⟨w10.heap.size, 2, none⟩ = some (.bool x1.egd) := K51.out
  have f59 : (w10.alloc (.cells #[.slice y48_0 x1.body.length y48_1, .slice y48_2 x1.head.length y48_3, .bool x1.egd, .int .i64 x1.left, .int .i64 x1.right] 30)).cell? ⟨w10.heap.size, 3, none⟩ = some (.int .i64 x1.left) := K52.out
  have f60 : (w10.alloc (.cells #[.slice y48_0 x1.body.length y48_1, .slice y48_2 x1.head.length y48_3, .bool x1.egd, .int .i64 x1.left, .int .i64 x1.right] 30)).cell? ⟨w10.heap.size, 4, none⟩ = some (.int .i64 x1.right) := K53.out
  have c8_11 : Below w8.heap.size w8 (w10.alloc (.cells #[.slice y48_0 x1.body.length y48_1, .slice y48_2 x1.head.length y48_3, .bool x1.egd, .int .i64 x1.left, .int .i64 x1.right] 30)) := ((hb9.trans (hb10.mono (by omega))).trans (hb11.mono (by omega)))
  have c10_11 : Below w10.heap.size w10 (w10.alloc (.cells #[.slice y48_0 x1.body.length y48_1, .slice y48_2 x1.head.length y48_3, .bool x1.egd, .int .i64 x1.left, .int .i64 x1.right] 30)) := hb11
  go_wp2_with fail
  refine (implActiveTriggers_c _ x0 _ x1 _ ((ou38.below c8_11 (Nat.le_refl _)).at_ (by omega)) W0.out S0 ((ou47.below c10_11 (Nat.le_refl _)).at_ (by omega)) W1.out S1).mono ?_
  rintro e w12 ⟨r61_0, rfl, p61_0, q61_0, hb12⟩
  have z12 : (w10.alloc (.cells #[.slice y48_0 x1.body.length y48_1, .slice y48_2 x1.head.length y48_3, .bool x1.egd, .int .i64 x1.left, .int .i64 x1.right] 30)).heap.size ≤ w12.heap.size := hb12.size
  have NC61_0 := IntSS_cnt_le (ActiveTriggers_r0 x0 x1)
  clear f54 f55 f56 f57 f58 f59 f60
  have c7_12 : Below w7.heap.size w7 w12 := ((((hb8.trans (hb9.mono (by omega))).trans (hb10.mono (by omega))).trans (hb11.mono (by omega))).trans (hb12.mono (by omega)))
  go_wp2_with fail
  refine (eqIntSS_c _ _ (ActiveTriggers_r0 x0 x1) _ ((p61_0.below (Below.refl w12.heap.size w12) (Nat.le_refl _)).at_ (Nat.le_refl _)) ((p35_0.below c7_12 (Nat.le_refl _)).more c7_12.size)).mono ?_
  rintro e w13 ⟨rfl, hb13⟩
  have z13 : w12.heap.size ≤ w13.heap.size := hb13.size
  go_wp2_with fail
  have c9_13 : Below (w8.alloc (.cells #[.slice y39_0 x0.rels.length y39_1, .slice y39_2 x0.facts.length y39_3] 27)).heap.size (w8.alloc (.cells #[.slice y39_0 x0.rels.length y39_1, .slice y39_2 x0.facts.length y39_3] 27)) w13 := ((c9_11.trans (hb12.mono (by omega))).trans (hb13.mono (by omega)))
  have f62 : w13.cell? ⟨w8.heap.size, 0, none⟩ = some (.slice y39_0 x0.rels.length y39_1) := ((c9_13).cell (p := ⟨w8.heap.size, 0, none⟩) (by show w8.heap.size < _; omega)).trans K40.out
  have gf62 := Aft.cell (B := w13.heap.size) (by omega) f62
  clear f62
  have f63 : w13.cell? ⟨w8.heap.size, 1, none⟩ = some (.slice y39_2 x0.facts.length y39_3) := ((c9_13).cell (p := ⟨w8.heap.size, 1, none⟩) (by show w8.heap.size < _; omega)).trans K41.out
  have gf63 := Aft.cell (B := w13.heap.size) (by omega) f63
  clear f63
  have c1_13 : Below ((w.alloc (.cells #[.slice v0_0 x0.rels.length v0_1, .slice v0_2 x0.facts.length v0_3] 43)).alloc (.cells #[.slice v1_0 x1.body.length v1_1, .slice v1_2 x1.head.length v1_3, .bool x1.egd, .int .i64 x1.left, .int .i64 x1.right] 46)).heap.size ((w.alloc (.cells #[.slice v0_0 x0.rels.length v0_1, .slice v0_2 x0.facts.length v0_3] 43)).alloc (.cells #[.slice v1_0 x1.body.length v1_1, .slice v1_2 x1.head.length v1_3, .bool x1.egd, .int .i64 x1.left, .int .i64 x1.right] 46)) w13 := ((((c1_9.trans (hb10.mono (by omega))).trans (hb11.mono (by omega))).trans (hb12.mono (by omega))).trans (hb13.mono (by omega)))
  have f64 : w13.cell? ⟨w.heap.size, 0, none⟩ = some (.slice v0_0 x0.rels.length v0_1) := ((c1_13).cell (p := ⟨w.heap.size, 0, none⟩) (by show w.heap.size < _; omega)).trans K1.out
  have gf64 := Aft.cell (B := w13.heap.size) (by omega) f64
  clear f64
  have f65 : w13.cell? ⟨w.heap.size, 1, none⟩ = some (.slice v0_2 x0.facts.length v0_3) := ((c1_13).cell (p := ⟨w.heap.size, 1, none⟩) (by show w.heap.size < _; omega)).trans K2.out
  have gf65 := Aft.cell (B := w13.heap.size) (by omega) f65
  clear f65
  refine wp_region_plan (C := fun w' => ∃ u : Aft w13.heap.size w13, w' = u.now) (.still 0 (.still 1 (.move true 2 (.move true 3 (.still 4 .done) .none) .none))) (by kernel_rfl) (by kernel_rfl) (by kernel_rfl) (fun _ => ⟨⟨_, (Below.refl _ _).drew⟩, rfl⟩) ?_
  have hb14 : Below w13.heap.size w13 w13.drew := (Below.refl _ _).drew
  have z14 : w13.drew.heap.size = w13.heap.size := rfl
  have c0_14 : Below w.heap.size w w13.drew := (((((c0_9.trans (hb10.mono (by omega))).trans (hb11.mono (by omega))).trans (hb12.mono (by omega))).trans (hb13.mono (by omega))).trans (hb14.mono (by omega)))
  refine plan_look _ rfl rfl ?_
  go_big_quiet_step (fail)
  refine wpQuiet_nil ?_
  refine plan_look _ rfl rfl ?_
  go_big_quiet_step (fail)
  refine wpQuiet_nil ?_
  refine plan_call _ 20 _ _ _ _ _ rfl _ Tryz.func20 (by kernel_rfl) (by kernel_rfl) ?_ True.intro
  show Calls Tryz.prog 20 #[.agg #[.slice v0_0 x0.rels.length v0_1, .slice v0_2 x0.facts.length v0_3]] _ _
  refine (toInstance_c _ x0 _ ((A0.out.below c0_14 (Nat.le_refl _)).more c0_14.size) S0).mono ?_
  rintro e w15 ⟨u66, rfl, ou66, hb15⟩
  have z15 : w13.drew.heap.size ≤ w15.heap.size := hb15.size
  obtain ⟨y67_0, y67_1, y67_2, y67_3, rfl⟩ := Instance_form (ou66.at_ (Nat.le_refl _))
  have c13_15 : Below w13.heap.size w13 w15 := (hb14.trans (hb15.mono (by omega)))
  refine ⟨_, rfl, fun _ => ⟨⟨_, c13_15⟩, rfl⟩, ?_⟩
  refine plan_put ?_ (by simp only [Act.put, List.setIfInBounds_toArray, List.set_cons_succ, List.set_cons_zero]; rfl)
  have c8_15 : Below w8.heap.size w8 w15 := ((((c8_11.trans (hb12.mono (by omega))).trans (hb13.mono (by omega))).trans (hb14.mono (by omega))).trans (hb15.mono (by omega)))
  refine plan_call _ 23 _ _ _ _ _ rfl _ Tryz.func23 (by kernel_rfl) (by kernel_rfl) ?_ True.intro
  show Calls Tryz.prog 23 #[.agg #[.slice y39_0 x0.rels.length y39_1, .slice y39_2 x0.facts.length y39_3], .agg #[.slice y67_0 x0.rels.length y67_1, .slice y67_2 x0.facts.length y67_3]] _ _
  refine (eqInstance_c _ _ x0 _ ((ou38.below c8_15 (Nat.le_refl _)).at_ (by omega)) ((ou66.below (Below.refl w15.heap.size w15) (Nat.le_refl _)).at_ (Nat.le_refl _))).mono ?_
  rintro e w16 ⟨rfl, hb16⟩
  have z16 : w15.heap.size ≤ w16.heap.size := hb16.size
  have c13_16 : Below w13.heap.size w13 w16 := (c13_15.trans (hb16.mono (by omega)))
  refine ⟨_, rfl, fun _ => ⟨⟨_, c13_16⟩, rfl⟩, ?_⟩
  refine plan_put ?_ (by simp only [Act.put, List.setIfInBounds_toArray, List.set_cons_succ, List.set_cons_zero]; rfl)
  refine plan_look _ rfl rfl ?_
  go_big_quiet_step (fail)
  refine wpQuiet_nil ?_
  refine plan_done ?_
  clear gf62 gf63 gf64 gf65
  go_wp2_with fail
  have c11_16 : Below (w10.alloc (.cells #[.slice y48_0 x1.body.length y48_1, .slice y48_2 x1.head.length y48_3, .bool x1.egd, .int .i64 x1.left, .int .i64 x1.right] 30)).heap.size (w10.alloc (.cells #[.slice y48_0 x1.body.length y48_1, .slice y48_2 x1.head.length y48_3, .bool x1.egd, .int .i64 x1.left, .int .i64 x1.right] 30)) w16 := ((((hb12.trans (hb13.mono (by omega))).trans (hb14.mono (by omega))).trans (hb15.mono (by omega))).trans (hb16.mono (by omega)))
  have f68 : w16.cell? ⟨w10.heap.size, 0, none⟩ = some (.slice y48_0 x1.body.length y48_1) := ((c11_16).cell (p := ⟨w10.heap.size, 0, none⟩) (by show w10.heap.size < _; omega)).trans K49.out
  have gf68 := Aft.cell (B := w16.heap.size) (by omega) f68
  clear f68
  have f69 : w16.cell? ⟨w10.heap.size, 1, none⟩ = some (.slice y48_2 x1.head.length y48_3) := ((c11_16).cell (p := ⟨w10.heap.size, 1, none⟩) (by show w10.heap.size < _; omega)).trans K50.out
  have gf69 := Aft.cell (B := w16.heap.size) (by omega) f69
  clear f69
  have f70 : w16.cell? ⟨w10.heap.size, 2, none⟩ = some (.bool x1.egd) := ((c11_16).cell (p := ⟨w10.heap.size, 2, none⟩) (by show w10.heap.size < _; omega)).trans K51.out
  have gf70 := Aft.cell (B := w16.heap.size) (by omega) f70
  clear f70
  have f71 : w16.cell? ⟨w10.heap.size, 3, none⟩ = some (.int .i64 x1.left) := ((c11_16).cell (p := ⟨w10.heap.size, 3, none⟩) (by show w10.heap.size < _; omega)).trans K52.out
  have gf71 := Aft.cell (B := w16.heap.size) (by omega) f71
  clear f71
  have f72 : w16.cell? ⟨w10.heap.size, 4, none⟩ = some (.int .i64 x1.right) := ((c11_16).cell (p := ⟨w10.heap.size, 4, none⟩) (by show w10.heap.size < _; omega)).trans K53.out
  have gf72 := Aft.cell (B := w16.heap.size) (by omega) f72
  clear f72
  have c1_16 : Below ((w.alloc (.cells #[.slice v0_0 x0.rels.length v0_1, .slice v0_2 x0.facts.length v0_3] 43)).alloc (.cells #[.slice v1_0 x1.body.length v1_1, .slice v1_2 x1.head.length v1_3, .bool x1.egd, .int .i64 x1.left, .int .i64 x1.right] 46)).heap.size ((w.alloc (.cells #[.slice v0_0 x0.rels.length v0_1, .slice v0_2 x0.facts.length v0_3] 43)).alloc (.cells #[.slice v1_0 x1.body.length v1_1, .slice v1_2 x1.head.length v1_3, .bool x1.egd, .int .i64 x1.left, .int .i64 x1.right] 46)) w16 := (((c1_13.trans (hb14.mono (by omega))).trans (hb15.mono (by omega))).trans (hb16.mono (by omega)))
  have f73 : w16.cell? ⟨w.heap.size + 1, 0, none⟩ = some (.slice v1_0 x1.body.length v1_1) := ((c1_16).cell (p := ⟨w.heap.size + 1, 0, none⟩) (by show w.heap.size + 1 < _; omega)).trans K3.out
  have gf73 := Aft.cell (B := w16.heap.size) (by omega) f73
  clear f73
  have f74 : w16.cell? ⟨w.heap.size + 1, 1, none⟩ = some (.slice v1_2 x1.head.length v1_3) := ((c1_16).cell (p := ⟨w.heap.size + 1, 1, none⟩) (by show w.heap.size + 1 < _; omega)).trans K4.out
  have gf74 := Aft.cell (B := w16.heap.size) (by omega) f74
  clear f74
  have f75 : w16.cell? ⟨w.heap.size + 1, 2, none⟩ = some (.bool x1.egd) := ((c1_16).cell (p := ⟨w.heap.size + 1, 2, none⟩) (by show w.heap.size + 1 < _; omega)).trans K5.out
  have gf75 := Aft.cell (B := w16.heap.size) (by omega) f75
  clear f75
  have f76 : w16.cell? ⟨w.heap.size + 1, 3, none⟩ = some (.int .i64 x1.left) := ((c1_16).cell (p := ⟨w.heap.size + 1, 3, none⟩) (by show w.heap.size + 1 < _; omega)).trans K6.out
  have gf76 := Aft.cell (B := w16.heap.size) (by omega) f76
  clear f76
  have f77 : w16.cell? ⟨w.heap.size + 1, 4, none⟩ = some (.int .i64 x1.right) := ((c1_16).cell (p := ⟨w.heap.size + 1, 4, none⟩) (by show w.heap.size + 1 < _; omega)).trans K7.out
  have gf77 := Aft.cell (B := w16.heap.size) (by omega) f77
  clear f77
  refine wp_region_plan (C := fun w' => ∃ u : Aft w16.heap.size w16, w' = u.now) (.still 0 (.still 1 (.move true 2 (.move true 3 (.still 4 .done) .none) .none))) (by kernel_rfl) (by kernel_rfl) (by kernel_rfl) (fun _ => ⟨⟨_, (Below.refl _ _).drew⟩, rfl⟩) ?_
  have hb17 : Below w16.heap.size w16 w16.drew := (Below.refl _ _).drew
  have z17 : w16.drew.heap.size = w16.heap.size := rfl
  have c0_17 : Below w.heap.size w w16.drew := (((c0_14.trans (hb15.mono (by omega))).trans (hb16.mono (by omega))).trans (hb17.mono (by omega)))
  refine plan_look _ rfl rfl ?_
  go_big_quiet_step (fail)
  refine wpQuiet_nil ?_
  refine plan_look _ rfl rfl ?_
  go_big_quiet_step (fail)
  refine wpQuiet_nil ?_
  refine plan_call _ 21 _ _ _ _ _ rfl _ Tryz.func21 (by kernel_rfl) (by kernel_rfl) ?_ True.intro
  show Calls Tryz.prog 21 #[.agg #[.slice v1_0 x1.body.length v1_1, .slice v1_2 x1.head.length v1_3, .bool x1.egd, .int .i64 x1.left, .int .i64 x1.right]] _ _
  refine (toDependency_c _ x1 _ ((A1.out.below c0_17 (Nat.le_refl _)).more c0_17.size) S1).mono ?_
  rintro e w18 ⟨u78, rfl, ou78, hb18⟩
  have z18 : w16.drew.heap.size ≤ w18.heap.size := hb18.size
  obtain ⟨y79_0, y79_1, y79_2, y79_3, rfl⟩ := Dependency_form (ou78.at_ (Nat.le_refl _))
  have c16_18 : Below w16.heap.size w16 w18 := (hb17.trans (hb18.mono (by omega)))
  refine ⟨_, rfl, fun _ => ⟨⟨_, c16_18⟩, rfl⟩, ?_⟩
  refine plan_put ?_ (by simp only [Act.put, List.setIfInBounds_toArray, List.set_cons_succ, List.set_cons_zero]; rfl)
  have c10_18 : Below w10.heap.size w10 w18 := (((((((c10_11.trans (hb12.mono (by omega))).trans (hb13.mono (by omega))).trans (hb14.mono (by omega))).trans (hb15.mono (by omega))).trans (hb16.mono (by omega))).trans (hb17.mono (by omega))).trans (hb18.mono (by omega)))
  refine plan_call _ 24 _ _ _ _ _ rfl _ Tryz.func24 (by kernel_rfl) (by kernel_rfl) ?_ True.intro
  show Calls Tryz.prog 24 #[.agg #[.slice y48_0 x1.body.length y48_1, .slice y48_2 x1.head.length y48_3, .bool x1.egd, .int .i64 x1.left, .int .i64 x1.right], .agg #[.slice y79_0 x1.body.length y79_1, .slice y79_2 x1.head.length y79_3, .bool x1.egd, .int .i64 x1.left, .int .i64 x1.right]] _ _
  refine (eqDependency_c _ _ x1 _ ((ou47.below c10_18 (Nat.le_refl _)).at_ (by omega)) ((ou78.below (Below.refl w18.heap.size w18) (Nat.le_refl _)).at_ (Nat.le_refl _))).mono ?_
  rintro e w19 ⟨rfl, hb19⟩
  have z19 : w18.heap.size ≤ w19.heap.size := hb19.size
  have c16_19 : Below w16.heap.size w16 w19 := (c16_18.trans (hb19.mono (by omega)))
  refine ⟨_, rfl, fun _ => ⟨⟨_, c16_19⟩, rfl⟩, ?_⟩
  refine plan_put ?_ (by simp only [Act.put, List.setIfInBounds_toArray, List.set_cons_succ, List.set_cons_zero]; rfl)
  refine plan_look _ rfl rfl ?_
  go_big_quiet_step (fail)
  refine wpQuiet_nil ?_
  refine plan_done ?_
  clear gf68 gf69 gf70 gf71 gf72 gf73 gf74 gf75 gf76 gf77
  have c9_19 : Below (w8.alloc (.cells #[.slice y39_0 x0.rels.length y39_1, .slice y39_2 x0.facts.length y39_3] 27)).heap.size (w8.alloc (.cells #[.slice y39_0 x0.rels.length y39_1, .slice y39_2 x0.facts.length y39_3] 27)) w19 := ((((((c9_13.trans (hb14.mono (by omega))).trans (hb15.mono (by omega))).trans (hb16.mono (by omega))).trans (hb17.mono (by omega))).trans (hb18.mono (by omega))).trans (hb19.mono (by omega)))
  have f80 : w19.cell? ⟨w8.heap.size, 0, none⟩ = some (.slice y39_0 x0.rels.length y39_1) := ((c9_19).cell (p := ⟨w8.heap.size, 0, none⟩) (by show w8.heap.size < _; omega)).trans K40.out
  have f81 : w19.cell? ⟨w8.heap.size, 1, none⟩ = some (.slice y39_2 x0.facts.length y39_3) := ((c9_19).cell (p := ⟨w8.heap.size, 1, none⟩) (by show w8.heap.size < _; omega)).trans K41.out
  have c8_19 : Below w8.heap.size w8 w19 := ((((c8_15.trans (hb16.mono (by omega))).trans (hb17.mono (by omega))).trans (hb18.mono (by omega))).trans (hb19.mono (by omega)))
  have c10_19 : Below w10.heap.size w10 w19 := (c10_18.trans (hb19.mono (by omega)))
  have c12_19 : Below w12.heap.size w12 w19 := ((((((hb13.trans (hb14.mono (by omega))).trans (hb15.mono (by omega))).trans (hb16.mono (by omega))).trans (hb17.mono (by omega))).trans (hb18.mono (by omega))).trans (hb19.mono (by omega)))
  have c11_19 : Below (w10.alloc (.cells #[.slice y48_0 x1.body.length y48_1, .slice y48_2 x1.head.length y48_3, .bool x1.egd, .int .i64 x1.left, .int .i64 x1.right] 30)).heap.size (w10.alloc (.cells #[.slice y48_0 x1.body.length y48_1, .slice y48_2 x1.head.length y48_3, .bool x1.egd, .int .i64 x1.left, .int .i64 x1.right] 30)) w19 := (((c11_16.trans (hb17.mono (by omega))).trans (hb18.mono (by omega))).trans (hb19.mono (by omega)))
  go_wp2_with fail
  refine (markInstance_c _ _ _ x0 (1) _ (ou38.below c8_19 (Nat.le_refl _)) S0 (by omega) (by omega)).mono ?_
  rintro e w20 ⟨rfl, om20, hb20⟩
  have om20_tu47 := (ou47.below c10_19 (Nat.le_refl _)).chg hb20 (by omega)
  have om20_g0 := (p61_0.below c12_19 (Nat.le_refl _)).chg hb20 (by omega)
  have z20 : w19.heap.size ≤ w20.heap.size := hb20.size
  clear f80 f81
  have K82 := Lib.hid ((hb20.mid_cell (b := w8.heap.size) (o := 0) (by omega) (by omega)).trans (((c9_19).cell (p := ⟨w8.heap.size, 0, none⟩) (by show w8.heap.size < _; omega)).trans K40.out))
  have K83 := Lib.hid ((hb20.mid_cell (b := w8.heap.size) (o := 1) (by omega) (by omega)).trans (((c9_19).cell (p := ⟨w8.heap.size, 1, none⟩) (by show w8.heap.size < _; omega)).trans K41.out))
  have K84 := Lib.hid ((hb20.mid_cell (b := w10.heap.size) (o := 0) (by omega) (by omega)).trans (((c11_19).cell (p := ⟨w10.heap.size, 0, none⟩) (by show w10.heap.size < _; omega)).trans K49.out))
  have K85 := Lib.hid ((hb20.mid_cell (b := w10.heap.size) (o := 1) (by omega) (by omega)).trans (((c11_19).cell (p := ⟨w10.heap.size, 1, none⟩) (by show w10.heap.size < _; omega)).trans K50.out))
  have K86 := Lib.hid ((hb20.mid_cell (b := w10.heap.size) (o := 2) (by omega) (by omega)).trans (((c11_19).cell (p := ⟨w10.heap.size, 2, none⟩) (by show w10.heap.size < _; omega)).trans K51.out))
  have K87 := Lib.hid ((hb20.mid_cell (b := w10.heap.size) (o := 3) (by omega) (by omega)).trans (((c11_19).cell (p := ⟨w10.heap.size, 3, none⟩) (by show w10.heap.size < _; omega)).trans K52.out))
  have K88 := Lib.hid ((hb20.mid_cell (b := w10.heap.size) (o := 4) (by omega) (by omega)).trans (((c11_19).cell (p := ⟨w10.heap.size, 4, none⟩) (by show w10.heap.size < _; omega)).trans K53.out))
  have f89 : w20.cell? ⟨w10.heap.size, 0, none⟩ = some (.slice y48_0 x1.body.length y48_1) := K84.out
  have f90 : w20.cell? ⟨w10.heap.size, 1, none⟩ = some (.slice y48_2 x1.head.length y48_3) := K85.out
  have f91 : w20.cell? ⟨w10.heap.size, 2, none⟩ = some (.bool x1.egd) := K86.out
  have f92 : w20.cell? ⟨w10.heap.size, 3, none⟩ = some (.int .i64 x1.left) := K87.out
  have f93 : w20.cell? ⟨w10.heap.size, 4, none⟩ = some (.int .i64 x1.right) := K88.out
  go_wp2_with fail
  refine (markDependency_c _ _ _ x1 (1 + Instance_cnt x0) _ (om20_tu47.below (Below.refl w20.heap.size w20) (by omega)) S1 (by omega) (by omega)).mono ?_
  rintro e w21 ⟨rfl, om21, hb21⟩
  have om21_tu38 := (om20.below (Below.refl w20.heap.size w20) (by omega)).chg hb21 (by omega)
  have om21_g0 := (om20_g0.below (Below.refl w20.heap.size w20) (by omega)).chg hb21 (by omega)
  have z21 : w20.heap.size ≤ w21.heap.size := hb21.size
  clear f89 f90 f91 f92 f93
  have K94 := Lib.hid ((hb21.mid_cell (b := w8.heap.size) (o := 0) (by omega) (by omega)).trans (K82.out))
  have K95 := Lib.hid ((hb21.mid_cell (b := w8.heap.size) (o := 1) (by omega) (by omega)).trans (K83.out))
  have K96 := Lib.hid ((hb21.mid_cell (b := w10.heap.size) (o := 0) (by omega) (by omega)).trans (K84.out))
  have K97 := Lib.hid ((hb21.mid_cell (b := w10.heap.size) (o := 1) (by omega) (by omega)).trans (K85.out))
  have K98 := Lib.hid ((hb21.mid_cell (b := w10.heap.size) (o := 2) (by omega) (by omega)).trans (K86.out))
  have K99 := Lib.hid ((hb21.mid_cell (b := w10.heap.size) (o := 3) (by omega) (by omega)).trans (K87.out))
  have K100 := Lib.hid ((hb21.mid_cell (b := w10.heap.size) (o := 4) (by omega) (by omega)).trans (K88.out))
  have c7_21 : Below w7.heap.size w7 w21 := (((((((((c7_12.trans (hb13.mono (by omega))).trans (hb14.mono (by omega))).trans (hb15.mono (by omega))).trans (hb16.mono (by omega))).trans (hb17.mono (by omega))).trans (hb18.mono (by omega))).trans (hb19.mono (by omega))).trans (hb20.mid_below (by omega) (by omega))).trans (hb21.mid_below (by omega) (by omega)))
  go_wp2_with fail
  refine (eqIntSS_c _ _ (ActiveTriggers_r0 x0 x1) _ ((om21_g0.below (Below.refl w21.heap.size w21) (by omega)).at_ (by omega)) ((p35_0.below c7_21 (Nat.le_refl _)).more c7_21.size)).mono ?_
  rintro e w22 ⟨rfl, hb22⟩
  have z22 : w21.heap.size ≤ w22.heap.size := hb22.size
  have c21_22 : Below w21.heap.size w21 w22 := hb22
  go_wp2_with fail
  refine (markIntSS_c _ _ _ (ActiveTriggers_r0 x0 x1) (1) _ (om21_g0.below c21_22 (by omega)) q61_0 (by omega) (by omega)).mono ?_
  rintro e w23 ⟨rfl, om23, hb23⟩
  have om23_tu38 := (om21_tu38.below c21_22 (by omega)).chg hb23 (by omega)
  have om23_tu47 := (om21.below c21_22 (by omega)).chg hb23 (by omega)
  have z23 : w22.heap.size ≤ w23.heap.size := hb23.size
  have K101 := Lib.hid ((hb23.mid_cell (b := w8.heap.size) (o := 0) (by omega) (by omega)).trans (((c21_22).cell (p := ⟨w8.heap.size, 0, none⟩) (by show w8.heap.size < _; omega)).trans K94.out))
  have K102 := Lib.hid ((hb23.mid_cell (b := w8.heap.size) (o := 1) (by omega) (by omega)).trans (((c21_22).cell (p := ⟨w8.heap.size, 1, none⟩) (by show w8.heap.size < _; omega)).trans K95.out))
  have K103 := Lib.hid ((hb23.mid_cell (b := w10.heap.size) (o := 0) (by omega) (by omega)).trans (((c21_22).cell (p := ⟨w10.heap.size, 0, none⟩) (by show w10.heap.size < _; omega)).trans K96.out))
  have K104 := Lib.hid ((hb23.mid_cell (b := w10.heap.size) (o := 1) (by omega) (by omega)).trans (((c21_22).cell (p := ⟨w10.heap.size, 1, none⟩) (by show w10.heap.size < _; omega)).trans K97.out))
  have K105 := Lib.hid ((hb23.mid_cell (b := w10.heap.size) (o := 2) (by omega) (by omega)).trans (((c21_22).cell (p := ⟨w10.heap.size, 2, none⟩) (by show w10.heap.size < _; omega)).trans K98.out))
  have K106 := Lib.hid ((hb23.mid_cell (b := w10.heap.size) (o := 3) (by omega) (by omega)).trans (((c21_22).cell (p := ⟨w10.heap.size, 3, none⟩) (by show w10.heap.size < _; omega)).trans K99.out))
  have K107 := Lib.hid ((hb23.mid_cell (b := w10.heap.size) (o := 4) (by omega) (by omega)).trans (((c21_22).cell (p := ⟨w10.heap.size, 4, none⟩) (by show w10.heap.size < _; omega)).trans K100.out))
  go_wp2_with fail
  refine (heldIntSS_c _ (ActiveTriggers_r0 x0 x1) (1) _ ((om23.below (Below.refl w23.heap.size w23) (by omega)).at_ (by omega)) q61_0 (by omega) (by omega)).mono ?_
  rintro e w24 ⟨rfl, hb24⟩
  have z24 : w23.heap.size ≤ w24.heap.size := hb24.size
  go_wp2_with fail
  have c1_24 : Below ((w.alloc (.cells #[.slice v0_0 x0.rels.length v0_1, .slice v0_2 x0.facts.length v0_3] 43)).alloc (.cells #[.slice v1_0 x1.body.length v1_1, .slice v1_2 x1.head.length v1_3, .bool x1.egd, .int .i64 x1.left, .int .i64 x1.right] 46)).heap.size ((w.alloc (.cells #[.slice v0_0 x0.rels.length v0_1, .slice v0_2 x0.facts.length v0_3] 43)).alloc (.cells #[.slice v1_0 x1.body.length v1_1, .slice v1_2 x1.head.length v1_3, .bool x1.egd, .int .i64 x1.left, .int .i64 x1.right] 46)) w24 := ((((((((c1_16.trans (hb17.mono (by omega))).trans (hb18.mono (by omega))).trans (hb19.mono (by omega))).trans (hb20.mid_below (by omega) (by omega))).trans (hb21.mid_below (by omega) (by omega))).trans (hb22.mono (by omega))).trans (hb23.mid_below (by omega) (by omega))).trans (hb24.mono (by omega)))
  have f108 : w24.cell? ⟨w.heap.size, 0, none⟩ = some (.slice v0_0 x0.rels.length v0_1) := ((c1_24).cell (p := ⟨w.heap.size, 0, none⟩) (by show w.heap.size < _; omega)).trans K1.out
  have gf108 := Aft.cell (B := w24.heap.size) (by omega) f108
  clear f108
  have f109 : w24.cell? ⟨w.heap.size, 1, none⟩ = some (.slice v0_2 x0.facts.length v0_3) := ((c1_24).cell (p := ⟨w.heap.size, 1, none⟩) (by show w.heap.size < _; omega)).trans K2.out
  have gf109 := Aft.cell (B := w24.heap.size) (by omega) f109
  clear f109
  have f110 : w24.cell? ⟨w.heap.size + 1, 0, none⟩ = some (.slice v1_0 x1.body.length v1_1) := ((c1_24).cell (p := ⟨w.heap.size + 1, 0, none⟩) (by show w.heap.size + 1 < _; omega)).trans K3.out
  have gf110 := Aft.cell (B := w24.heap.size) (by omega) f110
  clear f110
  have f111 : w24.cell? ⟨w.heap.size + 1, 1, none⟩ = some (.slice v1_2 x1.head.length v1_3) := ((c1_24).cell (p := ⟨w.heap.size + 1, 1, none⟩) (by show w.heap.size + 1 < _; omega)).trans K4.out
  have gf111 := Aft.cell (B := w24.heap.size) (by omega) f111
  clear f111
  have f112 : w24.cell? ⟨w.heap.size + 1, 2, none⟩ = some (.bool x1.egd) := ((c1_24).cell (p := ⟨w.heap.size + 1, 2, none⟩) (by show w.heap.size + 1 < _; omega)).trans K5.out
  have gf112 := Aft.cell (B := w24.heap.size) (by omega) f112
  clear f112
  have f113 : w24.cell? ⟨w.heap.size + 1, 3, none⟩ = some (.int .i64 x1.left) := ((c1_24).cell (p := ⟨w.heap.size + 1, 3, none⟩) (by show w.heap.size + 1 < _; omega)).trans K6.out
  have gf113 := Aft.cell (B := w24.heap.size) (by omega) f113
  clear f113
  have f114 : w24.cell? ⟨w.heap.size + 1, 4, none⟩ = some (.int .i64 x1.right) := ((c1_24).cell (p := ⟨w.heap.size + 1, 4, none⟩) (by show w.heap.size + 1 < _; omega)).trans K7.out
  have gf114 := Aft.cell (B := w24.heap.size) (by omega) f114
  clear f114
  refine wp_region_plan (C := fun w' => ∃ u : Aft w24.heap.size w24, w' = u.now) (.still 0 (.move true 1 (.still 2 (.move true 3 (.move true 4 (.still 5 .done) .none) .none)) .none)) (by kernel_rfl) (by kernel_rfl) (by kernel_rfl) (fun _ => ⟨⟨_, (Below.refl _ _).drew⟩, rfl⟩) ?_
  have hb25 : Below w24.heap.size w24 w24.drew := (Below.refl _ _).drew
  have z25 : w24.drew.heap.size = w24.heap.size := rfl
  have c0_25 : Below w.heap.size w w24.drew := ((((((((c0_17.trans (hb18.mono (by omega))).trans (hb19.mono (by omega))).trans (hb20.mid_below (by omega) (by omega))).trans (hb21.mid_below (by omega) (by omega))).trans (hb22.mono (by omega))).trans (hb23.mid_below (by omega) (by omega))).trans (hb24.mono (by omega))).trans (hb25.mono (by omega)))
  refine plan_look _ rfl rfl ?_
  go_big_quiet_step (fail)
  refine wpQuiet_nil ?_
  refine plan_call _ 20 _ _ _ _ _ rfl _ Tryz.func20 (by kernel_rfl) (by kernel_rfl) ?_ True.intro
  show Calls Tryz.prog 20 #[.agg #[.slice v0_0 x0.rels.length v0_1, .slice v0_2 x0.facts.length v0_3]] _ _
  refine (toInstance_c _ x0 _ ((A0.out.below c0_25 (Nat.le_refl _)).more c0_25.size) S0).mono ?_
  rintro e w26 ⟨u115, rfl, ou115, hb26⟩
  have z26 : w24.drew.heap.size ≤ w26.heap.size := hb26.size
  obtain ⟨y116_0, y116_1, y116_2, y116_3, rfl⟩ := Instance_form (ou115.at_ (Nat.le_refl _))
  have c24_26 : Below w24.heap.size w24 w26 := (hb25.trans (hb26.mono (by omega)))
  refine ⟨_, rfl, fun _ => ⟨⟨_, c24_26⟩, rfl⟩, ?_⟩
  refine plan_put ?_ (by simp only [Act.put, List.setIfInBounds_toArray, List.set_cons_succ, List.set_cons_zero]; rfl)
  have c0_26 : Below w.heap.size w w26 := (c0_25.trans (hb26.mono (by omega)))
  refine plan_look _ rfl rfl ?_
  go_big_quiet_step (fail)
  refine wpQuiet_nil ?_
  refine plan_call _ 21 _ _ _ _ _ rfl _ Tryz.func21 (by kernel_rfl) (by kernel_rfl) ?_ True.intro
  show Calls Tryz.prog 21 #[.agg #[.slice v1_0 x1.body.length v1_1, .slice v1_2 x1.head.length v1_3, .bool x1.egd, .int .i64 x1.left, .int .i64 x1.right]] _ _
  refine (toDependency_c _ x1 _ ((A1.out.below c0_26 (Nat.le_refl _)).more c0_26.size) S1).mono ?_
  rintro e w27 ⟨u117, rfl, ou117, hb27⟩
  have z27 : w26.heap.size ≤ w27.heap.size := hb27.size
  obtain ⟨y118_0, y118_1, y118_2, y118_3, rfl⟩ := Dependency_form (ou117.at_ (Nat.le_refl _))
  have c24_27 : Below w24.heap.size w24 w27 := (c24_26.trans (hb27.mono (by omega)))
  refine ⟨_, rfl, fun _ => ⟨⟨_, c24_27⟩, rfl⟩, ?_⟩
  refine plan_put ?_ (by simp only [Act.put, List.setIfInBounds_toArray, List.set_cons_succ, List.set_cons_zero]; rfl)
  have c26_27 : Below w26.heap.size w26 w27 := hb27
  refine plan_call _ 11 _ _ _ _ _ rfl _ Tryz.func11 (by kernel_rfl) (by kernel_rfl) ?_ True.intro
  show Calls Tryz.prog 11 #[.agg #[.slice y116_0 x0.rels.length y116_1, .slice y116_2 x0.facts.length y116_3], .agg #[.slice y118_0 x1.body.length y118_1, .slice y118_2 x1.head.length y118_3, .bool x1.egd, .int .i64 x1.left, .int .i64 x1.right]] _ _
  refine (implActiveTriggers_c _ x0 _ x1 _ ((ou115.below c26_27 (Nat.le_refl _)).at_ (by omega)) W0.out S0 ((ou117.below (Below.refl w27.heap.size w27) (Nat.le_refl _)).at_ (Nat.le_refl _)) W1.out S1).mono ?_
  rintro e w28 ⟨r119_0, rfl, p119_0, q119_0, hb28⟩
  have z28 : w27.heap.size ≤ w28.heap.size := hb28.size
  have NC119_0 := IntSS_cnt_le (ActiveTriggers_r0 x0 x1)
  have c24_28 : Below w24.heap.size w24 w28 := (c24_27.trans (hb28.mono (by omega)))
  refine ⟨_, rfl, fun _ => ⟨⟨_, c24_28⟩, rfl⟩, ?_⟩
  refine plan_put ?_ (by simp only [Act.put, List.setIfInBounds_toArray, List.set_cons_succ, List.set_cons_zero]; rfl)
  refine plan_look _ rfl rfl ?_
  go_big_quiet_step (fail)
  refine wpQuiet_nil ?_
  refine plan_done ?_
  clear gf108 gf109 gf110 gf111 gf112 gf113 gf114
  have c7_28 : Below w7.heap.size w7 w28 := (((((((c7_21.trans (hb22.mono (by omega))).trans (hb23.mid_below (by omega) (by omega))).trans (hb24.mono (by omega))).trans (hb25.mono (by omega))).trans (hb26.mono (by omega))).trans (hb27.mono (by omega))).trans (hb28.mono (by omega)))
  go_wp2_with fail
  refine (eqIntSS_c _ _ (ActiveTriggers_r0 x0 x1) _ ((p119_0.below (Below.refl w28.heap.size w28) (Nat.le_refl _)).at_ (Nat.le_refl _)) ((p35_0.below c7_28 (Nat.le_refl _)).more c7_28.size)).mono ?_
  rintro e w29 ⟨rfl, hb29⟩
  have z29 : w28.heap.size ≤ w29.heap.size := hb29.size
  have c23_29 : Below w23.heap.size w23 w29 := (((((hb24.trans (hb25.mono (by omega))).trans (hb26.mono (by omega))).trans (hb27.mono (by omega))).trans (hb28.mono (by omega))).trans (hb29.mono (by omega)))
  go_wp2_with fail
  refine (heldIntSS_c _ (ActiveTriggers_r0 x0 x1) (1) _ ((om23.below c23_29 (by omega)).at_ (by omega)) q119_0 (by omega) (by omega)).mono ?_
  rintro e w30 ⟨rfl, hb30⟩
  have z30 : w29.heap.size ≤ w30.heap.size := hb30.size
  have c0_30 : Below w.heap.size w w30 := ((((c0_26.trans (hb27.mono (by omega))).trans (hb28.mono (by omega))).trans (hb29.mono (by omega))).trans (hb30.mono (by omega)))
  go_wp2
  go_ret
  exact ⟨rfl, c0_30⟩

theorem ty : ∀ t ∈ Tryz.f6.params.toList, Tryz.prog.readableRec t = true ∧ t < Tryz.prog.types.size := by
  rw [Tryz.params6]; intro t ht
  simp only [List.mem_cons, List.not_mem_nil, or_false] at ht
  rcases ht with rfl | rfl <;> exact ⟨by kernel_rfl, of_decide_eq_true (by kernel_rfl)⟩
set_option maxRecDepth 100000 in
theorem lifted (os : Os) (started : os.Started) (H : Type) (enc : TypeId × Value → H) :
    ReturnsInHanded {} Tryz.checked os 6 .any (Rows.fnExactActiveTriggersSpec.pre6 enc Tryz.prog Tryz.f6 Rows.fnExactActiveTriggersRow.domain false) (Rows.fnExactActiveTriggersSpec.post enc Tryz.prog Tryz.f6 false true false false) := by
  refine returnsInHanded_of_change (C := Tryz.checked) ownFact started (by kernel_rfl) Tryz.func6
    (ChangeSpec.witness6 (enc := enc) (C := Tryz.checked) false ⟨#[], #[.agg #[.slice none 0 0, .slice none 0 0], .agg #[.slice none 0 0, .slice none 0 0, .bool false, .int .i64 0, .int .i64 0]], []⟩ 8 (by kernel_rfl) (by kernel_rfl) (by kernel_rfl) (by kernel_rfl)) ?_
  intro W base args ds gs before hval0 hW hcnd _
  have hval : ∀ (j : Nat) t v, Tryz.f6.params[j]? = some t → args[j]? = some v → Value.okWide Tryz.prog W .any base t v := hval0
  have hW' := hW
  obtain ⟨p, q, hA0, hV, _, hfz, hnd⟩ := hW
  have hA : DataW.TrodAll enc Tryz.prog W 0 (fun _ => true) true Tryz.f6.params.toList args.toList ds p := hA0
  rw [Tryz.params6] at hA hval
  obtain ⟨v0, vs0, d0, ds0, p0, q0, hargs, rfl, _, h0, r0⟩ := trodAll_cons hA
  obtain ⟨v1, vs1, d1, ds1, p1, q1, rfl, rfl, _, h1, r1⟩ := trodAll_cons r0
  obtain ⟨rfl, rfl, _⟩ := trodAll_nil r1
  obtain rfl : args = #[v0, v1] := by cases args; simp_all
  obtain ⟨rfl, _⟩ := trodVars_none hV
  obtain ⟨x0, hx0, hwx0⟩ := open_Instance (hval 0 _ v0 rfl rfl) h0 (DataW.TrodAll.lt (trodAll_mk1 h0))
  obtain ⟨x1, hx1, hwx1⟩ := open_Dependency (hval 1 _ v1 rfl rfl) h1 (DataW.TrodAll.lt (trodAll_mk1 h1))
  refine (walk v0 x0 v1 x1 W hx0 hwx0 hx1 hwx1).mono fun e W' ⟨he, hb⟩ => ?_
  subst he
  exact ⟨_, rfl, law_post laidFact ty Tryz.underlying4 (by kernel_rfl) rfl hW' rfl hb⟩
theorem holds : Rows.FnExactActiveTriggersSaid :=
  OpenClaim.holds_of_wide 6 Tryz.f6 rfl rfl rfl rfl rfl rfl rfl ⟨rfl, rfl, rfl, rfl, rfl⟩ rfl rfl rfl rfl rfl (by kernel_rfl) Tryz.func6 (by kernel_rfl)
    (of_decide_eq_true (by kernel_rfl)) (by unfold Func.isWrapper; first | (rw [if_pos (by decide +kernel)]; kernel_rfl) | (rw [if_neg (by decide +kernel)]; exact ⟨rfl, rfl⟩))
    (fun os started H enc _ => lifted os started H enc)
end lawFnExactActiveTriggers

end Go.Proofs.YtoapphgahmofhaaGreat
