/-
  FnExactEqualDependencies: for every argument the translated law returns true, and each argument reads afterwards as it read before. Conditions: none beyond the given row's own.
-/
import Derived.Test.YtdamhifomcknaaaPlan
import Derived.Test.YtdamhifomcknaaaDepC
import Derived.Test.YtdamhifomcknaaaDepV
import Derived.Test.YtdamhifomcknaaaDepEI
import Derived.Test.YtdamhifomcknaaaLift
namespace Go.Proofs.Ytdamhifomcknaaa
open Go.RowKit Go.ChangeShapes Go.WideShapes Go.ChangeAt Go.ChangeMaps

namespace lawFnExactEqualDependencies

set_option maxRecDepth 100000 in
set_option maxHeartbeats 1600000 in
theorem walk (v0 : Value) (x0 : Dep) (v1 : Value) (x1 : Dep) (w : World) (h0 : Dependency_at w w.heap.size v0 x0) (hw0 : Dependency_wf x0) (h1 : Dependency_at w w.heap.size v1 x1) (hw1 : Dependency_wf x1) :
    Calls Try.prog 9 #[v0, v1] w fun e w' => e = .returned (.bool true) ∧ Below w.heap.size w w' := by
  obtain ⟨v0_0, v0_1, v0_2, v0_3, rfl⟩ := Dependency_form h0
  have A0 := Lib.hid h0
  have W0 := Lib.hid hw0
  clear h0 hw0
  obtain ⟨v1_0, v1_1, v1_2, v1_3, rfl⟩ := Dependency_form h1
  have A1 := Lib.hid h1
  have W1 := Lib.hid hw1
  clear h1 hw1
  by_cases hz1 : ((Dependency_sz x0 : Nat) : Int) ≤ 1048576
  rotate_left
  · skip
    have e1 := szLeft_no hz1
    have hb1 : Below w.heap.size w ((w.alloc (.cells #[.slice v0_0 x0.body.length v0_1, .slice v0_2 x0.head.length v0_3, .bool x0.egd, .int .i64 x0.left, .int .i64 x0.right] 38)).alloc (.cells #[.slice v1_0 x1.body.length v1_1, .slice v1_2 x1.head.length v1_3, .bool x1.egd, .int .i64 x1.left, .int .i64 x1.right] 38)) := below_more (below_more (Below.refl _ _) _) _
    have z1 : w.heap.size + 2 ≤ ((w.alloc (.cells #[.slice v0_0 x0.body.length v0_1, .slice v0_2 x0.head.length v0_3, .bool x0.egd, .int .i64 x0.left, .int .i64 x0.right] 38)).alloc (.cells #[.slice v1_0 x1.body.length v1_1, .slice v1_2 x1.head.length v1_3, .bool x1.egd, .int .i64 x1.left, .int .i64 x1.right] 38)).heap.size := by simp
    have K1 := Lib.hid (show ((w.alloc (.cells #[.slice v0_0 x0.body.length v0_1, .slice v0_2 x0.head.length v0_3, .bool x0.egd, .int .i64 x0.left, .int .i64 x0.right] 38)).alloc (.cells #[.slice v1_0 x1.body.length v1_1, .slice v1_2 x1.head.length v1_3, .bool x1.egd, .int .i64 x1.left, .int .i64 x1.right] 38)).cell? ⟨w.heap.size, 0, none⟩ = some (.slice v0_0 x0.body.length v0_1) by simp [go_sem])
    have K2 := Lib.hid (show ((w.alloc (.cells #[.slice v0_0 x0.body.length v0_1, .slice v0_2 x0.head.length v0_3, .bool x0.egd, .int .i64 x0.left, .int .i64 x0.right] 38)).alloc (.cells #[.slice v1_0 x1.body.length v1_1, .slice v1_2 x1.head.length v1_3, .bool x1.egd, .int .i64 x1.left, .int .i64 x1.right] 38)).cell? ⟨w.heap.size, 1, none⟩ = some (.slice v0_2 x0.head.length v0_3) by simp [go_sem])
    have K3 := Lib.hid (show ((w.alloc (.cells #[.slice v0_0 x0.body.length v0_1, .slice v0_2 x0.head.length v0_3, .bool x0.egd, .int .i64 x0.left, .int .i64 x0.right] 38)).alloc (.cells #[.slice v1_0 x1.body.length v1_1, .slice v1_2 x1.head.length v1_3, .bool x1.egd, .int .i64 x1.left, .int .i64 x1.right] 38)).cell? ⟨w.heap.size, 2, none⟩ = some (.bool x0.egd) by simp [go_sem])
    have K4 := Lib.hid (show ((w.alloc (.cells #[.slice v0_0 x0.body.length v0_1, .slice v0_2 x0.head.length v0_3, .bool x0.egd, .int .i64 x0.left, .int .i64 x0.right] 38)).alloc (.cells #[.slice v1_0 x1.body.length v1_1, .slice v1_2 x1.head.length v1_3, .bool x1.egd, .int .i64 x1.left, .int .i64 x1.right] 38)).cell? ⟨w.heap.size, 3, none⟩ = some (.int .i64 x0.left) by simp [go_sem])
    have K5 := Lib.hid (show ((w.alloc (.cells #[.slice v0_0 x0.body.length v0_1, .slice v0_2 x0.head.length v0_3, .bool x0.egd, .int .i64 x0.left, .int .i64 x0.right] 38)).alloc (.cells #[.slice v1_0 x1.body.length v1_1, .slice v1_2 x1.head.length v1_3, .bool x1.egd, .int .i64 x1.left, .int .i64 x1.right] 38)).cell? ⟨w.heap.size, 4, none⟩ = some (.int .i64 x0.right) by simp [go_sem])
    have K6 := Lib.hid (show ((w.alloc (.cells #[.slice v0_0 x0.body.length v0_1, .slice v0_2 x0.head.length v0_3, .bool x0.egd, .int .i64 x0.left, .int .i64 x0.right] 38)).alloc (.cells #[.slice v1_0 x1.body.length v1_1, .slice v1_2 x1.head.length v1_3, .bool x1.egd, .int .i64 x1.left, .int .i64 x1.right] 38)).cell? ⟨w.heap.size + 1, 0, none⟩ = some (.slice v1_0 x1.body.length v1_1) by simp [go_sem])
    have K7 := Lib.hid (show ((w.alloc (.cells #[.slice v0_0 x0.body.length v0_1, .slice v0_2 x0.head.length v0_3, .bool x0.egd, .int .i64 x0.left, .int .i64 x0.right] 38)).alloc (.cells #[.slice v1_0 x1.body.length v1_1, .slice v1_2 x1.head.length v1_3, .bool x1.egd, .int .i64 x1.left, .int .i64 x1.right] 38)).cell? ⟨w.heap.size + 1, 1, none⟩ = some (.slice v1_2 x1.head.length v1_3) by simp [go_sem])
    have K8 := Lib.hid (show ((w.alloc (.cells #[.slice v0_0 x0.body.length v0_1, .slice v0_2 x0.head.length v0_3, .bool x0.egd, .int .i64 x0.left, .int .i64 x0.right] 38)).alloc (.cells #[.slice v1_0 x1.body.length v1_1, .slice v1_2 x1.head.length v1_3, .bool x1.egd, .int .i64 x1.left, .int .i64 x1.right] 38)).cell? ⟨w.heap.size + 1, 2, none⟩ = some (.bool x1.egd) by simp [go_sem])
    have K9 := Lib.hid (show ((w.alloc (.cells #[.slice v0_0 x0.body.length v0_1, .slice v0_2 x0.head.length v0_3, .bool x0.egd, .int .i64 x0.left, .int .i64 x0.right] 38)).alloc (.cells #[.slice v1_0 x1.body.length v1_1, .slice v1_2 x1.head.length v1_3, .bool x1.egd, .int .i64 x1.left, .int .i64 x1.right] 38)).cell? ⟨w.heap.size + 1, 3, none⟩ = some (.int .i64 x1.left) by simp [go_sem])
    have K10 := Lib.hid (show ((w.alloc (.cells #[.slice v0_0 x0.body.length v0_1, .slice v0_2 x0.head.length v0_3, .bool x0.egd, .int .i64 x0.left, .int .i64 x0.right] 38)).alloc (.cells #[.slice v1_0 x1.body.length v1_1, .slice v1_2 x1.head.length v1_3, .bool x1.egd, .int .i64 x1.left, .int .i64 x1.right] 38)).cell? ⟨w.heap.size + 1, 4, none⟩ = some (.int .i64 x1.right) by simp [go_sem])
    go_enter Try.func9, Try.ntmps9
    have f11 : ((w.alloc (.cells #[.slice v0_0 x0.body.length v0_1, .slice v0_2 x0.head.length v0_3, .bool x0.egd, .int .i64 x0.left, .int .i64 x0.right] 38)).alloc (.cells #[.slice v1_0 x1.body.length v1_1, .slice v1_2 x1.head.length v1_3, .bool x1.egd, .int .i64 x1.left, .int .i64 x1.right] 38)).cell? ⟨w.heap.size, 0, none⟩ = some (.slice v0_0 x0.body.length v0_1) := K1.out
    have f12 : ((w.alloc (.cells #[.slice v0_0 x0.body.length v0_1, .slice v0_2 x0.head.length v0_3, .bool x0.egd, .int .i64 x0.left, .int .i64 x0.right] 38)).alloc (.cells #[.slice v1_0 x1.body.length v1_1, .slice v1_2 x1.head.length v1_3, .bool x1.egd, .int .i64 x1.left, .int .i64 x1.right] 38)).cell? ⟨w.heap.size, 1, none⟩ = some (.slice v0_2 x0.head.length v0_3) := K2.out
    have f13 : ((w.alloc (.cells #[.slice v0_0 x0.body.length v0_1, .slice v0_2 x0.head.length v0_3, .bool x0.egd, .int .i64 x0.left, .int .i64 x0.right] 38)).alloc (.cells #[.slice v1_0 x1.body.length v1_1, .slice v1_2 x1.head.length v1_3, .bool x1.egd, .int .i64 x1.left, .int .i64 x1.right] 38)).cell? ⟨w.heap.size, 2, none⟩ = some (.bool x0.egd) := K3.out
    have f14 : ((w.alloc (.cells #[.slice v0_0 x0.body.length v0_1, .slice v0_2 x0.head.length v0_3, .bool x0.egd, .int .i64 x0.left, .int .i64 x0.right] 38)).alloc (.cells #[.slice v1_0 x1.body.length v1_1, .slice v1_2 x1.head.length v1_3, .bool x1.egd, .int .i64 x1.left, .int .i64 x1.right] 38)).cell? ⟨w.heap.size, 3, none⟩ = some (.int .i64 x0.left) := K4.out
    have f15 : ((w.alloc (.cells #[.slice v0_0 x0.body.length v0_1, .slice v0_2 x0.head.length v0_3, .bool x0.egd, .int .i64 x0.left, .int .i64 x0.right] 38)).alloc (.cells #[.slice v1_0 x1.body.length v1_1, .slice v1_2 x1.head.length v1_3, .bool x1.egd, .int .i64 x1.left, .int .i64 x1.right] 38)).cell? ⟨w.heap.size, 4, none⟩ = some (.int .i64 x0.right) := K5.out
    have c0_1 : Below w.heap.size w ((w.alloc (.cells #[.slice v0_0 x0.body.length v0_1, .slice v0_2 x0.head.length v0_3, .bool x0.egd, .int .i64 x0.left, .int .i64 x0.right] 38)).alloc (.cells #[.slice v1_0 x1.body.length v1_1, .slice v1_2 x1.head.length v1_3, .bool x1.egd, .int .i64 x1.left, .int .i64 x1.right] 38)) := hb1
    go_wp2_with fail
    refine (szDependency_c _ x0 (1048576) _ ((A0.out.below c0_1 (Nat.le_refl _)).more c0_1.size) W0.out (by omega) (by omega)).mono ?_
    rw [e1]
    rintro e w2 ⟨rfl, hb2⟩
    have z2 : ((w.alloc (.cells #[.slice v0_0 x0.body.length v0_1, .slice v0_2 x0.head.length v0_3, .bool x0.egd, .int .i64 x0.left, .int .i64 x0.right] 38)).alloc (.cells #[.slice v1_0 x1.body.length v1_1, .slice v1_2 x1.head.length v1_3, .bool x1.egd, .int .i64 x1.left, .int .i64 x1.right] 38)).heap.size ≤ w2.heap.size := hb2.size
    clear f11 f12 f13 f14 f15
    have c0_2 : Below w.heap.size w w2 := (c0_1.trans (hb2.mono (by omega)))
    go_wp2
    go_ret
    exact ⟨rfl, c0_2⟩
  by_cases hz2 : ((Dependency_sz x1 : Nat) : Int) ≤ 1048576 - (Dependency_sz x0 : Nat)
  rotate_left
  · skip
    have e1 := szLeft_yes hz1
    have e2 := szLeft_no hz2
    have hb1 : Below w.heap.size w ((w.alloc (.cells #[.slice v0_0 x0.body.length v0_1, .slice v0_2 x0.head.length v0_3, .bool x0.egd, .int .i64 x0.left, .int .i64 x0.right] 38)).alloc (.cells #[.slice v1_0 x1.body.length v1_1, .slice v1_2 x1.head.length v1_3, .bool x1.egd, .int .i64 x1.left, .int .i64 x1.right] 38)) := below_more (below_more (Below.refl _ _) _) _
    have z1 : w.heap.size + 2 ≤ ((w.alloc (.cells #[.slice v0_0 x0.body.length v0_1, .slice v0_2 x0.head.length v0_3, .bool x0.egd, .int .i64 x0.left, .int .i64 x0.right] 38)).alloc (.cells #[.slice v1_0 x1.body.length v1_1, .slice v1_2 x1.head.length v1_3, .bool x1.egd, .int .i64 x1.left, .int .i64 x1.right] 38)).heap.size := by simp
    have K1 := Lib.hid (show ((w.alloc (.cells #[.slice v0_0 x0.body.length v0_1, .slice v0_2 x0.head.length v0_3, .bool x0.egd, .int .i64 x0.left, .int .i64 x0.right] 38)).alloc (.cells #[.slice v1_0 x1.body.length v1_1, .slice v1_2 x1.head.length v1_3, .bool x1.egd, .int .i64 x1.left, .int .i64 x1.right] 38)).cell? ⟨w.heap.size, 0, none⟩ = some (.slice v0_0 x0.body.length v0_1) by simp [go_sem])
    have K2 := Lib.hid (show ((w.alloc (.cells #[.slice v0_0 x0.body.length v0_1, .slice v0_2 x0.head.length v0_3, .bool x0.egd, .int .i64 x0.left, .int .i64 x0.right] 38)).alloc (.cells #[.slice v1_0 x1.body.length v1_1, .slice v1_2 x1.head.length v1_3, .bool x1.egd, .int .i64 x1.left, .int .i64 x1.right] 38)).cell? ⟨w.heap.size, 1, none⟩ = some (.slice v0_2 x0.head.length v0_3) by simp [go_sem])
    have K3 := Lib.hid (show ((w.alloc (.cells #[.slice v0_0 x0.body.length v0_1, .slice v0_2 x0.head.length v0_3, .bool x0.egd, .int .i64 x0.left, .int .i64 x0.right] 38)).alloc (.cells #[.slice v1_0 x1.body.length v1_1, .slice v1_2 x1.head.length v1_3, .bool x1.egd, .int .i64 x1.left, .int .i64 x1.right] 38)).cell? ⟨w.heap.size, 2, none⟩ = some (.bool x0.egd) by simp [go_sem])
    have K4 := Lib.hid (show ((w.alloc (.cells #[.slice v0_0 x0.body.length v0_1, .slice v0_2 x0.head.length v0_3, .bool x0.egd, .int .i64 x0.left, .int .i64 x0.right] 38)).alloc (.cells #[.slice v1_0 x1.body.length v1_1, .slice v1_2 x1.head.length v1_3, .bool x1.egd, .int .i64 x1.left, .int .i64 x1.right] 38)).cell? ⟨w.heap.size, 3, none⟩ = some (.int .i64 x0.left) by simp [go_sem])
    have K5 := Lib.hid (show ((w.alloc (.cells #[.slice v0_0 x0.body.length v0_1, .slice v0_2 x0.head.length v0_3, .bool x0.egd, .int .i64 x0.left, .int .i64 x0.right] 38)).alloc (.cells #[.slice v1_0 x1.body.length v1_1, .slice v1_2 x1.head.length v1_3, .bool x1.egd, .int .i64 x1.left, .int .i64 x1.right] 38)).cell? ⟨w.heap.size, 4, none⟩ = some (.int .i64 x0.right) by simp [go_sem])
    have K6 := Lib.hid (show ((w.alloc (.cells #[.slice v0_0 x0.body.length v0_1, .slice v0_2 x0.head.length v0_3, .bool x0.egd, .int .i64 x0.left, .int .i64 x0.right] 38)).alloc (.cells #[.slice v1_0 x1.body.length v1_1, .slice v1_2 x1.head.length v1_3, .bool x1.egd, .int .i64 x1.left, .int .i64 x1.right] 38)).cell? ⟨w.heap.size + 1, 0, none⟩ = some (.slice v1_0 x1.body.length v1_1) by simp [go_sem])
    have K7 := Lib.hid (show ((w.alloc (.cells #[.slice v0_0 x0.body.length v0_1, .slice v0_2 x0.head.length v0_3, .bool x0.egd, .int .i64 x0.left, .int .i64 x0.right] 38)).alloc (.cells #[.slice v1_0 x1.body.length v1_1, .slice v1_2 x1.head.length v1_3, .bool x1.egd, .int .i64 x1.left, .int .i64 x1.right] 38)).cell? ⟨w.heap.size + 1, 1, none⟩ = some (.slice v1_2 x1.head.length v1_3) by simp [go_sem])
    have K8 := Lib.hid (show ((w.alloc (.cells #[.slice v0_0 x0.body.length v0_1, .slice v0_2 x0.head.length v0_3, .bool x0.egd, .int .i64 x0.left, .int .i64 x0.right] 38)).alloc (.cells #[.slice v1_0 x1.body.length v1_1, .slice v1_2 x1.head.length v1_3, .bool x1.egd, .int .i64 x1.left, .int .i64 x1.right] 38)).cell? ⟨w.heap.size + 1, 2, none⟩ = some (.bool x1.egd) by simp [go_sem])
    have K9 := Lib.hid (show ((w.alloc (.cells #[.slice v0_0 x0.body.length v0_1, .slice v0_2 x0.head.length v0_3, .bool x0.egd, .int .i64 x0.left, .int .i64 x0.right] 38)).alloc (.cells #[.slice v1_0 x1.body.length v1_1, .slice v1_2 x1.head.length v1_3, .bool x1.egd, .int .i64 x1.left, .int .i64 x1.right] 38)).cell? ⟨w.heap.size + 1, 3, none⟩ = some (.int .i64 x1.left) by simp [go_sem])
    have K10 := Lib.hid (show ((w.alloc (.cells #[.slice v0_0 x0.body.length v0_1, .slice v0_2 x0.head.length v0_3, .bool x0.egd, .int .i64 x0.left, .int .i64 x0.right] 38)).alloc (.cells #[.slice v1_0 x1.body.length v1_1, .slice v1_2 x1.head.length v1_3, .bool x1.egd, .int .i64 x1.left, .int .i64 x1.right] 38)).cell? ⟨w.heap.size + 1, 4, none⟩ = some (.int .i64 x1.right) by simp [go_sem])
    go_enter Try.func9, Try.ntmps9
    have f16 : ((w.alloc (.cells #[.slice v0_0 x0.body.length v0_1, .slice v0_2 x0.head.length v0_3, .bool x0.egd, .int .i64 x0.left, .int .i64 x0.right] 38)).alloc (.cells #[.slice v1_0 x1.body.length v1_1, .slice v1_2 x1.head.length v1_3, .bool x1.egd, .int .i64 x1.left, .int .i64 x1.right] 38)).cell? ⟨w.heap.size, 0, none⟩ = some (.slice v0_0 x0.body.length v0_1) := K1.out
    have f17 : ((w.alloc (.cells #[.slice v0_0 x0.body.length v0_1, .slice v0_2 x0.head.length v0_3, .bool x0.egd, .int .i64 x0.left, .int .i64 x0.right] 38)).alloc (.cells #[.slice v1_0 x1.body.length v1_1, .slice v1_2 x1.head.length v1_3, .bool x1.egd, .int .i64 x1.left, .int .i64 x1.right] 38)).cell? ⟨w.heap.size, 1, none⟩ = some (.slice v0_2 x0.head.length v0_3) := K2.out
    have f18 : ((w.alloc (.cells #[.slice v0_0 x0.body.length v0_1, .slice v0_2 x0.head.length v0_3, .bool x0.egd, .int .i64 x0.left, .int .i64 x0.right] 38)).alloc (.cells #[.slice v1_0 x1.body.length v1_1, .slice v1_2 x1.head.length v1_3, .bool x1.egd, .int .i64 x1.left, .int .i64 x1.right] 38)).cell? ⟨w.heap.size, 2, none⟩ = some (.bool x0.egd) := K3.out
    have f19 : ((w.alloc (.cells #[.slice v0_0 x0.body.length v0_1, .slice v0_2 x0.head.length v0_3, .bool x0.egd, .int .i64 x0.left, .int .i64 x0.right] 38)).alloc (.cells #[.slice v1_0 x1.body.length v1_1, .slice v1_2 x1.head.length v1_3, .bool x1.egd, .int .i64 x1.left, .int .i64 x1.right] 38)).cell? ⟨w.heap.size, 3, none⟩ = some (.int .i64 x0.left) := K4.out
    have f20 : ((w.alloc (.cells #[.slice v0_0 x0.body.length v0_1, .slice v0_2 x0.head.length v0_3, .bool x0.egd, .int .i64 x0.left, .int .i64 x0.right] 38)).alloc (.cells #[.slice v1_0 x1.body.length v1_1, .slice v1_2 x1.head.length v1_3, .bool x1.egd, .int .i64 x1.left, .int .i64 x1.right] 38)).cell? ⟨w.heap.size, 4, none⟩ = some (.int .i64 x0.right) := K5.out
    have c0_1 : Below w.heap.size w ((w.alloc (.cells #[.slice v0_0 x0.body.length v0_1, .slice v0_2 x0.head.length v0_3, .bool x0.egd, .int .i64 x0.left, .int .i64 x0.right] 38)).alloc (.cells #[.slice v1_0 x1.body.length v1_1, .slice v1_2 x1.head.length v1_3, .bool x1.egd, .int .i64 x1.left, .int .i64 x1.right] 38)) := hb1
    go_wp2_with fail
    refine (szDependency_c _ x0 (1048576) _ ((A0.out.below c0_1 (Nat.le_refl _)).more c0_1.size) W0.out (by omega) (by omega)).mono ?_
    rw [e1]
    rintro e w2 ⟨rfl, hb2⟩
    have z2 : ((w.alloc (.cells #[.slice v0_0 x0.body.length v0_1, .slice v0_2 x0.head.length v0_3, .bool x0.egd, .int .i64 x0.left, .int .i64 x0.right] 38)).alloc (.cells #[.slice v1_0 x1.body.length v1_1, .slice v1_2 x1.head.length v1_3, .bool x1.egd, .int .i64 x1.left, .int .i64 x1.right] 38)).heap.size ≤ w2.heap.size := hb2.size
    clear f16 f17 f18 f19 f20
    have c1_2 : Below ((w.alloc (.cells #[.slice v0_0 x0.body.length v0_1, .slice v0_2 x0.head.length v0_3, .bool x0.egd, .int .i64 x0.left, .int .i64 x0.right] 38)).alloc (.cells #[.slice v1_0 x1.body.length v1_1, .slice v1_2 x1.head.length v1_3, .bool x1.egd, .int .i64 x1.left, .int .i64 x1.right] 38)).heap.size ((w.alloc (.cells #[.slice v0_0 x0.body.length v0_1, .slice v0_2 x0.head.length v0_3, .bool x0.egd, .int .i64 x0.left, .int .i64 x0.right] 38)).alloc (.cells #[.slice v1_0 x1.body.length v1_1, .slice v1_2 x1.head.length v1_3, .bool x1.egd, .int .i64 x1.left, .int .i64 x1.right] 38)) w2 := hb2
    have f21 : w2.cell? ⟨w.heap.size + 1, 0, none⟩ = some (.slice v1_0 x1.body.length v1_1) := ((c1_2).cell (p := ⟨w.heap.size + 1, 0, none⟩) (by show w.heap.size + 1 < _; omega)).trans K6.out
    have f22 : w2.cell? ⟨w.heap.size + 1, 1, none⟩ = some (.slice v1_2 x1.head.length v1_3) := ((c1_2).cell (p := ⟨w.heap.size + 1, 1, none⟩) (by show w.heap.size + 1 < _; omega)).trans K7.out
    have f23 : w2.cell? ⟨w.heap.size + 1, 2, none⟩ = some (.bool x1.egd) := ((c1_2).cell (p := ⟨w.heap.size + 1, 2, none⟩) (by show w.heap.size + 1 < _; omega)).trans K8.out
    have f24 : w2.cell? ⟨w.heap.size + 1, 3, none⟩ = some (.int .i64 x1.left) := ((c1_2).cell (p := ⟨w.heap.size + 1, 3, none⟩) (by show w.heap.size + 1 < _; omega)).trans K9.out
    have f25 : w2.cell? ⟨w.heap.size + 1, 4, none⟩ = some (.int .i64 x1.right) := ((c1_2).cell (p := ⟨w.heap.size + 1, 4, none⟩) (by show w.heap.size + 1 < _; omega)).trans K10.out
    have c0_2 : Below w.heap.size w w2 := (c0_1.trans (hb2.mono (by omega)))
    go_wp2_with fail
    refine (szDependency_c _ x1 (1048576 - (Dependency_sz x0 : Nat)) _ ((A1.out.below c0_2 (Nat.le_refl _)).more c0_2.size) W1.out (by omega) (by omega)).mono ?_
    rw [e2]
    rintro e w3 ⟨rfl, hb3⟩
    have z3 : w2.heap.size ≤ w3.heap.size := hb3.size
    clear f21 f22 f23 f24 f25
    have c0_3 : Below w.heap.size w w3 := (c0_2.trans (hb3.mono (by omega)))
    go_wp2
    go_ret
    exact ⟨rfl, c0_3⟩
  have e1 := szLeft_yes hz1
  have S0 : Dependency_sz x0 ≤ 1048576 := by omega
  have N0 := Dependency_cnt_le x0
  have e2 := szLeft_yes hz2
  have S1 : Dependency_sz x1 ≤ 1048576 := by omega
  have N1 := Dependency_cnt_le x1
  have hb1 : Below w.heap.size w ((w.alloc (.cells #[.slice v0_0 x0.body.length v0_1, .slice v0_2 x0.head.length v0_3, .bool x0.egd, .int .i64 x0.left, .int .i64 x0.right] 38)).alloc (.cells #[.slice v1_0 x1.body.length v1_1, .slice v1_2 x1.head.length v1_3, .bool x1.egd, .int .i64 x1.left, .int .i64 x1.right] 38)) := below_more (below_more (Below.refl _ _) _) _
  have z1 : w.heap.size + 2 ≤ ((w.alloc (.cells #[.slice v0_0 x0.body.length v0_1, .slice v0_2 x0.head.length v0_3, .bool x0.egd, .int .i64 x0.left, .int .i64 x0.right] 38)).alloc (.cells #[.slice v1_0 x1.body.length v1_1, .slice v1_2 x1.head.length v1_3, .bool x1.egd, .int .i64 x1.left, .int .i64 x1.right] 38)).heap.size := by simp
  have K1 := Lib.hid (show ((w.alloc (.cells #[.slice v0_0 x0.body.length v0_1, .slice v0_2 x0.head.length v0_3, .bool x0.egd, .int .i64 x0.left, .int .i64 x0.right] 38)).alloc (.cells #[.slice v1_0 x1.body.length v1_1, .slice v1_2 x1.head.length v1_3, .bool x1.egd, .int .i64 x1.left, .int .i64 x1.right] 38)).cell? ⟨w.heap.size, 0, none⟩ = some (.slice v0_0 x0.body.length v0_1) by simp [go_sem])
  have K2 := Lib.hid (show ((w.alloc (.cells #[.slice v0_0 x0.body.length v0_1, .slice v0_2 x0.head.length v0_3, .bool x0.egd, .int .i64 x0.left, .int .i64 x0.right] 38)).alloc (.cells #[.slice v1_0 x1.body.length v1_1, .slice v1_2 x1.head.length v1_3, .bool x1.egd, .int .i64 x1.left, .int .i64 x1.right] 38)).cell? ⟨w.heap.size, 1, none⟩ = some (.slice v0_2 x0.head.length v0_3) by simp [go_sem])
  have K3 := Lib.hid (show ((w.alloc (.cells #[.slice v0_0 x0.body.length v0_1, .slice v0_2 x0.head.length v0_3, .bool x0.egd, .int .i64 x0.left, .int .i64 x0.right] 38)).alloc (.cells #[.slice v1_0 x1.body.length v1_1, .slice v1_2 x1.head.length v1_3, .bool x1.egd, .int .i64 x1.left, .int .i64 x1.right] 38)).cell? ⟨w.heap.size, 2, none⟩ = some (.bool x0.egd) by simp [go_sem])
  have K4 := Lib.hid (show ((w.alloc (.cells #[.slice v0_0 x0.body.length v0_1, .slice v0_2 x0.head.length v0_3, .bool x0.egd, .int .i64 x0.left, .int .i64 x0.right] 38)).alloc (.cells #[.slice v1_0 x1.body.length v1_1, .slice v1_2 x1.head.length v1_3, .bool x1.egd, .int .i64 x1.left, .int .i64 x1.right] 38)).cell? ⟨w.heap.size, 3, none⟩ = some (.int .i64 x0.left) by simp [go_sem])
  have K5 := Lib.hid (show ((w.alloc (.cells #[.slice v0_0 x0.body.length v0_1, .slice v0_2 x0.head.length v0_3, .bool x0.egd, .int .i64 x0.left, .int .i64 x0.right] 38)).alloc (.cells #[.slice v1_0 x1.body.length v1_1, .slice v1_2 x1.head.length v1_3, .bool x1.egd, .int .i64 x1.left, .int .i64 x1.right] 38)).cell? ⟨w.heap.size, 4, none⟩ = some (.int .i64 x0.right) by simp [go_sem])
  have K6 := Lib.hid (show ((w.alloc (.cells #[.slice v0_0 x0.body.length v0_1, .slice v0_2 x0.head.length v0_3, .bool x0.egd, .int .i64 x0.left, .int .i64 x0.right] 38)).alloc (.cells #[.slice v1_0 x1.body.length v1_1, .slice v1_2 x1.head.length v1_3, .bool x1.egd, .int .i64 x1.left, .int .i64 x1.right] 38)).cell? ⟨w.heap.size + 1, 0, none⟩ = some (.slice v1_0 x1.body.length v1_1) by simp [go_sem])
  have K7 := Lib.hid (show ((w.alloc (.cells #[.slice v0_0 x0.body.length v0_1, .slice v0_2 x0.head.length v0_3, .bool x0.egd, .int .i64 x0.left, .int .i64 x0.right] 38)).alloc (.cells #[.slice v1_0 x1.body.length v1_1, .slice v1_2 x1.head.length v1_3, .bool x1.egd, .int .i64 x1.left, .int .i64 x1.right] 38)).cell? ⟨w.heap.size + 1, 1, none⟩ = some (.slice v1_2 x1.head.length v1_3) by simp [go_sem])
  have K8 := Lib.hid (show ((w.alloc (.cells #[.slice v0_0 x0.body.length v0_1, .slice v0_2 x0.head.length v0_3, .bool x0.egd, .int .i64 x0.left, .int .i64 x0.right] 38)).alloc (.cells #[.slice v1_0 x1.body.length v1_1, .slice v1_2 x1.head.length v1_3, .bool x1.egd, .int .i64 x1.left, .int .i64 x1.right] 38)).cell? ⟨w.heap.size + 1, 2, none⟩ = some (.bool x1.egd) by simp [go_sem])
  have K9 := Lib.hid (show ((w.alloc (.cells #[.slice v0_0 x0.body.length v0_1, .slice v0_2 x0.head.length v0_3, .bool x0.egd, .int .i64 x0.left, .int .i64 x0.right] 38)).alloc (.cells #[.slice v1_0 x1.body.length v1_1, .slice v1_2 x1.head.length v1_3, .bool x1.egd, .int .i64 x1.left, .int .i64 x1.right] 38)).cell? ⟨w.heap.size + 1, 3, none⟩ = some (.int .i64 x1.left) by simp [go_sem])
  have K10 := Lib.hid (show ((w.alloc (.cells #[.slice v0_0 x0.body.length v0_1, .slice v0_2 x0.head.length v0_3, .bool x0.egd, .int .i64 x0.left, .int .i64 x0.right] 38)).alloc (.cells #[.slice v1_0 x1.body.length v1_1, .slice v1_2 x1.head.length v1_3, .bool x1.egd, .int .i64 x1.left, .int .i64 x1.right] 38)).cell? ⟨w.heap.size + 1, 4, none⟩ = some (.int .i64 x1.right) by simp [go_sem])
  go_enter Try.func9, Try.ntmps9
  have f26 : ((w.alloc (.cells #[.slice v0_0 x0.body.length v0_1, .slice v0_2 x0.head.length v0_3, .bool x0.egd, .int .i64 x0.left, .int .i64 x0.right] 38)).alloc (.cells #[.slice v1_0 x1.body.length v1_1, .slice v1_2 x1.head.length v1_3, .bool x1.egd, .int .i64 x1.left, .int .i64 x1.right] 38)).cell? ⟨w.heap.size, 0, none⟩ = some (.slice v0_0 x0.body.length v0_1) := K1.out
  have f27 : ((w.alloc (.cells #[.slice v0_0 x0.body.length v0_1, .slice v0_2 x0.head.length v0_3, .bool x0.egd, .int .i64 x0.left, .int .i64 x0.right] 38)).alloc (.cells #[.slice v1_0 x1.body.length v1_1, .slice v1_2 x1.head.length v1_3, .bool x1.egd, .int .i64 x1.left, .int .i64 x1.right] 38)).cell? ⟨w.heap.size, 1, none⟩ = some (.slice v0_2 x0.head.length v0_3) := K2.out
  have f28 : ((w.alloc (.cells #[.slice v0_0 x0.body.length v0_1, .slice v0_2 x0.head.length v0_3, .bool x0.egd, .int .i64 x0.left, .int .i64 x0.right] 38)).alloc (.cells #[.slice v1_0 x1.body.length v1_1, .slice v1_2 x1.head.length v1_3, .bool x1.egd, .int .i64 x1.left, .int .i64 x1.right] 38)).cell? ⟨w.heap.size, 2, none⟩ = some (.bool x0.egd) := K3.out
  have f29 : ((w.alloc (.cells #[.slice v0_0 x0.body.length v0_1, .slice v0_2 x0.head.length v0_3, .bool x0.egd, .int .i64 x0.left, .int .i64 x0.right] 38)).alloc (.cells #[.slice v1_0 x1.body.length v1_1, .slice v1_2 x1.head.length v1_3, .bool x1.egd, .int .i64 x1.left, .int .i64 x1.right] 38)).cell? ⟨w.heap.size, 3, none⟩ = some (.int .i64 x0.left) := K4.out
  have f30 : ((w.alloc (.cells #[.slice v0_0 x0.body.length v0_1, .slice v0_2 x0.head.length v0_3, .bool x0.egd, .int .i64 x0.left, .int .i64 x0.right] 38)).alloc (.cells #[.slice v1_0 x1.body.length v1_1, .slice v1_2 x1.head.length v1_3, .bool x1.egd, .int .i64 x1.left, .int .i64 x1.right] 38)).cell? ⟨w.heap.size, 4, none⟩ = some (.int .i64 x0.right) := K5.out
  have c0_1 : Below w.heap.size w ((w.alloc (.cells #[.slice v0_0 x0.body.length v0_1, .slice v0_2 x0.head.length v0_3, .bool x0.egd, .int .i64 x0.left, .int .i64 x0.right] 38)).alloc (.cells #[.slice v1_0 x1.body.length v1_1, .slice v1_2 x1.head.length v1_3, .bool x1.egd, .int .i64 x1.left, .int .i64 x1.right] 38)) := hb1
  go_wp2_with fail
  refine (szDependency_c _ x0 (1048576) _ ((A0.out.below c0_1 (Nat.le_refl _)).more c0_1.size) W0.out (by omega) (by omega)).mono ?_
  rw [e1]
  rintro e w2 ⟨rfl, hb2⟩
  have z2 : ((w.alloc (.cells #[.slice v0_0 x0.body.length v0_1, .slice v0_2 x0.head.length v0_3, .bool x0.egd, .int .i64 x0.left, .int .i64 x0.right] 38)).alloc (.cells #[.slice v1_0 x1.body.length v1_1, .slice v1_2 x1.head.length v1_3, .bool x1.egd, .int .i64 x1.left, .int .i64 x1.right] 38)).heap.size ≤ w2.heap.size := hb2.size
  clear f26 f27 f28 f29 f30
  have c1_2 : Below ((w.alloc (.cells #[.slice v0_0 x0.body.length v0_1, .slice v0_2 x0.head.length v0_3, .bool x0.egd, .int .i64 x0.left, .int .i64 x0.right] 38)).alloc (.cells #[.slice v1_0 x1.body.length v1_1, .slice v1_2 x1.head.length v1_3, .bool x1.egd, .int .i64 x1.left, .int .i64 x1.right] 38)).heap.size ((w.alloc (.cells #[.slice v0_0 x0.body.length v0_1, .slice v0_2 x0.head.length v0_3, .bool x0.egd, .int .i64 x0.left, .int .i64 x0.right] 38)).alloc (.cells #[.slice v1_0 x1.body.length v1_1, .slice v1_2 x1.head.length v1_3, .bool x1.egd, .int .i64 x1.left, .int .i64 x1.right] 38)) w2 := hb2
  have f31 : w2.cell? ⟨w.heap.size + 1, 0, none⟩ = some (.slice v1_0 x1.body.length v1_1) := ((c1_2).cell (p := ⟨w.heap.size + 1, 0, none⟩) (by show w.heap.size + 1 < _; omega)).trans K6.out
  have f32 : w2.cell? ⟨w.heap.size + 1, 1, none⟩ = some (.slice v1_2 x1.head.length v1_3) := ((c1_2).cell (p := ⟨w.heap.size + 1, 1, none⟩) (by show w.heap.size + 1 < _; omega)).trans K7.out
  have f33 : w2.cell? ⟨w.heap.size + 1, 2, none⟩ = some (.bool x1.egd) := ((c1_2).cell (p := ⟨w.heap.size + 1, 2, none⟩) (by show w.heap.size + 1 < _; omega)).trans K8.out
  have f34 : w2.cell? ⟨w.heap.size + 1, 3, none⟩ = some (.int .i64 x1.left) := ((c1_2).cell (p := ⟨w.heap.size + 1, 3, none⟩) (by show w.heap.size + 1 < _; omega)).trans K9.out
  have f35 : w2.cell? ⟨w.heap.size + 1, 4, none⟩ = some (.int .i64 x1.right) := ((c1_2).cell (p := ⟨w.heap.size + 1, 4, none⟩) (by show w.heap.size + 1 < _; omega)).trans K10.out
  have c0_2 : Below w.heap.size w w2 := (c0_1.trans (hb2.mono (by omega)))
  go_wp2_with fail
  refine (szDependency_c _ x1 (1048576 - (Dependency_sz x0 : Nat)) _ ((A1.out.below c0_2 (Nat.le_refl _)).more c0_2.size) W1.out (by omega) (by omega)).mono ?_
  rw [e2]
  rintro e w3 ⟨rfl, hb3⟩
  have z3 : w2.heap.size ≤ w3.heap.size := hb3.size
  clear f31 f32 f33 f34 f35
  go_wp2_with fail
  have c1_3 : Below ((w.alloc (.cells #[.slice v0_0 x0.body.length v0_1, .slice v0_2 x0.head.length v0_3, .bool x0.egd, .int .i64 x0.left, .int .i64 x0.right] 38)).alloc (.cells #[.slice v1_0 x1.body.length v1_1, .slice v1_2 x1.head.length v1_3, .bool x1.egd, .int .i64 x1.left, .int .i64 x1.right] 38)).heap.size ((w.alloc (.cells #[.slice v0_0 x0.body.length v0_1, .slice v0_2 x0.head.length v0_3, .bool x0.egd, .int .i64 x0.left, .int .i64 x0.right] 38)).alloc (.cells #[.slice v1_0 x1.body.length v1_1, .slice v1_2 x1.head.length v1_3, .bool x1.egd, .int .i64 x1.left, .int .i64 x1.right] 38)) w3 := (c1_2.trans (hb3.mono (by omega)))
  have f36 : w3.cell? ⟨w.heap.size, 0, none⟩ = some (.slice v0_0 x0.body.length v0_1) := ((c1_3).cell (p := ⟨w.heap.size, 0, none⟩) (by show w.heap.size < _; omega)).trans K1.out
  have gf36 := Aft.cell (B := w3.heap.size) (by omega) f36
  clear f36
  have f37 : w3.cell? ⟨w.heap.size, 1, none⟩ = some (.slice v0_2 x0.head.length v0_3) := ((c1_3).cell (p := ⟨w.heap.size, 1, none⟩) (by show w.heap.size < _; omega)).trans K2.out
  have gf37 := Aft.cell (B := w3.heap.size) (by omega) f37
  clear f37
  have f38 : w3.cell? ⟨w.heap.size, 2, none⟩ = some (.bool x0.egd) := ((c1_3).cell (p := ⟨w.heap.size, 2, none⟩) (by show w.heap.size < _; omega)).trans K3.out
  have gf38 := Aft.cell (B := w3.heap.size) (by omega) f38
  clear f38
  have f39 : w3.cell? ⟨w.heap.size, 3, none⟩ = some (.int .i64 x0.left) := ((c1_3).cell (p := ⟨w.heap.size, 3, none⟩) (by show w.heap.size < _; omega)).trans K4.out
  have gf39 := Aft.cell (B := w3.heap.size) (by omega) f39
  clear f39
  have f40 : w3.cell? ⟨w.heap.size, 4, none⟩ = some (.int .i64 x0.right) := ((c1_3).cell (p := ⟨w.heap.size, 4, none⟩) (by show w.heap.size < _; omega)).trans K5.out
  have gf40 := Aft.cell (B := w3.heap.size) (by omega) f40
  clear f40
  have f41 : w3.cell? ⟨w.heap.size + 1, 0, none⟩ = some (.slice v1_0 x1.body.length v1_1) := ((c1_3).cell (p := ⟨w.heap.size + 1, 0, none⟩) (by show w.heap.size + 1 < _; omega)).trans K6.out
  have gf41 := Aft.cell (B := w3.heap.size) (by omega) f41
  clear f41
  have f42 : w3.cell? ⟨w.heap.size + 1, 1, none⟩ = some (.slice v1_2 x1.head.length v1_3) := ((c1_3).cell (p := ⟨w.heap.size + 1, 1, none⟩) (by show w.heap.size + 1 < _; omega)).trans K7.out
  have gf42 := Aft.cell (B := w3.heap.size) (by omega) f42
  clear f42
  have f43 : w3.cell? ⟨w.heap.size + 1, 2, none⟩ = some (.bool x1.egd) := ((c1_3).cell (p := ⟨w.heap.size + 1, 2, none⟩) (by show w.heap.size + 1 < _; omega)).trans K8.out
  have gf43 := Aft.cell (B := w3.heap.size) (by omega) f43
  clear f43
  have f44 : w3.cell? ⟨w.heap.size + 1, 3, none⟩ = some (.int .i64 x1.left) := ((c1_3).cell (p := ⟨w.heap.size + 1, 3, none⟩) (by show w.heap.size + 1 < _; omega)).trans K9.out
  have gf44 := Aft.cell (B := w3.heap.size) (by omega) f44
  clear f44
  have f45 : w3.cell? ⟨w.heap.size + 1, 4, none⟩ = some (.int .i64 x1.right) := ((c1_3).cell (p := ⟨w.heap.size + 1, 4, none⟩) (by show w.heap.size + 1 < _; omega)).trans K10.out
  have gf45 := Aft.cell (B := w3.heap.size) (by omega) f45
  clear f45
  refine wp_region_plan (C := fun w' => ∃ u : Aft w3.heap.size w3, w' = u.now) (.still 0 (.move true 1 (.still 2 (.move true 3 (.move true 4 (.still 5 .done) .none) .none)) .none)) (by kernel_rfl) (by kernel_rfl) (by kernel_rfl) (fun _ => ⟨⟨_, (Below.refl _ _).drew⟩, rfl⟩) ?_
  have hb4 : Below w3.heap.size w3 w3.drew := (Below.refl _ _).drew
  have z4 : w3.drew.heap.size = w3.heap.size := rfl
  have c0_4 : Below w.heap.size w w3.drew := ((c0_2.trans (hb3.mono (by omega))).trans (hb4.mono (by omega)))
  refine plan_look _ rfl rfl ?_
  go_big_quiet_step (fail)
  refine wpQuiet_nil ?_
  refine plan_call _ 20 _ _ _ _ _ rfl _ Try.func20 (by kernel_rfl) (by kernel_rfl) ?_ True.intro
  show Calls Try.prog 20 #[.agg #[.slice v0_0 x0.body.length v0_1, .slice v0_2 x0.head.length v0_3, .bool x0.egd, .int .i64 x0.left, .int .i64 x0.right]] _ _
  refine (toDependency_c _ x0 _ ((A0.out.below c0_4 (Nat.le_refl _)).more c0_4.size) S0).mono ?_
  rintro e w5 ⟨u46, rfl, ou46, hb5⟩
  have z5 : w3.drew.heap.size ≤ w5.heap.size := hb5.size
  obtain ⟨y47_0, y47_1, y47_2, y47_3, rfl⟩ := Dependency_form (ou46.at_ (Nat.le_refl _))
  have c3_5 : Below w3.heap.size w3 w5 := (hb4.trans (hb5.mono (by omega)))
  refine ⟨_, rfl, fun _ => ⟨⟨_, c3_5⟩, rfl⟩, ?_⟩
  refine plan_put ?_ (by simp only [Act.put, List.setIfInBounds_toArray, List.set_cons_succ, List.set_cons_zero]; rfl)
  have c0_5 : Below w.heap.size w w5 := (c0_4.trans (hb5.mono (by omega)))
  refine plan_look _ rfl rfl ?_
  go_big_quiet_step (fail)
  refine wpQuiet_nil ?_
  refine plan_call _ 20 _ _ _ _ _ rfl _ Try.func20 (by kernel_rfl) (by kernel_rfl) ?_ True.intro
  show Calls Try.prog 20 #[.agg #[.slice v1_0 x1.body.length v1_1, .slice v1_2 x1.head.length v1_3, .bool x1.egd, .int .i64 x1.left, .int .i64 x1.right]] _ _
  refine (toDependency_c _ x1 _ ((A1.out.below c0_5 (Nat.le_refl _)).more c0_5.size) S1).mono ?_
  rintro e w6 ⟨u48, rfl, ou48, hb6⟩
  have z6 : w5.heap.size ≤ w6.heap.size := hb6.size
  obtain ⟨y49_0, y49_1, y49_2, y49_3, rfl⟩ := Dependency_form (ou48.at_ (Nat.le_refl _))
  have c3_6 : Below w3.heap.size w3 w6 := (c3_5.trans (hb6.mono (by omega)))
  refine ⟨_, rfl, fun _ => ⟨⟨_, c3_6⟩, rfl⟩, ?_⟩
  refine plan_put ?_ (by simp only [Act.put, List.setIfInBounds_toArray, List.set_cons_succ, List.set_cons_zero]; rfl)
  have c5_6 : Below w5.heap.size w5 w6 := hb6
  refine plan_call _ 42 _ _ _ _ _ rfl _ Try.func42 (by kernel_rfl) (by kernel_rfl) ?_ True.intro
  show Calls Try.prog 42 #[.agg #[.slice y47_0 x0.body.length y47_1, .slice y47_2 x0.head.length y47_3, .bool x0.egd, .int .i64 x0.left, .int .i64 x0.right], .agg #[.slice y49_0 x1.body.length y49_1, .slice y49_2 x1.head.length y49_3, .bool x1.egd, .int .i64 x1.left, .int .i64 x1.right]] _ _
  refine (specEqualDependencies_c _ x0 _ x1 _ ((ou46.below c5_6 (Nat.le_refl _)).at_ (by omega)) W0.out S0 ((ou48.below (Below.refl w6.heap.size w6) (Nat.le_refl _)).at_ (Nat.le_refl _)) W1.out S1).mono ?_
  rintro e w7 ⟨rfl, hb7⟩
  have z7 : w6.heap.size ≤ w7.heap.size := hb7.size
  have c3_7 : Below w3.heap.size w3 w7 := (c3_6.trans (hb7.mono (by omega)))
  refine ⟨_, rfl, fun _ => ⟨⟨_, c3_7⟩, rfl⟩, ?_⟩
  refine plan_put ?_ (by simp only [Act.put, List.setIfInBounds_toArray, List.set_cons_succ, List.set_cons_zero]; rfl)
  refine plan_look _ rfl rfl ?_
  go_big_quiet_step (fail)
  refine wpQuiet_nil ?_
  refine plan_done ?_
  clear gf36 gf37 gf38 gf39 gf40 gf41 gf42 gf43 gf44 gf45
  have c1_7 : Below ((w.alloc (.cells #[.slice v0_0 x0.body.length v0_1, .slice v0_2 x0.head.length v0_3, .bool x0.egd, .int .i64 x0.left, .int .i64 x0.right] 38)).alloc (.cells #[.slice v1_0 x1.body.length v1_1, .slice v1_2 x1.head.length v1_3, .bool x1.egd, .int .i64 x1.left, .int .i64 x1.right] 38)).heap.size ((w.alloc (.cells #[.slice v0_0 x0.body.length v0_1, .slice v0_2 x0.head.length v0_3, .bool x0.egd, .int .i64 x0.left, .int .i64 x0.right] 38)).alloc (.cells #[.slice v1_0 x1.body.length v1_1, .slice v1_2 x1.head.length v1_3, .bool x1.egd, .int .i64 x1.left, .int .i64 x1.right] 38)) w7 := ((((c1_3.trans (hb4.mono (by omega))).trans (hb5.mono (by omega))).trans (hb6.mono (by omega))).trans (hb7.mono (by omega)))
  have f51 : w7.cell? ⟨w.heap.size, 0, none⟩ = some (.slice v0_0 x0.body.length v0_1) := ((c1_7).cell (p := ⟨w.heap.size, 0, none⟩) (by show w.heap.size < _; omega)).trans K1.out
  have f52 : w7.cell? ⟨w.heap.size, 1, none⟩ = some (.slice v0_2 x0.head.length v0_3) := ((c1_7).cell (p := ⟨w.heap.size, 1, none⟩) (by show w.heap.size < _; omega)).trans K2.out
  have f53 : w7.cell? ⟨w.heap.size, 2, none⟩ = some (.bool x0.egd) := ((c1_7).cell (p := ⟨w.heap.size, 2, none⟩) (by show w.heap.size < _; omega)).trans K3.out
  have f54 : w7.cell? ⟨w.heap.size, 3, none⟩ = some (.int .i64 x0.left) := ((c1_7).cell (p := ⟨w.heap.size, 3, none⟩) (by show w.heap.size < _; omega)).trans K4.out
  have f55 : w7.cell? ⟨w.heap.size, 4, none⟩ = some (.int .i64 x0.right) := ((c1_7).cell (p := ⟨w.heap.size, 4, none⟩) (by show w.heap.size < _; omega)).trans K5.out
  have c0_7 : Below w.heap.size w w7 := ((c0_5.trans (hb6.mono (by omega))).trans (hb7.mono (by omega)))
  go_wp2_with fail
  refine (toDependency_c _ x0 _ ((A0.out.below c0_7 (Nat.le_refl _)).more c0_7.size) S0).mono ?_
  rintro e w8 ⟨u56, rfl, ou56, hb8⟩
  have z8 : w7.heap.size ≤ w8.heap.size := hb8.size
  obtain ⟨y57_0, y57_1, y57_2, y57_3, rfl⟩ := Dependency_form (ou56.at_ (Nat.le_refl _))
  have hb9 : Below w8.heap.size w8 (w8.alloc (.cells #[.slice y57_0 x0.body.length y57_1, .slice y57_2 x0.head.length y57_3, .bool x0.egd, .int .i64 x0.left, .int .i64 x0.right] 43)) := below_more (Below.refl _ _) _
  have z9 : w8.heap.size + 1 ≤ (w8.alloc (.cells #[.slice y57_0 x0.body.length y57_1, .slice y57_2 x0.head.length y57_3, .bool x0.egd, .int .i64 x0.left, .int .i64 x0.right] 43)).heap.size := by simp
  have K58 := Lib.hid (show (w8.alloc (.cells #[.slice y57_0 x0.body.length y57_1, .slice y57_2 x0.head.length y57_3, .bool x0.egd, .int .i64 x0.left, .int .i64 x0.right] 43)).cell? ⟨w8.heap.size, 0, none⟩ = some (.slice y57_0 x0.body.length y57_1) by simp [go_sem])
  have K59 := Lib.hid (show (w8.alloc (.cells #[.slice y57_0 x0.body.length y57_1, .slice y57_2 x0.head.length y57_3, .bool x0.egd, .int .i64 x0.left, .int .i64 x0.right] 43)).cell? ⟨w8.heap.size, 1, none⟩ = some (.slice y57_2 x0.head.length y57_3) by simp [go_sem])
  have K60 := Lib.hid (show (w8.alloc (.cells #[.slice y57_0 x0.body.length y57_1, .slice y57_2 x0.head.length y57_3, .bool x0.egd, .int .i64 x0.left, .int .i64 x0.right] 43)).cell? ⟨w8.heap.size, 2, none⟩ = some (.bool x0.egd) by simp [go_sem])
  have K61 := Lib.hid (show (w8.alloc (.cells #[.slice y57_0 x0.body.length y57_1, .slice y57_2 x0.head.length y57_3, .bool x0.egd, .int .i64 x0.left, .int .i64 x0.right] 43)).cell? ⟨w8.heap.size, 3, none⟩ = some (.int .i64 x0.left) by simp [go_sem])
  have K62 := Lib.hid (show (w8.alloc (.cells #[.slice y57_0 x0.body.length y57_1, .slice y57_2 x0.head.length y57_3, .bool x0.egd, .int .i64 x0.left, .int .i64 x0.right] 43)).cell? ⟨w8.heap.size, 4, none⟩ = some (.int .i64 x0.right) by simp [go_sem])
  clear f51 f52 f53 f54 f55
  have c1_9 : Below ((w.alloc (.cells #[.slice v0_0 x0.body.length v0_1, .slice v0_2 x0.head.length v0_3, .bool x0.egd, .int .i64 x0.left, .int .i64 x0.right] 38)).alloc (.cells #[.slice v1_0 x1.body.length v1_1, .slice v1_2 x1.head.length v1_3, .bool x1.egd, .int .i64 x1.left, .int .i64 x1.right] 38)).heap.size ((w.alloc (.cells #[.slice v0_0 x0.body.length v0_1, .slice v0_2 x0.head.length v0_3, .bool x0.egd, .int .i64 x0.left, .int .i64 x0.right] 38)).alloc (.cells #[.slice v1_0 x1.body.length v1_1, .slice v1_2 x1.head.length v1_3, .bool x1.egd, .int .i64 x1.left, .int .i64 x1.right] 38)) (w8.alloc (.cells #[.slice y57_0 x0.body.length y57_1, .slice y57_2 x0.head.length y57_3, .bool x0.egd, .int .i64 x0.left, .int .i64 x0.right] 43)) := ((c1_7.trans (hb8.mono (by omega))).trans (hb9.mono (by omega)))
  have f63 : (w8.alloc (.cells #[.slice y57_0 x0.body.length y57_1, .slice y57_2 x0.head.length y57_3, .bool x0.egd, .int .i64 x0.left, .int .i64 x0.right] 43)).cell? ⟨w.heap.size + 1, 0, none⟩ = some (.slice v1_0 x1.body.length v1_1) := ((c1_9).cell (p := ⟨w.heap.size + 1, 0, none⟩) (by show w.heap.size + 1 < _; omega)).trans K6.out
  have f64 : (w8.alloc (.cells #[.slice y57_0 x0.body.length y57_1, .slice y57_2 x0.head.length y57_3, .bool x0.egd, .int .i64 x0.left, .int .i64 x0.right] 43)).cell? ⟨w.heap.size + 1, 1, none⟩ = some (.slice v1_2 x1.head.length v1_3) := ((c1_9).cell (p := ⟨w.heap.size + 1, 1, none⟩) (by show w.heap.size + 1 < _; omega)).trans K7.out
  have f65 : (w8.alloc (.cells #[.slice y57_0 x0.body.length y57_1, .slice y57_2 x0.head.length y57_3, .bool x0.egd, .int .i64 x0.left, .int .i64 x0.right] 43)).cell? ⟨w.heap.size + 1, 2, none⟩ = some (.bool x1.egd) := ((c1_9).cell (p := ⟨w.heap.size + 1, 2, none⟩) (by show w.heap.size + 1 < _; omega)).trans K8.out
  have f66 : (w8.alloc (.cells #[.slice y57_0 x0.body.length y57_1, .slice y57_2 x0.head.length y57_3, .bool x0.egd, .int .i64 x0.left, .int .i64 x0.right] 43)).cell? ⟨w.heap.size + 1, 3, none⟩ = some (.int .i64 x1.left) := ((c1_9).cell (p := ⟨w.heap.size + 1, 3, none⟩) (by show w.heap.size + 1 < _; omega)).trans K9.out
  have f67 : (w8.alloc (.cells #[.slice y57_0 x0.body.length y57_1, .slice y57_2 x0.head.length y57_3, .bool x0.egd, .int .i64 x0.left, .int .i64 x0.right] 43)).cell? ⟨w.heap.size + 1, 4, none⟩ = some (.int .i64 x1.right) := ((c1_9).cell (p := ⟨w.heap.size + 1, 4, none⟩) (by show w.heap.size + 1 < _; omega)).trans K10.out
  have c0_9 : Below w.heap.size w (w8.alloc (.cells #[.slice y57_0 x0.body.length y57_1, .slice y57_2 x0.head.length y57_3, .bool x0.egd, .int .i64 x0.left, .int .i64 x0.right] 43)) := ((c0_7.trans (hb8.mono (by omega))).trans (hb9.mono (by omega)))
  go_wp2_with fail
  refine (toDependency_c _ x1 _ ((A1.out.below c0_9 (Nat.le_refl _)).more c0_9.size) S1).mono ?_
  rintro e w10 ⟨u68, rfl, ou68, hb10⟩
  have z10 : (w8.alloc (.cells #[.slice y57_0 x0.body.length y57_1, .slice y57_2 x0.head.length y57_3, .bool x0.egd, .int .i64 x0.left, .int .i64 x0.right] 43)).heap.size ≤ w10.heap.size := hb10.size
  obtain ⟨y69_0, y69_1, y69_2, y69_3, rfl⟩ := Dependency_form (ou68.at_ (Nat.le_refl _))
  have hb11 : Below w10.heap.size w10 (w10.alloc (.cells #[.slice y69_0 x1.body.length y69_1, .slice y69_2 x1.head.length y69_3, .bool x1.egd, .int .i64 x1.left, .int .i64 x1.right] 43)) := below_more (Below.refl _ _) _
  have z11 : w10.heap.size + 1 ≤ (w10.alloc (.cells #[.slice y69_0 x1.body.length y69_1, .slice y69_2 x1.head.length y69_3, .bool x1.egd, .int .i64 x1.left, .int .i64 x1.right] 43)).heap.size := by simp
  have K70 := Lib.hid (show (w10.alloc (.cells #[.slice y69_0 x1.body.length y69_1, .slice y69_2 x1.head.length y69_3, .bool x1.egd, .int .i64 x1.left, .int .i64 x1.right] 43)).cell? ⟨w10.heap.size, 0, none⟩ = some (.slice y69_0 x1.body.length y69_1) by simp [go_sem])
  have K71 := Lib.hid (show (w10.alloc (.cells #[.slice y69_0 x1.body.length y69_1, .slice y69_2 x1.head.length y69_3, .bool x1.egd, .int .i64 x1.left, .int .i64 x1.right] 43)).cell? ⟨w10.heap.size, 1, none⟩ = some (.slice y69_2 x1.head.length y69_3) by simp [go_sem])
  have K72 := Lib.hid (show (w10.alloc (.cells #[.slice y69_0 x1.body.length y69_1, .slice y69_2 x1.head.length y69_3, .bool x1.egd, .int .i64 x1.left, .int .i64 x1.right] 43)).cell? ⟨w10.heap.size, 2, none⟩ = some (.bool x1.egd) by simp [go_sem])
  have K73 := Lib.hid (show (w10.alloc (.cells #[.slice y69_0 x1.body.length y69_1, .slice y69_2 x1.head.length y69_3, .bool x1.egd, .int .i64 x1.left, .int .i64 x1.right] 43)).cell? ⟨w10.heap.size, 3, none⟩ = some (.int .i64 x1.left) by simp [go_sem])
  have K74 := Lib.hid (show (w10.alloc (.cells #[.slice y69_0 x1.body.length y69_1, .slice y69_2 x1.head.length y69_3, .bool x1.egd, .int .i64 x1.left, .int .i64 x1.right] 43)).cell? ⟨w10.heap.size, 4, none⟩ = some (.int .i64 x1.right) by simp [go_sem])
  clear f63 f64 f65 f66 f67
  have c9_11 : Below (w8.alloc (.cells #[.slice y57_0 x0.body.length y57_1, .slice y57_2 x0.head.length y57_3, .bool x0.egd, .int .i64 x0.left, .int .i64 x0.right] 43)).heap.size (w8.alloc (.cells #[.slice y57_0 x0.body.length y57_1, .slice y57_2 x0.head.length y57_3, .bool x0.egd, .int .i64 x0.left, .int .i64 x0.right] 43)) (w10.alloc (.cells #[.slice y69_0 x1.body.length y69_1, .slice y69_2 x1.head.length y69_3, .bool x1.egd, .int .i64 x1.left, .int .i64 x1.right] 43)) := (hb10.trans (hb11.mono (by omega)))
  have f75 : (w10.alloc (.cells #[.slice y69_0 x1.body.length y69_1, .slice y69_2 x1.head.length y69_3, .bool x1.egd, .int .i64 x1.left, .int .i64 x1.right] 43)).cell? ⟨w8.heap.size, 0, none⟩ = some (.slice y57_0 x0.body.length y57_1) := ((c9_11).cell (p := ⟨w8.heap.size, 0, none⟩) (by show w8.heap.size < _; omega)).trans K58.out
  have f76 : (w10.alloc (.cells #[.slice y69_0 x1.body.length y69_1, .slice y69_2 x1.head.length y69_3, .bool x1.egd, .int .i64 x1.left, .int .i64 x1.right] 43)).cell? ⟨w8.heap.size, 1, none⟩ = some (.slice y57_2 x0.head.length y57_3) := ((c9_11).cell (p := ⟨w8.heap.size, 1, none⟩) (by show w8.heap.size < _; omega)).trans K59.out
  have f77 : (w10.alloc (.cells #[.slice y69_0 x1.body.length y69_1, .slice y69_2 x1.head.length y69_3, .bool x1.egd, .int .i64 x1.left, .int .i64 x1.right] 43)).cell? ⟨w8.heap.size, 2, none⟩ = some (.bool x0.egd) := ((c9_11).cell (p := ⟨w8.heap.size, 2, none⟩) (by show w8.heap.size < _; omega)).trans K60.out
  have f78 : (w10.alloc (.cells #[.slice y69_0 x1.body.length y69_1, .slice y69_2 x1.head.length y69_3, .bool x1.egd, .int .i64 x1.left, .int .i64 x1.right] 43)).cell? ⟨w8.heap.size, 3, none⟩ = some (.int .i64 x0.left) := ((c9_11).cell (p := ⟨w8.heap.size, 3, none⟩) (by show w8.heap.size < _; omega)).trans K61.out
  have f79 : (w10.alloc (.cells #[.slice y69_0 x1.body.length y69_1, .slice y69_2 x1.head.length y69_3, .bool x1.egd, .int .i64 x1.left, .int .i64 x1.right] 43)).cell? ⟨w8.heap.size, 4, none⟩ = some (.int .i64 x0.right) := ((c9_11).cell (p := ⟨w8.heap.size, 4, none⟩) (by show w8.heap.size < _; omega)).trans K62.out
  have f80 : (w10.alloc (.cells #[.slice y69_0 x1.body.length y69_1, .slice y69_2 x1.head.length y69_3, .bool x1.egd, .int .i64 x1.left, .int .i64 x1.right] 43)).cell? ⟨w10.heap.size, 0, none⟩ = some (.slice y69_0 x1.body.length y69_1) := K70.out
  have f81 : (w10.alloc (.cells #[.slice y69_0 x1.body.length y69_1, .slice y69_2 x1.head.length y69_3, .bool x1.egd, .int .i64 x1.left, .int .i64 x1.right] 43)).cell? ⟨w10.heap.size, 1, none⟩ = some (.slice y69_2 x1.head.length y69_3) := K71.out
  have f82 : (w10.alloc (.cells #[.slice y69_0 x1.body.length y69_1, .slice y69_2 x1.head.length y69_3, .bool x1.egd, .int .i64 x1.left, .int .i64 x1.right] 43)).cell? ⟨w10.heap.size, 2, none⟩ = some (.bool x1.egd) := K72.out
  have f83 : (w10.alloc (.cells #[.slice y69_0 x1.body.length y69_1, .slice y69_2 x1.head.length y69_3, .bool x1.egd, .int .i64 x1.left, .int .i64 x1.right] 43)).cell? ⟨w10.heap.size, 3, none⟩ = some (.int .i64 x1.left) := K73.out
  have f84 : (w10.alloc (.cells #[.slice y69_0 x1.body.length y69_1, .slice y69_2 x1.head.length y69_3, .bool x1.egd, .int .i64 x1.left, .int .i64 x1.right] 43)).cell? ⟨w10.heap.size, 4, none⟩ = some (.int .i64 x1.right) := K74.out
  have c8_11 : Below w8.heap.size w8 (w10.alloc (.cells #[.slice y69_0 x1.body.length y69_1, .slice y69_2 x1.head.length y69_3, .bool x1.egd, .int .i64 x1.left, .int .i64 x1.right] 43)) := ((hb9.trans (hb10.mono (by omega))).trans (hb11.mono (by omega)))
  have c10_11 : Below w10.heap.size w10 (w10.alloc (.cells #[.slice y69_0 x1.body.length y69_1, .slice y69_2 x1.head.length y69_3, .bool x1.egd, .int .i64 x1.left, .int .i64 x1.right] 43)) := hb11
  go_wp2_with fail
  refine (implEqualDependencies_c _ x0 _ x1 _ ((ou56.below c8_11 (Nat.le_refl _)).at_ (by omega)) W0.out S0 ((ou68.below c10_11 (Nat.le_refl _)).at_ (by omega)) W1.out S1).mono ?_
  rintro e w12 ⟨rfl, hb12⟩
  have z12 : (w10.alloc (.cells #[.slice y69_0 x1.body.length y69_1, .slice y69_2 x1.head.length y69_3, .bool x1.egd, .int .i64 x1.left, .int .i64 x1.right] 43)).heap.size ≤ w12.heap.size := hb12.size
  clear f75 f76 f77 f78 f79 f80 f81 f82 f83 f84
  go_wp2_with fail
  have c9_12 : Below (w8.alloc (.cells #[.slice y57_0 x0.body.length y57_1, .slice y57_2 x0.head.length y57_3, .bool x0.egd, .int .i64 x0.left, .int .i64 x0.right] 43)).heap.size (w8.alloc (.cells #[.slice y57_0 x0.body.length y57_1, .slice y57_2 x0.head.length y57_3, .bool x0.egd, .int .i64 x0.left, .int .i64 x0.right] 43)) w12 := (c9_11.trans (hb12.mono (by omega)))
  have f86 : w12.cell? ⟨w8.heap.size, 0, none⟩ = some (.slice y57_0 x0.body.length y57_1) := ((c9_12).cell (p := ⟨w8.heap.size, 0, none⟩) (by show w8.heap.size < _; omega)).trans K58.out
  have gf86 := Aft.cell (B := w12.heap.size) (by omega) f86
  clear f86
  have f87 : w12.cell? ⟨w8.heap.size, 1, none⟩ = some (.slice y57_2 x0.head.length y57_3) := ((c9_12).cell (p := ⟨w8.heap.size, 1, none⟩) (by show w8.heap.size < _; omega)).trans K59.out
  have gf87 := Aft.cell (B := w12.heap.size) (by omega) f87
  clear f87
  have f88 : w12.cell? ⟨w8.heap.size, 2, none⟩ = some (.bool x0.egd) := ((c9_12).cell (p := ⟨w8.heap.size, 2, none⟩) (by show w8.heap.size < _; omega)).trans K60.out
  have gf88 := Aft.cell (B := w12.heap.size) (by omega) f88
  clear f88
  have f89 : w12.cell? ⟨w8.heap.size, 3, none⟩ = some (.int .i64 x0.left) := ((c9_12).cell (p := ⟨w8.heap.size, 3, none⟩) (by show w8.heap.size < _; omega)).trans K61.out
  have gf89 := Aft.cell (B := w12.heap.size) (by omega) f89
  clear f89
  have f90 : w12.cell? ⟨w8.heap.size, 4, none⟩ = some (.int .i64 x0.right) := ((c9_12).cell (p := ⟨w8.heap.size, 4, none⟩) (by show w8.heap.size < _; omega)).trans K62.out
  have gf90 := Aft.cell (B := w12.heap.size) (by omega) f90
  clear f90
  have c1_12 : Below ((w.alloc (.cells #[.slice v0_0 x0.body.length v0_1, .slice v0_2 x0.head.length v0_3, .bool x0.egd, .int .i64 x0.left, .int .i64 x0.right] 38)).alloc (.cells #[.slice v1_0 x1.body.length v1_1, .slice v1_2 x1.head.length v1_3, .bool x1.egd, .int .i64 x1.left, .int .i64 x1.right] 38)).heap.size ((w.alloc (.cells #[.slice v0_0 x0.body.length v0_1, .slice v0_2 x0.head.length v0_3, .bool x0.egd, .int .i64 x0.left, .int .i64 x0.right] 38)).alloc (.cells #[.slice v1_0 x1.body.length v1_1, .slice v1_2 x1.head.length v1_3, .bool x1.egd, .int .i64 x1.left, .int .i64 x1.right] 38)) w12 := (((c1_9.trans (hb10.mono (by omega))).trans (hb11.mono (by omega))).trans (hb12.mono (by omega)))
  have f91 : w12.cell? ⟨w.heap.size, 0, none⟩ = some (.slice v0_0 x0.body.length v0_1) := ((c1_12).cell (p := ⟨w.heap.size, 0, none⟩) (by show w.heap.size < _; omega)).trans K1.out
  have gf91 := Aft.cell (B := w12.heap.size) (by omega) f91
  clear f91
  have f92 : w12.cell? ⟨w.heap.size, 1, none⟩ = some (.slice v0_2 x0.head.length v0_3) := ((c1_12).cell (p := ⟨w.heap.size, 1, none⟩) (by show w.heap.size < _; omega)).trans K2.out
  have gf92 := Aft.cell (B := w12.heap.size) (by omega) f92
  clear f92
  have f93 : w12.cell? ⟨w.heap.size, 2, none⟩ = some (.bool x0.egd) := ((c1_12).cell (p := ⟨w.heap.size, 2, none⟩) (by show w.heap.size < _; omega)).trans K3.out
  have gf93 := Aft.cell (B := w12.heap.size) (by omega) f93
  clear f93
  have f94 : w12.cell? ⟨w.heap.size, 3, none⟩ = some (.int .i64 x0.left) := ((c1_12).cell (p := ⟨w.heap.size, 3, none⟩) (by show w.heap.size < _; omega)).trans K4.out
  have gf94 := Aft.cell (B := w12.heap.size) (by omega) f94
  clear f94
  have f95 : w12.cell? ⟨w.heap.size, 4, none⟩ = some (.int .i64 x0.right) := ((c1_12).cell (p := ⟨w.heap.size, 4, none⟩) (by show w.heap.size < _; omega)).trans K5.out
  have gf95 := Aft.cell (B := w12.heap.size) (by omega) f95
  clear f95
  refine wp_region_plan (C := fun w' => ∃ u : Aft w12.heap.size w12, w' = u.now) (.still 0 (.still 1 (.move true 2 (.move true 3 (.still 4 .done) .none) .none))) (by kernel_rfl) (by kernel_rfl) (by kernel_rfl) (fun _ => ⟨⟨_, (Below.refl _ _).drew⟩, rfl⟩) ?_
  have hb13 : Below w12.heap.size w12 w12.drew := (Below.refl _ _).drew
  have z13 : w12.drew.heap.size = w12.heap.size := rfl
  have c0_13 : Below w.heap.size w w12.drew := ((((c0_9.trans (hb10.mono (by omega))).trans (hb11.mono (by omega))).trans (hb12.mono (by omega))).trans (hb13.mono (by omega)))
  refine plan_look _ rfl rfl ?_
  go_big_quiet_step (fail)
  refine wpQuiet_nil ?_
  refine plan_look _ rfl rfl ?_
  go_big_quiet_step (fail)
  refine wpQuiet_nil ?_
  refine plan_call _ 20 _ _ _ _ _ rfl _ Try.func20 (by kernel_rfl) (by kernel_rfl) ?_ True.intro
  show Calls Try.prog 20 #[.agg #[.slice v0_0 x0.body.length v0_1, .slice v0_2 x0.head.length v0_3, .bool x0.egd, .int .i64 x0.left, .int .i64 x0.right]] _ _
  refine (toDependency_c _ x0 _ ((A0.out.below c0_13 (Nat.le_refl _)).more c0_13.size) S0).mono ?_
  rintro e w14 ⟨u96, rfl, ou96, hb14⟩
  have z14 : w12.drew.heap.size ≤ w14.heap.size := hb14.size
  obtain ⟨y97_0, y97_1, y97_2, y97_3, rfl⟩ := Dependency_form (ou96.at_ (Nat.le_refl _))
  have c12_14 : Below w12.heap.size w12 w14 := (hb13.trans (hb14.mono (by omega)))
  refine ⟨_, rfl, fun _ => ⟨⟨_, c12_14⟩, rfl⟩, ?_⟩
  refine plan_put ?_ (by simp only [Act.put, List.setIfInBounds_toArray, List.set_cons_succ, List.set_cons_zero]; rfl)
  have c8_14 : Below w8.heap.size w8 w14 := (((c8_11.trans (hb12.mono (by omega))).trans (hb13.mono (by omega))).trans (hb14.mono (by omega)))
  refine plan_call _ 22 _ _ _ _ _ rfl _ Try.func22 (by kernel_rfl) (by kernel_rfl) ?_ True.intro
  show Calls Try.prog 22 #[.agg #[.slice y57_0 x0.body.length y57_1, .slice y57_2 x0.head.length y57_3, .bool x0.egd, .int .i64 x0.left, .int .i64 x0.right], .agg #[.slice y97_0 x0.body.length y97_1, .slice y97_2 x0.head.length y97_3, .bool x0.egd, .int .i64 x0.left, .int .i64 x0.right]] _ _
  refine (eqDependency_c _ _ x0 _ ((ou56.below c8_14 (Nat.le_refl _)).at_ (by omega)) ((ou96.below (Below.refl w14.heap.size w14) (Nat.le_refl _)).at_ (Nat.le_refl _))).mono ?_
  rintro e w15 ⟨rfl, hb15⟩
  have z15 : w14.heap.size ≤ w15.heap.size := hb15.size
  have c12_15 : Below w12.heap.size w12 w15 := (c12_14.trans (hb15.mono (by omega)))
  refine ⟨_, rfl, fun _ => ⟨⟨_, c12_15⟩, rfl⟩, ?_⟩
  refine plan_put ?_ (by simp only [Act.put, List.setIfInBounds_toArray, List.set_cons_succ, List.set_cons_zero]; rfl)
  refine plan_look _ rfl rfl ?_
  go_big_quiet_step (fail)
  refine wpQuiet_nil ?_
  refine plan_done ?_
  clear gf86 gf87 gf88 gf89 gf90 gf91 gf92 gf93 gf94 gf95
  go_wp2_with fail
  have c11_15 : Below (w10.alloc (.cells #[.slice y69_0 x1.body.length y69_1, .slice y69_2 x1.head.length y69_3, .bool x1.egd, .int .i64 x1.left, .int .i64 x1.right] 43)).heap.size (w10.alloc (.cells #[.slice y69_0 x1.body.length y69_1, .slice y69_2 x1.head.length y69_3, .bool x1.egd, .int .i64 x1.left, .int .i64 x1.right] 43)) w15 := (((hb12.trans (hb13.mono (by omega))).trans (hb14.mono (by omega))).trans (hb15.mono (by omega)))
  have f98 : w15.cell? ⟨w10.heap.size, 0, none⟩ = some (.slice y69_0 x1.body.length y69_1) := ((c11_15).cell (p := ⟨w10.heap.size, 0, none⟩) (by show w10.heap.size < _; omega)).trans K70.out
  have gf98 := Aft.cell (B := w15.heap.size) (by omega) f98
  clear f98
  have f99 : w15.cell? ⟨w10.heap.size, 1, none⟩ = some (.slice y69_2 x1.head.length y69_3) := ((c11_15).cell (p := ⟨w10.heap.size, 1, none⟩) (by show w10.heap.size < _; omega)).trans K71.out
  have gf99 := Aft.cell (B := w15.heap.size) (by omega) f99
  clear f99
  have f100 : w15.cell? ⟨w10.heap.size, 2, none⟩ = some (.bool x1.egd) := ((c11_15).cell (p := ⟨w10.heap.size, 2, none⟩) (by show w10.heap.size < _; omega)).trans K72.out
  have gf100 := Aft.cell (B := w15.heap.size) (by omega) f100
  clear f100
  have f101 : w15.cell? ⟨w10.heap.size, 3, none⟩ = some (.int .i64 x1.left) := ((c11_15).cell (p := ⟨w10.heap.size, 3, none⟩) (by show w10.heap.size < _; omega)).trans K73.out
  have gf101 := Aft.cell (B := w15.heap.size) (by omega) f101
  clear f101
  have f102 : w15.cell? ⟨w10.heap.size, 4, none⟩ = some (.int .i64 x1.right) := ((c11_15).cell (p := ⟨w10.heap.size, 4, none⟩) (by show w10.heap.size < _; omega)).trans K74.out
  have gf102 := Aft.cell (B := w15.heap.size) (by omega) f102
  clear f102
  have c1_15 : Below ((w.alloc (.cells #[.slice v0_0 x0.body.length v0_1, .slice v0_2 x0.head.length v0_3, .bool x0.egd, .int .i64 x0.left, .int .i64 x0.right] 38)).alloc (.cells #[.slice v1_0 x1.body.length v1_1, .slice v1_2 x1.head.length v1_3, .bool x1.egd, .int .i64 x1.left, .int .i64 x1.right] 38)).heap.size ((w.alloc (.cells #[.slice v0_0 x0.body.length v0_1, .slice v0_2 x0.head.length v0_3, .bool x0.egd, .int .i64 x0.left, .int .i64 x0.right] 38)).alloc (.cells #[.slice v1_0 x1.body.length v1_1, .slice v1_2 x1.head.length v1_3, .bool x1.egd, .int .i64 x1.left, .int .i64 x1.right] 38)) w15 := (((c1_12.trans (hb13.mono (by omega))).trans (hb14.mono (by omega))).trans (hb15.mono (by omega)))
  have f103 : w15.cell? ⟨w.heap.size + 1, 0, none⟩ = some (.slice v1_0 x1.body.length v1_1) := ((c1_15).cell (p := ⟨w.heap.size + 1, 0, none⟩) (by show w.heap.size + 1 < _; omega)).trans K6.out
  have gf103 := Aft.cell (B := w15.heap.size) (by omega) f103
  clear f103
  have f104 : w15.cell? ⟨w.heap.size + 1, 1, none⟩ = some (.slice v1_2 x1.head.length v1_3) := ((c1_15).cell (p := ⟨w.heap.size + 1, 1, none⟩) (by show w.heap.size + 1 < _; omega)).trans K7.out
  have gf104 := Aft.cell (B := w15.heap.size) (by omega) f104
  clear f104
  have f105 : w15.cell? ⟨w.heap.size + 1, 2, none⟩ = some (.bool x1.egd) := ((c1_15).cell (p := ⟨w.heap.size + 1, 2, none⟩) (by show w.heap.size + 1 < _; omega)).trans K8.out
  have gf105 := Aft.cell (B := w15.heap.size) (by omega) f105
  clear f105
  have f106 : w15.cell? ⟨w.heap.size + 1, 3, none⟩ = some (.int .i64 x1.left) := ((c1_15).cell (p := ⟨w.heap.size + 1, 3, none⟩) (by show w.heap.size + 1 < _; omega)).trans K9.out
  have gf106 := Aft.cell (B := w15.heap.size) (by omega) f106
  clear f106
  have f107 : w15.cell? ⟨w.heap.size + 1, 4, none⟩ = some (.int .i64 x1.right) := ((c1_15).cell (p := ⟨w.heap.size + 1, 4, none⟩) (by show w.heap.size + 1 < _; omega)).trans K10.out
  have gf107 := Aft.cell (B := w15.heap.size) (by omega) f107
  clear f107
  refine wp_region_plan (C := fun w' => ∃ u : Aft w15.heap.size w15, w' = u.now) (.still 0 (.still 1 (.move true 2 (.move true 3 (.still 4 .done) .none) .none))) (by kernel_rfl) (by kernel_rfl) (by kernel_rfl) (fun _ => ⟨⟨_, (Below.refl _ _).drew⟩, rfl⟩) ?_
  have hb16 : Below w15.heap.size w15 w15.drew := (Below.refl _ _).drew
  have z16 : w15.drew.heap.size = w15.heap.size := rfl
  have c0_16 : Below w.heap.size w w15.drew := (((c0_13.trans (hb14.mono (by omega))).trans (hb15.mono (by omega))).trans (hb16.mono (by omega)))
  refine plan_look _ rfl rfl ?_
  go_big_quiet_step (fail)
  refine wpQuiet_nil ?_
  refine plan_look _ rfl rfl ?_
  go_big_quiet_step (fail)
  refine wpQuiet_nil ?_
  refine plan_call _ 20 _ _ _ _ _ rfl _ Try.func20 (by kernel_rfl) (by kernel_rfl) ?_ True.intro
  show Calls Try.prog 20 #[.agg #[.slice v1_0 x1.body.length v1_1, .slice v1_2 x1.head.length v1_3, .bool x1.egd, .int .i64 x1.left, .int .i64 x1.right]] _ _
  refine (toDependency_c _ x1 _ ((A1.out.below c0_16 (Nat.le_refl _)).more c0_16.size) S1).mono ?_
  rintro e w17 ⟨u108, rfl, ou108, hb17⟩
  have z17 : w15.drew.heap.size ≤ w17.heap.size := hb17.size
  obtain ⟨y109_0, y109_1, y109_2, y109_3, rfl⟩ := Dependency_form (ou108.at_ (Nat.le_refl _))
  have c15_17 : Below w15.heap.size w15 w17 := (hb16.trans (hb17.mono (by omega)))
  refine ⟨_, rfl, fun _ => ⟨⟨_, c15_17⟩, rfl⟩, ?_⟩
  refine plan_put ?_ (by simp only [Act.put, List.setIfInBounds_toArray, List.set_cons_succ, List.set_cons_zero]; rfl)
  have c10_17 : Below w10.heap.size w10 w17 := ((((((c10_11.trans (hb12.mono (by omega))).trans (hb13.mono (by omega))).trans (hb14.mono (by omega))).trans (hb15.mono (by omega))).trans (hb16.mono (by omega))).trans (hb17.mono (by omega)))
  refine plan_call _ 22 _ _ _ _ _ rfl _ Try.func22 (by kernel_rfl) (by kernel_rfl) ?_ True.intro
  show Calls Try.prog 22 #[.agg #[.slice y69_0 x1.body.length y69_1, .slice y69_2 x1.head.length y69_3, .bool x1.egd, .int .i64 x1.left, .int .i64 x1.right], .agg #[.slice y109_0 x1.body.length y109_1, .slice y109_2 x1.head.length y109_3, .bool x1.egd, .int .i64 x1.left, .int .i64 x1.right]] _ _
  refine (eqDependency_c _ _ x1 _ ((ou68.below c10_17 (Nat.le_refl _)).at_ (by omega)) ((ou108.below (Below.refl w17.heap.size w17) (Nat.le_refl _)).at_ (Nat.le_refl _))).mono ?_
  rintro e w18 ⟨rfl, hb18⟩
  have z18 : w17.heap.size ≤ w18.heap.size := hb18.size
  have c15_18 : Below w15.heap.size w15 w18 := (c15_17.trans (hb18.mono (by omega)))
  refine ⟨_, rfl, fun _ => ⟨⟨_, c15_18⟩, rfl⟩, ?_⟩
  refine plan_put ?_ (by simp only [Act.put, List.setIfInBounds_toArray, List.set_cons_succ, List.set_cons_zero]; rfl)
  refine plan_look _ rfl rfl ?_
  go_big_quiet_step (fail)
  refine wpQuiet_nil ?_
  refine plan_done ?_
  clear gf98 gf99 gf100 gf101 gf102 gf103 gf104 gf105 gf106 gf107
  have c0_18 : Below w.heap.size w w18 := ((c0_16.trans (hb17.mono (by omega))).trans (hb18.mono (by omega)))
  go_wp2
  go_ret
  exact ⟨rfl, c0_18⟩

theorem ty : ∀ t ∈ Try.f9.params.toList, Try.prog.readableRec t = true ∧ t < Try.prog.types.size := by
  rw [Try.params9]; intro t ht
  simp only [List.mem_cons, List.not_mem_nil, or_false] at ht
  rcases ht with rfl | rfl <;> exact ⟨by kernel_rfl, of_decide_eq_true (by kernel_rfl)⟩
set_option maxRecDepth 100000 in
theorem lifted (os : Os) (started : os.Started) (H : Type) (enc : TypeId × Value → H) :
    ReturnsInHanded {} Try.checked os 9 .any (Rows.fnExactEqualDependenciesSpec.pre6 enc Try.prog Try.f9 Rows.fnExactEqualDependenciesRow.domain false) (Rows.fnExactEqualDependenciesSpec.post enc Try.prog Try.f9 false true false false) := by
  refine returnsInHanded_of_change (C := Try.checked) ownFact started (by kernel_rfl) Try.func9
    (ChangeSpec.witness6 (enc := enc) (C := Try.checked) false ⟨#[], #[.agg #[.slice none 0 0, .slice none 0 0, .bool false, .int .i64 0, .int .i64 0], .agg #[.slice none 0 0, .slice none 0 0, .bool false, .int .i64 0, .int .i64 0]], []⟩ 8 (by kernel_rfl) (by kernel_rfl) (by kernel_rfl) (by kernel_rfl)) ?_
  intro W base args ds gs before hval0 hW hcnd _
  have hval : ∀ (j : Nat) t v, Try.f9.params[j]? = some t → args[j]? = some v → Value.okWide Try.prog W .any base t v := hval0
  have hW' := hW
  obtain ⟨p, q, hA0, hV, _, hfz, hnd⟩ := hW
  have hA : DataW.TrodAll enc Try.prog W 0 (fun _ => true) true Try.f9.params.toList args.toList ds p := hA0
  rw [Try.params9] at hA hval
  obtain ⟨v0, vs0, d0, ds0, p0, q0, hargs, rfl, _, h0, r0⟩ := trodAll_cons hA
  obtain ⟨v1, vs1, d1, ds1, p1, q1, rfl, rfl, _, h1, r1⟩ := trodAll_cons r0
  obtain ⟨rfl, rfl, _⟩ := trodAll_nil r1
  obtain rfl : args = #[v0, v1] := by cases args; simp_all
  obtain ⟨rfl, _⟩ := trodVars_none hV
  obtain ⟨x0, hx0, hwx0⟩ := open_Dependency (hval 0 _ v0 rfl rfl) h0 (DataW.TrodAll.lt (trodAll_mk1 h0))
  obtain ⟨x1, hx1, hwx1⟩ := open_Dependency (hval 1 _ v1 rfl rfl) h1 (DataW.TrodAll.lt (trodAll_mk1 h1))
  refine (walk v0 x0 v1 x1 W hx0 hwx0 hx1 hwx1).mono fun e W' ⟨he, hb⟩ => ?_
  subst he
  exact ⟨_, rfl, law_post laidFact ty Try.underlying4 (by kernel_rfl) rfl hW' rfl hb⟩
theorem holds : Rows.FnExactEqualDependenciesSaid :=
  OpenClaim.holds_of_wide 9 Try.f9 rfl rfl rfl rfl rfl rfl rfl ⟨rfl, rfl, rfl, rfl, rfl⟩ rfl rfl rfl rfl rfl (by kernel_rfl) Try.func9 (by kernel_rfl)
    (of_decide_eq_true (by kernel_rfl)) (by unfold Func.isWrapper; first | (rw [if_pos (by decide +kernel)]; kernel_rfl) | (rw [if_neg (by decide +kernel)]; exact ⟨rfl, rfl⟩))
    (fun os started H enc _ => lifted os started H enc)
end lawFnExactEqualDependencies

end Go.Proofs.Ytdamhifomcknaaa
