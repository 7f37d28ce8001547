/-
  FnExactFrontierVariables: for every argument the translated law returns true, and each argument reads afterwards as it read before. Conditions: none beyond the given row's own.
-/
import Derived.Test.YtdamhifomcknaaaPlan
import Derived.Test.YtdamhifomcknaaaFactC
import Derived.Test.YtdamhifomcknaaaDepC
import Derived.Test.YtdamhifomcknaaaLift
import Derived.Test.YtdamhifomcknaaaHeadV
import Derived.Test.YtdamhifomcknaaaHeadVI
namespace Go.Proofs.Ytdamhifomcknaaa
open Go.RowKit Go.ChangeShapes Go.WideShapes Go.ChangeAt Go.ChangeMaps

namespace lawFnExactFrontierVariables

set_option maxRecDepth 100000 in
set_option maxHeartbeats 1600000 in
theorem walk (v0 : Value) (x0 : Dep) (w : World) (h0 : Dependency_at w w.heap.size v0 x0) (hw0 : Dependency_wf x0) :
    Calls Try.prog 8 #[v0] w fun e w' => e = .returned (.bool true) ∧ Below w.heap.size w w' := by
  obtain ⟨v0_0, v0_1, v0_2, v0_3, rfl⟩ := Dependency_form h0
  have A0 := Lib.hid h0
  have W0 := Lib.hid hw0
  clear h0 hw0
  by_cases hz1 : ((Dependency_sz x0 : Nat) : Int) ≤ 1048576
  rotate_left
  · skip
    have e1 := szLeft_no hz1
    have hb1 : Below w.heap.size w (w.alloc (.cells #[.slice v0_0 x0.body.length v0_1, .slice v0_2 x0.head.length v0_3, .bool x0.egd, .int .i64 x0.left, .int .i64 x0.right] 38)) := below_more (Below.refl _ _) _
    have z1 : w.heap.size + 1 ≤ (w.alloc (.cells #[.slice v0_0 x0.body.length v0_1, .slice v0_2 x0.head.length v0_3, .bool x0.egd, .int .i64 x0.left, .int .i64 x0.right] 38)).heap.size := by simp
    have K1 := Lib.hid (show (w.alloc (.cells #[.slice v0_0 x0.body.length v0_1, .slice v0_2 x0.head.length v0_3, .bool x0.egd, .int .i64 x0.left, .int .i64 x0.right] 38)).cell? ⟨w.heap.size, 0, none⟩ = some (.slice v0_0 x0.body.length v0_1) by simp [go_sem])
    have K2 := Lib.hid (show (w.alloc (.cells #[.slice v0_0 x0.body.length v0_1, .slice v0_2 x0.head.length v0_3, .bool x0.egd, .int .i64 x0.left, .int .i64 x0.right] 38)).cell? ⟨w.heap.size, 1, none⟩ = some (.slice v0_2 x0.head.length v0_3) by simp [go_sem])
    have K3 := Lib.hid (show (w.alloc (.cells #[.slice v0_0 x0.body.length v0_1, .slice v0_2 x0.head.length v0_3, .bool x0.egd, .int .i64 x0.left, .int .i64 x0.right] 38)).cell? ⟨w.heap.size, 2, none⟩ = some (.bool x0.egd) by simp [go_sem])
    have K4 := Lib.hid (show (w.alloc (.cells #[.slice v0_0 x0.body.length v0_1, .slice v0_2 x0.head.length v0_3, .bool x0.egd, .int .i64 x0.left, .int .i64 x0.right] 38)).cell? ⟨w.heap.size, 3, none⟩ = some (.int .i64 x0.left) by simp [go_sem])
    have K5 := Lib.hid (show (w.alloc (.cells #[.slice v0_0 x0.body.length v0_1, .slice v0_2 x0.head.length v0_3, .bool x0.egd, .int .i64 x0.left, .int .i64 x0.right] 38)).cell? ⟨w.heap.size, 4, none⟩ = some (.int .i64 x0.right) by simp [go_sem])
    go_enter Try.func8, Try.ntmps8
    have f6 : (w.alloc (.cells #[.slice v0_0 x0.body.length v0_1, .slice v0_2 x0.head.length v0_3, .bool x0.egd, .int .i64 x0.left, .int .i64 x0.right] 38)).cell? ⟨w.heap.size, 0, none⟩ = some (.slice v0_0 x0.body.length v0_1) := K1.out
    have f7 : (w.alloc (.cells #[.slice v0_0 x0.body.length v0_1, .slice v0_2 x0.head.length v0_3, .bool x0.egd, .int .i64 x0.left, .int .i64 x0.right] 38)).cell? ⟨w.heap.size, 1, none⟩ = some (.slice v0_2 x0.head.length v0_3) := K2.out
    have f8 : (w.alloc (.cells #[.slice v0_0 x0.body.length v0_1, .slice v0_2 x0.head.length v0_3, .bool x0.egd, .int .i64 x0.left, .int .i64 x0.right] 38)).cell? ⟨w.heap.size, 2, none⟩ = some (.bool x0.egd) := K3.out
    have f9 : (w.alloc (.cells #[.slice v0_0 x0.body.length v0_1, .slice v0_2 x0.head.length v0_3, .bool x0.egd, .int .i64 x0.left, .int .i64 x0.right] 38)).cell? ⟨w.heap.size, 3, none⟩ = some (.int .i64 x0.left) := K4.out
    have f10 : (w.alloc (.cells #[.slice v0_0 x0.body.length v0_1, .slice v0_2 x0.head.length v0_3, .bool x0.egd, .int .i64 x0.left, .int .i64 x0.right] 38)).cell? ⟨w.heap.size, 4, none⟩ = some (.int .i64 x0.right) := K5.out
    have c0_1 : Below w.heap.size w (w.alloc (.cells #[.slice v0_0 x0.body.length v0_1, .slice v0_2 x0.head.length v0_3, .bool x0.egd, .int .i64 x0.left, .int .i64 x0.right] 38)) := hb1
    go_wp2_with fail
    refine (szDependency_c _ x0 (1048576) _ ((A0.out.below c0_1 (Nat.le_refl _)).more c0_1.size) W0.out (by omega) (by omega)).mono ?_
    rw [e1]
    rintro e w2 ⟨rfl, hb2⟩
    have z2 : (w.alloc (.cells #[.slice v0_0 x0.body.length v0_1, .slice v0_2 x0.head.length v0_3, .bool x0.egd, .int .i64 x0.left, .int .i64 x0.right] 38)).heap.size ≤ w2.heap.size := hb2.size
    clear f6 f7 f8 f9 f10
    have c0_2 : Below w.heap.size w w2 := (c0_1.trans (hb2.mono (by omega)))
    go_wp2
    go_ret
    exact ⟨rfl, c0_2⟩
  have e1 := szLeft_yes hz1
  have S0 : Dependency_sz x0 ≤ 1048576 := by omega
  have N0 := Dependency_cnt_le x0
  have hb1 : Below w.heap.size w (w.alloc (.cells #[.slice v0_0 x0.body.length v0_1, .slice v0_2 x0.head.length v0_3, .bool x0.egd, .int .i64 x0.left, .int .i64 x0.right] 38)) := below_more (Below.refl _ _) _
  have z1 : w.heap.size + 1 ≤ (w.alloc (.cells #[.slice v0_0 x0.body.length v0_1, .slice v0_2 x0.head.length v0_3, .bool x0.egd, .int .i64 x0.left, .int .i64 x0.right] 38)).heap.size := by simp
  have K1 := Lib.hid (show (w.alloc (.cells #[.slice v0_0 x0.body.length v0_1, .slice v0_2 x0.head.length v0_3, .bool x0.egd, .int .i64 x0.left, .int .i64 x0.right] 38)).cell? ⟨w.heap.size, 0, none⟩ = some (.slice v0_0 x0.body.length v0_1) by simp [go_sem])
  have K2 := Lib.hid (show (w.alloc (.cells #[.slice v0_0 x0.body.length v0_1, .slice v0_2 x0.head.length v0_3, .bool x0.egd, .int .i64 x0.left, .int .i64 x0.right] 38)).cell? ⟨w.heap.size, 1, none⟩ = some (.slice v0_2 x0.head.length v0_3) by simp [go_sem])
  have K3 := Lib.hid (show (w.alloc (.cells #[.slice v0_0 x0.body.length v0_1, .slice v0_2 x0.head.length v0_3, .bool x0.egd, .int .i64 x0.left, .int .i64 x0.right] 38)).cell? ⟨w.heap.size, 2, none⟩ = some (.bool x0.egd) by simp [go_sem])
  have K4 := Lib.hid (show (w.alloc (.cells #[.slice v0_0 x0.body.length v0_1, .slice v0_2 x0.head.length v0_3, .bool x0.egd, .int .i64 x0.left, .int .i64 x0.right] 38)).cell? ⟨w.heap.size, 3, none⟩ = some (.int .i64 x0.left) by simp [go_sem])
  have K5 := Lib.hid (show (w.alloc (.cells #[.slice v0_0 x0.body.length v0_1, .slice v0_2 x0.head.length v0_3, .bool x0.egd, .int .i64 x0.left, .int .i64 x0.right] 38)).cell? ⟨w.heap.size, 4, none⟩ = some (.int .i64 x0.right) by simp [go_sem])
  go_enter Try.func8, Try.ntmps8
  have f11 : (w.alloc (.cells #[.slice v0_0 x0.body.length v0_1, .slice v0_2 x0.head.length v0_3, .bool x0.egd, .int .i64 x0.left, .int .i64 x0.right] 38)).cell? ⟨w.heap.size, 0, none⟩ = some (.slice v0_0 x0.body.length v0_1) := K1.out
  have f12 : (w.alloc (.cells #[.slice v0_0 x0.body.length v0_1, .slice v0_2 x0.head.length v0_3, .bool x0.egd, .int .i64 x0.left, .int .i64 x0.right] 38)).cell? ⟨w.heap.size, 1, none⟩ = some (.slice v0_2 x0.head.length v0_3) := K2.out
  have f13 : (w.alloc (.cells #[.slice v0_0 x0.body.length v0_1, .slice v0_2 x0.head.length v0_3, .bool x0.egd, .int .i64 x0.left, .int .i64 x0.right] 38)).cell? ⟨w.heap.size, 2, none⟩ = some (.bool x0.egd) := K3.out
  have f14 : (w.alloc (.cells #[.slice v0_0 x0.body.length v0_1, .slice v0_2 x0.head.length v0_3, .bool x0.egd, .int .i64 x0.left, .int .i64 x0.right] 38)).cell? ⟨w.heap.size, 3, none⟩ = some (.int .i64 x0.left) := K4.out
  have f15 : (w.alloc (.cells #[.slice v0_0 x0.body.length v0_1, .slice v0_2 x0.head.length v0_3, .bool x0.egd, .int .i64 x0.left, .int .i64 x0.right] 38)).cell? ⟨w.heap.size, 4, none⟩ = some (.int .i64 x0.right) := K5.out
  have c0_1 : Below w.heap.size w (w.alloc (.cells #[.slice v0_0 x0.body.length v0_1, .slice v0_2 x0.head.length v0_3, .bool x0.egd, .int .i64 x0.left, .int .i64 x0.right] 38)) := hb1
  go_wp2_with fail
  refine (szDependency_c _ x0 (1048576) _ ((A0.out.below c0_1 (Nat.le_refl _)).more c0_1.size) W0.out (by omega) (by omega)).mono ?_
  rw [e1]
  rintro e w2 ⟨rfl, hb2⟩
  have z2 : (w.alloc (.cells #[.slice v0_0 x0.body.length v0_1, .slice v0_2 x0.head.length v0_3, .bool x0.egd, .int .i64 x0.left, .int .i64 x0.right] 38)).heap.size ≤ w2.heap.size := hb2.size
  clear f11 f12 f13 f14 f15
  have c1_2 : Below (w.alloc (.cells #[.slice v0_0 x0.body.length v0_1, .slice v0_2 x0.head.length v0_3, .bool x0.egd, .int .i64 x0.left, .int .i64 x0.right] 38)).heap.size (w.alloc (.cells #[.slice v0_0 x0.body.length v0_1, .slice v0_2 x0.head.length v0_3, .bool x0.egd, .int .i64 x0.left, .int .i64 x0.right] 38)) w2 := hb2
  have f16 : w2.cell? ⟨w.heap.size, 0, none⟩ = some (.slice v0_0 x0.body.length v0_1) := ((c1_2).cell (p := ⟨w.heap.size, 0, none⟩) (by show w.heap.size < _; omega)).trans K1.out
  have f17 : w2.cell? ⟨w.heap.size, 1, none⟩ = some (.slice v0_2 x0.head.length v0_3) := ((c1_2).cell (p := ⟨w.heap.size, 1, none⟩) (by show w.heap.size < _; omega)).trans K2.out
  have f18 : w2.cell? ⟨w.heap.size, 2, none⟩ = some (.bool x0.egd) := ((c1_2).cell (p := ⟨w.heap.size, 2, none⟩) (by show w.heap.size < _; omega)).trans K3.out
  have f19 : w2.cell? ⟨w.heap.size, 3, none⟩ = some (.int .i64 x0.left) := ((c1_2).cell (p := ⟨w.heap.size, 3, none⟩) (by show w.heap.size < _; omega)).trans K4.out
  have f20 : w2.cell? ⟨w.heap.size, 4, none⟩ = some (.int .i64 x0.right) := ((c1_2).cell (p := ⟨w.heap.size, 4, none⟩) (by show w.heap.size < _; omega)).trans K5.out
  have c0_2 : Below w.heap.size w w2 := (c0_1.trans (hb2.mono (by omega)))
  go_wp2_with fail
  refine (toDependency_c _ x0 _ ((A0.out.below c0_2 (Nat.le_refl _)).more c0_2.size) S0).mono ?_
  rintro e w3 ⟨u21, rfl, ou21, hb3⟩
  have z3 : w2.heap.size ≤ w3.heap.size := hb3.size
  obtain ⟨y22_0, y22_1, y22_2, y22_3, rfl⟩ := Dependency_form (ou21.at_ (Nat.le_refl _))
  go_wp2_with fail
  refine (specFrontierVariables_c _ x0 _ ((ou21.below (Below.refl w3.heap.size w3) (Nat.le_refl _)).at_ (Nat.le_refl _)) W0.out S0).mono ?_
  rintro e w4 ⟨r23_0, rfl, p23_0, hb4⟩
  have z4 : w3.heap.size ≤ w4.heap.size := hb4.size
  clear f16 f17 f18 f19 f20
  have c1_4 : Below (w.alloc (.cells #[.slice v0_0 x0.body.length v0_1, .slice v0_2 x0.head.length v0_3, .bool x0.egd, .int .i64 x0.left, .int .i64 x0.right] 38)).heap.size (w.alloc (.cells #[.slice v0_0 x0.body.length v0_1, .slice v0_2 x0.head.length v0_3, .bool x0.egd, .int .i64 x0.left, .int .i64 x0.right] 38)) w4 := ((c1_2.trans (hb3.mono (by omega))).trans (hb4.mono (by omega)))
  have f24 : w4.cell? ⟨w.heap.size, 0, none⟩ = some (.slice v0_0 x0.body.length v0_1) := ((c1_4).cell (p := ⟨w.heap.size, 0, none⟩) (by show w.heap.size < _; omega)).trans K1.out
  have f25 : w4.cell? ⟨w.heap.size, 1, none⟩ = some (.slice v0_2 x0.head.length v0_3) := ((c1_4).cell (p := ⟨w.heap.size, 1, none⟩) (by show w.heap.size < _; omega)).trans K2.out
  have f26 : w4.cell? ⟨w.heap.size, 2, none⟩ = some (.bool x0.egd) := ((c1_4).cell (p := ⟨w.heap.size, 2, none⟩) (by show w.heap.size < _; omega)).trans K3.out
  have f27 : w4.cell? ⟨w.heap.size, 3, none⟩ = some (.int .i64 x0.left) := ((c1_4).cell (p := ⟨w.heap.size, 3, none⟩) (by show w.heap.size < _; omega)).trans K4.out
  have f28 : w4.cell? ⟨w.heap.size, 4, none⟩ = some (.int .i64 x0.right) := ((c1_4).cell (p := ⟨w.heap.size, 4, none⟩) (by show w.heap.size < _; omega)).trans K5.out
  have c0_4 : Below w.heap.size w w4 := ((c0_2.trans (hb3.mono (by omega))).trans (hb4.mono (by omega)))
  go_wp2_with fail
  refine (toDependency_c _ x0 _ ((A0.out.below c0_4 (Nat.le_refl _)).more c0_4.size) S0).mono ?_
  rintro e w5 ⟨u29, rfl, ou29, hb5⟩
  have z5 : w4.heap.size ≤ w5.heap.size := hb5.size
  obtain ⟨y30_0, y30_1, y30_2, y30_3, rfl⟩ := Dependency_form (ou29.at_ (Nat.le_refl _))
  have hb6 : Below w5.heap.size w5 (w5.alloc (.cells #[.slice y30_0 x0.body.length y30_1, .slice y30_2 x0.head.length y30_3, .bool x0.egd, .int .i64 x0.left, .int .i64 x0.right] 43)) := below_more (Below.refl _ _) _
  have z6 : w5.heap.size + 1 ≤ (w5.alloc (.cells #[.slice y30_0 x0.body.length y30_1, .slice y30_2 x0.head.length y30_3, .bool x0.egd, .int .i64 x0.left, .int .i64 x0.right] 43)).heap.size := by simp
  have K31 := Lib.hid (show (w5.alloc (.cells #[.slice y30_0 x0.body.length y30_1, .slice y30_2 x0.head.length y30_3, .bool x0.egd, .int .i64 x0.left, .int .i64 x0.right] 43)).cell? ⟨w5.heap.size, 0, none⟩ = some (.slice y30_0 x0.body.length y30_1) by simp [go_sem])
  have K32 := Lib.hid (show (w5.alloc (.cells #[.slice y30_0 x0.body.length y30_1, .slice y30_2 x0.head.length y30_3, .bool x0.egd, .int .i64 x0.left, .int .i64 x0.right] 43)).cell? ⟨w5.heap.size, 1, none⟩ = some (.slice y30_2 x0.head.length y30_3) by simp [go_sem])
  have K33 := Lib.hid (show (w5.alloc (.cells #[.slice y30_0 x0.body.length y30_1, .slice y30_2 x0.head.length y30_3, .bool x0.egd, .int .i64 x0.left, .int .i64 x0.right] 43)).cell? ⟨w5.heap.size, 2, none⟩ = some (.bool x0.egd) by simp [go_sem])
  have K34 := Lib.hid (show (w5.alloc (.cells #[.slice y30_0 x0.body.length y30_1, .slice y30_2 x0.head.length y30_3, .bool x0.egd, .int .i64 x0.left, .int .i64 x0.right] 43)).cell? ⟨w5.heap.size, 3, none⟩ = some (.int .i64 x0.left) by simp [go_sem])
  have K35 := Lib.hid (show (w5.alloc (.cells #[.slice y30_0 x0.body.length y30_1, .slice y30_2 x0.head.length y30_3, .bool x0.egd, .int .i64 x0.left, .int .i64 x0.right] 43)).cell? ⟨w5.heap.size, 4, none⟩ = some (.int .i64 x0.right) by simp [go_sem])
  clear f24 f25 f26 f27 f28
  have f36 : (w5.alloc (.cells #[.slice y30_0 x0.body.length y30_1, .slice y30_2 x0.head.length y30_3, .bool x0.egd, .int .i64 x0.left, .int .i64 x0.right] 43)).cell? ⟨w5.heap.size, 0, none⟩ = some (.slice y30_0 x0.body.length y30_1) := K31.out
  have f37 : (w5.alloc (.cells #[.slice y30_0 x0.body.length y30_1, .slice y30_2 x0.head.length y30_3, .bool x0.egd, .int .i64 x0.left, .int .i64 x0.right] 43)).cell? ⟨w5.heap.size, 1, none⟩ = some (.slice y30_2 x0.head.length y30_3) := K32.out
  have f38 : (w5.alloc (.cells #[.slice y30_0 x0.body.length y30_1, .slice y30_2 x0.head.length y30_3, .bool x0.egd, .int .i64 x0.left, .int .i64 x0.right] 43)).cell? ⟨w5.heap.size, 2, none⟩ = some (.bool x0.egd) := K33.out
  have f39 : (w5.alloc (.cells #[.slice y30_0 x0.body.length y30_1, .slice y30_2 x0.head.length y30_3, .bool x0.egd, .int .i64 x0.left, .int .i64 x0.right] 43)).cell? ⟨w5.heap.size, 3, none⟩ = some (.int .i64 x0.left) := K34.out
  have f40 : (w5.alloc (.cells #[.slice y30_0 x0.body.length y30_1, .slice y30_2 x0.head.length y30_3, .bool x0.egd, .int .i64 x0.left, .int .i64 x0.right] 43)).cell? ⟨w5.heap.size, 4, none⟩ = some (.int .i64 x0.right) := K35.out
  have c5_6 : Below w5.heap.size w5 (w5.alloc (.cells #[.slice y30_0 x0.body.length y30_1, .slice y30_2 x0.head.length y30_3, .bool x0.egd, .int .i64 x0.left, .int .i64 x0.right] 43)) := hb6
  go_wp2_with fail
  refine (implFrontierVariables_c _ x0 _ ((ou29.below c5_6 (Nat.le_refl _)).at_ (by omega)) W0.out S0).mono ?_
  rintro e w7 ⟨r41_0, rfl, p41_0, q41_0, hb7⟩
  have z7 : (w5.alloc (.cells #[.slice y30_0 x0.body.length y30_1, .slice y30_2 x0.head.length y30_3, .bool x0.egd, .int .i64 x0.left, .int .i64 x0.right] 43)).heap.size ≤ w7.heap.size := hb7.size
  have NC41_0 := IntS_cnt_le (FrontierVariables_r0 x0)
  clear f36 f37 f38 f39 f40
  have c4_7 : Below w4.heap.size w4 w7 := ((hb5.trans (hb6.mono (by omega))).trans (hb7.mono (by omega)))
  go_wp2_with fail
  refine (eqIntS_c _ _ (FrontierVariables_r0 x0) _ ((p41_0.below (Below.refl w7.heap.size w7) (Nat.le_refl _)).at_ (Nat.le_refl _)) ((p23_0.below c4_7 (Nat.le_refl _)).more c4_7.size)).mono ?_
  rintro e w8 ⟨rfl, hb8⟩
  have z8 : w7.heap.size ≤ w8.heap.size := hb8.size
  go_wp2_with fail
  have c6_8 : Below (w5.alloc (.cells #[.slice y30_0 x0.body.length y30_1, .slice y30_2 x0.head.length y30_3, .bool x0.egd, .int .i64 x0.left, .int .i64 x0.right] 43)).heap.size (w5.alloc (.cells #[.slice y30_0 x0.body.length y30_1, .slice y30_2 x0.head.length y30_3, .bool x0.egd, .int .i64 x0.left, .int .i64 x0.right] 43)) w8 := (hb7.trans (hb8.mono (by omega)))
  have f42 : w8.cell? ⟨w5.heap.size, 0, none⟩ = some (.slice y30_0 x0.body.length y30_1) := ((c6_8).cell (p := ⟨w5.heap.size, 0, none⟩) (by show w5.heap.size < _; omega)).trans K31.out
  have gf42 := Aft.cell (B := w8.heap.size) (by omega) f42
  clear f42
  have f43 : w8.cell? ⟨w5.heap.size, 1, none⟩ = some (.slice y30_2 x0.head.length y30_3) := ((c6_8).cell (p := ⟨w5.heap.size, 1, none⟩) (by show w5.heap.size < _; omega)).trans K32.out
  have gf43 := Aft.cell (B := w8.heap.size) (by omega) f43
  clear f43
  have f44 : w8.cell? ⟨w5.heap.size, 2, none⟩ = some (.bool x0.egd) := ((c6_8).cell (p := ⟨w5.heap.size, 2, none⟩) (by show w5.heap.size < _; omega)).trans K33.out
  have gf44 := Aft.cell (B := w8.heap.size) (by omega) f44
  clear f44
  have f45 : w8.cell? ⟨w5.heap.size, 3, none⟩ = some (.int .i64 x0.left) := ((c6_8).cell (p := ⟨w5.heap.size, 3, none⟩) (by show w5.heap.size < _; omega)).trans K34.out
  have gf45 := Aft.cell (B := w8.heap.size) (by omega) f45
  clear f45
  have f46 : w8.cell? ⟨w5.heap.size, 4, none⟩ = some (.int .i64 x0.right) := ((c6_8).cell (p := ⟨w5.heap.size, 4, none⟩) (by show w5.heap.size < _; omega)).trans K35.out
  have gf46 := Aft.cell (B := w8.heap.size) (by omega) f46
  clear f46
  have c1_8 : Below (w.alloc (.cells #[.slice v0_0 x0.body.length v0_1, .slice v0_2 x0.head.length v0_3, .bool x0.egd, .int .i64 x0.left, .int .i64 x0.right] 38)).heap.size (w.alloc (.cells #[.slice v0_0 x0.body.length v0_1, .slice v0_2 x0.head.length v0_3, .bool x0.egd, .int .i64 x0.left, .int .i64 x0.right] 38)) w8 := ((((c1_4.trans (hb5.mono (by omega))).trans (hb6.mono (by omega))).trans (hb7.mono (by omega))).trans (hb8.mono (by omega)))
  have f47 : w8.cell? ⟨w.heap.size, 0, none⟩ = some (.slice v0_0 x0.body.length v0_1) := ((c1_8).cell (p := ⟨w.heap.size, 0, none⟩) (by show w.heap.size < _; omega)).trans K1.out
  have gf47 := Aft.cell (B := w8.heap.size) (by omega) f47
  clear f47
  have f48 : w8.cell? ⟨w.heap.size, 1, none⟩ = some (.slice v0_2 x0.head.length v0_3) := ((c1_8).cell (p := ⟨w.heap.size, 1, none⟩) (by show w.heap.size < _; omega)).trans K2.out
  have gf48 := Aft.cell (B := w8.heap.size) (by omega) f48
  clear f48
  have f49 : w8.cell? ⟨w.heap.size, 2, none⟩ = some (.bool x0.egd) := ((c1_8).cell (p := ⟨w.heap.size, 2, none⟩) (by show w.heap.size < _; omega)).trans K3.out
  have gf49 := Aft.cell (B := w8.heap.size) (by omega) f49
  clear f49
  have f50 : w8.cell? ⟨w.heap.size, 3, none⟩ = some (.int .i64 x0.left) := ((c1_8).cell (p := ⟨w.heap.size, 3, none⟩) (by show w.heap.size < _; omega)).trans K4.out
  have gf50 := Aft.cell (B := w8.heap.size) (by omega) f50
  clear f50
  have f51 : w8.cell? ⟨w.heap.size, 4, none⟩ = some (.int .i64 x0.right) := ((c1_8).cell (p := ⟨w.heap.size, 4, none⟩) (by show w.heap.size < _; omega)).trans K5.out
  have gf51 := Aft.cell (B := w8.heap.size) (by omega) f51
  clear f51
  refine wp_region_plan (C := fun w' => ∃ u : Aft w8.heap.size w8, w' = u.now) (.still 0 (.still 1 (.move true 2 (.move true 3 (.still 4 .done) .none) .none))) (by kernel_rfl) (by kernel_rfl) (by kernel_rfl) (fun _ => ⟨⟨_, (Below.refl _ _).drew⟩, rfl⟩) ?_
  have hb9 : Below w8.heap.size w8 w8.drew := (Below.refl _ _).drew
  have z9 : w8.drew.heap.size = w8.heap.size := rfl
  have c0_9 : Below w.heap.size w w8.drew := (((((c0_4.trans (hb5.mono (by omega))).trans (hb6.mono (by omega))).trans (hb7.mono (by omega))).trans (hb8.mono (by omega))).trans (hb9.mono (by omega)))
  refine plan_look _ rfl rfl ?_
  go_big_quiet_step (fail)
  refine wpQuiet_nil ?_
  refine plan_look _ rfl rfl ?_
  go_big_quiet_step (fail)
  refine wpQuiet_nil ?_
  refine plan_call _ 20 _ _ _ _ _ rfl _ Try.func20 (by kernel_rfl) (by kernel_rfl) ?_ True.intro
  show Calls Try.prog 20 #[.agg #[.slice v0_0 x0.body.length v0_1, .slice v0_2 x0.head.length v0_3, .bool x0.egd, .int .i64 x0.left, .int .i64 x0.right]] _ _
  refine (toDependency_c _ x0 _ ((A0.out.below c0_9 (Nat.le_refl _)).more c0_9.size) S0).mono ?_
  rintro e w10 ⟨u52, rfl, ou52, hb10⟩
  have z10 : w8.drew.heap.size ≤ w10.heap.size := hb10.size
  obtain ⟨y53_0, y53_1, y53_2, y53_3, rfl⟩ := Dependency_form (ou52.at_ (Nat.le_refl _))
  have c8_10 : Below w8.heap.size w8 w10 := (hb9.trans (hb10.mono (by omega)))
  refine ⟨_, rfl, fun _ => ⟨⟨_, c8_10⟩, rfl⟩, ?_⟩
  refine plan_put ?_ (by simp only [Act.put, List.setIfInBounds_toArray, List.set_cons_succ, List.set_cons_zero]; rfl)
  have c5_10 : Below w5.heap.size w5 w10 := ((((c5_6.trans (hb7.mono (by omega))).trans (hb8.mono (by omega))).trans (hb9.mono (by omega))).trans (hb10.mono (by omega)))
  refine plan_call _ 22 _ _ _ _ _ rfl _ Try.func22 (by kernel_rfl) (by kernel_rfl) ?_ True.intro
  show Calls Try.prog 22 #[.agg #[.slice y30_0 x0.body.length y30_1, .slice y30_2 x0.head.length y30_3, .bool x0.egd, .int .i64 x0.left, .int .i64 x0.right], .agg #[.slice y53_0 x0.body.length y53_1, .slice y53_2 x0.head.length y53_3, .bool x0.egd, .int .i64 x0.left, .int .i64 x0.right]] _ _
  refine (eqDependency_c _ _ x0 _ ((ou29.below c5_10 (Nat.le_refl _)).at_ (by omega)) ((ou52.below (Below.refl w10.heap.size w10) (Nat.le_refl _)).at_ (Nat.le_refl _))).mono ?_
  rintro e w11 ⟨rfl, hb11⟩
  have z11 : w10.heap.size ≤ w11.heap.size := hb11.size
  have c8_11 : Below w8.heap.size w8 w11 := (c8_10.trans (hb11.mono (by omega)))
  refine ⟨_, rfl, fun _ => ⟨⟨_, c8_11⟩, rfl⟩, ?_⟩
  refine plan_put ?_ (by simp only [Act.put, List.setIfInBounds_toArray, List.set_cons_succ, List.set_cons_zero]; rfl)
  refine plan_look _ rfl rfl ?_
  go_big_quiet_step (fail)
  refine wpQuiet_nil ?_
  refine plan_done ?_
  clear gf42 gf43 gf44 gf45 gf46 gf47 gf48 gf49 gf50 gf51
  have c6_11 : Below (w5.alloc (.cells #[.slice y30_0 x0.body.length y30_1, .slice y30_2 x0.head.length y30_3, .bool x0.egd, .int .i64 x0.left, .int .i64 x0.right] 43)).heap.size (w5.alloc (.cells #[.slice y30_0 x0.body.length y30_1, .slice y30_2 x0.head.length y30_3, .bool x0.egd, .int .i64 x0.left, .int .i64 x0.right] 43)) w11 := (((c6_8.trans (hb9.mono (by omega))).trans (hb10.mono (by omega))).trans (hb11.mono (by omega)))
  have f54 : w11.cell? ⟨w5.heap.size, 0, none⟩ = some (.slice y30_0 x0.body.length y30_1) := ((c6_11).cell (p := ⟨w5.heap.size, 0, none⟩) (by show w5.heap.size < _; omega)).trans K31.out
  have f55 : w11.cell? ⟨w5.heap.size, 1, none⟩ = some (.slice y30_2 x0.head.length y30_3) := ((c6_11).cell (p := ⟨w5.heap.size, 1, none⟩) (by show w5.heap.size < _; omega)).trans K32.out
  have f56 : w11.cell? ⟨w5.heap.size, 2, none⟩ = some (.bool x0.egd) := ((c6_11).cell (p := ⟨w5.heap.size, 2, none⟩) (by show w5.heap.size < _; omega)).trans K33.out
  have f57 : w11.cell? ⟨w5.heap.size, 3, none⟩ = some (.int .i64 x0.left) := ((c6_11).cell (p := ⟨w5.heap.size, 3, none⟩) (by show w5.heap.size < _; omega)).trans K34.out
  have f58 : w11.cell? ⟨w5.heap.size, 4, none⟩ = some (.int .i64 x0.right) := ((c6_11).cell (p := ⟨w5.heap.size, 4, none⟩) (by show w5.heap.size < _; omega)).trans K35.out
  have c5_11 : Below w5.heap.size w5 w11 := (c5_10.trans (hb11.mono (by omega)))
  have c7_11 : Below w7.heap.size w7 w11 := (((hb8.trans (hb9.mono (by omega))).trans (hb10.mono (by omega))).trans (hb11.mono (by omega)))
  go_wp2_with fail
  refine (markDependency_c _ _ _ x0 (1) _ (ou29.below c5_11 (Nat.le_refl _)) S0 (by omega) (by omega)).mono ?_
  rintro e w12 ⟨rfl, om12, hb12⟩
  have om12_g0 := (p41_0.below c7_11 (Nat.le_refl _)).chg hb12 (by omega)
  have z12 : w11.heap.size ≤ w12.heap.size := hb12.size
  clear f54 f55 f56 f57 f58
  have K59 := Lib.hid ((hb12.mid_cell (b := w5.heap.size) (o := 0) (by omega) (by omega)).trans (((c6_11).cell (p := ⟨w5.heap.size, 0, none⟩) (by show w5.heap.size < _; omega)).trans K31.out))
  have K60 := Lib.hid ((hb12.mid_cell (b := w5.heap.size) (o := 1) (by omega) (by omega)).trans (((c6_11).cell (p := ⟨w5.heap.size, 1, none⟩) (by show w5.heap.size < _; omega)).trans K32.out))
  have K61 := Lib.hid ((hb12.mid_cell (b := w5.heap.size) (o := 2) (by omega) (by omega)).trans (((c6_11).cell (p := ⟨w5.heap.size, 2, none⟩) (by show w5.heap.size < _; omega)).trans K33.out))
  have K62 := Lib.hid ((hb12.mid_cell (b := w5.heap.size) (o := 3) (by omega) (by omega)).trans (((c6_11).cell (p := ⟨w5.heap.size, 3, none⟩) (by show w5.heap.size < _; omega)).trans K34.out))
  have K63 := Lib.hid ((hb12.mid_cell (b := w5.heap.size) (o := 4) (by omega) (by omega)).trans (((c6_11).cell (p := ⟨w5.heap.size, 4, none⟩) (by show w5.heap.size < _; omega)).trans K35.out))
  have c4_12 : Below w4.heap.size w4 w12 := (((((c4_7.trans (hb8.mono (by omega))).trans (hb9.mono (by omega))).trans (hb10.mono (by omega))).trans (hb11.mono (by omega))).trans (hb12.mid_below (by omega) (by omega)))
  go_wp2_with fail
  refine (eqIntS_c _ _ (FrontierVariables_r0 x0) _ ((om12_g0.below (Below.refl w12.heap.size w12) (by omega)).at_ (by omega)) ((p23_0.below c4_12 (Nat.le_refl _)).more c4_12.size)).mono ?_
  rintro e w13 ⟨rfl, hb13⟩
  have z13 : w12.heap.size ≤ w13.heap.size := hb13.size
  have c12_13 : Below w12.heap.size w12 w13 := hb13
  go_wp2_with fail
  refine (markIntS_c _ _ _ (FrontierVariables_r0 x0) (1) _ (om12_g0.below c12_13 (by omega)) q41_0 (by omega) (by omega)).mono ?_
  rintro e w14 ⟨rfl, om14, hb14⟩
  have om14_tu29 := (om12.below c12_13 (by omega)).chg hb14 (by omega)
  have z14 : w13.heap.size ≤ w14.heap.size := hb14.size
  have K64 := Lib.hid ((hb14.mid_cell (b := w5.heap.size) (o := 0) (by omega) (by omega)).trans (((c12_13).cell (p := ⟨w5.heap.size, 0, none⟩) (by show w5.heap.size < _; omega)).trans K59.out))
  have K65 := Lib.hid ((hb14.mid_cell (b := w5.heap.size) (o := 1) (by omega) (by omega)).trans (((c12_13).cell (p := ⟨w5.heap.size, 1, none⟩) (by show w5.heap.size < _; omega)).trans K60.out))
  have K66 := Lib.hid ((hb14.mid_cell (b := w5.heap.size) (o := 2) (by omega) (by omega)).trans (((c12_13).cell (p := ⟨w5.heap.size, 2, none⟩) (by show w5.heap.size < _; omega)).trans K61.out))
  have K67 := Lib.hid ((hb14.mid_cell (b := w5.heap.size) (o := 3) (by omega) (by omega)).trans (((c12_13).cell (p := ⟨w5.heap.size, 3, none⟩) (by show w5.heap.size < _; omega)).trans K62.out))
  have K68 := Lib.hid ((hb14.mid_cell (b := w5.heap.size) (o := 4) (by omega) (by omega)).trans (((c12_13).cell (p := ⟨w5.heap.size, 4, none⟩) (by show w5.heap.size < _; omega)).trans K63.out))
  go_wp2_with fail
  refine (heldIntS_c _ (FrontierVariables_r0 x0) (1) _ ((om14.below (Below.refl w14.heap.size w14) (by omega)).at_ (by omega)) q41_0 (by omega) (by omega)).mono ?_
  rintro e w15 ⟨rfl, hb15⟩
  have z15 : w14.heap.size ≤ w15.heap.size := hb15.size
  have c1_15 : Below (w.alloc (.cells #[.slice v0_0 x0.body.length v0_1, .slice v0_2 x0.head.length v0_3, .bool x0.egd, .int .i64 x0.left, .int .i64 x0.right] 38)).heap.size (w.alloc (.cells #[.slice v0_0 x0.body.length v0_1, .slice v0_2 x0.head.length v0_3, .bool x0.egd, .int .i64 x0.left, .int .i64 x0.right] 38)) w15 := (((((((c1_8.trans (hb9.mono (by omega))).trans (hb10.mono (by omega))).trans (hb11.mono (by omega))).trans (hb12.mid_below (by omega) (by omega))).trans (hb13.mono (by omega))).trans (hb14.mid_below (by omega) (by omega))).trans (hb15.mono (by omega)))
  have f69 : w15.cell? ⟨w.heap.size, 0, none⟩ = some (.slice v0_0 x0.body.length v0_1) := ((c1_15).cell (p := ⟨w.heap.size, 0, none⟩) (by show w.heap.size < _; omega)).trans K1.out
  have f70 : w15.cell? ⟨w.heap.size, 1, none⟩ = some (.slice v0_2 x0.head.length v0_3) := ((c1_15).cell (p := ⟨w.heap.size, 1, none⟩) (by show w.heap.size < _; omega)).trans K2.out
  have f71 : w15.cell? ⟨w.heap.size, 2, none⟩ = some (.bool x0.egd) := ((c1_15).cell (p := ⟨w.heap.size, 2, none⟩) (by show w.heap.size < _; omega)).trans K3.out
  have f72 : w15.cell? ⟨w.heap.size, 3, none⟩ = some (.int .i64 x0.left) := ((c1_15).cell (p := ⟨w.heap.size, 3, none⟩) (by show w.heap.size < _; omega)).trans K4.out
  have f73 : w15.cell? ⟨w.heap.size, 4, none⟩ = some (.int .i64 x0.right) := ((c1_15).cell (p := ⟨w.heap.size, 4, none⟩) (by show w.heap.size < _; omega)).trans K5.out
  have c0_15 : Below w.heap.size w w15 := ((((((c0_9.trans (hb10.mono (by omega))).trans (hb11.mono (by omega))).trans (hb12.mid_below (by omega) (by omega))).trans (hb13.mono (by omega))).trans (hb14.mid_below (by omega) (by omega))).trans (hb15.mono (by omega)))
  go_wp2_with fail
  refine (toDependency_c _ x0 _ ((A0.out.below c0_15 (Nat.le_refl _)).more c0_15.size) S0).mono ?_
  rintro e w16 ⟨u74, rfl, ou74, hb16⟩
  have z16 : w15.heap.size ≤ w16.heap.size := hb16.size
  obtain ⟨y75_0, y75_1, y75_2, y75_3, rfl⟩ := Dependency_form (ou74.at_ (Nat.le_refl _))
  go_wp2_with fail
  refine (implFrontierVariables_c _ x0 _ ((ou74.below (Below.refl w16.heap.size w16) (Nat.le_refl _)).at_ (Nat.le_refl _)) W0.out S0).mono ?_
  rintro e w17 ⟨r76_0, rfl, p76_0, q76_0, hb17⟩
  have z17 : w16.heap.size ≤ w17.heap.size := hb17.size
  have NC76_0 := IntS_cnt_le (FrontierVariables_r0 x0)
  clear f69 f70 f71 f72 f73
  have c4_17 : Below w4.heap.size w4 w17 := (((((c4_12.trans (hb13.mono (by omega))).trans (hb14.mid_below (by omega) (by omega))).trans (hb15.mono (by omega))).trans (hb16.mono (by omega))).trans (hb17.mono (by omega)))
  go_wp2_with fail
  refine (eqIntS_c _ _ (FrontierVariables_r0 x0) _ ((p76_0.below (Below.refl w17.heap.size w17) (Nat.le_refl _)).at_ (Nat.le_refl _)) ((p23_0.below c4_17 (Nat.le_refl _)).more c4_17.size)).mono ?_
  rintro e w18 ⟨rfl, hb18⟩
  have z18 : w17.heap.size ≤ w18.heap.size := hb18.size
  have c14_18 : Below w14.heap.size w14 w18 := (((hb15.trans (hb16.mono (by omega))).trans (hb17.mono (by omega))).trans (hb18.mono (by omega)))
  go_wp2_with fail
  refine (heldIntS_c _ (FrontierVariables_r0 x0) (1) _ ((om14.below c14_18 (by omega)).at_ (by omega)) q76_0 (by omega) (by omega)).mono ?_
  rintro e w19 ⟨rfl, hb19⟩
  have z19 : w18.heap.size ≤ w19.heap.size := hb19.size
  have c0_19 : Below w.heap.size w w19 := ((((c0_15.trans (hb16.mono (by omega))).trans (hb17.mono (by omega))).trans (hb18.mono (by omega))).trans (hb19.mono (by omega)))
  go_wp2
  go_ret
  exact ⟨rfl, c0_19⟩

theorem ty : ∀ t ∈ Try.f8.params.toList, Try.prog.readableRec t = true ∧ t < Try.prog.types.size := by
  rw [Try.params8]; intro t ht
  simp only [List.mem_cons, List.not_mem_nil, or_false] at ht
  subst ht; exact ⟨by kernel_rfl, of_decide_eq_true (by kernel_rfl)⟩
set_option maxRecDepth 100000 in
theorem lifted (os : Os) (started : os.Started) (H : Type) (enc : TypeId × Value → H) :
    ReturnsInHanded {} Try.checked os 8 .any (Rows.fnExactFrontierVariablesSpec.pre6 enc Try.prog Try.f8 Rows.fnExactFrontierVariablesRow.domain false) (Rows.fnExactFrontierVariablesSpec.post enc Try.prog Try.f8 false true false false) := by
  refine returnsInHanded_of_change (C := Try.checked) ownFact started (by kernel_rfl) Try.func8
    (ChangeSpec.witness6 (enc := enc) (C := Try.checked) false ⟨#[], #[.agg #[.slice none 0 0, .slice none 0 0, .bool false, .int .i64 0, .int .i64 0]], []⟩ 8 (by kernel_rfl) (by kernel_rfl) (by kernel_rfl) (by kernel_rfl)) ?_
  intro W base args ds gs before hval0 hW hcnd _
  have hval : ∀ (j : Nat) t v, Try.f8.params[j]? = some t → args[j]? = some v → Value.okWide Try.prog W .any base t v := hval0
  have hW' := hW
  obtain ⟨p, q, hA0, hV, _, hfz, hnd⟩ := hW
  have hA : DataW.TrodAll enc Try.prog W 0 (fun _ => true) true Try.f8.params.toList args.toList ds p := hA0
  rw [Try.params8] at hA hval
  obtain ⟨v0, vs0, d0, ds0, p0, q0, hargs, rfl, _, h0, r0⟩ := trodAll_cons hA
  obtain ⟨rfl, rfl, _⟩ := trodAll_nil r0
  obtain rfl : args = #[v0] := by cases args; simp_all
  obtain ⟨rfl, _⟩ := trodVars_none hV
  obtain ⟨x0, hx0, hwx0⟩ := open_Dependency (hval 0 _ v0 rfl rfl) h0 (DataW.TrodAll.lt (trodAll_mk1 h0))
  refine (walk v0 x0 W hx0 hwx0).mono fun e W' ⟨he, hb⟩ => ?_
  subst he
  exact ⟨_, rfl, law_post laidFact ty Try.underlying4 (by kernel_rfl) rfl hW' rfl hb⟩
theorem holds : Rows.FnExactFrontierVariablesSaid :=
  OpenClaim.holds_of_wide 8 Try.f8 rfl rfl rfl rfl rfl rfl rfl ⟨rfl, rfl, rfl, rfl, rfl⟩ rfl rfl rfl rfl rfl (by kernel_rfl) Try.func8 (by kernel_rfl)
    (of_decide_eq_true (by kernel_rfl)) (by unfold Func.isWrapper; first | (rw [if_pos (by decide +kernel)]; kernel_rfl) | (rw [if_neg (by decide +kernel)]; exact ⟨rfl, rfl⟩))
    (fun os started H enc _ => lifted os started H enc)
end lawFnExactFrontierVariables

end Go.Proofs.Ytdamhifomcknaaa
