/-
  FnExactFormatDependency: for every argument the translated law returns true, and each argument reads afterwards as it read before. Conditions: none beyond the given row's own.
-/
import Derived.Test.YtmecdjincmkofaaDoorPlan
import Derived.Test.YtmecdjincmkofaaDoorLift
import Derived.Test.YtmecdjincmkofaaDoorLaid
import Derived.Test.YtmecdjincmkofaaDoorRelsC
import Derived.Test.YtmecdjincmkofaaDoorDepC
import Derived.Test.YtmecdjincmkofaaDoorFmtDS
import Derived.Test.YtmecdjincmkofaaDoorFmtDI2
namespace Go.Proofs.YtmecdjincmkofaaDoor
open Go.RowKit Go.ChangeShapes Go.WideShapes Go.ChangeAt Go.ChangeMaps

namespace lawFnExactFormatDependency

set_option maxRecDepth 100000 in
set_option maxHeartbeats 1600000 in
theorem walk (v0 : Value) (x0 : List Rel) (v1 : Value) (x1 : Dep) (w : World) (h0 : RelationS_at w w.heap.size v0 x0) (hw0 : RelationS_wf x0) (h1 : Dependency_at w w.heap.size v1 x1) (hw1 : Dependency_wf x1) (ht : Tab w) :
    Calls Tryd.prog 5 #[v0, v1] w fun e w' => e = .returned (.bool true) ∧ Below w.heap.size w w' := by
  have A0 := Lib.hid h0
  have W0 := Lib.hid hw0
  clear h0 hw0
  obtain ⟨v1_0, v1_1, v1_2, v1_3, rfl⟩ := Dependency_form h1
  have A1 := Lib.hid h1
  have W1 := Lib.hid hw1
  clear h1 hw1
  by_cases hz1 : ((RelationS_sz x0 : Nat) : Int) ≤ 1048576
  rotate_left
  · skip
    have e1 := szLeft_no hz1
    have hb1 : Below w.heap.size w (w.alloc (.cells #[.slice v1_0 x1.body.length v1_1, .slice v1_2 x1.head.length v1_3, .bool x1.egd, .int .i64 x1.left, .int .i64 x1.right] 40)) := below_more (Below.refl _ _) _
    have z1 : w.heap.size + 1 ≤ (w.alloc (.cells #[.slice v1_0 x1.body.length v1_1, .slice v1_2 x1.head.length v1_3, .bool x1.egd, .int .i64 x1.left, .int .i64 x1.right] 40)).heap.size := by simp
    have K1 := Lib.hid (show (w.alloc (.cells #[.slice v1_0 x1.body.length v1_1, .slice v1_2 x1.head.length v1_3, .bool x1.egd, .int .i64 x1.left, .int .i64 x1.right] 40)).cell? ⟨w.heap.size, 0, none⟩ = some (.slice v1_0 x1.body.length v1_1) by simp [go_sem])
    have K2 := Lib.hid (show (w.alloc (.cells #[.slice v1_0 x1.body.length v1_1, .slice v1_2 x1.head.length v1_3, .bool x1.egd, .int .i64 x1.left, .int .i64 x1.right] 40)).cell? ⟨w.heap.size, 1, none⟩ = some (.slice v1_2 x1.head.length v1_3) by simp [go_sem])
    have K3 := Lib.hid (show (w.alloc (.cells #[.slice v1_0 x1.body.length v1_1, .slice v1_2 x1.head.length v1_3, .bool x1.egd, .int .i64 x1.left, .int .i64 x1.right] 40)).cell? ⟨w.heap.size, 2, none⟩ = some (.bool x1.egd) by simp [go_sem])
    have K4 := Lib.hid (show (w.alloc (.cells #[.slice v1_0 x1.body.length v1_1, .slice v1_2 x1.head.length v1_3, .bool x1.egd, .int .i64 x1.left, .int .i64 x1.right] 40)).cell? ⟨w.heap.size, 3, none⟩ = some (.int .i64 x1.left) by simp [go_sem])
    have K5 := Lib.hid (show (w.alloc (.cells #[.slice v1_0 x1.body.length v1_1, .slice v1_2 x1.head.length v1_3, .bool x1.egd, .int .i64 x1.left, .int .i64 x1.right] 40)).cell? ⟨w.heap.size, 4, none⟩ = some (.int .i64 x1.right) by simp [go_sem])
    go_enter Tryd.func5, Tryd.ntmps5
    have c0_1 : Below w.heap.size w (w.alloc (.cells #[.slice v1_0 x1.body.length v1_1, .slice v1_2 x1.head.length v1_3, .bool x1.egd, .int .i64 x1.left, .int .i64 x1.right] 40)) := hb1
    go_wp2_with fail
    refine (szRelationS_c _ x0 (1048576) _ ((A0.out.below c0_1 (Nat.le_refl _)).more c0_1.size) W0.out (by omega) (by omega)).mono ?_
    rw [e1]
    rintro e w2 ⟨rfl, hb2⟩
    have z2 : (w.alloc (.cells #[.slice v1_0 x1.body.length v1_1, .slice v1_2 x1.head.length v1_3, .bool x1.egd, .int .i64 x1.left, .int .i64 x1.right] 40)).heap.size ≤ w2.heap.size := hb2.size
    have c0_2 : Below w.heap.size w w2 := (c0_1.trans (hb2.mono (by omega)))
    go_wp2
    go_ret
    exact ⟨rfl, c0_2⟩
  by_cases hz2 : ((Dependency_sz x1 : Nat) : Int) ≤ 1048576 - (RelationS_sz x0 : Nat)
  rotate_left
  · skip
    have e1 := szLeft_yes hz1
    have e2 := szLeft_no hz2
    have hb1 : Below w.heap.size w (w.alloc (.cells #[.slice v1_0 x1.body.length v1_1, .slice v1_2 x1.head.length v1_3, .bool x1.egd, .int .i64 x1.left, .int .i64 x1.right] 40)) := below_more (Below.refl _ _) _
    have z1 : w.heap.size + 1 ≤ (w.alloc (.cells #[.slice v1_0 x1.body.length v1_1, .slice v1_2 x1.head.length v1_3, .bool x1.egd, .int .i64 x1.left, .int .i64 x1.right] 40)).heap.size := by simp
    have K1 := Lib.hid (show (w.alloc (.cells #[.slice v1_0 x1.body.length v1_1, .slice v1_2 x1.head.length v1_3, .bool x1.egd, .int .i64 x1.left, .int .i64 x1.right] 40)).cell? ⟨w.heap.size, 0, none⟩ = some (.slice v1_0 x1.body.length v1_1) by simp [go_sem])
    have K2 := Lib.hid (show (w.alloc (.cells #[.slice v1_0 x1.body.length v1_1, .slice v1_2 x1.head.length v1_3, .bool x1.egd, .int .i64 x1.left, .int .i64 x1.right] 40)).cell? ⟨w.heap.size, 1, none⟩ = some (.slice v1_2 x1.head.length v1_3) by simp [go_sem])
    have K3 := Lib.hid (show (w.alloc (.cells #[.slice v1_0 x1.body.length v1_1, .slice v1_2 x1.head.length v1_3, .bool x1.egd, .int .i64 x1.left, .int .i64 x1.right] 40)).cell? ⟨w.heap.size, 2, none⟩ = some (.bool x1.egd) by simp [go_sem])
    have K4 := Lib.hid (show (w.alloc (.cells #[.slice v1_0 x1.body.length v1_1, .slice v1_2 x1.head.length v1_3, .bool x1.egd, .int .i64 x1.left, .int .i64 x1.right] 40)).cell? ⟨w.heap.size, 3, none⟩ = some (.int .i64 x1.left) by simp [go_sem])
    have K5 := Lib.hid (show (w.alloc (.cells #[.slice v1_0 x1.body.length v1_1, .slice v1_2 x1.head.length v1_3, .bool x1.egd, .int .i64 x1.left, .int .i64 x1.right] 40)).cell? ⟨w.heap.size, 4, none⟩ = some (.int .i64 x1.right) by simp [go_sem])
    go_enter Tryd.func5, Tryd.ntmps5
    have c0_1 : Below w.heap.size w (w.alloc (.cells #[.slice v1_0 x1.body.length v1_1, .slice v1_2 x1.head.length v1_3, .bool x1.egd, .int .i64 x1.left, .int .i64 x1.right] 40)) := hb1
    go_wp2_with fail
    refine (szRelationS_c _ x0 (1048576) _ ((A0.out.below c0_1 (Nat.le_refl _)).more c0_1.size) W0.out (by omega) (by omega)).mono ?_
    rw [e1]
    rintro e w2 ⟨rfl, hb2⟩
    have z2 : (w.alloc (.cells #[.slice v1_0 x1.body.length v1_1, .slice v1_2 x1.head.length v1_3, .bool x1.egd, .int .i64 x1.left, .int .i64 x1.right] 40)).heap.size ≤ w2.heap.size := hb2.size
    have c1_2 : Below (w.alloc (.cells #[.slice v1_0 x1.body.length v1_1, .slice v1_2 x1.head.length v1_3, .bool x1.egd, .int .i64 x1.left, .int .i64 x1.right] 40)).heap.size (w.alloc (.cells #[.slice v1_0 x1.body.length v1_1, .slice v1_2 x1.head.length v1_3, .bool x1.egd, .int .i64 x1.left, .int .i64 x1.right] 40)) w2 := hb2
    have f6 : w2.cell? ⟨w.heap.size, 0, none⟩ = some (.slice v1_0 x1.body.length v1_1) := ((c1_2).cell (p := ⟨w.heap.size, 0, none⟩) (by show w.heap.size < _; omega)).trans K1.out
    have f7 : w2.cell? ⟨w.heap.size, 1, none⟩ = some (.slice v1_2 x1.head.length v1_3) := ((c1_2).cell (p := ⟨w.heap.size, 1, none⟩) (by show w.heap.size < _; omega)).trans K2.out
    have f8 : w2.cell? ⟨w.heap.size, 2, none⟩ = some (.bool x1.egd) := ((c1_2).cell (p := ⟨w.heap.size, 2, none⟩) (by show w.heap.size < _; omega)).trans K3.out
    have f9 : w2.cell? ⟨w.heap.size, 3, none⟩ = some (.int .i64 x1.left) := ((c1_2).cell (p := ⟨w.heap.size, 3, none⟩) (by show w.heap.size < _; omega)).trans K4.out
    have f10 : w2.cell? ⟨w.heap.size, 4, none⟩ = some (.int .i64 x1.right) := ((c1_2).cell (p := ⟨w.heap.size, 4, none⟩) (by show w.heap.size < _; omega)).trans K5.out
    have c0_2 : Below w.heap.size w w2 := (c0_1.trans (hb2.mono (by omega)))
    go_wp2_with fail
    refine (szDependency_c _ x1 (1048576 - (RelationS_sz x0 : Nat)) _ ((A1.out.below c0_2 (Nat.le_refl _)).more c0_2.size) W1.out (by omega) (by omega)).mono ?_
    rw [e2]
    rintro e w3 ⟨rfl, hb3⟩
    have z3 : w2.heap.size ≤ w3.heap.size := hb3.size
    clear f6 f7 f8 f9 f10
    have c0_3 : Below w.heap.size w w3 := (c0_2.trans (hb3.mono (by omega)))
    go_wp2
    go_ret
    exact ⟨rfl, c0_3⟩
  have e1 := szLeft_yes hz1
  have S0 : RelationS_sz x0 ≤ 1048576 := by omega
  have N0 := RelationS_cnt_le x0
  have e2 := szLeft_yes hz2
  have S1 : Dependency_sz x1 ≤ 1048576 := by omega
  have N1 := Dependency_cnt_le x1
  have hb1 : Below w.heap.size w (w.alloc (.cells #[.slice v1_0 x1.body.length v1_1, .slice v1_2 x1.head.length v1_3, .bool x1.egd, .int .i64 x1.left, .int .i64 x1.right] 40)) := below_more (Below.refl _ _) _
  have z1 : w.heap.size + 1 ≤ (w.alloc (.cells #[.slice v1_0 x1.body.length v1_1, .slice v1_2 x1.head.length v1_3, .bool x1.egd, .int .i64 x1.left, .int .i64 x1.right] 40)).heap.size := by simp
  have K1 := Lib.hid (show (w.alloc (.cells #[.slice v1_0 x1.body.length v1_1, .slice v1_2 x1.head.length v1_3, .bool x1.egd, .int .i64 x1.left, .int .i64 x1.right] 40)).cell? ⟨w.heap.size, 0, none⟩ = some (.slice v1_0 x1.body.length v1_1) by simp [go_sem])
  have K2 := Lib.hid (show (w.alloc (.cells #[.slice v1_0 x1.body.length v1_1, .slice v1_2 x1.head.length v1_3, .bool x1.egd, .int .i64 x1.left, .int .i64 x1.right] 40)).cell? ⟨w.heap.size, 1, none⟩ = some (.slice v1_2 x1.head.length v1_3) by simp [go_sem])
  have K3 := Lib.hid (show (w.alloc (.cells #[.slice v1_0 x1.body.length v1_1, .slice v1_2 x1.head.length v1_3, .bool x1.egd, .int .i64 x1.left, .int .i64 x1.right] 40)).cell? ⟨w.heap.size, 2, none⟩ = some (.bool x1.egd) by simp [go_sem])
  have K4 := Lib.hid (show (w.alloc (.cells #[.slice v1_0 x1.body.length v1_1, .slice v1_2 x1.head.length v1_3, .bool x1.egd, .int .i64 x1.left, .int .i64 x1.right] 40)).cell? ⟨w.heap.size, 3, none⟩ = some (.int .i64 x1.left) by simp [go_sem])
  have K5 := Lib.hid (show (w.alloc (.cells #[.slice v1_0 x1.body.length v1_1, .slice v1_2 x1.head.length v1_3, .bool x1.egd, .int .i64 x1.left, .int .i64 x1.right] 40)).cell? ⟨w.heap.size, 4, none⟩ = some (.int .i64 x1.right) by simp [go_sem])
  go_enter Tryd.func5, Tryd.ntmps5
  have c0_1 : Below w.heap.size w (w.alloc (.cells #[.slice v1_0 x1.body.length v1_1, .slice v1_2 x1.head.length v1_3, .bool x1.egd, .int .i64 x1.left, .int .i64 x1.right] 40)) := hb1
  go_wp2_with fail
  refine (szRelationS_c _ x0 (1048576) _ ((A0.out.below c0_1 (Nat.le_refl _)).more c0_1.size) W0.out (by omega) (by omega)).mono ?_
  rw [e1]
  rintro e w2 ⟨rfl, hb2⟩
  have z2 : (w.alloc (.cells #[.slice v1_0 x1.body.length v1_1, .slice v1_2 x1.head.length v1_3, .bool x1.egd, .int .i64 x1.left, .int .i64 x1.right] 40)).heap.size ≤ w2.heap.size := hb2.size
  have c1_2 : Below (w.alloc (.cells #[.slice v1_0 x1.body.length v1_1, .slice v1_2 x1.head.length v1_3, .bool x1.egd, .int .i64 x1.left, .int .i64 x1.right] 40)).heap.size (w.alloc (.cells #[.slice v1_0 x1.body.length v1_1, .slice v1_2 x1.head.length v1_3, .bool x1.egd, .int .i64 x1.left, .int .i64 x1.right] 40)) w2 := hb2
  have f11 : w2.cell? ⟨w.heap.size, 0, none⟩ = some (.slice v1_0 x1.body.length v1_1) := ((c1_2).cell (p := ⟨w.heap.size, 0, none⟩) (by show w.heap.size < _; omega)).trans K1.out
  have f12 : w2.cell? ⟨w.heap.size, 1, none⟩ = some (.slice v1_2 x1.head.length v1_3) := ((c1_2).cell (p := ⟨w.heap.size, 1, none⟩) (by show w.heap.size < _; omega)).trans K2.out
  have f13 : w2.cell? ⟨w.heap.size, 2, none⟩ = some (.bool x1.egd) := ((c1_2).cell (p := ⟨w.heap.size, 2, none⟩) (by show w.heap.size < _; omega)).trans K3.out
  have f14 : w2.cell? ⟨w.heap.size, 3, none⟩ = some (.int .i64 x1.left) := ((c1_2).cell (p := ⟨w.heap.size, 3, none⟩) (by show w.heap.size < _; omega)).trans K4.out
  have f15 : w2.cell? ⟨w.heap.size, 4, none⟩ = some (.int .i64 x1.right) := ((c1_2).cell (p := ⟨w.heap.size, 4, none⟩) (by show w.heap.size < _; omega)).trans K5.out
  have c0_2 : Below w.heap.size w w2 := (c0_1.trans (hb2.mono (by omega)))
  go_wp2_with fail
  refine (szDependency_c _ x1 (1048576 - (RelationS_sz x0 : Nat)) _ ((A1.out.below c0_2 (Nat.le_refl _)).more c0_2.size) W1.out (by omega) (by omega)).mono ?_
  rw [e2]
  rintro e w3 ⟨rfl, hb3⟩
  have z3 : w2.heap.size ≤ w3.heap.size := hb3.size
  clear f11 f12 f13 f14 f15
  go_wp2_with fail
  have c1_3 : Below (w.alloc (.cells #[.slice v1_0 x1.body.length v1_1, .slice v1_2 x1.head.length v1_3, .bool x1.egd, .int .i64 x1.left, .int .i64 x1.right] 40)).heap.size (w.alloc (.cells #[.slice v1_0 x1.body.length v1_1, .slice v1_2 x1.head.length v1_3, .bool x1.egd, .int .i64 x1.left, .int .i64 x1.right] 40)) w3 := (c1_2.trans (hb3.mono (by omega)))
  have f16 : w3.cell? ⟨w.heap.size, 0, none⟩ = some (.slice v1_0 x1.body.length v1_1) := ((c1_3).cell (p := ⟨w.heap.size, 0, none⟩) (by show w.heap.size < _; omega)).trans K1.out
  have gf16 := Aft.cell (B := w3.heap.size) (by omega) f16
  clear f16
  have f17 : w3.cell? ⟨w.heap.size, 1, none⟩ = some (.slice v1_2 x1.head.length v1_3) := ((c1_3).cell (p := ⟨w.heap.size, 1, none⟩) (by show w.heap.size < _; omega)).trans K2.out
  have gf17 := Aft.cell (B := w3.heap.size) (by omega) f17
  clear f17
  have f18 : w3.cell? ⟨w.heap.size, 2, none⟩ = some (.bool x1.egd) := ((c1_3).cell (p := ⟨w.heap.size, 2, none⟩) (by show w.heap.size < _; omega)).trans K3.out
  have gf18 := Aft.cell (B := w3.heap.size) (by omega) f18
  clear f18
  have f19 : w3.cell? ⟨w.heap.size, 3, none⟩ = some (.int .i64 x1.left) := ((c1_3).cell (p := ⟨w.heap.size, 3, none⟩) (by show w.heap.size < _; omega)).trans K4.out
  have gf19 := Aft.cell (B := w3.heap.size) (by omega) f19
  clear f19
  have f20 : w3.cell? ⟨w.heap.size, 4, none⟩ = some (.int .i64 x1.right) := ((c1_3).cell (p := ⟨w.heap.size, 4, none⟩) (by show w.heap.size < _; omega)).trans K5.out
  have gf20 := Aft.cell (B := w3.heap.size) (by omega) f20
  clear f20
  refine wp_region_plan (C := fun w' => ∃ u : Aft w3.heap.size w3, w' = u.now) (.still 0 (.move true 1 (.still 2 (.move true 3 (.move true 4 (.still 5 .done) .none) .none)) .none)) (by kernel_rfl) (by kernel_rfl) (by kernel_rfl) (fun _ => ⟨⟨_, (Below.refl _ _).drew⟩, rfl⟩) ?_
  have hb4 : Below w3.heap.size w3 w3.drew := (Below.refl _ _).drew
  have z4 : w3.drew.heap.size = w3.heap.size := rfl
  have c0_4 : Below w.heap.size w w3.drew := ((c0_2.trans (hb3.mono (by omega))).trans (hb4.mono (by omega)))
  refine plan_look _ rfl rfl ?_
  go_big_quiet_step (fail)
  refine wpQuiet_nil ?_
  refine plan_call _ 11 _ _ _ _ _ rfl _ Tryd.func11 (by kernel_rfl) (by kernel_rfl) ?_ True.intro
  show Calls Tryd.prog 11 #[v0] _ _
  refine (toRelationS_c _ x0 _ ((A0.out.below c0_4 (Nat.le_refl _)).more c0_4.size) S0).mono ?_
  rintro e w5 ⟨u21, rfl, ou21, hb5⟩
  have z5 : w3.drew.heap.size ≤ w5.heap.size := hb5.size
  have c3_5 : Below w3.heap.size w3 w5 := (hb4.trans (hb5.mono (by omega)))
  refine ⟨_, rfl, fun _ => ⟨⟨_, c3_5⟩, rfl⟩, ?_⟩
  refine plan_put ?_ (by simp only [Act.put, List.setIfInBounds_toArray, List.set_cons_succ, List.set_cons_zero]; rfl)
  have c0_5 : Below w.heap.size w w5 := (c0_4.trans (hb5.mono (by omega)))
  refine plan_look _ rfl rfl ?_
  go_big_quiet_step (fail)
  refine wpQuiet_nil ?_
  refine plan_call _ 18 _ _ _ _ _ rfl _ Tryd.func18 (by kernel_rfl) (by kernel_rfl) ?_ True.intro
  show Calls Tryd.prog 18 #[.agg #[.slice v1_0 x1.body.length v1_1, .slice v1_2 x1.head.length v1_3, .bool x1.egd, .int .i64 x1.left, .int .i64 x1.right]] _ _
  refine (toDependency_c _ x1 _ ((A1.out.below c0_5 (Nat.le_refl _)).more c0_5.size) S1).mono ?_
  rintro e w6 ⟨u22, rfl, ou22, hb6⟩
  have z6 : w5.heap.size ≤ w6.heap.size := hb6.size
  obtain ⟨y23_0, y23_1, y23_2, y23_3, rfl⟩ := Dependency_form (ou22.at_ (Nat.le_refl _))
  have c3_6 : Below w3.heap.size w3 w6 := (c3_5.trans (hb6.mono (by omega)))
  refine ⟨_, rfl, fun _ => ⟨⟨_, c3_6⟩, rfl⟩, ?_⟩
  refine plan_put ?_ (by simp only [Act.put, List.setIfInBounds_toArray, List.set_cons_succ, List.set_cons_zero]; rfl)
  have c5_6 : Below w5.heap.size w5 w6 := hb6
  refine plan_call _ 17 _ _ _ _ _ rfl _ Tryd.func17 (by kernel_rfl) (by kernel_rfl) ?_ True.intro
  show Calls Tryd.prog 17 #[u21, .agg #[.slice y23_0 x1.body.length y23_1, .slice y23_2 x1.head.length y23_3, .bool x1.egd, .int .i64 x1.left, .int .i64 x1.right]] _ _
  refine (specFormatDependency_c _ x0 _ x1 _ ((ou21.below c5_6 (Nat.le_refl _)).at_ (by omega)) W0.out S0 ((ou22.below (Below.refl w6.heap.size w6) (Nat.le_refl _)).at_ (Nat.le_refl _)) W1.out S1).mono ?_
  rintro e w7 ⟨rfl, hb7⟩
  have z7 : w6.heap.size ≤ w7.heap.size := hb7.size
  have c3_7 : Below w3.heap.size w3 w7 := (c3_6.trans (hb7.mono (by omega)))
  refine ⟨_, rfl, fun _ => ⟨⟨_, c3_7⟩, rfl⟩, ?_⟩
  refine plan_put ?_ (by simp only [Act.put, List.setIfInBounds_toArray, List.set_cons_succ, List.set_cons_zero]; rfl)
  refine plan_look _ rfl rfl ?_
  go_big_quiet_step (fail)
  refine wpQuiet_nil ?_
  refine plan_done ?_
  clear gf16 gf17 gf18 gf19 gf20
  have c0_7 : Below w.heap.size w w7 := ((c0_5.trans (hb6.mono (by omega))).trans (hb7.mono (by omega)))
  go_wp2_with fail
  refine (toRelationS_c _ x0 _ ((A0.out.below c0_7 (Nat.le_refl _)).more c0_7.size) S0).mono ?_
  rintro e w8 ⟨u25, rfl, ou25, hb8⟩
  have z8 : w7.heap.size ≤ w8.heap.size := hb8.size
  have c1_8 : Below (w.alloc (.cells #[.slice v1_0 x1.body.length v1_1, .slice v1_2 x1.head.length v1_3, .bool x1.egd, .int .i64 x1.left, .int .i64 x1.right] 40)).heap.size (w.alloc (.cells #[.slice v1_0 x1.body.length v1_1, .slice v1_2 x1.head.length v1_3, .bool x1.egd, .int .i64 x1.left, .int .i64 x1.right] 40)) w8 := (((((c1_3.trans (hb4.mono (by omega))).trans (hb5.mono (by omega))).trans (hb6.mono (by omega))).trans (hb7.mono (by omega))).trans (hb8.mono (by omega)))
  have f26 : w8.cell? ⟨w.heap.size, 0, none⟩ = some (.slice v1_0 x1.body.length v1_1) := ((c1_8).cell (p := ⟨w.heap.size, 0, none⟩) (by show w.heap.size < _; omega)).trans K1.out
  have f27 : w8.cell? ⟨w.heap.size, 1, none⟩ = some (.slice v1_2 x1.head.length v1_3) := ((c1_8).cell (p := ⟨w.heap.size, 1, none⟩) (by show w.heap.size < _; omega)).trans K2.out
  have f28 : w8.cell? ⟨w.heap.size, 2, none⟩ = some (.bool x1.egd) := ((c1_8).cell (p := ⟨w.heap.size, 2, none⟩) (by show w.heap.size < _; omega)).trans K3.out
  have f29 : w8.cell? ⟨w.heap.size, 3, none⟩ = some (.int .i64 x1.left) := ((c1_8).cell (p := ⟨w.heap.size, 3, none⟩) (by show w.heap.size < _; omega)).trans K4.out
  have f30 : w8.cell? ⟨w.heap.size, 4, none⟩ = some (.int .i64 x1.right) := ((c1_8).cell (p := ⟨w.heap.size, 4, none⟩) (by show w.heap.size < _; omega)).trans K5.out
  have c0_8 : Below w.heap.size w w8 := (c0_7.trans (hb8.mono (by omega)))
  go_wp2_with fail
  refine (toDependency_c _ x1 _ ((A1.out.below c0_8 (Nat.le_refl _)).more c0_8.size) S1).mono ?_
  rintro e w9 ⟨u31, rfl, ou31, hb9⟩
  have z9 : w8.heap.size ≤ w9.heap.size := hb9.size
  obtain ⟨y32_0, y32_1, y32_2, y32_3, rfl⟩ := Dependency_form (ou31.at_ (Nat.le_refl _))
  have hb10 : Below w9.heap.size w9 (w9.alloc (.cells #[.slice y32_0 x1.body.length y32_1, .slice y32_2 x1.head.length y32_3, .bool x1.egd, .int .i64 x1.left, .int .i64 x1.right] 45)) := below_more (Below.refl _ _) _
  have z10 : w9.heap.size + 1 ≤ (w9.alloc (.cells #[.slice y32_0 x1.body.length y32_1, .slice y32_2 x1.head.length y32_3, .bool x1.egd, .int .i64 x1.left, .int .i64 x1.right] 45)).heap.size := by simp
  have K33 := Lib.hid (show (w9.alloc (.cells #[.slice y32_0 x1.body.length y32_1, .slice y32_2 x1.head.length y32_3, .bool x1.egd, .int .i64 x1.left, .int .i64 x1.right] 45)).cell? ⟨w9.heap.size, 0, none⟩ = some (.slice y32_0 x1.body.length y32_1) by simp [go_sem])
  have K34 := Lib.hid (show (w9.alloc (.cells #[.slice y32_0 x1.body.length y32_1, .slice y32_2 x1.head.length y32_3, .bool x1.egd, .int .i64 x1.left, .int .i64 x1.right] 45)).cell? ⟨w9.heap.size, 1, none⟩ = some (.slice y32_2 x1.head.length y32_3) by simp [go_sem])
  have K35 := Lib.hid (show (w9.alloc (.cells #[.slice y32_0 x1.body.length y32_1, .slice y32_2 x1.head.length y32_3, .bool x1.egd, .int .i64 x1.left, .int .i64 x1.right] 45)).cell? ⟨w9.heap.size, 2, none⟩ = some (.bool x1.egd) by simp [go_sem])
  have K36 := Lib.hid (show (w9.alloc (.cells #[.slice y32_0 x1.body.length y32_1, .slice y32_2 x1.head.length y32_3, .bool x1.egd, .int .i64 x1.left, .int .i64 x1.right] 45)).cell? ⟨w9.heap.size, 3, none⟩ = some (.int .i64 x1.left) by simp [go_sem])
  have K37 := Lib.hid (show (w9.alloc (.cells #[.slice y32_0 x1.body.length y32_1, .slice y32_2 x1.head.length y32_3, .bool x1.egd, .int .i64 x1.left, .int .i64 x1.right] 45)).cell? ⟨w9.heap.size, 4, none⟩ = some (.int .i64 x1.right) by simp [go_sem])
  clear f26 f27 f28 f29 f30
  have f38 : (w9.alloc (.cells #[.slice y32_0 x1.body.length y32_1, .slice y32_2 x1.head.length y32_3, .bool x1.egd, .int .i64 x1.left, .int .i64 x1.right] 45)).cell? ⟨w9.heap.size, 0, none⟩ = some (.slice y32_0 x1.body.length y32_1) := K33.out
  have f39 : (w9.alloc (.cells #[.slice y32_0 x1.body.length y32_1, .slice y32_2 x1.head.length y32_3, .bool x1.egd, .int .i64 x1.left, .int .i64 x1.right] 45)).cell? ⟨w9.heap.size, 1, none⟩ = some (.slice y32_2 x1.head.length y32_3) := K34.out
  have f40 : (w9.alloc (.cells #[.slice y32_0 x1.body.length y32_1, .slice y32_2 x1.head.length y32_3, .bool x1.egd, .int .i64 x1.left, .int .i64 x1.right] 45)).cell? ⟨w9.heap.size, 2, none⟩ = some (.bool x1.egd) := K35.out
  have f41 : (w9.alloc (.cells #[.slice y32_0 x1.body.length y32_1, .slice y32_2 x1.head.length y32_3, .bool x1.egd, .int .i64 x1.left, .int .i64 x1.right] 45)).cell? ⟨w9.heap.size, 3, none⟩ = some (.int .i64 x1.left) := K36.out
  have f42 : (w9.alloc (.cells #[.slice y32_0 x1.body.length y32_1, .slice y32_2 x1.head.length y32_3, .bool x1.egd, .int .i64 x1.left, .int .i64 x1.right] 45)).cell? ⟨w9.heap.size, 4, none⟩ = some (.int .i64 x1.right) := K37.out
  have c8_10 : Below w8.heap.size w8 (w9.alloc (.cells #[.slice y32_0 x1.body.length y32_1, .slice y32_2 x1.head.length y32_3, .bool x1.egd, .int .i64 x1.left, .int .i64 x1.right] 45)) := (hb9.trans (hb10.mono (by omega)))
  have c9_10 : Below w9.heap.size w9 (w9.alloc (.cells #[.slice y32_0 x1.body.length y32_1, .slice y32_2 x1.head.length y32_3, .bool x1.egd, .int .i64 x1.left, .int .i64 x1.right] 45)) := hb10
  have c0_10 : Below w.heap.size w (w9.alloc (.cells #[.slice y32_0 x1.body.length y32_1, .slice y32_2 x1.head.length y32_3, .bool x1.egd, .int .i64 x1.left, .int .i64 x1.right] 45)) := ((c0_8.trans (hb9.mono (by omega))).trans (hb10.mono (by omega)))
  go_wp2_with fail
  refine (implFormatDependency_c _ x0 _ x1 _ ((ou25.below c8_10 (Nat.le_refl _)).at_ (by omega)) W0.out S0 ((ou31.below c9_10 (Nat.le_refl _)).at_ (by omega)) W1.out S1 (ht.below c0_10)).mono ?_
  rintro e w11 ⟨rfl, hb11⟩
  have z11 : (w9.alloc (.cells #[.slice y32_0 x1.body.length y32_1, .slice y32_2 x1.head.length y32_3, .bool x1.egd, .int .i64 x1.left, .int .i64 x1.right] 45)).heap.size ≤ w11.heap.size := hb11.size
  clear f38 f39 f40 f41 f42
  have c0_11 : Below w.heap.size w w11 := (c0_10.trans (hb11.mono (by omega)))
  go_wp2_with fail
  refine (toRelationS_c _ x0 _ ((A0.out.below c0_11 (Nat.le_refl _)).more c0_11.size) S0).mono ?_
  rintro e w12 ⟨u44, rfl, ou44, hb12⟩
  have z12 : w11.heap.size ≤ w12.heap.size := hb12.size
  have c8_12 : Below w8.heap.size w8 w12 := ((c8_10.trans (hb11.mono (by omega))).trans (hb12.mono (by omega)))
  go_wp2_with fail
  refine (eqRelationS_c _ _ x0 _ ((ou25.below c8_12 (Nat.le_refl _)).at_ (by omega)) ((ou44.below (Below.refl w12.heap.size w12) (Nat.le_refl _)).at_ (Nat.le_refl _))).mono ?_
  rintro e w13 ⟨rfl, hb13⟩
  have z13 : w12.heap.size ≤ w13.heap.size := hb13.size
  go_wp2_with fail
  have c10_13 : Below (w9.alloc (.cells #[.slice y32_0 x1.body.length y32_1, .slice y32_2 x1.head.length y32_3, .bool x1.egd, .int .i64 x1.left, .int .i64 x1.right] 45)).heap.size (w9.alloc (.cells #[.slice y32_0 x1.body.length y32_1, .slice y32_2 x1.head.length y32_3, .bool x1.egd, .int .i64 x1.left, .int .i64 x1.right] 45)) w13 := ((hb11.trans (hb12.mono (by omega))).trans (hb13.mono (by omega)))
  have f45 : w13.cell? ⟨w9.heap.size, 0, none⟩ = some (.slice y32_0 x1.body.length y32_1) := ((c10_13).cell (p := ⟨w9.heap.size, 0, none⟩) (by show w9.heap.size < _; omega)).trans K33.out
  have gf45 := Aft.cell (B := w13.heap.size) (by omega) f45
  clear f45
  have f46 : w13.cell? ⟨w9.heap.size, 1, none⟩ = some (.slice y32_2 x1.head.length y32_3) := ((c10_13).cell (p := ⟨w9.heap.size, 1, none⟩) (by show w9.heap.size < _; omega)).trans K34.out
  have gf46 := Aft.cell (B := w13.heap.size) (by omega) f46
  clear f46
  have f47 : w13.cell? ⟨w9.heap.size, 2, none⟩ = some (.bool x1.egd) := ((c10_13).cell (p := ⟨w9.heap.size, 2, none⟩) (by show w9.heap.size < _; omega)).trans K35.out
  have gf47 := Aft.cell (B := w13.heap.size) (by omega) f47
  clear f47
  have f48 : w13.cell? ⟨w9.heap.size, 3, none⟩ = some (.int .i64 x1.left) := ((c10_13).cell (p := ⟨w9.heap.size, 3, none⟩) (by show w9.heap.size < _; omega)).trans K36.out
  have gf48 := Aft.cell (B := w13.heap.size) (by omega) f48
  clear f48
  have f49 : w13.cell? ⟨w9.heap.size, 4, none⟩ = some (.int .i64 x1.right) := ((c10_13).cell (p := ⟨w9.heap.size, 4, none⟩) (by show w9.heap.size < _; omega)).trans K37.out
  have gf49 := Aft.cell (B := w13.heap.size) (by omega) f49
  clear f49
  have c1_13 : Below (w.alloc (.cells #[.slice v1_0 x1.body.length v1_1, .slice v1_2 x1.head.length v1_3, .bool x1.egd, .int .i64 x1.left, .int .i64 x1.right] 40)).heap.size (w.alloc (.cells #[.slice v1_0 x1.body.length v1_1, .slice v1_2 x1.head.length v1_3, .bool x1.egd, .int .i64 x1.left, .int .i64 x1.right] 40)) w13 := (((((c1_8.trans (hb9.mono (by omega))).trans (hb10.mono (by omega))).trans (hb11.mono (by omega))).trans (hb12.mono (by omega))).trans (hb13.mono (by omega)))
  have f50 : w13.cell? ⟨w.heap.size, 0, none⟩ = some (.slice v1_0 x1.body.length v1_1) := ((c1_13).cell (p := ⟨w.heap.size, 0, none⟩) (by show w.heap.size < _; omega)).trans K1.out
  have gf50 := Aft.cell (B := w13.heap.size) (by omega) f50
  clear f50
  have f51 : w13.cell? ⟨w.heap.size, 1, none⟩ = some (.slice v1_2 x1.head.length v1_3) := ((c1_13).cell (p := ⟨w.heap.size, 1, none⟩) (by show w.heap.size < _; omega)).trans K2.out
  have gf51 := Aft.cell (B := w13.heap.size) (by omega) f51
  clear f51
  have f52 : w13.cell? ⟨w.heap.size, 2, none⟩ = some (.bool x1.egd) := ((c1_13).cell (p := ⟨w.heap.size, 2, none⟩) (by show w.heap.size < _; omega)).trans K3.out
  have gf52 := Aft.cell (B := w13.heap.size) (by omega) f52
  clear f52
  have f53 : w13.cell? ⟨w.heap.size, 3, none⟩ = some (.int .i64 x1.left) := ((c1_13).cell (p := ⟨w.heap.size, 3, none⟩) (by show w.heap.size < _; omega)).trans K4.out
  have gf53 := Aft.cell (B := w13.heap.size) (by omega) f53
  clear f53
  have f54 : w13.cell? ⟨w.heap.size, 4, none⟩ = some (.int .i64 x1.right) := ((c1_13).cell (p := ⟨w.heap.size, 4, none⟩) (by show w.heap.size < _; omega)).trans K5.out
  have gf54 := Aft.cell (B := w13.heap.size) (by omega) f54
  clear f54
  refine wp_region_plan (C := fun w' => ∃ u : Aft w13.heap.size w13, w' = u.now) (.still 0 (.still 1 (.move true 2 (.move true 3 (.still 4 .done) .none) .none))) (by kernel_rfl) (by kernel_rfl) (by kernel_rfl) (fun _ => ⟨⟨_, (Below.refl _ _).drew⟩, rfl⟩) ?_
  have hb14 : Below w13.heap.size w13 w13.drew := (Below.refl _ _).drew
  have z14 : w13.drew.heap.size = w13.heap.size := rfl
  have c0_14 : Below w.heap.size w w13.drew := (((c0_11.trans (hb12.mono (by omega))).trans (hb13.mono (by omega))).trans (hb14.mono (by omega)))
  refine plan_look _ rfl rfl ?_
  go_big_quiet_step (fail)
  refine wpQuiet_nil ?_
  refine plan_look _ rfl rfl ?_
  go_big_quiet_step (fail)
  refine wpQuiet_nil ?_
  refine plan_call _ 18 _ _ _ _ _ rfl _ Tryd.func18 (by kernel_rfl) (by kernel_rfl) ?_ True.intro
  show Calls Tryd.prog 18 #[.agg #[.slice v1_0 x1.body.length v1_1, .slice v1_2 x1.head.length v1_3, .bool x1.egd, .int .i64 x1.left, .int .i64 x1.right]] _ _
  refine (toDependency_c _ x1 _ ((A1.out.below c0_14 (Nat.le_refl _)).more c0_14.size) S1).mono ?_
  rintro e w15 ⟨u55, rfl, ou55, hb15⟩
  have z15 : w13.drew.heap.size ≤ w15.heap.size := hb15.size
  obtain ⟨y56_0, y56_1, y56_2, y56_3, rfl⟩ := Dependency_form (ou55.at_ (Nat.le_refl _))
  have c13_15 : Below w13.heap.size w13 w15 := (hb14.trans (hb15.mono (by omega)))
  refine ⟨_, rfl, fun _ => ⟨⟨_, c13_15⟩, rfl⟩, ?_⟩
  refine plan_put ?_ (by simp only [Act.put, List.setIfInBounds_toArray, List.set_cons_succ, List.set_cons_zero]; rfl)
  have c9_15 : Below w9.heap.size w9 w15 := (((((c9_10.trans (hb11.mono (by omega))).trans (hb12.mono (by omega))).trans (hb13.mono (by omega))).trans (hb14.mono (by omega))).trans (hb15.mono (by omega)))
  refine plan_call _ 20 _ _ _ _ _ rfl _ Tryd.func20 (by kernel_rfl) (by kernel_rfl) ?_ True.intro
  show Calls Tryd.prog 20 #[.agg #[.slice y32_0 x1.body.length y32_1, .slice y32_2 x1.head.length y32_3, .bool x1.egd, .int .i64 x1.left, .int .i64 x1.right], .agg #[.slice y56_0 x1.body.length y56_1, .slice y56_2 x1.head.length y56_3, .bool x1.egd, .int .i64 x1.left, .int .i64 x1.right]] _ _
  refine (eqDependency_c _ _ x1 _ ((ou31.below c9_15 (Nat.le_refl _)).at_ (by omega)) ((ou55.below (Below.refl w15.heap.size w15) (Nat.le_refl _)).at_ (Nat.le_refl _))).mono ?_
  rintro e w16 ⟨rfl, hb16⟩
  have z16 : w15.heap.size ≤ w16.heap.size := hb16.size
  have c13_16 : Below w13.heap.size w13 w16 := (c13_15.trans (hb16.mono (by omega)))
  refine ⟨_, rfl, fun _ => ⟨⟨_, c13_16⟩, rfl⟩, ?_⟩
  refine plan_put ?_ (by simp only [Act.put, List.setIfInBounds_toArray, List.set_cons_succ, List.set_cons_zero]; rfl)
  refine plan_look _ rfl rfl ?_
  go_big_quiet_step (fail)
  refine wpQuiet_nil ?_
  refine plan_done ?_
  clear gf45 gf46 gf47 gf48 gf49 gf50 gf51 gf52 gf53 gf54
  have c0_16 : Below w.heap.size w w16 := ((c0_14.trans (hb15.mono (by omega))).trans (hb16.mono (by omega)))
  go_wp2
  go_ret
  exact ⟨rfl, c0_16⟩

theorem ty : ∀ t ∈ Tryd.f5.params.toList, Tryd.prog.readableRec t = true ∧ t < Tryd.prog.types.size := by
  rw [Tryd.params5]; intro t ht
  simp only [List.mem_cons, List.not_mem_nil, or_false] at ht
  rcases ht with rfl | rfl <;> exact ⟨by kernel_rfl, of_decide_eq_true (by kernel_rfl)⟩
noncomputable def laidWorld (os : Os) : World :=
  setVar (setVar (setVar (World.holding Tryd.prog os ⟨#[], #[], []⟩) 2 (aggCells Rows.laid_math_bits_deBruijn32tab)) 3 (aggCells Rows.laid_math_bits_deBruijn64tab)) 0 (aggCells Rows.laid_internal_strconv_uint64pow10)
theorem laid_met (os : Os) : laidMet Tryd.prog Rows.fnExactFormatDependencyRow.laid ((laidWorld os).forCall (fun _ _ => 0) ⟨#[], #[.slice none 0 0, .agg #[.slice none 0 0, .slice none 0 0, .bool false, .int .i64 0, .int .i64 0]], []⟩).memory :=
  laidMet_of_run' 100 (by kernel_rfl) (by kernel_rfl)
theorem reads (os : Os) {H : Type} (enc : TypeId × Value → H) : ∃ places, DataW.whole enc Tryd.prog ((laidWorld os).forCall (fun _ _ => 0) ⟨#[], #[.slice none 0 0, .agg #[.slice none 0 0, .slice none 0 0, .bool false, .int .i64 0, .int .i64 0]], []⟩).memory Tryd.f5.params.toList Rows.fnExactFormatDependencySpec.vars false (#[.slice none 0 0, .agg #[.slice none 0 0, .slice none 0 0, .bool false, .int .i64 0, .int .i64 0]] : Array Value).toList 8 = some ([.nil, .agg [.nil, .nil, .lit (.bool false), .lit (.int .i64 0), .lit (.int .i64 0)]], [], places) :=
  ⟨[], by kernel_rfl⟩
set_option maxRecDepth 100000 in
theorem lifted (os : Os) (started : os.Started) (H : Type) (enc : TypeId × Value → H) (F : Stop.Interp) :
    ReturnsInHanded {} Tryd.checked os 5 .any ((OpenSpec.ofChange Rows.fnExactFormatDependencySpec).preRow enc Tryd.prog Tryd.f5 Rows.fnExactFormatDependencyRow.domain false Rows.fnExactFormatDependencyRow.laid) (((OpenSpec.ofChange Rows.fnExactFormatDependencySpec).at F).post enc Tryd.prog Tryd.f5 false true false false) := by
  obtain ⟨places, hx⟩ := reads os enc
  refine returnsInHanded_of_row (C := Tryd.checked) (s := OpenSpec.ofChange Rows.fnExactFormatDependencySpec) ownFact started (by kernel_rfl) Tryd.func5
    (witness_row_at (enc := enc) (C := Tryd.checked) false (laidWorld os) #[.slice none 0 0, .agg #[.slice none 0 0, .slice none 0 0, .bool false, .int .i64 0, .int .i64 0]] rfl (by kernel_rfl) (by kernel_rfl) (by kernel_rfl)
      (OpenSpec.preRow_of_cond 8 hx (by kernel_rfl) (fun k hk => by cases hk) (by kernel_rfl) (laid_met os))) ?_
  intro W base args ds gs before hval0 hW _ _ _ hL hSh _
  have hval : ∀ (j : Nat) t v, Tryd.f5.params[j]? = some t → args[j]? = some v → Value.okWide Tryd.prog W .any base t v := hval0
  have hW' := hW
  obtain ⟨p, q, hA0, hV, _, hfz, hnd⟩ := hW
  have hA : DataW.TrodAll enc Tryd.prog W 0 (fun _ => true) true Tryd.f5.params.toList args.toList ds p := hA0
  rw [Tryd.params5] at hA hval
  obtain ⟨v0, vs0, d0, ds0, p0, q0, hargs, rfl, _, h0, r0⟩ := trodAll_cons hA
  obtain ⟨v1, vs1, d1, ds1, p1, q1, rfl, rfl, _, h1, r1⟩ := trodAll_cons r0
  obtain ⟨rfl, rfl, _⟩ := trodAll_nil r1
  obtain rfl : args = #[v0, v1] := by cases args; simp_all
  obtain ⟨rfl, _⟩ := trodVars_none hV
  obtain ⟨x0, hx0, hwx0⟩ := open_RelationS (hval 0 _ v0 rfl rfl) h0 (DataW.TrodAll.lt (trodAll_mk1 h0))
  obtain ⟨x1, hx1, hwx1⟩ := open_Dependency (hval 1 _ v1 rfl rfl) h1 (DataW.TrodAll.lt (trodAll_mk1 h1))
  have hL1 : laidMet Tryd.prog Rows.fnExactFormatDependencyRow.laid W := hL
  refine (walk v0 x0 v1 x1 W hx0 hwx0 hx1 hwx1 (tab_of_laid (laidMet.tail (laidMet.tail hL1)))).mono fun e W' ⟨he, hb⟩ => ?_
  subst he
  exact ⟨_, rfl, law_post laidFact ty Tryd.underlying4 (by kernel_rfl) rfl hW' rfl hb⟩
theorem said : Rows.FnExactFormatDependencySaid :=
  OpenClaim.holds_of_cond 5 Tryd.f5 rfl rfl rfl rfl rfl rfl rfl ⟨rfl, rfl, rfl, rfl, rfl⟩ rfl rfl rfl rfl rfl (by kernel_rfl) Tryd.func5 (by kernel_rfl)
    (of_decide_eq_true (by kernel_rfl)) (by unfold Func.isWrapper; first | (rw [if_pos (by decide +kernel)]; kernel_rfl) | (rw [if_neg (by decide +kernel)]; exact ⟨rfl, rfl⟩))
    (fun os started H enc _ F => by rw [OpenClaim.pre_eq_preRow]; exact lifted os started H enc F)
theorem plain (f : FuncId) (fn : Func) (hf : Tryd.pinned.checked.prog.funcNamed "loop.example/g01919/laws.FnExactFormatDependency" = some f) (hfn : Tryd.pinned.checked.prog.funcs[f]? = some fn) :
    false = Tryd.pinned.checked.prog.looks [] ∧ ∀ (j : Nat) t, fn.params[j]? = some t → Tryd.pinned.checked.prog.wantsStandIn t = false := by
  obtain rfl : f = 5 := Option.some.inj ((show Tryd.prog.funcNamed "loop.example/g01919/laws.FnExactFormatDependency" = some 5 by kernel_rfl).symm.trans hf) |>.symm
  obtain rfl : fn = Tryd.f5 := (Option.some.inj (Tryd.func5.symm.trans hfn)).symm
  refine ⟨by kernel_rfl, fun j t ht => ?_⟩
  rw [Tryd.params5] at ht
  have ht2 := Array.mem_of_getElem? ht
  simp only [List.mem_toArray, List.mem_cons, List.not_mem_nil, or_false] at ht2
  rcases ht2 with rfl | rfl
  · exact (show Tryd.prog.wantsStandIn 24 = false by kernel_rfl)
  · exact (show Tryd.prog.wantsStandIn 40 = false by kernel_rfl)
theorem holds : Rows.FnExactFormatDependencyCardSaid :=
  Claim7.holds_tied_plain_at .later [] _ _ _ _ said (fun _ h => by cases h) (by kernel_rfl) (fun _ h => by cases h) fnExactFormatDependency_row_tie rfl ⟨rfl, rfl⟩ (by kernel_rfl) rfl plain (by kernel_rfl)
end lawFnExactFormatDependency

end Go.Proofs.YtmecdjincmkofaaDoor
