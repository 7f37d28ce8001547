/-
  FnExactParseDependency: for every argument the translated law returns true, and each argument reads afterwards as it read before. Conditions: none beyond the given row's own.
-/
import Derived.Test.YtmecdjincmkofaaGreatDoorPlan
import Derived.Test.YtmecdjincmkofaaGreatDoorDepC
import Derived.Test.YtmecdjincmkofaaGreatDoorRelsC
import Derived.Test.YtmecdjincmkofaaGreatDoorFmtF
import Derived.Test.YtmecdjincmkofaaGreatDoorLift
import Derived.Test.YtmecdjincmkofaaGreatDoorLaid
import Derived.Test.YtmecdjincmkofaaGreatDoorParDS
import Derived.Test.YtmecdjincmkofaaGreatDoorReadD2
namespace Go.Proofs.YtmecdjincmkofaaGreatDoor
open Go.RowKit Go.ChangeShapes Go.WideShapes Go.ChangeAt Go.ChangeMaps

namespace lawFnExactParseDependency

set_option maxRecDepth 100000 in
set_option maxHeartbeats 1600000 in
theorem walk (v0 : Value) (x0 : List Rel) (s1 : ByteArray) (hs1 : s1.size ≤ maxLen) (w : World) (h0 : RelationS_at w w.heap.size v0 x0) (hw0 : RelationS_wf x0) (ht : Tab w) (hv : ErrVars w) (hm : MaxL w) :
    Calls Tryz.prog 6 #[v0, .string s1] w fun e w' => e = .returned (.bool true) ∧ Below w.heap.size w w' := by
  unfold maxLen at hs1
  have A0 := Lib.hid h0
  have W0 := Lib.hid hw0
  clear h0 hw0
  by_cases hlong1 : 1048576 < s1.size
  · skip
    go_enter Tryz.func6, Tryz.ntmps6
    go_wp2
    go_ret
    exact ⟨rfl, Below.refl _ _⟩
  by_cases hz1 : ((RelationS_sz x0 : Nat) : Int) ≤ 1048576
  rotate_left
  · skip
    have e1 := szLeft_no hz1
    go_enter Tryz.func6, Tryz.ntmps6
    go_wp2_with fail
    refine (szRelationS_c _ x0 (1048576) _ ((A0.out.below (Below.refl w.heap.size w) (Nat.le_refl _)).more (Below.refl w.heap.size w).size) W0.out (by omega) (by omega)).mono ?_
    rw [e1]
    rintro e w1 ⟨rfl, hb1⟩
    have z1 : w.heap.size ≤ w1.heap.size := hb1.size
    have c0_1 : Below w.heap.size w w1 := hb1
    go_wp2
    go_ret
    exact ⟨rfl, c0_1⟩
  have e1 := szLeft_yes hz1
  have S0 : RelationS_sz x0 ≤ 1048576 := by omega
  have N0 := RelationS_cnt_le x0
  have hl1 : s1.size ≤ 1048576 := by omega
  go_enter Tryz.func6, Tryz.ntmps6
  go_wp2_with fail
  refine (szRelationS_c _ x0 (1048576) _ ((A0.out.below (Below.refl w.heap.size w) (Nat.le_refl _)).more (Below.refl w.heap.size w).size) W0.out (by omega) (by omega)).mono ?_
  rw [e1]
  rintro e w1 ⟨rfl, hb1⟩
  have z1 : w.heap.size ≤ w1.heap.size := hb1.size
  have c0_1 : Below w.heap.size w w1 := hb1
  go_wp2_with fail
  refine (toRelationS_c _ x0 _ ((A0.out.below c0_1 (Nat.le_refl _)).more c0_1.size) S0).mono ?_
  rintro e w2 ⟨u1, rfl, ou1, hb2⟩
  have z2 : w1.heap.size ≤ w2.heap.size := hb2.size
  go_wp2_with fail
  refine (specParseDependency_c _ x0 s1 _ ((ou1.below (Below.refl w2.heap.size w2) (Nat.le_refl _)).at_ (Nat.le_refl _)) W0.out S0 hl1).mono ?_
  rintro e w3 ⟨r2_0, rfl, p2_0, hb3⟩
  have z3 : w2.heap.size ≤ w3.heap.size := hb3.size
  obtain ⟨y3_0, y3_1, y3_2, y3_3, rfl⟩ := Dependency_form p2_0
  have hb4 : Below w3.heap.size w3 (w3.alloc (.cells #[.slice y3_0 (ParseDependency_r0 x0 s1).body.length y3_1, .slice y3_2 (ParseDependency_r0 x0 s1).head.length y3_3, .bool (ParseDependency_r0 x0 s1).egd, .int .i64 (ParseDependency_r0 x0 s1).left, .int .i64 (ParseDependency_r0 x0 s1).right] 37)) := below_more (Below.refl _ _) _
  have z4 : w3.heap.size + 1 ≤ (w3.alloc (.cells #[.slice y3_0 (ParseDependency_r0 x0 s1).body.length y3_1, .slice y3_2 (ParseDependency_r0 x0 s1).head.length y3_3, .bool (ParseDependency_r0 x0 s1).egd, .int .i64 (ParseDependency_r0 x0 s1).left, .int .i64 (ParseDependency_r0 x0 s1).right] 37)).heap.size := by simp
  have K4 := Lib.hid (show (w3.alloc (.cells #[.slice y3_0 (ParseDependency_r0 x0 s1).body.length y3_1, .slice y3_2 (ParseDependency_r0 x0 s1).head.length y3_3, .bool (ParseDependency_r0 x0 s1).egd, .int .i64 (ParseDependency_r0 x0 s1).left, .int .i64 (ParseDependency_r0 x0 s1).right] 37)).cell? ⟨w3.heap.size, 0, none⟩ = some (.slice y3_0 (ParseDependency_r0 x0 s1).body.length y3_1) by simp [go_sem])
  have K5 := Lib.hid (show (w3.alloc (.cells #[.slice y3_0 (ParseDependency_r0 x0 s1).body.length y3_1, .slice y3_2 (ParseDependency_r0 x0 s1).head.length y3_3, .bool (ParseDependency_r0 x0 s1).egd, .int .i64 (ParseDependency_r0 x0 s1).left, .int .i64 (ParseDependency_r0 x0 s1).right] 37)).cell? ⟨w3.heap.size, 1, none⟩ = some (.slice y3_2 (ParseDependency_r0 x0 s1).head.length y3_3) by simp [go_sem])
  have K6 := Lib.hid (show (w3.alloc (.cells #[.slice y3_0 (ParseDependency_r0 x0 s1).body.length y3_1, .slice y3_2 (ParseDependency_r0 x0 s1).head.length y3_3, .bool (ParseDependency_r0 x0 s1).egd, .int .i64 (ParseDependency_r0 x0 s1).left, .int .i64 (ParseDependency_r0 x0 s1).right] 37)).cell? ⟨w3.heap.size, 2, none⟩ = some (.bool (ParseDependency_r0 x0 s1).egd) by simp [go_sem])
  have K7 := Lib.hid (show (w3.alloc (.cells #[.slice y3_0 (ParseDependency_r0 x0 s1).body.length y3_1, .slice y3_2 (ParseDependency_r0 x0 s1).head.length y3_3, .bool (ParseDependency_r0 x0 s1).egd, .int .i64 (ParseDependency_r0 x0 s1).left, .int .i64 (ParseDependency_r0 x0 s1).right] 37)).cell? ⟨w3.heap.size, 3, none⟩ = some (.int .i64 (ParseDependency_r0 x0 s1).left) by simp [go_sem])
  have K8 := Lib.hid (show (w3.alloc (.cells #[.slice y3_0 (ParseDependency_r0 x0 s1).body.length y3_1, .slice y3_2 (ParseDependency_r0 x0 s1).head.length y3_3, .bool (ParseDependency_r0 x0 s1).egd, .int .i64 (ParseDependency_r0 x0 s1).left, .int .i64 (ParseDependency_r0 x0 s1).right] 37)).cell? ⟨w3.heap.size, 4, none⟩ = some (.int .i64 (ParseDependency_r0 x0 s1).right) by simp [go_sem])
  have c0_4 : Below w.heap.size w (w3.alloc (.cells #[.slice y3_0 (ParseDependency_r0 x0 s1).body.length y3_1, .slice y3_2 (ParseDependency_r0 x0 s1).head.length y3_3, .bool (ParseDependency_r0 x0 s1).egd, .int .i64 (ParseDependency_r0 x0 s1).left, .int .i64 (ParseDependency_r0 x0 s1).right] 37)) := (((c0_1.trans (hb2.mono (by omega))).trans (hb3.mono (by omega))).trans (hb4.mono (by omega)))
  go_wp2_with fail
  refine (toRelationS_c _ x0 _ ((A0.out.below c0_4 (Nat.le_refl _)).more c0_4.size) S0).mono ?_
  rintro e w5 ⟨u9, rfl, ou9, hb5⟩
  have z5 : (w3.alloc (.cells #[.slice y3_0 (ParseDependency_r0 x0 s1).body.length y3_1, .slice y3_2 (ParseDependency_r0 x0 s1).head.length y3_3, .bool (ParseDependency_r0 x0 s1).egd, .int .i64 (ParseDependency_r0 x0 s1).left, .int .i64 (ParseDependency_r0 x0 s1).right] 37)).heap.size ≤ w5.heap.size := hb5.size
  have c0_5 : Below w.heap.size w w5 := (c0_4.trans (hb5.mono (by omega)))
  go_wp2_with fail
  refine (implParseDependency_c _ x0 s1 _ ((ou9.below (Below.refl w5.heap.size w5) (Nat.le_refl _)).at_ (Nat.le_refl _)) W0.out S0 hl1 (ht.below c0_5) (hv.below c0_5) (hm.below c0_5)).mono ?_
  rintro e w6 ⟨r10_0, rfl, p10_0, q10_0, hb6⟩
  have z6 : w5.heap.size ≤ w6.heap.size := hb6.size
  have NC10_0 := Dependency_cnt_le (ParseDependency_r0 x0 s1)
  obtain ⟨y11_0, y11_1, y11_2, y11_3, rfl⟩ := Dependency_form (p10_0.at_ (Nat.le_refl _))
  have hb7 : Below w6.heap.size w6 (w6.alloc (.cells #[.slice y11_0 (ParseDependency_r0 x0 s1).body.length y11_1, .slice y11_2 (ParseDependency_r0 x0 s1).head.length y11_3, .bool (ParseDependency_r0 x0 s1).egd, .int .i64 (ParseDependency_r0 x0 s1).left, .int .i64 (ParseDependency_r0 x0 s1).right] 37)) := below_more (Below.refl _ _) _
  have z7 : w6.heap.size + 1 ≤ (w6.alloc (.cells #[.slice y11_0 (ParseDependency_r0 x0 s1).body.length y11_1, .slice y11_2 (ParseDependency_r0 x0 s1).head.length y11_3, .bool (ParseDependency_r0 x0 s1).egd, .int .i64 (ParseDependency_r0 x0 s1).left, .int .i64 (ParseDependency_r0 x0 s1).right] 37)).heap.size := by simp
  have K12 := Lib.hid (show (w6.alloc (.cells #[.slice y11_0 (ParseDependency_r0 x0 s1).body.length y11_1, .slice y11_2 (ParseDependency_r0 x0 s1).head.length y11_3, .bool (ParseDependency_r0 x0 s1).egd, .int .i64 (ParseDependency_r0 x0 s1).left, .int .i64 (ParseDependency_r0 x0 s1).right] 37)).cell? ⟨w6.heap.size, 0, none⟩ = some (.slice y11_0 (ParseDependency_r0 x0 s1).body.length y11_1) by simp [go_sem])
  have K13 := Lib.hid (show (w6.alloc (.cells #[.slice y11_0 (ParseDependency_r0 x0 s1).body.length y11_1, .slice y11_2 (ParseDependency_r0 x0 s1).head.length y11_3, .bool (ParseDependency_r0 x0 s1).egd, .int .i64 (ParseDependency_r0 x0 s1).left, .int .i64 (ParseDependency_r0 x0 s1).right] 37)).cell? ⟨w6.heap.size, 1, none⟩ = some (.slice y11_2 (ParseDependency_r0 x0 s1).head.length y11_3) by simp [go_sem])
  have K14 := Lib.hid (show (w6.alloc (.cells #[.slice y11_0 (ParseDependency_r0 x0 s1).body.length y11_1, .slice y11_2 (ParseDependency_r0 x0 s1).head.length y11_3, .bool (ParseDependency_r0 x0 s1).egd, .int .i64 (ParseDependency_r0 x0 s1).left, .int .i64 (ParseDependency_r0 x0 s1).right] 37)).cell? ⟨w6.heap.size, 2, none⟩ = some (.bool (ParseDependency_r0 x0 s1).egd) by simp [go_sem])
  have K15 := Lib.hid (show (w6.alloc (.cells #[.slice y11_0 (ParseDependency_r0 x0 s1).body.length y11_1, .slice y11_2 (ParseDependency_r0 x0 s1).head.length y11_3, .bool (ParseDependency_r0 x0 s1).egd, .int .i64 (ParseDependency_r0 x0 s1).left, .int .i64 (ParseDependency_r0 x0 s1).right] 37)).cell? ⟨w6.heap.size, 3, none⟩ = some (.int .i64 (ParseDependency_r0 x0 s1).left) by simp [go_sem])
  have K16 := Lib.hid (show (w6.alloc (.cells #[.slice y11_0 (ParseDependency_r0 x0 s1).body.length y11_1, .slice y11_2 (ParseDependency_r0 x0 s1).head.length y11_3, .bool (ParseDependency_r0 x0 s1).egd, .int .i64 (ParseDependency_r0 x0 s1).left, .int .i64 (ParseDependency_r0 x0 s1).right] 37)).cell? ⟨w6.heap.size, 4, none⟩ = some (.int .i64 (ParseDependency_r0 x0 s1).right) by simp [go_sem])
  have f17 : (w6.alloc (.cells #[.slice y11_0 (ParseDependency_r0 x0 s1).body.length y11_1, .slice y11_2 (ParseDependency_r0 x0 s1).head.length y11_3, .bool (ParseDependency_r0 x0 s1).egd, .int .i64 (ParseDependency_r0 x0 s1).left, .int .i64 (ParseDependency_r0 x0 s1).right] 37)).cell? ⟨w6.heap.size, 0, none⟩ = some (.slice y11_0 (ParseDependency_r0 x0 s1).body.length y11_1) := K12.out
  have f18 : (w6.alloc (.cells #[.slice y11_0 (ParseDependency_r0 x0 s1).body.length y11_1, .slice y11_2 (ParseDependency_r0 x0 s1).head.length y11_3, .bool (ParseDependency_r0 x0 s1).egd, .int .i64 (ParseDependency_r0 x0 s1).left, .int .i64 (ParseDependency_r0 x0 s1).right] 37)).cell? ⟨w6.heap.size, 1, none⟩ = some (.slice y11_2 (ParseDependency_r0 x0 s1).head.length y11_3) := K13.out
  have f19 : (w6.alloc (.cells #[.slice y11_0 (ParseDependency_r0 x0 s1).body.length y11_1, .slice y11_2 (ParseDependency_r0 x0 s1).head.length y11_3, .bool (ParseDependency_r0 x0 s1).egd, .int .i64 (ParseDependency_r0 x0 s1).left, .int .i64 (ParseDependency_r0 x0 s1).right] 37)).cell? ⟨w6.heap.size, 2, none⟩ = some (.bool (ParseDependency_r0 x0 s1).egd) := K14.out
  have f20 : (w6.alloc (.cells #[.slice y11_0 (ParseDependency_r0 x0 s1).body.length y11_1, .slice y11_2 (ParseDependency_r0 x0 s1).head.length y11_3, .bool (ParseDependency_r0 x0 s1).egd, .int .i64 (ParseDependency_r0 x0 s1).left, .int .i64 (ParseDependency_r0 x0 s1).right] 37)).cell? ⟨w6.heap.size, 3, none⟩ = some (.int .i64 (ParseDependency_r0 x0 s1).left) := K15.out
  have f21 : (w6.alloc (.cells #[.slice y11_0 (ParseDependency_r0 x0 s1).body.length y11_1, .slice y11_2 (ParseDependency_r0 x0 s1).head.length y11_3, .bool (ParseDependency_r0 x0 s1).egd, .int .i64 (ParseDependency_r0 x0 s1).left, .int .i64 (ParseDependency_r0 x0 s1).right] 37)).cell? ⟨w6.heap.size, 4, none⟩ = some (.int .i64 (ParseDependency_r0 x0 s1).right) := K16.out
  have c4_7 : Below (w3.alloc (.cells #[.slice y3_0 (ParseDependency_r0 x0 s1).body.length y3_1, .slice y3_2 (ParseDependency_r0 x0 s1).head.length y3_3, .bool (ParseDependency_r0 x0 s1).egd, .int .i64 (ParseDependency_r0 x0 s1).left, .int .i64 (ParseDependency_r0 x0 s1).right] 37)).heap.size (w3.alloc (.cells #[.slice y3_0 (ParseDependency_r0 x0 s1).body.length y3_1, .slice y3_2 (ParseDependency_r0 x0 s1).head.length y3_3, .bool (ParseDependency_r0 x0 s1).egd, .int .i64 (ParseDependency_r0 x0 s1).left, .int .i64 (ParseDependency_r0 x0 s1).right] 37)) (w6.alloc (.cells #[.slice y11_0 (ParseDependency_r0 x0 s1).body.length y11_1, .slice y11_2 (ParseDependency_r0 x0 s1).head.length y11_3, .bool (ParseDependency_r0 x0 s1).egd, .int .i64 (ParseDependency_r0 x0 s1).left, .int .i64 (ParseDependency_r0 x0 s1).right] 37)) := ((hb5.trans (hb6.mono (by omega))).trans (hb7.mono (by omega)))
  have f22 : (w6.alloc (.cells #[.slice y11_0 (ParseDependency_r0 x0 s1).body.length y11_1, .slice y11_2 (ParseDependency_r0 x0 s1).head.length y11_3, .bool (ParseDependency_r0 x0 s1).egd, .int .i64 (ParseDependency_r0 x0 s1).left, .int .i64 (ParseDependency_r0 x0 s1).right] 37)).cell? ⟨w3.heap.size, 0, none⟩ = some (.slice y3_0 (ParseDependency_r0 x0 s1).body.length y3_1) := ((c4_7).cell (p := ⟨w3.heap.size, 0, none⟩) (by show w3.heap.size < _; omega)).trans K4.out
  have f23 : (w6.alloc (.cells #[.slice y11_0 (ParseDependency_r0 x0 s1).body.length y11_1, .slice y11_2 (ParseDependency_r0 x0 s1).head.length y11_3, .bool (ParseDependency_r0 x0 s1).egd, .int .i64 (ParseDependency_r0 x0 s1).left, .int .i64 (ParseDependency_r0 x0 s1).right] 37)).cell? ⟨w3.heap.size, 1, none⟩ = some (.slice y3_2 (ParseDependency_r0 x0 s1).head.length y3_3) := ((c4_7).cell (p := ⟨w3.heap.size, 1, none⟩) (by show w3.heap.size < _; omega)).trans K5.out
  have f24 : (w6.alloc (.cells #[.slice y11_0 (ParseDependency_r0 x0 s1).body.length y11_1, .slice y11_2 (ParseDependency_r0 x0 s1).head.length y11_3, .bool (ParseDependency_r0 x0 s1).egd, .int .i64 (ParseDependency_r0 x0 s1).left, .int .i64 (ParseDependency_r0 x0 s1).right] 37)).cell? ⟨w3.heap.size, 2, none⟩ = some (.bool (ParseDependency_r0 x0 s1).egd) := ((c4_7).cell (p := ⟨w3.heap.size, 2, none⟩) (by show w3.heap.size < _; omega)).trans K6.out
  have f25 : (w6.alloc (.cells #[.slice y11_0 (ParseDependency_r0 x0 s1).body.length y11_1, .slice y11_2 (ParseDependency_r0 x0 s1).head.length y11_3, .bool (ParseDependency_r0 x0 s1).egd, .int .i64 (ParseDependency_r0 x0 s1).left, .int .i64 (ParseDependency_r0 x0 s1).right] 37)).cell? ⟨w3.heap.size, 3, none⟩ = some (.int .i64 (ParseDependency_r0 x0 s1).left) := ((c4_7).cell (p := ⟨w3.heap.size, 3, none⟩) (by show w3.heap.size < _; omega)).trans K7.out
  have f26 : (w6.alloc (.cells #[.slice y11_0 (ParseDependency_r0 x0 s1).body.length y11_1, .slice y11_2 (ParseDependency_r0 x0 s1).head.length y11_3, .bool (ParseDependency_r0 x0 s1).egd, .int .i64 (ParseDependency_r0 x0 s1).left, .int .i64 (ParseDependency_r0 x0 s1).right] 37)).cell? ⟨w3.heap.size, 4, none⟩ = some (.int .i64 (ParseDependency_r0 x0 s1).right) := ((c4_7).cell (p := ⟨w3.heap.size, 4, none⟩) (by show w3.heap.size < _; omega)).trans K8.out
  have c6_7 : Below w6.heap.size w6 (w6.alloc (.cells #[.slice y11_0 (ParseDependency_r0 x0 s1).body.length y11_1, .slice y11_2 (ParseDependency_r0 x0 s1).head.length y11_3, .bool (ParseDependency_r0 x0 s1).egd, .int .i64 (ParseDependency_r0 x0 s1).left, .int .i64 (ParseDependency_r0 x0 s1).right] 37)) := hb7
  have c3_7 : Below w3.heap.size w3 (w6.alloc (.cells #[.slice y11_0 (ParseDependency_r0 x0 s1).body.length y11_1, .slice y11_2 (ParseDependency_r0 x0 s1).head.length y11_3, .bool (ParseDependency_r0 x0 s1).egd, .int .i64 (ParseDependency_r0 x0 s1).left, .int .i64 (ParseDependency_r0 x0 s1).right] 37)) := (((hb4.trans (hb5.mono (by omega))).trans (hb6.mono (by omega))).trans (hb7.mono (by omega)))
  go_wp2_with fail
  refine (eqDependency_c _ _ (ParseDependency_r0 x0 s1) _ ((p10_0.below c6_7 (Nat.le_refl _)).at_ (by omega)) ((p2_0.below c3_7 (Nat.le_refl _)).more c3_7.size)).mono ?_
  rintro e w8 ⟨rfl, hb8⟩
  have z8 : (w6.alloc (.cells #[.slice y11_0 (ParseDependency_r0 x0 s1).body.length y11_1, .slice y11_2 (ParseDependency_r0 x0 s1).head.length y11_3, .bool (ParseDependency_r0 x0 s1).egd, .int .i64 (ParseDependency_r0 x0 s1).left, .int .i64 (ParseDependency_r0 x0 s1).right] 37)).heap.size ≤ w8.heap.size := hb8.size
  clear f17 f18 f19 f20 f21 f22 f23 f24 f25 f26
  have c0_8 : Below w.heap.size w w8 := (((c0_5.trans (hb6.mono (by omega))).trans (hb7.mono (by omega))).trans (hb8.mono (by omega)))
  go_wp2_with fail
  refine (toRelationS_c _ x0 _ ((A0.out.below c0_8 (Nat.le_refl _)).more c0_8.size) S0).mono ?_
  rintro e w9 ⟨u27, rfl, ou27, hb9⟩
  have z9 : w8.heap.size ≤ w9.heap.size := hb9.size
  have c5_9 : Below w5.heap.size w5 w9 := (((hb6.trans (hb7.mono (by omega))).trans (hb8.mono (by omega))).trans (hb9.mono (by omega)))
  go_wp2_with fail
  refine (eqRelationS_c _ _ x0 _ ((ou9.below c5_9 (Nat.le_refl _)).at_ (by omega)) ((ou27.below (Below.refl w9.heap.size w9) (Nat.le_refl _)).at_ (Nat.le_refl _))).mono ?_
  rintro e w10 ⟨rfl, hb10⟩
  have z10 : w9.heap.size ≤ w10.heap.size := hb10.size
  have c5_10 : Below w5.heap.size w5 w10 := (c5_9.trans (hb10.mono (by omega)))
  have c6_10 : Below w6.heap.size w6 w10 := (((c6_7.trans (hb8.mono (by omega))).trans (hb9.mono (by omega))).trans (hb10.mono (by omega)))
  have c7_10 : Below (w6.alloc (.cells #[.slice y11_0 (ParseDependency_r0 x0 s1).body.length y11_1, .slice y11_2 (ParseDependency_r0 x0 s1).head.length y11_3, .bool (ParseDependency_r0 x0 s1).egd, .int .i64 (ParseDependency_r0 x0 s1).left, .int .i64 (ParseDependency_r0 x0 s1).right] 37)).heap.size (w6.alloc (.cells #[.slice y11_0 (ParseDependency_r0 x0 s1).body.length y11_1, .slice y11_2 (ParseDependency_r0 x0 s1).head.length y11_3, .bool (ParseDependency_r0 x0 s1).egd, .int .i64 (ParseDependency_r0 x0 s1).left, .int .i64 (ParseDependency_r0 x0 s1).right] 37)) w10 := ((hb8.trans (hb9.mono (by omega))).trans (hb10.mono (by omega)))
  go_wp2_with fail
  refine (markRelationS_c _ _ _ x0 (1) _ (ou9.below c5_10 (Nat.le_refl _)) S0 (by omega) (by omega)).mono ?_
  rintro e w11 ⟨rfl, om11, hb11⟩
  have om11_g0 := (p10_0.below c6_10 (Nat.le_refl _)).chg hb11 (by omega)
  have z11 : w10.heap.size ≤ w11.heap.size := hb11.size
  have K28 := Lib.hid ((hb11.mid_cell (b := w6.heap.size) (o := 0) (by omega) (by omega)).trans (((c7_10).cell (p := ⟨w6.heap.size, 0, none⟩) (by show w6.heap.size < _; omega)).trans K12.out))
  have K29 := Lib.hid ((hb11.mid_cell (b := w6.heap.size) (o := 1) (by omega) (by omega)).trans (((c7_10).cell (p := ⟨w6.heap.size, 1, none⟩) (by show w6.heap.size < _; omega)).trans K13.out))
  have K30 := Lib.hid ((hb11.mid_cell (b := w6.heap.size) (o := 2) (by omega) (by omega)).trans (((c7_10).cell (p := ⟨w6.heap.size, 2, none⟩) (by show w6.heap.size < _; omega)).trans K14.out))
  have K31 := Lib.hid ((hb11.mid_cell (b := w6.heap.size) (o := 3) (by omega) (by omega)).trans (((c7_10).cell (p := ⟨w6.heap.size, 3, none⟩) (by show w6.heap.size < _; omega)).trans K15.out))
  have K32 := Lib.hid ((hb11.mid_cell (b := w6.heap.size) (o := 4) (by omega) (by omega)).trans (((c7_10).cell (p := ⟨w6.heap.size, 4, none⟩) (by show w6.heap.size < _; omega)).trans K16.out))
  have f33 : w11.cell? ⟨w6.heap.size, 0, none⟩ = some (.slice y11_0 (ParseDependency_r0 x0 s1).body.length y11_1) := K28.out
  have f34 : w11.cell? ⟨w6.heap.size, 1, none⟩ = some (.slice y11_2 (ParseDependency_r0 x0 s1).head.length y11_3) := K29.out
  have f35 : w11.cell? ⟨w6.heap.size, 2, none⟩ = some (.bool (ParseDependency_r0 x0 s1).egd) := K30.out
  have f36 : w11.cell? ⟨w6.heap.size, 3, none⟩ = some (.int .i64 (ParseDependency_r0 x0 s1).left) := K31.out
  have f37 : w11.cell? ⟨w6.heap.size, 4, none⟩ = some (.int .i64 (ParseDependency_r0 x0 s1).right) := K32.out
  have c4_11 : Below (w3.alloc (.cells #[.slice y3_0 (ParseDependency_r0 x0 s1).body.length y3_1, .slice y3_2 (ParseDependency_r0 x0 s1).head.length y3_3, .bool (ParseDependency_r0 x0 s1).egd, .int .i64 (ParseDependency_r0 x0 s1).left, .int .i64 (ParseDependency_r0 x0 s1).right] 37)).heap.size (w3.alloc (.cells #[.slice y3_0 (ParseDependency_r0 x0 s1).body.length y3_1, .slice y3_2 (ParseDependency_r0 x0 s1).head.length y3_3, .bool (ParseDependency_r0 x0 s1).egd, .int .i64 (ParseDependency_r0 x0 s1).left, .int .i64 (ParseDependency_r0 x0 s1).right] 37)) w11 := ((((c4_7.trans (hb8.mono (by omega))).trans (hb9.mono (by omega))).trans (hb10.mono (by omega))).trans (hb11.mid_below (by omega) (by omega)))
  have f38 : w11.cell? ⟨w3.heap.size, 0, none⟩ = some (.slice y3_0 (ParseDependency_r0 x0 s1).body.length y3_1) := ((c4_11).cell (p := ⟨w3.heap.size, 0, none⟩) (by show w3.heap.size < _; omega)).trans K4.out
  have f39 : w11.cell? ⟨w3.heap.size, 1, none⟩ = some (.slice y3_2 (ParseDependency_r0 x0 s1).head.length y3_3) := ((c4_11).cell (p := ⟨w3.heap.size, 1, none⟩) (by show w3.heap.size < _; omega)).trans K5.out
  have f40 : w11.cell? ⟨w3.heap.size, 2, none⟩ = some (.bool (ParseDependency_r0 x0 s1).egd) := ((c4_11).cell (p := ⟨w3.heap.size, 2, none⟩) (by show w3.heap.size < _; omega)).trans K6.out
  have f41 : w11.cell? ⟨w3.heap.size, 3, none⟩ = some (.int .i64 (ParseDependency_r0 x0 s1).left) := ((c4_11).cell (p := ⟨w3.heap.size, 3, none⟩) (by show w3.heap.size < _; omega)).trans K7.out
  have f42 : w11.cell? ⟨w3.heap.size, 4, none⟩ = some (.int .i64 (ParseDependency_r0 x0 s1).right) := ((c4_11).cell (p := ⟨w3.heap.size, 4, none⟩) (by show w3.heap.size < _; omega)).trans K8.out
  have c3_11 : Below w3.heap.size w3 w11 := ((((c3_7.trans (hb8.mono (by omega))).trans (hb9.mono (by omega))).trans (hb10.mono (by omega))).trans (hb11.mid_below (by omega) (by omega)))
  go_wp2_with fail
  refine (eqDependency_c _ _ (ParseDependency_r0 x0 s1) _ ((om11_g0.below (Below.refl w11.heap.size w11) (by omega)).at_ (by omega)) ((p2_0.below c3_11 (Nat.le_refl _)).more c3_11.size)).mono ?_
  rintro e w12 ⟨rfl, hb12⟩
  have z12 : w11.heap.size ≤ w12.heap.size := hb12.size
  clear f33 f34 f35 f36 f37 f38 f39 f40 f41 f42
  have c11_12 : Below w11.heap.size w11 w12 := hb12
  have f43 : w12.cell? ⟨w6.heap.size, 0, none⟩ = some (.slice y11_0 (ParseDependency_r0 x0 s1).body.length y11_1) := ((c11_12).cell (p := ⟨w6.heap.size, 0, none⟩) (by show w6.heap.size < _; omega)).trans K28.out
  have f44 : w12.cell? ⟨w6.heap.size, 1, none⟩ = some (.slice y11_2 (ParseDependency_r0 x0 s1).head.length y11_3) := ((c11_12).cell (p := ⟨w6.heap.size, 1, none⟩) (by show w6.heap.size < _; omega)).trans K29.out
  have f45 : w12.cell? ⟨w6.heap.size, 2, none⟩ = some (.bool (ParseDependency_r0 x0 s1).egd) := ((c11_12).cell (p := ⟨w6.heap.size, 2, none⟩) (by show w6.heap.size < _; omega)).trans K30.out
  have f46 : w12.cell? ⟨w6.heap.size, 3, none⟩ = some (.int .i64 (ParseDependency_r0 x0 s1).left) := ((c11_12).cell (p := ⟨w6.heap.size, 3, none⟩) (by show w6.heap.size < _; omega)).trans K31.out
  have f47 : w12.cell? ⟨w6.heap.size, 4, none⟩ = some (.int .i64 (ParseDependency_r0 x0 s1).right) := ((c11_12).cell (p := ⟨w6.heap.size, 4, none⟩) (by show w6.heap.size < _; omega)).trans K32.out
  go_wp2_with fail
  refine (markDependency_c _ _ _ (ParseDependency_r0 x0 s1) (1) _ (om11_g0.below c11_12 (by omega)) q10_0 (by omega) (by omega)).mono ?_
  rintro e w13 ⟨rfl, om13, hb13⟩
  have om13_tu9 := (om11.below c11_12 (by omega)).chg hb13 (by omega)
  have z13 : w12.heap.size ≤ w13.heap.size := hb13.size
  clear f43 f44 f45 f46 f47
  have K48 := Lib.hid ((hb13.mid_cell (b := w6.heap.size) (o := 0) (by omega) (by omega)).trans (((c11_12).cell (p := ⟨w6.heap.size, 0, none⟩) (by show w6.heap.size < _; omega)).trans K28.out))
  have K49 := Lib.hid ((hb13.mid_cell (b := w6.heap.size) (o := 1) (by omega) (by omega)).trans (((c11_12).cell (p := ⟨w6.heap.size, 1, none⟩) (by show w6.heap.size < _; omega)).trans K29.out))
  have K50 := Lib.hid ((hb13.mid_cell (b := w6.heap.size) (o := 2) (by omega) (by omega)).trans (((c11_12).cell (p := ⟨w6.heap.size, 2, none⟩) (by show w6.heap.size < _; omega)).trans K30.out))
  have K51 := Lib.hid ((hb13.mid_cell (b := w6.heap.size) (o := 3) (by omega) (by omega)).trans (((c11_12).cell (p := ⟨w6.heap.size, 3, none⟩) (by show w6.heap.size < _; omega)).trans K31.out))
  have K52 := Lib.hid ((hb13.mid_cell (b := w6.heap.size) (o := 4) (by omega) (by omega)).trans (((c11_12).cell (p := ⟨w6.heap.size, 4, none⟩) (by show w6.heap.size < _; omega)).trans K32.out))
  have f53 : w13.cell? ⟨w6.heap.size, 0, none⟩ = some (.slice y11_0 (ParseDependency_r0 x0 s1).body.length y11_1) := K48.out
  have f54 : w13.cell? ⟨w6.heap.size, 1, none⟩ = some (.slice y11_2 (ParseDependency_r0 x0 s1).head.length y11_3) := K49.out
  have f55 : w13.cell? ⟨w6.heap.size, 2, none⟩ = some (.bool (ParseDependency_r0 x0 s1).egd) := K50.out
  have f56 : w13.cell? ⟨w6.heap.size, 3, none⟩ = some (.int .i64 (ParseDependency_r0 x0 s1).left) := K51.out
  have f57 : w13.cell? ⟨w6.heap.size, 4, none⟩ = some (.int .i64 (ParseDependency_r0 x0 s1).right) := K52.out
  go_wp2_with fail
  refine (heldDependency_c _ (ParseDependency_r0 x0 s1) (1) _ ((om13.below (Below.refl w13.heap.size w13) (by omega)).at_ (by omega)) q10_0 (by omega) (by omega)).mono ?_
  rintro e w14 ⟨rfl, hb14⟩
  have z14 : w13.heap.size ≤ w14.heap.size := hb14.size
  clear f53 f54 f55 f56 f57
  have c0_14 : Below w.heap.size w w14 := ((((((c0_8.trans (hb9.mono (by omega))).trans (hb10.mono (by omega))).trans (hb11.mid_below (by omega) (by omega))).trans (hb12.mono (by omega))).trans (hb13.mid_below (by omega) (by omega))).trans (hb14.mono (by omega)))
  go_wp2_with fail
  refine (toRelationS_c _ x0 _ ((A0.out.below c0_14 (Nat.le_refl _)).more c0_14.size) S0).mono ?_
  rintro e w15 ⟨u58, rfl, ou58, hb15⟩
  have z15 : w14.heap.size ≤ w15.heap.size := hb15.size
  have c0_15 : Below w.heap.size w w15 := (c0_14.trans (hb15.mono (by omega)))
  go_wp2_with fail
  refine (implParseDependency_c _ x0 s1 _ ((ou58.below (Below.refl w15.heap.size w15) (Nat.le_refl _)).at_ (Nat.le_refl _)) W0.out S0 hl1 (ht.below c0_15) (hv.below c0_15) (hm.below c0_15)).mono ?_
  rintro e w16 ⟨r59_0, rfl, p59_0, q59_0, hb16⟩
  have z16 : w15.heap.size ≤ w16.heap.size := hb16.size
  have NC59_0 := Dependency_cnt_le (ParseDependency_r0 x0 s1)
  obtain ⟨y60_0, y60_1, y60_2, y60_3, rfl⟩ := Dependency_form (p59_0.at_ (Nat.le_refl _))
  have hb17 : Below w16.heap.size w16 (w16.alloc (.cells #[.slice y60_0 (ParseDependency_r0 x0 s1).body.length y60_1, .slice y60_2 (ParseDependency_r0 x0 s1).head.length y60_3, .bool (ParseDependency_r0 x0 s1).egd, .int .i64 (ParseDependency_r0 x0 s1).left, .int .i64 (ParseDependency_r0 x0 s1).right] 37)) := below_more (Below.refl _ _) _
  have z17 : w16.heap.size + 1 ≤ (w16.alloc (.cells #[.slice y60_0 (ParseDependency_r0 x0 s1).body.length y60_1, .slice y60_2 (ParseDependency_r0 x0 s1).head.length y60_3, .bool (ParseDependency_r0 x0 s1).egd, .int .i64 (ParseDependency_r0 x0 s1).left, .int .i64 (ParseDependency_r0 x0 s1).right] 37)).heap.size := by simp
  have K61 := Lib.hid (show (w16.alloc (.cells #[.slice y60_0 (ParseDependency_r0 x0 s1).body.length y60_1, .slice y60_2 (ParseDependency_r0 x0 s1).head.length y60_3, .bool (ParseDependency_r0 x0 s1).egd, .int .i64 (ParseDependency_r0 x0 s1).left, .int .i64 (ParseDependency_r0 x0 s1).right] 37)).cell? ⟨w16.heap.size, 0, none⟩ = some (.slice y60_0 (ParseDependency_r0 x0 s1).body.length y60_1) by simp [go_sem])
  have K62 := Lib.hid (show (w16.alloc (.cells #[.slice y60_0 (ParseDependency_r0 x0 s1).body.length y60_1, .slice y60_2 (ParseDependency_r0 x0 s1).head.length y60_3, .bool (ParseDependency_r0 x0 s1).egd, .int .i64 (ParseDependency_r0 x0 s1).left, .int .i64 (ParseDependency_r0 x0 s1).right] 37)).cell? ⟨w16.heap.size, 1, none⟩ = some (.slice y60_2 (ParseDependency_r0 x0 s1).head.length y60_3) by simp [go_sem])
  have K63 := Lib.hid (show (w16.alloc (.cells #[.slice y60_0 (ParseDependency_r0 x0 s1).body.length y60_1, .slice y60_2 (ParseDependency_r0 x0 s1).head.length y60_3, .bool (ParseDependency_r0 x0 s1).egd, .int .i64 (ParseDependency_r0 x0 s1).left, .int .i64 (ParseDependency_r0 x0 s1).right] 37)).cell? ⟨w16.heap.size, 2, none⟩ = some (.bool (ParseDependency_r0 x0 s1).egd) by simp [go_sem])
  have K64 := Lib.hid (show (w16.alloc (.cells #[.slice y60_0 (ParseDependency_r0 x0 s1).body.length y60_1, .slice y60_2 (ParseDependency_r0 x0 s1).head.length y60_3, .bool (ParseDependency_r0 x0 s1).egd, .int .i64 (ParseDependency_r0 x0 s1).left, .int .i64 (ParseDependency_r0 x0 s1).right] 37)).cell? ⟨w16.heap.size, 3, none⟩ = some (.int .i64 (ParseDependency_r0 x0 s1).left) by simp [go_sem])
  have K65 := Lib.hid (show (w16.alloc (.cells #[.slice y60_0 (ParseDependency_r0 x0 s1).body.length y60_1, .slice y60_2 (ParseDependency_r0 x0 s1).head.length y60_3, .bool (ParseDependency_r0 x0 s1).egd, .int .i64 (ParseDependency_r0 x0 s1).left, .int .i64 (ParseDependency_r0 x0 s1).right] 37)).cell? ⟨w16.heap.size, 4, none⟩ = some (.int .i64 (ParseDependency_r0 x0 s1).right) by simp [go_sem])
  have f66 : (w16.alloc (.cells #[.slice y60_0 (ParseDependency_r0 x0 s1).body.length y60_1, .slice y60_2 (ParseDependency_r0 x0 s1).head.length y60_3, .bool (ParseDependency_r0 x0 s1).egd, .int .i64 (ParseDependency_r0 x0 s1).left, .int .i64 (ParseDependency_r0 x0 s1).right] 37)).cell? ⟨w16.heap.size, 0, none⟩ = some (.slice y60_0 (ParseDependency_r0 x0 s1).body.length y60_1) := K61.out
  have f67 : (w16.alloc (.cells #[.slice y60_0 (ParseDependency_r0 x0 s1).body.length y60_1, .slice y60_2 (ParseDependency_r0 x0 s1).head.length y60_3, .bool (ParseDependency_r0 x0 s1).egd, .int .i64 (ParseDependency_r0 x0 s1).left, .int .i64 (ParseDependency_r0 x0 s1).right] 37)).cell? ⟨w16.heap.size, 1, none⟩ = some (.slice y60_2 (ParseDependency_r0 x0 s1).head.length y60_3) := K62.out
  have f68 : (w16.alloc (.cells #[.slice y60_0 (ParseDependency_r0 x0 s1).body.length y60_1, .slice y60_2 (ParseDependency_r0 x0 s1).head.length y60_3, .bool (ParseDependency_r0 x0 s1).egd, .int .i64 (ParseDependency_r0 x0 s1).left, .int .i64 (ParseDependency_r0 x0 s1).right] 37)).cell? ⟨w16.heap.size, 2, none⟩ = some (.bool (ParseDependency_r0 x0 s1).egd) := K63.out
  have f69 : (w16.alloc (.cells #[.slice y60_0 (ParseDependency_r0 x0 s1).body.length y60_1, .slice y60_2 (ParseDependency_r0 x0 s1).head.length y60_3, .bool (ParseDependency_r0 x0 s1).egd, .int .i64 (ParseDependency_r0 x0 s1).left, .int .i64 (ParseDependency_r0 x0 s1).right] 37)).cell? ⟨w16.heap.size, 3, none⟩ = some (.int .i64 (ParseDependency_r0 x0 s1).left) := K64.out
  have f70 : (w16.alloc (.cells #[.slice y60_0 (ParseDependency_r0 x0 s1).body.length y60_1, .slice y60_2 (ParseDependency_r0 x0 s1).head.length y60_3, .bool (ParseDependency_r0 x0 s1).egd, .int .i64 (ParseDependency_r0 x0 s1).left, .int .i64 (ParseDependency_r0 x0 s1).right] 37)).cell? ⟨w16.heap.size, 4, none⟩ = some (.int .i64 (ParseDependency_r0 x0 s1).right) := K65.out
  have c4_17 : Below (w3.alloc (.cells #[.slice y3_0 (ParseDependency_r0 x0 s1).body.length y3_1, .slice y3_2 (ParseDependency_r0 x0 s1).head.length y3_3, .bool (ParseDependency_r0 x0 s1).egd, .int .i64 (ParseDependency_r0 x0 s1).left, .int .i64 (ParseDependency_r0 x0 s1).right] 37)).heap.size (w3.alloc (.cells #[.slice y3_0 (ParseDependency_r0 x0 s1).body.length y3_1, .slice y3_2 (ParseDependency_r0 x0 s1).head.length y3_3, .bool (ParseDependency_r0 x0 s1).egd, .int .i64 (ParseDependency_r0 x0 s1).left, .int .i64 (ParseDependency_r0 x0 s1).right] 37)) (w16.alloc (.cells #[.slice y60_0 (ParseDependency_r0 x0 s1).body.length y60_1, .slice y60_2 (ParseDependency_r0 x0 s1).head.length y60_3, .bool (ParseDependency_r0 x0 s1).egd, .int .i64 (ParseDependency_r0 x0 s1).left, .int .i64 (ParseDependency_r0 x0 s1).right] 37)) := ((((((c4_11.trans (hb12.mono (by omega))).trans (hb13.mid_below (by omega) (by omega))).trans (hb14.mono (by omega))).trans (hb15.mono (by omega))).trans (hb16.mono (by omega))).trans (hb17.mono (by omega)))
  have f71 : (w16.alloc (.cells #[.slice y60_0 (ParseDependency_r0 x0 s1).body.length y60_1, .slice y60_2 (ParseDependency_r0 x0 s1).head.length y60_3, .bool (ParseDependency_r0 x0 s1).egd, .int .i64 (ParseDependency_r0 x0 s1).left, .int .i64 (ParseDependency_r0 x0 s1).right] 37)).cell? ⟨w3.heap.size, 0, none⟩ = some (.slice y3_0 (ParseDependency_r0 x0 s1).body.length y3_1) := ((c4_17).cell (p := ⟨w3.heap.size, 0, none⟩) (by show w3.heap.size < _; omega)).trans K4.out
  have f72 : (w16.alloc (.cells #[.slice y60_0 (ParseDependency_r0 x0 s1).body.length y60_1, .slice y60_2 (ParseDependency_r0 x0 s1).head.length y60_3, .bool (ParseDependency_r0 x0 s1).egd, .int .i64 (ParseDependency_r0 x0 s1).left, .int .i64 (ParseDependency_r0 x0 s1).right] 37)).cell? ⟨w3.heap.size, 1, none⟩ = some (.slice y3_2 (ParseDependency_r0 x0 s1).head.length y3_3) := ((c4_17).cell (p := ⟨w3.heap.size, 1, none⟩) (by show w3.heap.size < _; omega)).trans K5.out
  have f73 : (w16.alloc (.cells #[.slice y60_0 (ParseDependency_r0 x0 s1).body.length y60_1, .slice y60_2 (ParseDependency_r0 x0 s1).head.length y60_3, .bool (ParseDependency_r0 x0 s1).egd, .int .i64 (ParseDependency_r0 x0 s1).left, .int .i64 (ParseDependency_r0 x0 s1).right] 37)).cell? ⟨w3.heap.size, 2, none⟩ = some (.bool (ParseDependency_r0 x0 s1).egd) := ((c4_17).cell (p := ⟨w3.heap.size, 2, none⟩) (by show w3.heap.size < _; omega)).trans K6.out
  have f74 : (w16.alloc (.cells #[.slice y60_0 (ParseDependency_r0 x0 s1).body.length y60_1, .slice y60_2 (ParseDependency_r0 x0 s1).head.length y60_3, .bool (ParseDependency_r0 x0 s1).egd, .int .i64 (ParseDependency_r0 x0 s1).left, .int .i64 (ParseDependency_r0 x0 s1).right] 37)).cell? ⟨w3.heap.size, 3, none⟩ = some (.int .i64 (ParseDependency_r0 x0 s1).left) := ((c4_17).cell (p := ⟨w3.heap.size, 3, none⟩) (by show w3.heap.size < _; omega)).trans K7.out
  have f75 : (w16.alloc (.cells #[.slice y60_0 (ParseDependency_r0 x0 s1).body.length y60_1, .slice y60_2 (ParseDependency_r0 x0 s1).head.length y60_3, .bool (ParseDependency_r0 x0 s1).egd, .int .i64 (ParseDependency_r0 x0 s1).left, .int .i64 (ParseDependency_r0 x0 s1).right] 37)).cell? ⟨w3.heap.size, 4, none⟩ = some (.int .i64 (ParseDependency_r0 x0 s1).right) := ((c4_17).cell (p := ⟨w3.heap.size, 4, none⟩) (by show w3.heap.size < _; omega)).trans K8.out
  have c16_17 : Below w16.heap.size w16 (w16.alloc (.cells #[.slice y60_0 (ParseDependency_r0 x0 s1).body.length y60_1, .slice y60_2 (ParseDependency_r0 x0 s1).head.length y60_3, .bool (ParseDependency_r0 x0 s1).egd, .int .i64 (ParseDependency_r0 x0 s1).left, .int .i64 (ParseDependency_r0 x0 s1).right] 37)) := hb17
  have c3_17 : Below w3.heap.size w3 (w16.alloc (.cells #[.slice y60_0 (ParseDependency_r0 x0 s1).body.length y60_1, .slice y60_2 (ParseDependency_r0 x0 s1).head.length y60_3, .bool (ParseDependency_r0 x0 s1).egd, .int .i64 (ParseDependency_r0 x0 s1).left, .int .i64 (ParseDependency_r0 x0 s1).right] 37)) := ((((((c3_11.trans (hb12.mono (by omega))).trans (hb13.mid_below (by omega) (by omega))).trans (hb14.mono (by omega))).trans (hb15.mono (by omega))).trans (hb16.mono (by omega))).trans (hb17.mono (by omega)))
  go_wp2_with fail
  refine (eqDependency_c _ _ (ParseDependency_r0 x0 s1) _ ((p59_0.below c16_17 (Nat.le_refl _)).at_ (by omega)) ((p2_0.below c3_17 (Nat.le_refl _)).more c3_17.size)).mono ?_
  rintro e w18 ⟨rfl, hb18⟩
  have z18 : (w16.alloc (.cells #[.slice y60_0 (ParseDependency_r0 x0 s1).body.length y60_1, .slice y60_2 (ParseDependency_r0 x0 s1).head.length y60_3, .bool (ParseDependency_r0 x0 s1).egd, .int .i64 (ParseDependency_r0 x0 s1).left, .int .i64 (ParseDependency_r0 x0 s1).right] 37)).heap.size ≤ w18.heap.size := hb18.size
  clear f66 f67 f68 f69 f70 f71 f72 f73 f74 f75
  have c13_18 : Below w13.heap.size w13 w18 := ((((hb14.trans (hb15.mono (by omega))).trans (hb16.mono (by omega))).trans (hb17.mono (by omega))).trans (hb18.mono (by omega)))
  have f76 : w18.cell? ⟨w6.heap.size, 0, none⟩ = some (.slice y11_0 (ParseDependency_r0 x0 s1).body.length y11_1) := ((c13_18).cell (p := ⟨w6.heap.size, 0, none⟩) (by show w6.heap.size < _; omega)).trans K48.out
  have f77 : w18.cell? ⟨w6.heap.size, 1, none⟩ = some (.slice y11_2 (ParseDependency_r0 x0 s1).head.length y11_3) := ((c13_18).cell (p := ⟨w6.heap.size, 1, none⟩) (by show w6.heap.size < _; omega)).trans K49.out
  have f78 : w18.cell? ⟨w6.heap.size, 2, none⟩ = some (.bool (ParseDependency_r0 x0 s1).egd) := ((c13_18).cell (p := ⟨w6.heap.size, 2, none⟩) (by show w6.heap.size < _; omega)).trans K50.out
  have f79 : w18.cell? ⟨w6.heap.size, 3, none⟩ = some (.int .i64 (ParseDependency_r0 x0 s1).left) := ((c13_18).cell (p := ⟨w6.heap.size, 3, none⟩) (by show w6.heap.size < _; omega)).trans K51.out
  have f80 : w18.cell? ⟨w6.heap.size, 4, none⟩ = some (.int .i64 (ParseDependency_r0 x0 s1).right) := ((c13_18).cell (p := ⟨w6.heap.size, 4, none⟩) (by show w6.heap.size < _; omega)).trans K52.out
  go_wp2_with fail
  refine (heldDependency_c _ (ParseDependency_r0 x0 s1) (1) _ ((om13.below c13_18 (by omega)).at_ (by omega)) q59_0 (by omega) (by omega)).mono ?_
  rintro e w19 ⟨rfl, hb19⟩
  have z19 : w18.heap.size ≤ w19.heap.size := hb19.size
  clear f76 f77 f78 f79 f80
  have c0_19 : Below w.heap.size w w19 := ((((c0_15.trans (hb16.mono (by omega))).trans (hb17.mono (by omega))).trans (hb18.mono (by omega))).trans (hb19.mono (by omega)))
  go_wp2
  go_ret
  exact ⟨rfl, c0_19⟩

theorem ty : ∀ t ∈ Tryz.f6.params.toList, Tryz.prog.readableRec t = true ∧ t < Tryz.prog.types.size := by
  rw [Tryz.params6]; intro t ht
  simp only [List.mem_cons, List.not_mem_nil, or_false] at ht
  rcases ht with rfl | rfl <;> exact ⟨by kernel_rfl, of_decide_eq_true (by kernel_rfl)⟩
noncomputable def laidWorld (os : Os) : World :=
  setVar (setVar (setVar (setVar (setVar (setVar (setVar (World.holding Tryz.prog os ⟨#[.cells #[sentText Rows.laid_strconv_ErrRange] 288, .cells #[sentText Rows.laid_strconv_ErrSyntax] 288], #[], []⟩) 6 (aggCells Rows.laid_math_bits_deBruijn32tab)) 7 (aggCells Rows.laid_math_bits_deBruijn64tab)) 5 (aggCells Rows.laid_internal_strconv_uint64pow10)) 2 (aggCells Rows.laid_unicode_utf8_acceptRanges)) 4 #[.iface 286 (.pointer (some ⟨low + 0, 0, none⟩))]) 3 #[.iface 286 (.pointer (some ⟨low + 1, 0, none⟩))]) 1 (aggCells Rows.laid_unicode_utf8_first)
theorem laid_met (os : Os) : laidMet Tryz.prog Rows.fnExactParseDependencyRow.laid ((laidWorld os).forCall (fun _ _ => 0) ⟨#[], #[.slice none 0 0, .string ⟨#[]⟩], []⟩).memory :=
  laidMet_of_run' 100 (by kernel_rfl) (by kernel_rfl)
theorem reads (os : Os) {H : Type} (enc : TypeId × Value → H) : ∃ places, DataW.whole enc Tryz.prog ((laidWorld os).forCall (fun _ _ => 0) ⟨#[], #[.slice none 0 0, .string ⟨#[]⟩], []⟩).memory Tryz.f6.params.toList Rows.fnExactParseDependencySpec.vars false (#[.slice none 0 0, .string ⟨#[]⟩] : Array Value).toList 8 = some ([.nil, .lit (.string [])], [], places) :=
  ⟨[], by kernel_rfl⟩
set_option maxRecDepth 100000 in
theorem lifted (os : Os) (started : os.Started) (H : Type) (enc : TypeId × Value → H) (F : Stop.Interp) :
    ReturnsInHanded {} Tryz.checked os 6 .any ((OpenSpec.ofChange Rows.fnExactParseDependencySpec).preRow enc Tryz.prog Tryz.f6 Rows.fnExactParseDependencyRow.domain false Rows.fnExactParseDependencyRow.laid) (((OpenSpec.ofChange Rows.fnExactParseDependencySpec).at F).post enc Tryz.prog Tryz.f6 false true false false) := by
  obtain ⟨places, hx⟩ := reads os enc
  refine returnsInHanded_of_row (C := Tryz.checked) (s := OpenSpec.ofChange Rows.fnExactParseDependencySpec) ownFact started (by kernel_rfl) Tryz.func6
    (witness_row_at (enc := enc) (C := Tryz.checked) false (laidWorld os) #[.slice none 0 0, .string ⟨#[]⟩] rfl (by kernel_rfl) (by kernel_rfl) (by kernel_rfl)
      (OpenSpec.preRow_of_cond 8 hx (by kernel_rfl) (fun k hk => by cases hk) (by kernel_rfl) (laid_met os))) ?_
  intro W base args ds gs before hval0 hW _ _ _ hL hSh _
  have hval : ∀ (j : Nat) t v, Tryz.f6.params[j]? = some t → args[j]? = some v → Value.okWide Tryz.prog W .any base t v := hval0
  have hW' := hW
  obtain ⟨p, q, hA0, hV, _, hfz, hnd⟩ := hW
  have hA : DataW.TrodAll enc Tryz.prog W 0 (fun _ => true) true Tryz.f6.params.toList args.toList ds p := hA0
  rw [Tryz.params6] at hA hval
  obtain ⟨v0, vs0, d0, ds0, p0, q0, hargs, rfl, _, h0, r0⟩ := trodAll_cons hA
  obtain ⟨v1, vs1, d1, ds1, p1, q1, rfl, rfl, _, h1, r1⟩ := trodAll_cons r0
  obtain ⟨rfl, rfl, _⟩ := trodAll_nil r1
  obtain rfl : args = #[v0, v1] := by cases args; simp_all
  obtain ⟨rfl, _⟩ := trodVars_none hV
  obtain ⟨x0, hx0, hwx0⟩ := open_RelationS (hval 0 _ v0 rfl rfl) h0 (DataW.TrodAll.lt (trodAll_mk1 h0))
  obtain ⟨a1, rfl, _, _, wa1⟩ := open_string Tryz.underlying9 (hval 1 9 v1 rfl rfl) h1
  have hL1 : laidMet Tryz.prog Rows.fnExactParseDependencyRow.laid W := hL
  refine (walk v0 x0 a1 wa1 W hx0 hwx0 (tab_of_laid (laidMet.tail (laidMet.tail hL1))) (errVars_of_laid (laidMet.tail (laidMet.tail (laidMet.tail (laidMet.tail hL1))))) (maxL_of_shape hSh)).mono fun e W' ⟨he, hb⟩ => ?_
  subst he
  exact ⟨_, rfl, law_post laidFact ty Tryz.underlying4 (by kernel_rfl) rfl hW' rfl hb⟩
theorem closed1 : (Rows.fnExactParseDependencyRow.inPlace == Tryz.pinned.checked.prog.inPlace 6) = true := by kernel_rfl
theorem closed2 : (Rows.fnExactParseDependencyRow.unfollowed == Tryz.pinned.checked.prog.unfollowed 6) = true := by kernel_rfl
theorem closed3 : (Rows.fnExactParseDependencyRow.recurses == Tryz.pinned.checked.prog.recurses 6) = true := by kernel_rfl
theorem closed4 : (Rows.fnExactParseDependencyRow.named == Tryz.pinned.checked.prog.varsNamed 6) = true := by kernel_rfl
theorem closed : joinedFacts Tryz.pinned.checked.prog 6 Tryz.f6 (OpenSpec.ofChange Rows.fnExactParseDependencySpec).bare Rows.fnExactParseDependencyRow = true := by
  unfold joinedFacts
  rw [closed1, closed2, closed3, closed4]
  kernel_rfl
theorem said : Rows.FnExactParseDependencySaid :=
  OpenClaim.holds_of_cond 6 Tryz.f6 rfl rfl rfl rfl rfl rfl rfl ⟨rfl, rfl, rfl, rfl, rfl⟩ rfl rfl rfl rfl rfl (by kernel_rfl) Tryz.func6 closed
    (of_decide_eq_true (by kernel_rfl)) (by unfold Func.isWrapper; first | (rw [if_pos (by decide +kernel)]; kernel_rfl) | (rw [if_neg (by decide +kernel)]; exact ⟨rfl, rfl⟩))
    (fun os started H enc _ F => by rw [OpenClaim.pre_eq_preRow]; exact lifted os started H enc F)
theorem plain (f : FuncId) (fn : Func) (hf : Tryz.pinned.checked.prog.funcNamed "loop.example/g01919/laws.FnExactParseDependency" = some f) (hfn : Tryz.pinned.checked.prog.funcs[f]? = some fn) :
    true = Tryz.pinned.checked.prog.looks [] ∧ ∀ (j : Nat) t, fn.params[j]? = some t → Tryz.pinned.checked.prog.wantsStandIn t = false := by
  obtain rfl : f = 6 := Option.some.inj ((show Tryz.prog.funcNamed "loop.example/g01919/laws.FnExactParseDependency" = some 6 by kernel_rfl).symm.trans hf) |>.symm
  obtain rfl : fn = Tryz.f6 := (Option.some.inj (Tryz.func6.symm.trans hfn)).symm
  refine ⟨by kernel_rfl, fun j t ht => ?_⟩
  rw [Tryz.params6] at ht
  have ht2 := Array.mem_of_getElem? ht
  simp only [List.mem_toArray, List.mem_cons, List.not_mem_nil, or_false] at ht2
  rcases ht2 with rfl | rfl
  · exact (show Tryz.prog.wantsStandIn 65 = false by kernel_rfl)
  · exact (show Tryz.prog.wantsStandIn 9 = false by kernel_rfl)
theorem holds : Rows.FnExactParseDependencyCardSaid :=
  Claim7.holds_tied_plain_at .later [] _ _ _ _ said (fun _ h => by cases h) (by kernel_rfl) (fun _ h => by cases h) fnExactParseDependency_row_tie rfl ⟨rfl, rfl⟩ (by kernel_rfl) rfl plain (by kernel_rfl)
end lawFnExactParseDependency

end Go.Proofs.YtmecdjincmkofaaGreatDoor
