/-
  FnExactIsSolution: for every argument the translated law returns true, and each argument reads afterwards as it read before. Conditions: none beyond the given row's own.
-/
import Derived.Test.YtobdijcnfmgidaaGreatPlan
import Derived.Test.YtobdijcnfmgidaaGreatDepSC
import Derived.Test.YtobdijcnfmgidaaGreatFactSC
import Derived.Test.YtobdijcnfmgidaaGreatLift
import Derived.Test.YtobdijcnfmgidaaGreatSolS
import Derived.Test.YtobdijcnfmgidaaGreatEqRI
namespace Go.Proofs.YtobdijcnfmgidaaGreat
open Go.RowKit Go.ChangeShapes Go.WideShapes Go.ChangeAt Go.ChangeMaps

namespace lawFnExactIsSolution

set_option maxRecDepth 100000 in
set_option maxHeartbeats 1600000 in
theorem walk (v0 : Value) (x0 : Inst) (v1 : Value) (x1 : Inst) (v2 : Value) (x2 : List Dep) (w : World) (h0 : Instance_at w w.heap.size v0 x0) (hw0 : Instance_wf x0) (h1 : Instance_at w w.heap.size v1 x1) (hw1 : Instance_wf x1) (h2 : DependencyS_at w w.heap.size v2 x2) (hw2 : DependencyS_wf x2) :
    Calls Tryz.prog 6 #[v0, v1, v2] w fun e w' => e = .returned (.bool true) ∧ Below w.heap.size w w' := by
  obtain ⟨v0_0, v0_1, v0_2, v0_3, rfl⟩ := Instance_form h0
  have A0 := Lib.hid h0
  have W0 := Lib.hid hw0
  clear h0 hw0
  obtain ⟨v1_0, v1_1, v1_2, v1_3, rfl⟩ := Instance_form h1
  have A1 := Lib.hid h1
  have W1 := Lib.hid hw1
  clear h1 hw1
  have A2 := Lib.hid h2
  have W2 := Lib.hid hw2
  clear h2 hw2
  by_cases hz1 : ((Instance_sz x0 : Nat) : Int) ≤ 1048576
  rotate_left
  · skip
    have e1 := szLeft_no hz1
    have hb1 : Below w.heap.size w ((w.alloc (.cells #[.slice v0_0 x0.rels.length v0_1, .slice v0_2 x0.facts.length v0_3] 49)).alloc (.cells #[.slice v1_0 x1.rels.length v1_1, .slice v1_2 x1.facts.length v1_3] 49)) := below_more (below_more (Below.refl _ _) _) _
    have z1 : w.heap.size + 2 ≤ ((w.alloc (.cells #[.slice v0_0 x0.rels.length v0_1, .slice v0_2 x0.facts.length v0_3] 49)).alloc (.cells #[.slice v1_0 x1.rels.length v1_1, .slice v1_2 x1.facts.length v1_3] 49)).heap.size := by simp
    have K1 := Lib.hid (show ((w.alloc (.cells #[.slice v0_0 x0.rels.length v0_1, .slice v0_2 x0.facts.length v0_3] 49)).alloc (.cells #[.slice v1_0 x1.rels.length v1_1, .slice v1_2 x1.facts.length v1_3] 49)).cell? ⟨w.heap.size, 0, none⟩ = some (.slice v0_0 x0.rels.length v0_1) by simp [go_sem])
    have K2 := Lib.hid (show ((w.alloc (.cells #[.slice v0_0 x0.rels.length v0_1, .slice v0_2 x0.facts.length v0_3] 49)).alloc (.cells #[.slice v1_0 x1.rels.length v1_1, .slice v1_2 x1.facts.length v1_3] 49)).cell? ⟨w.heap.size, 1, none⟩ = some (.slice v0_2 x0.facts.length v0_3) by simp [go_sem])
    have K3 := Lib.hid (show ((w.alloc (.cells #[.slice v0_0 x0.rels.length v0_1, .slice v0_2 x0.facts.length v0_3] 49)).alloc (.cells #[.slice v1_0 x1.rels.length v1_1, .slice v1_2 x1.facts.length v1_3] 49)).cell? ⟨w.heap.size + 1, 0, none⟩ = some (.slice v1_0 x1.rels.length v1_1) by simp [go_sem])
    have K4 := Lib.hid (show ((w.alloc (.cells #[.slice v0_0 x0.rels.length v0_1, .slice v0_2 x0.facts.length v0_3] 49)).alloc (.cells #[.slice v1_0 x1.rels.length v1_1, .slice v1_2 x1.facts.length v1_3] 49)).cell? ⟨w.heap.size + 1, 1, none⟩ = some (.slice v1_2 x1.facts.length v1_3) by simp [go_sem])
    go_enter Tryz.func6, Tryz.ntmps6
    have f5 : ((w.alloc (.cells #[.slice v0_0 x0.rels.length v0_1, .slice v0_2 x0.facts.length v0_3] 49)).alloc (.cells #[.slice v1_0 x1.rels.length v1_1, .slice v1_2 x1.facts.length v1_3] 49)).cell? ⟨w.heap.size, 0, none⟩ = some (.slice v0_0 x0.rels.length v0_1) := K1.out
    have f6 : ((w.alloc (.cells #[.slice v0_0 x0.rels.length v0_1, .slice v0_2 x0.facts.length v0_3] 49)).alloc (.cells #[.slice v1_0 x1.rels.length v1_1, .slice v1_2 x1.facts.length v1_3] 49)).cell? ⟨w.heap.size, 1, none⟩ = some (.slice v0_2 x0.facts.length v0_3) := K2.out
    have c0_1 : Below w.heap.size w ((w.alloc (.cells #[.slice v0_0 x0.rels.length v0_1, .slice v0_2 x0.facts.length v0_3] 49)).alloc (.cells #[.slice v1_0 x1.rels.length v1_1, .slice v1_2 x1.facts.length v1_3] 49)) := hb1
    go_wp2_with fail
    refine (szInstance_c _ x0 (1048576) _ ((A0.out.below c0_1 (Nat.le_refl _)).more c0_1.size) W0.out (by omega) (by omega)).mono ?_
    rw [e1]
    rintro e w2 ⟨rfl, hb2⟩
    have z2 : ((w.alloc (.cells #[.slice v0_0 x0.rels.length v0_1, .slice v0_2 x0.facts.length v0_3] 49)).alloc (.cells #[.slice v1_0 x1.rels.length v1_1, .slice v1_2 x1.facts.length v1_3] 49)).heap.size ≤ w2.heap.size := hb2.size
    clear f5 f6
    have c0_2 : Below w.heap.size w w2 := (c0_1.trans (hb2.mono (by omega)))
    go_wp2
    go_ret
    exact ⟨rfl, c0_2⟩
  by_cases hz2 : ((Instance_sz x1 : Nat) : Int) ≤ 1048576 - (Instance_sz x0 : Nat)
  rotate_left
  · skip
    have e1 := szLeft_yes hz1
    have e2 := szLeft_no hz2
    have hb1 : Below w.heap.size w ((w.alloc (.cells #[.slice v0_0 x0.rels.length v0_1, .slice v0_2 x0.facts.length v0_3] 49)).alloc (.cells #[.slice v1_0 x1.rels.length v1_1, .slice v1_2 x1.facts.length v1_3] 49)) := below_more (below_more (Below.refl _ _) _) _
    have z1 : w.heap.size + 2 ≤ ((w.alloc (.cells #[.slice v0_0 x0.rels.length v0_1, .slice v0_2 x0.facts.length v0_3] 49)).alloc (.cells #[.slice v1_0 x1.rels.length v1_1, .slice v1_2 x1.facts.length v1_3] 49)).heap.size := by simp
    have K1 := Lib.hid (show ((w.alloc (.cells #[.slice v0_0 x0.rels.length v0_1, .slice v0_2 x0.facts.length v0_3] 49)).alloc (.cells #[.slice v1_0 x1.rels.length v1_1, .slice v1_2 x1.facts.length v1_3] 49)).cell? ⟨w.heap.size, 0, none⟩ = some (.slice v0_0 x0.rels.length v0_1) by simp [go_sem])
    have K2 := Lib.hid (show ((w.alloc (.cells #[.slice v0_0 x0.rels.length v0_1, .slice v0_2 x0.facts.length v0_3] 49)).alloc (.cells #[.slice v1_0 x1.rels.length v1_1, .slice v1_2 x1.facts.length v1_3] 49)).cell? ⟨w.heap.size, 1, none⟩ = some (.slice v0_2 x0.facts.length v0_3) by simp [go_sem])
    have K3 := Lib.hid (show ((w.alloc (.cells #[.slice v0_0 x0.rels.length v0_1, .slice v0_2 x0.facts.length v0_3] 49)).alloc (.cells #[.slice v1_0 x1.rels.length v1_1, .slice v1_2 x1.facts.length v1_3] 49)).cell? ⟨w.heap.size + 1, 0, none⟩ = some (.slice v1_0 x1.rels.length v1_1) by simp [go_sem])
    have K4 := Lib.hid (show ((w.alloc (.cells #[.slice v0_0 x0.rels.length v0_1, .slice v0_2 x0.facts.length v0_3] 49)).alloc (.cells #[.slice v1_0 x1.rels.length v1_1, .slice v1_2 x1.facts.length v1_3] 49)).cell? ⟨w.heap.size + 1, 1, none⟩ = some (.slice v1_2 x1.facts.length v1_3) by simp [go_sem])
    go_enter Tryz.func6, Tryz.ntmps6
    have f7 : ((w.alloc (.cells #[.slice v0_0 x0.rels.length v0_1, .slice v0_2 x0.facts.length v0_3] 49)).alloc (.cells #[.slice v1_0 x1.rels.length v1_1, .slice v1_2 x1.facts.length v1_3] 49)).cell? ⟨w.heap.size, 0, none⟩ = some (.slice v0_0 x0.rels.length v0_1) := K1.out
    have f8 : ((w.alloc (.cells #[.slice v0_0 x0.rels.length v0_1, .slice v0_2 x0.facts.length v0_3] 49)).alloc (.cells #[.slice v1_0 x1.rels.length v1_1, .slice v1_2 x1.facts.length v1_3] 49)).cell? ⟨w.heap.size, 1, none⟩ = some (.slice v0_2 x0.facts.length v0_3) := K2.out
    have c0_1 : Below w.heap.size w ((w.alloc (.cells #[.slice v0_0 x0.rels.length v0_1, .slice v0_2 x0.facts.length v0_3] 49)).alloc (.cells #[.slice v1_0 x1.rels.length v1_1, .slice v1_2 x1.facts.length v1_3] 49)) := hb1
    go_wp2_with fail
    refine (szInstance_c _ x0 (1048576) _ ((A0.out.below c0_1 (Nat.le_refl _)).more c0_1.size) W0.out (by omega) (by omega)).mono ?_
    rw [e1]
    rintro e w2 ⟨rfl, hb2⟩
    have z2 : ((w.alloc (.cells #[.slice v0_0 x0.rels.length v0_1, .slice v0_2 x0.facts.length v0_3] 49)).alloc (.cells #[.slice v1_0 x1.rels.length v1_1, .slice v1_2 x1.facts.length v1_3] 49)).heap.size ≤ w2.heap.size := hb2.size
    clear f7 f8
    have c1_2 : Below ((w.alloc (.cells #[.slice v0_0 x0.rels.length v0_1, .slice v0_2 x0.facts.length v0_3] 49)).alloc (.cells #[.slice v1_0 x1.rels.length v1_1, .slice v1_2 x1.facts.length v1_3] 49)).heap.size ((w.alloc (.cells #[.slice v0_0 x0.rels.length v0_1, .slice v0_2 x0.facts.length v0_3] 49)).alloc (.cells #[.slice v1_0 x1.rels.length v1_1, .slice v1_2 x1.facts.length v1_3] 49)) w2 := hb2
    have f9 : w2.cell? ⟨w.heap.size + 1, 0, none⟩ = some (.slice v1_0 x1.rels.length v1_1) := ((c1_2).cell (p := ⟨w.heap.size + 1, 0, none⟩) (by show w.heap.size + 1 < _; omega)).trans K3.out
    have f10 : w2.cell? ⟨w.heap.size + 1, 1, none⟩ = some (.slice v1_2 x1.facts.length v1_3) := ((c1_2).cell (p := ⟨w.heap.size + 1, 1, none⟩) (by show w.heap.size + 1 < _; omega)).trans K4.out
    have c0_2 : Below w.heap.size w w2 := (c0_1.trans (hb2.mono (by omega)))
    go_wp2_with fail
    refine (szInstance_c _ x1 (1048576 - (Instance_sz x0 : Nat)) _ ((A1.out.below c0_2 (Nat.le_refl _)).more c0_2.size) W1.out (by omega) (by omega)).mono ?_
    rw [e2]
    rintro e w3 ⟨rfl, hb3⟩
    have z3 : w2.heap.size ≤ w3.heap.size := hb3.size
    clear f9 f10
    have c0_3 : Below w.heap.size w w3 := (c0_2.trans (hb3.mono (by omega)))
    go_wp2
    go_ret
    exact ⟨rfl, c0_3⟩
  by_cases hz3 : ((DependencyS_sz x2 : Nat) : Int) ≤ 1048576 - (Instance_sz x0 : Nat) - (Instance_sz x1 : Nat)
  rotate_left
  · skip
    have e1 := szLeft_yes hz1
    have e2 := szLeft_yes hz2
    have e3 := szLeft_no hz3
    have hb1 : Below w.heap.size w ((w.alloc (.cells #[.slice v0_0 x0.rels.length v0_1, .slice v0_2 x0.facts.length v0_3] 49)).alloc (.cells #[.slice v1_0 x1.rels.length v1_1, .slice v1_2 x1.facts.length v1_3] 49)) := below_more (below_more (Below.refl _ _) _) _
    have z1 : w.heap.size + 2 ≤ ((w.alloc (.cells #[.slice v0_0 x0.rels.length v0_1, .slice v0_2 x0.facts.length v0_3] 49)).alloc (.cells #[.slice v1_0 x1.rels.length v1_1, .slice v1_2 x1.facts.length v1_3] 49)).heap.size := by simp
    have K1 := Lib.hid (show ((w.alloc (.cells #[.slice v0_0 x0.rels.length v0_1, .slice v0_2 x0.facts.length v0_3] 49)).alloc (.cells #[.slice v1_0 x1.rels.length v1_1, .slice v1_2 x1.facts.length v1_3] 49)).cell? ⟨w.heap.size, 0, none⟩ = some (.slice v0_0 x0.rels.length v0_1) by simp [go_sem])
    have K2 := Lib.hid (show ((w.alloc (.cells #[.slice v0_0 x0.rels.length v0_1, .slice v0_2 x0.facts.length v0_3] 49)).alloc (.cells #[.slice v1_0 x1.rels.length v1_1, .slice v1_2 x1.facts.length v1_3] 49)).cell? ⟨w.heap.size, 1, none⟩ = some (.slice v0_2 x0.facts.length v0_3) by simp [go_sem])
    have K3 := Lib.hid (show ((w.alloc (.cells #[.slice v0_0 x0.rels.length v0_1, .slice v0_2 x0.facts.length v0_3] 49)).alloc (.cells #[.slice v1_0 x1.rels.length v1_1, .slice v1_2 x1.facts.length v1_3] 49)).cell? ⟨w.heap.size + 1, 0, none⟩ = some (.slice v1_0 x1.rels.length v1_1) by simp [go_sem])
    have K4 := Lib.hid (show ((w.alloc (.cells #[.slice v0_0 x0.rels.length v0_1, .slice v0_2 x0.facts.length v0_3] 49)).alloc (.cells #[.slice v1_0 x1.rels.length v1_1, .slice v1_2 x1.facts.length v1_3] 49)).cell? ⟨w.heap.size + 1, 1, none⟩ = some (.slice v1_2 x1.facts.length v1_3) by simp [go_sem])
    go_enter Tryz.func6, Tryz.ntmps6
    have f11 : ((w.alloc (.cells #[.slice v0_0 x0.rels.length v0_1, .slice v0_2 x0.facts.length v0_3] 49)).alloc (.cells #[.slice v1_0 x1.rels.length v1_1, .slice v1_2 x1.facts.length v1_3] 49)).cell? ⟨w.heap.size, 0, none⟩ = some (.slice v0_0 x0.rels.length v0_1) := K1.out
    have f12 : ((w.alloc (.cells #[.slice v0_0 x0.rels.length v0_1, .slice v0_2 x0.facts.length v0_3] 49)).alloc (.cells #[.slice v1_0 x1.rels.length v1_1, .slice v1_2 x1.facts.length v1_3] 49)).cell? ⟨w.heap.size, 1, none⟩ = some (.slice v0_2 x0.facts.length v0_3) := K2.out
    have c0_1 : Below w.heap.size w ((w.alloc (.cells #[.slice v0_0 x0.rels.length v0_1, .slice v0_2 x0.facts.length v0_3] 49)).alloc (.cells #[.slice v1_0 x1.rels.length v1_1, .slice v1_2 x1.facts.length v1_3] 49)) := hb1
    go_wp2_with fail
    refine (szInstance_c _ x0 (1048576) _ ((A0.out.below c0_1 (Nat.le_refl _)).more c0_1.size) W0.out (by omega) (by omega)).mono ?_
    rw [e1]
    rintro e w2 ⟨rfl, hb2⟩
    have z2 : ((w.alloc (.cells #[.slice v0_0 x0.rels.length v0_1, .slice v0_2 x0.facts.length v0_3] 49)).alloc (.cells #[.slice v1_0 x1.rels.length v1_1, .slice v1_2 x1.facts.length v1_3] 49)).heap.size ≤ w2.heap.size := hb2.size
    clear f11 f12
    have c1_2 : Below ((w.alloc (.cells #[.slice v0_0 x0.rels.length v0_1, .slice v0_2 x0.facts.length v0_3] 49)).alloc (.cells #[.slice v1_0 x1.rels.length v1_1, .slice v1_2 x1.facts.length v1_3] 49)).heap.size ((w.alloc (.cells #[.slice v0_0 x0.rels.length v0_1, .slice v0_2 x0.facts.length v0_3] 49)).alloc (.cells #[.slice v1_0 x1.rels.length v1_1, .slice v1_2 x1.facts.length v1_3] 49)) w2 := hb2
    have f13 : w2.cell? ⟨w.heap.size + 1, 0, none⟩ = some (.slice v1_0 x1.rels.length v1_1) := ((c1_2).cell (p := ⟨w.heap.size + 1, 0, none⟩) (by show w.heap.size + 1 < _; omega)).trans K3.out
    have f14 : w2.cell? ⟨w.heap.size + 1, 1, none⟩ = some (.slice v1_2 x1.facts.length v1_3) := ((c1_2).cell (p := ⟨w.heap.size + 1, 1, none⟩) (by show w.heap.size + 1 < _; omega)).trans K4.out
    have c0_2 : Below w.heap.size w w2 := (c0_1.trans (hb2.mono (by omega)))
    go_wp2_with fail
    refine (szInstance_c _ x1 (1048576 - (Instance_sz x0 : Nat)) _ ((A1.out.below c0_2 (Nat.le_refl _)).more c0_2.size) W1.out (by omega) (by omega)).mono ?_
    rw [e2]
    rintro e w3 ⟨rfl, hb3⟩
    have z3 : w2.heap.size ≤ w3.heap.size := hb3.size
    clear f13 f14
    have c0_3 : Below w.heap.size w w3 := (c0_2.trans (hb3.mono (by omega)))
    go_wp2_with fail
    refine (szDependencyS_c _ x2 (1048576 - (Instance_sz x0 : Nat) - (Instance_sz x1 : Nat)) _ ((A2.out.below c0_3 (Nat.le_refl _)).more c0_3.size) W2.out (by omega) (by omega)).mono ?_
    rw [e3]
    rintro e w4 ⟨rfl, hb4⟩
    have z4 : w3.heap.size ≤ w4.heap.size := hb4.size
    have c0_4 : Below w.heap.size w w4 := (c0_3.trans (hb4.mono (by omega)))
    go_wp2
    go_ret
    exact ⟨rfl, c0_4⟩
  have e1 := szLeft_yes hz1
  have S0 : Instance_sz x0 ≤ 1048576 := by omega
  have N0 := Instance_cnt_le x0
  have e2 := szLeft_yes hz2
  have S1 : Instance_sz x1 ≤ 1048576 := by omega
  have N1 := Instance_cnt_le x1
  have e3 := szLeft_yes hz3
  have S2 : DependencyS_sz x2 ≤ 1048576 := by omega
  have N2 := DependencyS_cnt_le x2
  have hb1 : Below w.heap.size w ((w.alloc (.cells #[.slice v0_0 x0.rels.length v0_1, .slice v0_2 x0.facts.length v0_3] 49)).alloc (.cells #[.slice v1_0 x1.rels.length v1_1, .slice v1_2 x1.facts.length v1_3] 49)) := below_more (below_more (Below.refl _ _) _) _
  have z1 : w.heap.size + 2 ≤ ((w.alloc (.cells #[.slice v0_0 x0.rels.length v0_1, .slice v0_2 x0.facts.length v0_3] 49)).alloc (.cells #[.slice v1_0 x1.rels.length v1_1, .slice v1_2 x1.facts.length v1_3] 49)).heap.size := by simp
  have K1 := Lib.hid (show ((w.alloc (.cells #[.slice v0_0 x0.rels.length v0_1, .slice v0_2 x0.facts.length v0_3] 49)).alloc (.cells #[.slice v1_0 x1.rels.length v1_1, .slice v1_2 x1.facts.length v1_3] 49)).cell? ⟨w.heap.size, 0, none⟩ = some (.slice v0_0 x0.rels.length v0_1) by simp [go_sem])
  have K2 := Lib.hid (show ((w.alloc (.cells #[.slice v0_0 x0.rels.length v0_1, .slice v0_2 x0.facts.length v0_3] 49)).alloc (.cells #[.slice v1_0 x1.rels.length v1_1, .slice v1_2 x1.facts.length v1_3] 49)).cell? ⟨w.heap.size, 1, none⟩ = some (.slice v0_2 x0.facts.length v0_3) by simp [go_sem])
  have K3 := Lib.hid (show ((w.alloc (.cells #[.slice v0_0 x0.rels.length v0_1, .slice v0_2 x0.facts.length v0_3] 49)).alloc (.cells #[.slice v1_0 x1.rels.length v1_1, .slice v1_2 x1.facts.length v1_3] 49)).cell? ⟨w.heap.size + 1, 0, none⟩ = some (.slice v1_0 x1.rels.length v1_1) by simp [go_sem])
  have K4 := Lib.hid (show ((w.alloc (.cells #[.slice v0_0 x0.rels.length v0_1, .slice v0_2 x0.facts.length v0_3] 49)).alloc (.cells #[.slice v1_0 x1.rels.length v1_1, .slice v1_2 x1.facts.length v1_3] 49)).cell? ⟨w.heap.size + 1, 1, none⟩ = some (.slice v1_2 x1.facts.length v1_3) by simp [go_sem])
  go_enter Tryz.func6, Tryz.ntmps6
  have f15 : ((w.alloc (.cells #[.slice v0_0 x0.rels.length v0_1, .slice v0_2 x0.facts.length v0_3] 49)).alloc (.cells #[.slice v1_0 x1.rels.length v1_1, .slice v1_2 x1.facts.length v1_3] 49)).cell? ⟨w.heap.size, 0, none⟩ = some (.slice v0_0 x0.rels.length v0_1) := K1.out
  have f16 : ((w.alloc (.cells #[.slice v0_0 x0.rels.length v0_1, .slice v0_2 x0.facts.length v0_3] 49)).alloc (.cells #[.slice v1_0 x1.rels.length v1_1, .slice v1_2 x1.facts.length v1_3] 49)).cell? ⟨w.heap.size, 1, none⟩ = some (.slice v0_2 x0.facts.length v0_3) := K2.out
  have c0_1 : Below w.heap.size w ((w.alloc (.cells #[.slice v0_0 x0.rels.length v0_1, .slice v0_2 x0.facts.length v0_3] 49)).alloc (.cells #[.slice v1_0 x1.rels.length v1_1, .slice v1_2 x1.facts.length v1_3] 49)) := hb1
  go_wp2_with fail
  refine (szInstance_c _ x0 (1048576) _ ((A0.out.below c0_1 (Nat.le_refl _)).more c0_1.size) W0.out (by omega) (by omega)).mono ?_
  rw [e1]
  rintro e w2 ⟨rfl, hb2⟩
  have z2 : ((w.alloc (.cells #[.slice v0_0 x0.rels.length v0_1, .slice v0_2 x0.facts.length v0_3] 49)).alloc (.cells #[.slice v1_0 x1.rels.length v1_1, .slice v1_2 x1.facts.length v1_3] 49)).heap.size ≤ w2.heap.size := hb2.size
  clear f15 f16
  have c1_2 : Below ((w.alloc (.cells #[.slice v0_0 x0.rels.length v0_1, .slice v0_2 x0.facts.length v0_3] 49)).alloc (.cells #[.slice v1_0 x1.rels.length v1_1, .slice v1_2 x1.facts.length v1_3] 49)).heap.size ((w.alloc (.cells #[.slice v0_0 x0.rels.length v0_1, .slice v0_2 x0.facts.length v0_3] 49)).alloc (.cells #[.slice v1_0 x1.rels.length v1_1, .slice v1_2 x1.facts.length v1_3] 49)) w2 := hb2
  have f17 : w2.cell? ⟨w.heap.size + 1, 0, none⟩ = some (.slice v1_0 x1.rels.length v1_1) := ((c1_2).cell (p := ⟨w.heap.size + 1, 0, none⟩) (by show w.heap.size + 1 < _; omega)).trans K3.out
  have f18 : w2.cell? ⟨w.heap.size + 1, 1, none⟩ = some (.slice v1_2 x1.facts.length v1_3) := ((c1_2).cell (p := ⟨w.heap.size + 1, 1, none⟩) (by show w.heap.size + 1 < _; omega)).trans K4.out
  have c0_2 : Below w.heap.size w w2 := (c0_1.trans (hb2.mono (by omega)))
  go_wp2_with fail
  refine (szInstance_c _ x1 (1048576 - (Instance_sz x0 : Nat)) _ ((A1.out.below c0_2 (Nat.le_refl _)).more c0_2.size) W1.out (by omega) (by omega)).mono ?_
  rw [e2]
  rintro e w3 ⟨rfl, hb3⟩
  have z3 : w2.heap.size ≤ w3.heap.size := hb3.size
  clear f17 f18
  have c0_3 : Below w.heap.size w w3 := (c0_2.trans (hb3.mono (by omega)))
  go_wp2_with fail
  refine (szDependencyS_c _ x2 (1048576 - (Instance_sz x0 : Nat) - (Instance_sz x1 : Nat)) _ ((A2.out.below c0_3 (Nat.le_refl _)).more c0_3.size) W2.out (by omega) (by omega)).mono ?_
  rw [e3]
  rintro e w4 ⟨rfl, hb4⟩
  have z4 : w3.heap.size ≤ w4.heap.size := hb4.size
  go_wp2_with fail
  have c1_4 : Below ((w.alloc (.cells #[.slice v0_0 x0.rels.length v0_1, .slice v0_2 x0.facts.length v0_3] 49)).alloc (.cells #[.slice v1_0 x1.rels.length v1_1, .slice v1_2 x1.facts.length v1_3] 49)).heap.size ((w.alloc (.cells #[.slice v0_0 x0.rels.length v0_1, .slice v0_2 x0.facts.length v0_3] 49)).alloc (.cells #[.slice v1_0 x1.rels.length v1_1, .slice v1_2 x1.facts.length v1_3] 49)) w4 := ((c1_2.trans (hb3.mono (by omega))).trans (hb4.mono (by omega)))
  have f19 : w4.cell? ⟨w.heap.size, 0, none⟩ = some (.slice v0_0 x0.rels.length v0_1) := ((c1_4).cell (p := ⟨w.heap.size, 0, none⟩) (by show w.heap.size < _; omega)).trans K1.out
  have gf19 := Aft.cell (B := w4.heap.size) (by omega) f19
  clear f19
  have f20 : w4.cell? ⟨w.heap.size, 1, none⟩ = some (.slice v0_2 x0.facts.length v0_3) := ((c1_4).cell (p := ⟨w.heap.size, 1, none⟩) (by show w.heap.size < _; omega)).trans K2.out
  have gf20 := Aft.cell (B := w4.heap.size) (by omega) f20
  clear f20
  have f21 : w4.cell? ⟨w.heap.size + 1, 0, none⟩ = some (.slice v1_0 x1.rels.length v1_1) := ((c1_4).cell (p := ⟨w.heap.size + 1, 0, none⟩) (by show w.heap.size + 1 < _; omega)).trans K3.out
  have gf21 := Aft.cell (B := w4.heap.size) (by omega) f21
  clear f21
  have f22 : w4.cell? ⟨w.heap.size + 1, 1, none⟩ = some (.slice v1_2 x1.facts.length v1_3) := ((c1_4).cell (p := ⟨w.heap.size + 1, 1, none⟩) (by show w.heap.size + 1 < _; omega)).trans K4.out
  have gf22 := Aft.cell (B := w4.heap.size) (by omega) f22
  clear f22
  refine wp_region_plan (C := fun w' => ∃ u : Aft w4.heap.size w4, w' = u.now) (.still 0 (.move true 1 (.still 2 (.move true 3 (.still 4 (.move true 5 (.move true 6 (.still 7 .done) .none) .none)) .none)) .none)) (by kernel_rfl) (by kernel_rfl) (by kernel_rfl) (fun _ => ⟨⟨_, (Below.refl _ _).drew⟩, rfl⟩) ?_
  have hb5 : Below w4.heap.size w4 w4.drew := (Below.refl _ _).drew
  have z5 : w4.drew.heap.size = w4.heap.size := rfl
  have c0_5 : Below w.heap.size w w4.drew := ((c0_3.trans (hb4.mono (by omega))).trans (hb5.mono (by omega)))
  refine plan_look _ rfl rfl ?_
  go_big_quiet_step (fail)
  refine wpQuiet_nil ?_
  refine plan_call _ 22 _ _ _ _ _ rfl _ Tryz.func22 (by kernel_rfl) (by kernel_rfl) ?_ True.intro
  show Calls Tryz.prog 22 #[.agg #[.slice v0_0 x0.rels.length v0_1, .slice v0_2 x0.facts.length v0_3]] _ _
  refine (toInstance_c _ x0 _ ((A0.out.below c0_5 (Nat.le_refl _)).more c0_5.size) S0).mono ?_
  rintro e w6 ⟨u23, rfl, ou23, hb6⟩
  have z6 : w4.drew.heap.size ≤ w6.heap.size := hb6.size
  obtain ⟨y24_0, y24_1, y24_2, y24_3, rfl⟩ := Instance_form (ou23.at_ (Nat.le_refl _))
  have c4_6 : Below w4.heap.size w4 w6 := (hb5.trans (hb6.mono (by omega)))
  refine ⟨_, rfl, fun _ => ⟨⟨_, c4_6⟩, rfl⟩, ?_⟩
  refine plan_put ?_ (by simp only [Act.put, List.setIfInBounds_toArray, List.set_cons_succ, List.set_cons_zero]; rfl)
  have c0_6 : Below w.heap.size w w6 := (c0_5.trans (hb6.mono (by omega)))
  refine plan_look _ rfl rfl ?_
  go_big_quiet_step (fail)
  refine wpQuiet_nil ?_
  refine plan_call _ 22 _ _ _ _ _ rfl _ Tryz.func22 (by kernel_rfl) (by kernel_rfl) ?_ True.intro
  show Calls Tryz.prog 22 #[.agg #[.slice v1_0 x1.rels.length v1_1, .slice v1_2 x1.facts.length v1_3]] _ _
  refine (toInstance_c _ x1 _ ((A1.out.below c0_6 (Nat.le_refl _)).more c0_6.size) S1).mono ?_
  rintro e w7 ⟨u25, rfl, ou25, hb7⟩
  have z7 : w6.heap.size ≤ w7.heap.size := hb7.size
  obtain ⟨y26_0, y26_1, y26_2, y26_3, rfl⟩ := Instance_form (ou25.at_ (Nat.le_refl _))
  have c4_7 : Below w4.heap.size w4 w7 := (c4_6.trans (hb7.mono (by omega)))
  refine ⟨_, rfl, fun _ => ⟨⟨_, c4_7⟩, rfl⟩, ?_⟩
  refine plan_put ?_ (by simp only [Act.put, List.setIfInBounds_toArray, List.set_cons_succ, List.set_cons_zero]; rfl)
  have c0_7 : Below w.heap.size w w7 := (c0_6.trans (hb7.mono (by omega)))
  refine plan_look _ rfl rfl ?_
  go_big_quiet_step (fail)
  refine wpQuiet_nil ?_
  refine plan_call _ 23 _ _ _ _ _ rfl _ Tryz.func23 (by kernel_rfl) (by kernel_rfl) ?_ True.intro
  show Calls Tryz.prog 23 #[v2] _ _
  refine (toDependencyS_c _ x2 _ ((A2.out.below c0_7 (Nat.le_refl _)).more c0_7.size) S2).mono ?_
  rintro e w8 ⟨u27, rfl, ou27, hb8⟩
  have z8 : w7.heap.size ≤ w8.heap.size := hb8.size
  have c4_8 : Below w4.heap.size w4 w8 := (c4_7.trans (hb8.mono (by omega)))
  refine ⟨_, rfl, fun _ => ⟨⟨_, c4_8⟩, rfl⟩, ?_⟩
  refine plan_put ?_ (by simp only [Act.put, List.setIfInBounds_toArray, List.set_cons_succ, List.set_cons_zero]; rfl)
  have c6_8 : Below w6.heap.size w6 w8 := (hb7.trans (hb8.mono (by omega)))
  have c7_8 : Below w7.heap.size w7 w8 := hb8
  refine plan_call _ 19 _ _ _ _ _ rfl _ Tryz.func19 (by kernel_rfl) (by kernel_rfl) ?_ True.intro
  show Calls Tryz.prog 19 #[.agg #[.slice y24_0 x0.rels.length y24_1, .slice y24_2 x0.facts.length y24_3], .agg #[.slice y26_0 x1.rels.length y26_1, .slice y26_2 x1.facts.length y26_3], u27] _ _
  refine (specIsSolution_c _ x0 _ x1 _ x2 _ ((ou23.below c6_8 (Nat.le_refl _)).at_ (by omega)) W0.out S0 ((ou25.below c7_8 (Nat.le_refl _)).at_ (by omega)) W1.out S1 ((ou27.below (Below.refl w8.heap.size w8) (Nat.le_refl _)).at_ (Nat.le_refl _)) W2.out S2).mono ?_
  rintro e w9 ⟨rfl, hb9⟩
  have z9 : w8.heap.size ≤ w9.heap.size := hb9.size
  have c4_9 : Below w4.heap.size w4 w9 := (c4_8.trans (hb9.mono (by omega)))
  refine ⟨_, rfl, fun _ => ⟨⟨_, c4_9⟩, rfl⟩, ?_⟩
  refine plan_put ?_ (by simp only [Act.put, List.setIfInBounds_toArray, List.set_cons_succ, List.set_cons_zero]; rfl)
  refine plan_look _ rfl rfl ?_
  go_big_quiet_step (fail)
  refine wpQuiet_nil ?_
  refine plan_done ?_
  clear gf19 gf20 gf21 gf22
  have c1_9 : Below ((w.alloc (.cells #[.slice v0_0 x0.rels.length v0_1, .slice v0_2 x0.facts.length v0_3] 49)).alloc (.cells #[.slice v1_0 x1.rels.length v1_1, .slice v1_2 x1.facts.length v1_3] 49)).heap.size ((w.alloc (.cells #[.slice v0_0 x0.rels.length v0_1, .slice v0_2 x0.facts.length v0_3] 49)).alloc (.cells #[.slice v1_0 x1.rels.length v1_1, .slice v1_2 x1.facts.length v1_3] 49)) w9 := (((((c1_4.trans (hb5.mono (by omega))).trans (hb6.mono (by omega))).trans (hb7.mono (by omega))).trans (hb8.mono (by omega))).trans (hb9.mono (by omega)))
  have f29 : w9.cell? ⟨w.heap.size, 0, none⟩ = some (.slice v0_0 x0.rels.length v0_1) := ((c1_9).cell (p := ⟨w.heap.size, 0, none⟩) (by show w.heap.size < _; omega)).trans K1.out
  have f30 : w9.cell? ⟨w.heap.size, 1, none⟩ = some (.slice v0_2 x0.facts.length v0_3) := ((c1_9).cell (p := ⟨w.heap.size, 1, none⟩) (by show w.heap.size < _; omega)).trans K2.out
  have c0_9 : Below w.heap.size w w9 := ((c0_7.trans (hb8.mono (by omega))).trans (hb9.mono (by omega)))
  go_wp2_with fail
  refine (toInstance_c _ x0 _ ((A0.out.below c0_9 (Nat.le_refl _)).more c0_9.size) S0).mono ?_
  rintro e w10 ⟨u31, rfl, ou31, hb10⟩
  have z10 : w9.heap.size ≤ w10.heap.size := hb10.size
  obtain ⟨y32_0, y32_1, y32_2, y32_3, rfl⟩ := Instance_form (ou31.at_ (Nat.le_refl _))
  have hb11 : Below w10.heap.size w10 (w10.alloc (.cells #[.slice y32_0 x0.rels.length y32_1, .slice y32_2 x0.facts.length y32_3] 27)) := below_more (Below.refl _ _) _
  have z11 : w10.heap.size + 1 ≤ (w10.alloc (.cells #[.slice y32_0 x0.rels.length y32_1, .slice y32_2 x0.facts.length y32_3] 27)).heap.size := by simp
  have K33 := Lib.hid (show (w10.alloc (.cells #[.slice y32_0 x0.rels.length y32_1, .slice y32_2 x0.facts.length y32_3] 27)).cell? ⟨w10.heap.size, 0, none⟩ = some (.slice y32_0 x0.rels.length y32_1) by simp [go_sem])
  have K34 := Lib.hid (show (w10.alloc (.cells #[.slice y32_0 x0.rels.length y32_1, .slice y32_2 x0.facts.length y32_3] 27)).cell? ⟨w10.heap.size, 1, none⟩ = some (.slice y32_2 x0.facts.length y32_3) by simp [go_sem])
  clear f29 f30
  have c1_11 : Below ((w.alloc (.cells #[.slice v0_0 x0.rels.length v0_1, .slice v0_2 x0.facts.length v0_3] 49)).alloc (.cells #[.slice v1_0 x1.rels.length v1_1, .slice v1_2 x1.facts.length v1_3] 49)).heap.size ((w.alloc (.cells #[.slice v0_0 x0.rels.length v0_1, .slice v0_2 x0.facts.length v0_3] 49)).alloc (.cells #[.slice v1_0 x1.rels.length v1_1, .slice v1_2 x1.facts.length v1_3] 49)) (w10.alloc (.cells #[.slice y32_0 x0.rels.length y32_1, .slice y32_2 x0.facts.length y32_3] 27)) := ((c1_9.trans (hb10.mono (by omega))).trans (hb11.mono (by omega)))
  have f35 : (w10.alloc (.cells #[.slice y32_0 x0.rels.length y32_1, .slice y32_2 x0.facts.length y32_3] 27)).cell? ⟨w.heap.size + 1, 0, none⟩ = some (.slice v1_0 x1.rels.length v1_1) := ((c1_11).cell (p := ⟨w.heap.size + 1, 0, none⟩) (by show w.heap.size + 1 < _; omega)).trans K3.out
  have f36 : (w10.alloc (.cells #[.slice y32_0 x0.rels.length y32_1, .slice y32_2 x0.facts.length y32_3] 27)).cell? ⟨w.heap.size + 1, 1, none⟩ = some (.slice v1_2 x1.facts.length v1_3) := ((c1_11).cell (p := ⟨w.heap.size + 1, 1, none⟩) (by show w.heap.size + 1 < _; omega)).trans K4.out
  have c0_11 : Below w.heap.size w (w10.alloc (.cells #[.slice y32_0 x0.rels.length y32_1, .slice y32_2 x0.facts.length y32_3] 27)) := ((c0_9.trans (hb10.mono (by omega))).trans (hb11.mono (by omega)))
  go_wp2_with fail
  refine (toInstance_c _ x1 _ ((A1.out.below c0_11 (Nat.le_refl _)).more c0_11.size) S1).mono ?_
  rintro e w12 ⟨u37, rfl, ou37, hb12⟩
  have z12 : (w10.alloc (.cells #[.slice y32_0 x0.rels.length y32_1, .slice y32_2 x0.facts.length y32_3] 27)).heap.size ≤ w12.heap.size := hb12.size
  obtain ⟨y38_0, y38_1, y38_2, y38_3, rfl⟩ := Instance_form (ou37.at_ (Nat.le_refl _))
  have hb13 : Below w12.heap.size w12 (w12.alloc (.cells #[.slice y38_0 x1.rels.length y38_1, .slice y38_2 x1.facts.length y38_3] 27)) := below_more (Below.refl _ _) _
  have z13 : w12.heap.size + 1 ≤ (w12.alloc (.cells #[.slice y38_0 x1.rels.length y38_1, .slice y38_2 x1.facts.length y38_3] 27)).heap.size := by simp
  have K39 := Lib.hid (show (w12.alloc (.cells #[.slice y38_0 x1.rels.length y38_1, .slice y38_2 x1.facts.length y38_3] 27)).cell? ⟨w12.heap.size, 0, none⟩ = some (.slice y38_0 x1.rels.length y38_1) by simp [go_sem])
  have K40 := Lib.hid (show (w12.alloc (.cells #[.slice y38_0 x1.rels.length y38_1, .slice y38_2 x1.facts.length y38_3] 27)).cell? ⟨w12.heap.size, 1, none⟩ = some (.slice y38_2 x1.facts.length y38_3) by simp [go_sem])
  clear f35 f36
  have c0_13 : Below w.heap.size w (w12.alloc (.cells #[.slice y38_0 x1.rels.length y38_1, .slice y38_2 x1.facts.length y38_3] 27)) := ((c0_11.trans (hb12.mono (by omega))).trans (hb13.mono (by omega)))
  go_wp2_with fail
  refine (toDependencyS_c _ x2 _ ((A2.out.below c0_13 (Nat.le_refl _)).more c0_13.size) S2).mono ?_
  rintro e w14 ⟨u41, rfl, ou41, hb14⟩
  have z14 : (w12.alloc (.cells #[.slice y38_0 x1.rels.length y38_1, .slice y38_2 x1.facts.length y38_3] 27)).heap.size ≤ w14.heap.size := hb14.size
  have c11_14 : Below (w10.alloc (.cells #[.slice y32_0 x0.rels.length y32_1, .slice y32_2 x0.facts.length y32_3] 27)).heap.size (w10.alloc (.cells #[.slice y32_0 x0.rels.length y32_1, .slice y32_2 x0.facts.length y32_3] 27)) w14 := ((hb12.trans (hb13.mono (by omega))).trans (hb14.mono (by omega)))
  have f42 : w14.cell? ⟨w10.heap.size, 0, none⟩ = some (.slice y32_0 x0.rels.length y32_1) := ((c11_14).cell (p := ⟨w10.heap.size, 0, none⟩) (by show w10.heap.size < _; omega)).trans K33.out
  have f43 : w14.cell? ⟨w10.heap.size, 1, none⟩ = some (.slice y32_2 x0.facts.length y32_3) := ((c11_14).cell (p := ⟨w10.heap.size, 1, none⟩) (by show w10.heap.size < _; omega)).trans K34.out
  have c13_14 : Below (w12.alloc (.cells #[.slice y38_0 x1.rels.length y38_1, .slice y38_2 x1.facts.length y38_3] 27)).heap.size (w12.alloc (.cells #[.slice y38_0 x1.rels.length y38_1, .slice y38_2 x1.facts.length y38_3] 27)) w14 := hb14
  have f44 : w14.cell? ⟨w12.heap.size, 0, none⟩ = some (.slice y38_0 x1.rels.length y38_1) := ((c13_14).cell (p := ⟨w12.heap.size, 0, none⟩) (by show w12.heap.size < _; omega)).trans K39.out
  have f45 : w14.cell? ⟨w12.heap.size, 1, none⟩ = some (.slice y38_2 x1.facts.length y38_3) := ((c13_14).cell (p := ⟨w12.heap.size, 1, none⟩) (by show w12.heap.size < _; omega)).trans K40.out
  have c10_14 : Below w10.heap.size w10 w14 := (((hb11.trans (hb12.mono (by omega))).trans (hb13.mono (by omega))).trans (hb14.mono (by omega)))
  have c12_14 : Below w12.heap.size w12 w14 := (hb13.trans (hb14.mono (by omega)))
  go_wp2_with fail
  refine (implIsSolution_c _ x0 _ x1 _ x2 _ ((ou31.below c10_14 (Nat.le_refl _)).at_ (by omega)) W0.out S0 ((ou37.below c12_14 (Nat.le_refl _)).at_ (by omega)) W1.out S1 ((ou41.below (Below.refl w14.heap.size w14) (Nat.le_refl _)).at_ (Nat.le_refl _)) W2.out S2).mono ?_
  rintro e w15 ⟨rfl, hb15⟩
  have z15 : w14.heap.size ≤ w15.heap.size := hb15.size
  clear f42 f43 f44 f45
  go_wp2_with fail
  have c11_15 : Below (w10.alloc (.cells #[.slice y32_0 x0.rels.length y32_1, .slice y32_2 x0.facts.length y32_3] 27)).heap.size (w10.alloc (.cells #[.slice y32_0 x0.rels.length y32_1, .slice y32_2 x0.facts.length y32_3] 27)) w15 := (c11_14.trans (hb15.mono (by omega)))
  have f47 : w15.cell? ⟨w10.heap.size, 0, none⟩ = some (.slice y32_0 x0.rels.length y32_1) := ((c11_15).cell (p := ⟨w10.heap.size, 0, none⟩) (by show w10.heap.size < _; omega)).trans K33.out
  have gf47 := Aft.cell (B := w15.heap.size) (by omega) f47
  clear f47
  have f48 : w15.cell? ⟨w10.heap.size, 1, none⟩ = some (.slice y32_2 x0.facts.length y32_3) := ((c11_15).cell (p := ⟨w10.heap.size, 1, none⟩) (by show w10.heap.size < _; omega)).trans K34.out
  have gf48 := Aft.cell (B := w15.heap.size) (by omega) f48
  clear f48
  have c1_15 : Below ((w.alloc (.cells #[.slice v0_0 x0.rels.length v0_1, .slice v0_2 x0.facts.length v0_3] 49)).alloc (.cells #[.slice v1_0 x1.rels.length v1_1, .slice v1_2 x1.facts.length v1_3] 49)).heap.size ((w.alloc (.cells #[.slice v0_0 x0.rels.length v0_1, .slice v0_2 x0.facts.length v0_3] 49)).alloc (.cells #[.slice v1_0 x1.rels.length v1_1, .slice v1_2 x1.facts.length v1_3] 49)) w15 := ((((c1_11.trans (hb12.mono (by omega))).trans (hb13.mono (by omega))).trans (hb14.mono (by omega))).trans (hb15.mono (by omega)))
  have f49 : w15.cell? ⟨w.heap.size, 0, none⟩ = some (.slice v0_0 x0.rels.length v0_1) := ((c1_15).cell (p := ⟨w.heap.size, 0, none⟩) (by show w.heap.size < _; omega)).trans K1.out
  have gf49 := Aft.cell (B := w15.heap.size) (by omega) f49
  clear f49
  have f50 : w15.cell? ⟨w.heap.size, 1, none⟩ = some (.slice v0_2 x0.facts.length v0_3) := ((c1_15).cell (p := ⟨w.heap.size, 1, none⟩) (by show w.heap.size < _; omega)).trans K2.out
  have gf50 := Aft.cell (B := w15.heap.size) (by omega) f50
  clear f50
  refine wp_region_plan (C := fun w' => ∃ u : Aft w15.heap.size w15, w' = u.now) (.still 0 (.still 1 (.move true 2 (.move true 3 (.still 4 .done) .none) .none))) (by kernel_rfl) (by kernel_rfl) (by kernel_rfl) (fun _ => ⟨⟨_, (Below.refl _ _).drew⟩, rfl⟩) ?_
  have hb16 : Below w15.heap.size w15 w15.drew := (Below.refl _ _).drew
  have z16 : w15.drew.heap.size = w15.heap.size := rfl
  have c0_16 : Below w.heap.size w w15.drew := (((c0_13.trans (hb14.mono (by omega))).trans (hb15.mono (by omega))).trans (hb16.mono (by omega)))
  refine plan_look _ rfl rfl ?_
  go_big_quiet_step (fail)
  refine wpQuiet_nil ?_
  refine plan_look _ rfl rfl ?_
  go_big_quiet_step (fail)
  refine wpQuiet_nil ?_
  refine plan_call _ 22 _ _ _ _ _ rfl _ Tryz.func22 (by kernel_rfl) (by kernel_rfl) ?_ True.intro
  show Calls Tryz.prog 22 #[.agg #[.slice v0_0 x0.rels.length v0_1, .slice v0_2 x0.facts.length v0_3]] _ _
  refine (toInstance_c _ x0 _ ((A0.out.below c0_16 (Nat.le_refl _)).more c0_16.size) S0).mono ?_
  rintro e w17 ⟨u51, rfl, ou51, hb17⟩
  have z17 : w15.drew.heap.size ≤ w17.heap.size := hb17.size
  obtain ⟨y52_0, y52_1, y52_2, y52_3, rfl⟩ := Instance_form (ou51.at_ (Nat.le_refl _))
  have c15_17 : Below w15.heap.size w15 w17 := (hb16.trans (hb17.mono (by omega)))
  refine ⟨_, rfl, fun _ => ⟨⟨_, c15_17⟩, rfl⟩, ?_⟩
  refine plan_put ?_ (by simp only [Act.put, List.setIfInBounds_toArray, List.set_cons_succ, List.set_cons_zero]; rfl)
  have c10_17 : Below w10.heap.size w10 w17 := (((c10_14.trans (hb15.mono (by omega))).trans (hb16.mono (by omega))).trans (hb17.mono (by omega)))
  refine plan_call _ 25 _ _ _ _ _ rfl _ Tryz.func25 (by kernel_rfl) (by kernel_rfl) ?_ True.intro
  show Calls Tryz.prog 25 #[.agg #[.slice y32_0 x0.rels.length y32_1, .slice y32_2 x0.facts.length y32_3], .agg #[.slice y52_0 x0.rels.length y52_1, .slice y52_2 x0.facts.length y52_3]] _ _
  refine (eqInstance_c _ _ x0 _ ((ou31.below c10_17 (Nat.le_refl _)).at_ (by omega)) ((ou51.below (Below.refl w17.heap.size w17) (Nat.le_refl _)).at_ (Nat.le_refl _))).mono ?_
  rintro e w18 ⟨rfl, hb18⟩
  have z18 : w17.heap.size ≤ w18.heap.size := hb18.size
  have c15_18 : Below w15.heap.size w15 w18 := (c15_17.trans (hb18.mono (by omega)))
  refine ⟨_, rfl, fun _ => ⟨⟨_, c15_18⟩, rfl⟩, ?_⟩
  refine plan_put ?_ (by simp only [Act.put, List.setIfInBounds_toArray, List.set_cons_succ, List.set_cons_zero]; rfl)
  refine plan_look _ rfl rfl ?_
  go_big_quiet_step (fail)
  refine wpQuiet_nil ?_
  refine plan_done ?_
  clear gf47 gf48 gf49 gf50
  go_wp2_with fail
  have c13_18 : Below (w12.alloc (.cells #[.slice y38_0 x1.rels.length y38_1, .slice y38_2 x1.facts.length y38_3] 27)).heap.size (w12.alloc (.cells #[.slice y38_0 x1.rels.length y38_1, .slice y38_2 x1.facts.length y38_3] 27)) w18 := ((((c13_14.trans (hb15.mono (by omega))).trans (hb16.mono (by omega))).trans (hb17.mono (by omega))).trans (hb18.mono (by omega)))
  have f53 : w18.cell? ⟨w12.heap.size, 0, none⟩ = some (.slice y38_0 x1.rels.length y38_1) := ((c13_18).cell (p := ⟨w12.heap.size, 0, none⟩) (by show w12.heap.size < _; omega)).trans K39.out
  have gf53 := Aft.cell (B := w18.heap.size) (by omega) f53
  clear f53
  have f54 : w18.cell? ⟨w12.heap.size, 1, none⟩ = some (.slice y38_2 x1.facts.length y38_3) := ((c13_18).cell (p := ⟨w12.heap.size, 1, none⟩) (by show w12.heap.size < _; omega)).trans K40.out
  have gf54 := Aft.cell (B := w18.heap.size) (by omega) f54
  clear f54
  have c1_18 : Below ((w.alloc (.cells #[.slice v0_0 x0.rels.length v0_1, .slice v0_2 x0.facts.length v0_3] 49)).alloc (.cells #[.slice v1_0 x1.rels.length v1_1, .slice v1_2 x1.facts.length v1_3] 49)).heap.size ((w.alloc (.cells #[.slice v0_0 x0.rels.length v0_1, .slice v0_2 x0.facts.length v0_3] 49)).alloc (.cells #[.slice v1_0 x1.rels.length v1_1, .slice v1_2 x1.facts.length v1_3] 49)) w18 := (((c1_15.trans (hb16.mono (by omega))).trans (hb17.mono (by omega))).trans (hb18.mono (by omega)))
  have f55 : w18.cell? ⟨w.heap.size + 1, 0, none⟩ = some (.slice v1_0 x1.rels.length v1_1) := ((c1_18).cell (p := ⟨w.heap.size + 1, 0, none⟩) (by show w.heap.size + 1 < _; omega)).trans K3.out
  have gf55 := Aft.cell (B := w18.heap.size) (by omega) f55
  clear f55
  have f56 : w18.cell? ⟨w.heap.size + 1, 1, none⟩ = some (.slice v1_2 x1.facts.length v1_3) := ((c1_18).cell (p := ⟨w.heap.size + 1, 1, none⟩) (by show w.heap.size + 1 < _; omega)).trans K4.out
  have gf56 := Aft.cell (B := w18.heap.size) (by omega) f56
  clear f56
  refine wp_region_plan (C := fun w' => ∃ u : Aft w18.heap.size w18, w' = u.now) (.still 0 (.still 1 (.move true 2 (.move true 3 (.still 4 .done) .none) .none))) (by kernel_rfl) (by kernel_rfl) (by kernel_rfl) (fun _ => ⟨⟨_, (Below.refl _ _).drew⟩, rfl⟩) ?_
  have hb19 : Below w18.heap.size w18 w18.drew := (Below.refl _ _).drew
  have z19 : w18.drew.heap.size = w18.heap.size := rfl
  have c0_19 : Below w.heap.size w w18.drew := (((c0_16.trans (hb17.mono (by omega))).trans (hb18.mono (by omega))).trans (hb19.mono (by omega)))
  refine plan_look _ rfl rfl ?_
  go_big_quiet_step (fail)
  refine wpQuiet_nil ?_
  refine plan_look _ rfl rfl ?_
  go_big_quiet_step (fail)
  refine wpQuiet_nil ?_
  refine plan_call _ 22 _ _ _ _ _ rfl _ Tryz.func22 (by kernel_rfl) (by kernel_rfl) ?_ True.intro
  show Calls Tryz.prog 22 #[.agg #[.slice v1_0 x1.rels.length v1_1, .slice v1_2 x1.facts.length v1_3]] _ _
  refine (toInstance_c _ x1 _ ((A1.out.below c0_19 (Nat.le_refl _)).more c0_19.size) S1).mono ?_
  rintro e w20 ⟨u57, rfl, ou57, hb20⟩
  have z20 : w18.drew.heap.size ≤ w20.heap.size := hb20.size
  obtain ⟨y58_0, y58_1, y58_2, y58_3, rfl⟩ := Instance_form (ou57.at_ (Nat.le_refl _))
  have c18_20 : Below w18.heap.size w18 w20 := (hb19.trans (hb20.mono (by omega)))
  refine ⟨_, rfl, fun _ => ⟨⟨_, c18_20⟩, rfl⟩, ?_⟩
  refine plan_put ?_ (by simp only [Act.put, List.setIfInBounds_toArray, List.set_cons_succ, List.set_cons_zero]; rfl)
  have c12_20 : Below w12.heap.size w12 w20 := ((((((c12_14.trans (hb15.mono (by omega))).trans (hb16.mono (by omega))).trans (hb17.mono (by omega))).trans (hb18.mono (by omega))).trans (hb19.mono (by omega))).trans (hb20.mono (by omega)))
  refine plan_call _ 25 _ _ _ _ _ rfl _ Tryz.func25 (by kernel_rfl) (by kernel_rfl) ?_ True.intro
  show Calls Tryz.prog 25 #[.agg #[.slice y38_0 x1.rels.length y38_1, .slice y38_2 x1.facts.length y38_3], .agg #[.slice y58_0 x1.rels.length y58_1, .slice y58_2 x1.facts.length y58_3]] _ _
  refine (eqInstance_c _ _ x1 _ ((ou37.below c12_20 (Nat.le_refl _)).at_ (by omega)) ((ou57.below (Below.refl w20.heap.size w20) (Nat.le_refl _)).at_ (Nat.le_refl _))).mono ?_
  rintro e w21 ⟨rfl, hb21⟩
  have z21 : w20.heap.size ≤ w21.heap.size := hb21.size
  have c18_21 : Below w18.heap.size w18 w21 := (c18_20.trans (hb21.mono (by omega)))
  refine ⟨_, rfl, fun _ => ⟨⟨_, c18_21⟩, rfl⟩, ?_⟩
  refine plan_put ?_ (by simp only [Act.put, List.setIfInBounds_toArray, List.set_cons_succ, List.set_cons_zero]; rfl)
  refine plan_look _ rfl rfl ?_
  go_big_quiet_step (fail)
  refine wpQuiet_nil ?_
  refine plan_done ?_
  clear gf53 gf54 gf55 gf56
  have c0_21 : Below w.heap.size w w21 := ((c0_19.trans (hb20.mono (by omega))).trans (hb21.mono (by omega)))
  go_wp2_with fail
  refine (toDependencyS_c _ x2 _ ((A2.out.below c0_21 (Nat.le_refl _)).more c0_21.size) S2).mono ?_
  rintro e w22 ⟨u59, rfl, ou59, hb22⟩
  have z22 : w21.heap.size ≤ w22.heap.size := hb22.size
  have c14_22 : Below w14.heap.size w14 w22 := (((((((hb15.trans (hb16.mono (by omega))).trans (hb17.mono (by omega))).trans (hb18.mono (by omega))).trans (hb19.mono (by omega))).trans (hb20.mono (by omega))).trans (hb21.mono (by omega))).trans (hb22.mono (by omega)))
  go_wp2_with fail
  refine (eqDependencyS_c _ _ x2 _ ((ou41.below c14_22 (Nat.le_refl _)).at_ (by omega)) ((ou59.below (Below.refl w22.heap.size w22) (Nat.le_refl _)).at_ (Nat.le_refl _))).mono ?_
  rintro e w23 ⟨rfl, hb23⟩
  have z23 : w22.heap.size ≤ w23.heap.size := hb23.size
  have c0_23 : Below w.heap.size w w23 := ((c0_21.trans (hb22.mono (by omega))).trans (hb23.mono (by omega)))
  go_wp2
  go_ret
  exact ⟨rfl, c0_23⟩

theorem ty : ∀ t ∈ Tryz.f6.params.toList, Tryz.prog.readableRec t = true ∧ t < Tryz.prog.types.size := by
  rw [Tryz.params6]; intro t ht
  simp only [List.mem_cons, List.not_mem_nil, or_false] at ht
  rcases ht with rfl | rfl | rfl <;> exact ⟨by kernel_rfl, of_decide_eq_true (by kernel_rfl)⟩
set_option maxRecDepth 100000 in
theorem lifted (os : Os) (started : os.Started) (H : Type) (enc : TypeId × Value → H) :
    ReturnsInHanded {} Tryz.checked os 6 .any (Rows.fnExactIsSolutionSpec.pre6 enc Tryz.prog Tryz.f6 Rows.fnExactIsSolutionRow.domain false) (Rows.fnExactIsSolutionSpec.post enc Tryz.prog Tryz.f6 false true false false) := by
  refine returnsInHanded_of_change (C := Tryz.checked) ownFact started (by kernel_rfl) Tryz.func6
    (ChangeSpec.witness6 (enc := enc) (C := Tryz.checked) false ⟨#[], #[.agg #[.slice none 0 0, .slice none 0 0], .agg #[.slice none 0 0, .slice none 0 0], .slice none 0 0], []⟩ 8 (by kernel_rfl) (by kernel_rfl) (by kernel_rfl) (by kernel_rfl)) ?_
  intro W base args ds gs before hval0 hW hcnd _
  have hval : ∀ (j : Nat) t v, Tryz.f6.params[j]? = some t → args[j]? = some v → Value.okWide Tryz.prog W .any base t v := hval0
  have hW' := hW
  obtain ⟨p, q, hA0, hV, _, hfz, hnd⟩ := hW
  have hA : DataW.TrodAll enc Tryz.prog W 0 (fun _ => true) true Tryz.f6.params.toList args.toList ds p := hA0
  rw [Tryz.params6] at hA hval
  obtain ⟨v0, vs0, d0, ds0, p0, q0, hargs, rfl, _, h0, r0⟩ := trodAll_cons hA
  obtain ⟨v1, vs1, d1, ds1, p1, q1, rfl, rfl, _, h1, r1⟩ := trodAll_cons r0
  obtain ⟨v2, vs2, d2, ds2, p2, q2, rfl, rfl, _, h2, r2⟩ := trodAll_cons r1
  obtain ⟨rfl, rfl, _⟩ := trodAll_nil r2
  obtain rfl : args = #[v0, v1, v2] := by cases args; simp_all
  obtain ⟨rfl, _⟩ := trodVars_none hV
  obtain ⟨x0, hx0, hwx0⟩ := open_Instance (hval 0 _ v0 rfl rfl) h0 (DataW.TrodAll.lt (trodAll_mk1 h0))
  obtain ⟨x1, hx1, hwx1⟩ := open_Instance (hval 1 _ v1 rfl rfl) h1 (DataW.TrodAll.lt (trodAll_mk1 h1))
  obtain ⟨x2, hx2, hwx2⟩ := open_DependencyS (hval 2 _ v2 rfl rfl) h2 (DataW.TrodAll.lt (trodAll_mk1 h2))
  refine (walk v0 x0 v1 x1 v2 x2 W hx0 hwx0 hx1 hwx1 hx2 hwx2).mono fun e W' ⟨he, hb⟩ => ?_
  subst he
  exact ⟨_, rfl, law_post laidFact ty Tryz.underlying4 (by kernel_rfl) rfl hW' rfl hb⟩
theorem holds : Rows.FnExactIsSolutionSaid :=
  OpenClaim.holds_of_wide 6 Tryz.f6 rfl rfl rfl rfl rfl rfl rfl ⟨rfl, rfl, rfl, rfl, rfl⟩ rfl rfl rfl rfl rfl (by kernel_rfl) Tryz.func6 (by kernel_rfl)
    (of_decide_eq_true (by kernel_rfl)) (by unfold Func.isWrapper; first | (rw [if_pos (by decide +kernel)]; kernel_rfl) | (rw [if_neg (by decide +kernel)]; exact ⟨rfl, rfl⟩))
    (fun os started H enc _ => lifted os started H enc)
end lawFnExactIsSolution

end Go.Proofs.YtobdijcnfmgidaaGreat
