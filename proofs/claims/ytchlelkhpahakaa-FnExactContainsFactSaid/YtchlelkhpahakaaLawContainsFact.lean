/-
  FnExactContainsFact: for every argument the translated law returns true, and each argument reads afterwards as it read before. Conditions: none beyond the given row's own.
-/
import Derived.Test.YtchlelkhpahakaaPlan
import Derived.Test.YtchlelkhpahakaaFactC
import Derived.Test.YtchlelkhpahakaaInstC
import Derived.Test.YtchlelkhpahakaaInstO
import Derived.Test.YtchlelkhpahakaaConI
import Derived.Test.YtchlelkhpahakaaLift
namespace Go.Proofs.Ytchlelkhpahakaa
open Go.RowKit Go.ChangeShapes Go.WideShapes Go.ChangeAt Go.ChangeMaps

namespace lawFnExactContainsFact

set_option maxRecDepth 100000 in
set_option maxHeartbeats 1600000 in
theorem walk (v0 : Value) (x0 : Inst) (v1 : Value) (x1 : Fct) (w : World) (h0 : Instance_at w w.heap.size v0 x0) (hw0 : Instance_wf x0) (h1 : Fact_at w w.heap.size v1 x1) (hw1 : Fact_wf x1) :
    Calls Try.prog 5 #[v0, v1] w fun e w' => e = .returned (.bool true) ∧ Below w.heap.size w w' := by
  obtain ⟨v0_0, v0_1, v0_2, v0_3, rfl⟩ := Instance_form h0
  have A0 := Lib.hid h0
  have W0 := Lib.hid hw0
  clear h0 hw0
  obtain ⟨v1_0, v1_1, rfl⟩ := Fact_form h1
  have A1 := Lib.hid h1
  have W1 := Lib.hid hw1
  clear h1 hw1
  by_cases hz1 : ((Instance_sz x0 : Nat) : Int) ≤ 1048576
  rotate_left
  · skip
    have e1 := szLeft_no hz1
    have hb1 : Below w.heap.size w ((w.alloc (.cells #[.slice v0_0 x0.rels.length v0_1, .slice v0_2 x0.facts.length v0_3] 38)).alloc (.cells #[.int .i64 x1.rel, .slice v1_0 x1.vals.length v1_1] 25)) := below_more (below_more (Below.refl _ _) _) _
    have z1 : w.heap.size + 2 ≤ ((w.alloc (.cells #[.slice v0_0 x0.rels.length v0_1, .slice v0_2 x0.facts.length v0_3] 38)).alloc (.cells #[.int .i64 x1.rel, .slice v1_0 x1.vals.length v1_1] 25)).heap.size := by simp
    have K1 := Lib.hid (show ((w.alloc (.cells #[.slice v0_0 x0.rels.length v0_1, .slice v0_2 x0.facts.length v0_3] 38)).alloc (.cells #[.int .i64 x1.rel, .slice v1_0 x1.vals.length v1_1] 25)).cell? ⟨w.heap.size, 0, none⟩ = some (.slice v0_0 x0.rels.length v0_1) by simp [go_sem])
    have K2 := Lib.hid (show ((w.alloc (.cells #[.slice v0_0 x0.rels.length v0_1, .slice v0_2 x0.facts.length v0_3] 38)).alloc (.cells #[.int .i64 x1.rel, .slice v1_0 x1.vals.length v1_1] 25)).cell? ⟨w.heap.size, 1, none⟩ = some (.slice v0_2 x0.facts.length v0_3) by simp [go_sem])
    have K3 := Lib.hid (show ((w.alloc (.cells #[.slice v0_0 x0.rels.length v0_1, .slice v0_2 x0.facts.length v0_3] 38)).alloc (.cells #[.int .i64 x1.rel, .slice v1_0 x1.vals.length v1_1] 25)).cell? ⟨w.heap.size + 1, 0, none⟩ = some (.int .i64 x1.rel) by simp [go_sem])
    have K4 := Lib.hid (show ((w.alloc (.cells #[.slice v0_0 x0.rels.length v0_1, .slice v0_2 x0.facts.length v0_3] 38)).alloc (.cells #[.int .i64 x1.rel, .slice v1_0 x1.vals.length v1_1] 25)).cell? ⟨w.heap.size + 1, 1, none⟩ = some (.slice v1_0 x1.vals.length v1_1) by simp [go_sem])
    go_enter Try.func5, Try.ntmps5
    have f5 : ((w.alloc (.cells #[.slice v0_0 x0.rels.length v0_1, .slice v0_2 x0.facts.length v0_3] 38)).alloc (.cells #[.int .i64 x1.rel, .slice v1_0 x1.vals.length v1_1] 25)).cell? ⟨w.heap.size, 0, none⟩ = some (.slice v0_0 x0.rels.length v0_1) := K1.out
    have f6 : ((w.alloc (.cells #[.slice v0_0 x0.rels.length v0_1, .slice v0_2 x0.facts.length v0_3] 38)).alloc (.cells #[.int .i64 x1.rel, .slice v1_0 x1.vals.length v1_1] 25)).cell? ⟨w.heap.size, 1, none⟩ = some (.slice v0_2 x0.facts.length v0_3) := K2.out
    have c0_1 : Below w.heap.size w ((w.alloc (.cells #[.slice v0_0 x0.rels.length v0_1, .slice v0_2 x0.facts.length v0_3] 38)).alloc (.cells #[.int .i64 x1.rel, .slice v1_0 x1.vals.length v1_1] 25)) := hb1
    go_wp2_with fail
    refine (szInstance_c _ x0 (1048576) _ ((A0.out.below c0_1 (Nat.le_refl _)).more c0_1.size) W0.out (by omega) (by omega)).mono ?_
    rw [e1]
    rintro e w2 ⟨rfl, hb2⟩
    have z2 : ((w.alloc (.cells #[.slice v0_0 x0.rels.length v0_1, .slice v0_2 x0.facts.length v0_3] 38)).alloc (.cells #[.int .i64 x1.rel, .slice v1_0 x1.vals.length v1_1] 25)).heap.size ≤ w2.heap.size := hb2.size
    clear f5 f6
    have c0_2 : Below w.heap.size w w2 := (c0_1.trans (hb2.mono (by omega)))
    go_wp2
    go_ret
    exact ⟨rfl, c0_2⟩
  by_cases hz2 : ((Fact_sz x1 : Nat) : Int) ≤ 1048576 - (Instance_sz x0 : Nat)
  rotate_left
  · skip
    have e1 := szLeft_yes hz1
    have e2 := szLeft_no hz2
    have hb1 : Below w.heap.size w ((w.alloc (.cells #[.slice v0_0 x0.rels.length v0_1, .slice v0_2 x0.facts.length v0_3] 38)).alloc (.cells #[.int .i64 x1.rel, .slice v1_0 x1.vals.length v1_1] 25)) := below_more (below_more (Below.refl _ _) _) _
    have z1 : w.heap.size + 2 ≤ ((w.alloc (.cells #[.slice v0_0 x0.rels.length v0_1, .slice v0_2 x0.facts.length v0_3] 38)).alloc (.cells #[.int .i64 x1.rel, .slice v1_0 x1.vals.length v1_1] 25)).heap.size := by simp
    have K1 := Lib.hid (show ((w.alloc (.cells #[.slice v0_0 x0.rels.length v0_1, .slice v0_2 x0.facts.length v0_3] 38)).alloc (.cells #[.int .i64 x1.rel, .slice v1_0 x1.vals.length v1_1] 25)).cell? ⟨w.heap.size, 0, none⟩ = some (.slice v0_0 x0.rels.length v0_1) by simp [go_sem])
    have K2 := Lib.hid (show ((w.alloc (.cells #[.slice v0_0 x0.rels.length v0_1, .slice v0_2 x0.facts.length v0_3] 38)).alloc (.cells #[.int .i64 x1.rel, .slice v1_0 x1.vals.length v1_1] 25)).cell? ⟨w.heap.size, 1, none⟩ = some (.slice v0_2 x0.facts.length v0_3) by simp [go_sem])
    have K3 := Lib.hid (show ((w.alloc (.cells #[.slice v0_0 x0.rels.length v0_1, .slice v0_2 x0.facts.length v0_3] 38)).alloc (.cells #[.int .i64 x1.rel, .slice v1_0 x1.vals.length v1_1] 25)).cell? ⟨w.heap.size + 1, 0, none⟩ = some (.int .i64 x1.rel) by simp [go_sem])
    have K4 := Lib.hid (show ((w.alloc (.cells #[.slice v0_0 x0.rels.length v0_1, .slice v0_2 x0.facts.length v0_3] 38)).alloc (.cells #[.int .i64 x1.rel, .slice v1_0 x1.vals.length v1_1] 25)).cell? ⟨w.heap.size + 1, 1, none⟩ = some (.slice v1_0 x1.vals.length v1_1) by simp [go_sem])
    go_enter Try.func5, Try.ntmps5
    have f7 : ((w.alloc (.cells #[.slice v0_0 x0.rels.length v0_1, .slice v0_2 x0.facts.length v0_3] 38)).alloc (.cells #[.int .i64 x1.rel, .slice v1_0 x1.vals.length v1_1] 25)).cell? ⟨w.heap.size, 0, none⟩ = some (.slice v0_0 x0.rels.length v0_1) := K1.out
    have f8 : ((w.alloc (.cells #[.slice v0_0 x0.rels.length v0_1, .slice v0_2 x0.facts.length v0_3] 38)).alloc (.cells #[.int .i64 x1.rel, .slice v1_0 x1.vals.length v1_1] 25)).cell? ⟨w.heap.size, 1, none⟩ = some (.slice v0_2 x0.facts.length v0_3) := K2.out
    have c0_1 : Below w.heap.size w ((w.alloc (.cells #[.slice v0_0 x0.rels.length v0_1, .slice v0_2 x0.facts.length v0_3] 38)).alloc (.cells #[.int .i64 x1.rel, .slice v1_0 x1.vals.length v1_1] 25)) := hb1
    go_wp2_with fail
    refine (szInstance_c _ x0 (1048576) _ ((A0.out.below c0_1 (Nat.le_refl _)).more c0_1.size) W0.out (by omega) (by omega)).mono ?_
    rw [e1]
    rintro e w2 ⟨rfl, hb2⟩
    have z2 : ((w.alloc (.cells #[.slice v0_0 x0.rels.length v0_1, .slice v0_2 x0.facts.length v0_3] 38)).alloc (.cells #[.int .i64 x1.rel, .slice v1_0 x1.vals.length v1_1] 25)).heap.size ≤ w2.heap.size := hb2.size
    clear f7 f8
    have c1_2 : Below ((w.alloc (.cells #[.slice v0_0 x0.rels.length v0_1, .slice v0_2 x0.facts.length v0_3] 38)).alloc (.cells #[.int .i64 x1.rel, .slice v1_0 x1.vals.length v1_1] 25)).heap.size ((w.alloc (.cells #[.slice v0_0 x0.rels.length v0_1, .slice v0_2 x0.facts.length v0_3] 38)).alloc (.cells #[.int .i64 x1.rel, .slice v1_0 x1.vals.length v1_1] 25)) w2 := hb2
    have f9 : w2.cell? ⟨w.heap.size + 1, 0, none⟩ = some (.int .i64 x1.rel) := ((c1_2).cell (p := ⟨w.heap.size + 1, 0, none⟩) (by show w.heap.size + 1 < _; omega)).trans K3.out
    have f10 : w2.cell? ⟨w.heap.size + 1, 1, none⟩ = some (.slice v1_0 x1.vals.length v1_1) := ((c1_2).cell (p := ⟨w.heap.size + 1, 1, none⟩) (by show w.heap.size + 1 < _; omega)).trans K4.out
    have c0_2 : Below w.heap.size w w2 := (c0_1.trans (hb2.mono (by omega)))
    go_wp2_with fail
    refine (szFact_c _ x1 (1048576 - (Instance_sz x0 : Nat)) _ ((A1.out.below c0_2 (Nat.le_refl _)).more c0_2.size) W1.out (by omega) (by omega)).mono ?_
    rw [e2]
    rintro e w3 ⟨rfl, hb3⟩
    have z3 : w2.heap.size ≤ w3.heap.size := hb3.size
    clear f9 f10
    have c0_3 : Below w.heap.size w w3 := (c0_2.trans (hb3.mono (by omega)))
    go_wp2
    go_ret
    exact ⟨rfl, c0_3⟩
  have e1 := szLeft_yes hz1
  have S0 : Instance_sz x0 ≤ 1048576 := by omega
  have N0 := Instance_cnt_le x0
  have e2 := szLeft_yes hz2
  have S1 : Fact_sz x1 ≤ 1048576 := by omega
  have N1 := Fact_cnt_le x1
  have hb1 : Below w.heap.size w ((w.alloc (.cells #[.slice v0_0 x0.rels.length v0_1, .slice v0_2 x0.facts.length v0_3] 38)).alloc (.cells #[.int .i64 x1.rel, .slice v1_0 x1.vals.length v1_1] 25)) := below_more (below_more (Below.refl _ _) _) _
  have z1 : w.heap.size + 2 ≤ ((w.alloc (.cells #[.slice v0_0 x0.rels.length v0_1, .slice v0_2 x0.facts.length v0_3] 38)).alloc (.cells #[.int .i64 x1.rel, .slice v1_0 x1.vals.length v1_1] 25)).heap.size := by simp
  have K1 := Lib.hid (show ((w.alloc (.cells #[.slice v0_0 x0.rels.length v0_1, .slice v0_2 x0.facts.length v0_3] 38)).alloc (.cells #[.int .i64 x1.rel, .slice v1_0 x1.vals.length v1_1] 25)).cell? ⟨w.heap.size, 0, none⟩ = some (.slice v0_0 x0.rels.length v0_1) by simp [go_sem])
  have K2 := Lib.hid (show ((w.alloc (.cells #[.slice v0_0 x0.rels.length v0_1, .slice v0_2 x0.facts.length v0_3] 38)).alloc (.cells #[.int .i64 x1.rel, .slice v1_0 x1.vals.length v1_1] 25)).cell? ⟨w.heap.size, 1, none⟩ = some (.slice v0_2 x0.facts.length v0_3) by simp [go_sem])
  have K3 := Lib.hid (show ((w.alloc (.cells #[.slice v0_0 x0.rels.length v0_1, .slice v0_2 x0.facts.length v0_3] 38)).alloc (.cells #[.int .i64 x1.rel, .slice v1_0 x1.vals.length v1_1] 25)).cell? ⟨w.heap.size + 1, 0, none⟩ = some (.int .i64 x1.rel) by simp [go_sem])
  have K4 := Lib.hid (show ((w.alloc (.cells #[.slice v0_0 x0.rels.length v0_1, .slice v0_2 x0.facts.length v0_3] 38)).alloc (.cells #[.int .i64 x1.rel, .slice v1_0 x1.vals.length v1_1] 25)).cell? ⟨w.heap.size + 1, 1, none⟩ = some (.slice v1_0 x1.vals.length v1_1) by simp [go_sem])
  go_enter Try.func5, Try.ntmps5
  have f11 : ((w.alloc (.cells #[.slice v0_0 x0.rels.length v0_1, .slice v0_2 x0.facts.length v0_3] 38)).alloc (.cells #[.int .i64 x1.rel, .slice v1_0 x1.vals.length v1_1] 25)).cell? ⟨w.heap.size, 0, none⟩ = some (.slice v0_0 x0.rels.length v0_1) := K1.out
  have f12 : ((w.alloc (.cells #[.slice v0_0 x0.rels.length v0_1, .slice v0_2 x0.facts.length v0_3] 38)).alloc (.cells #[.int .i64 x1.rel, .slice v1_0 x1.vals.length v1_1] 25)).cell? ⟨w.heap.size, 1, none⟩ = some (.slice v0_2 x0.facts.length v0_3) := K2.out
  have c0_1 : Below w.heap.size w ((w.alloc (.cells #[.slice v0_0 x0.rels.length v0_1, .slice v0_2 x0.facts.length v0_3] 38)).alloc (.cells #[.int .i64 x1.rel, .slice v1_0 x1.vals.length v1_1] 25)) := hb1
  go_wp2_with fail
  refine (szInstance_c _ x0 (1048576) _ ((A0.out.below c0_1 (Nat.le_refl _)).more c0_1.size) W0.out (by omega) (by omega)).mono ?_
  rw [e1]
  rintro e w2 ⟨rfl, hb2⟩
  have z2 : ((w.alloc (.cells #[.slice v0_0 x0.rels.length v0_1, .slice v0_2 x0.facts.length v0_3] 38)).alloc (.cells #[.int .i64 x1.rel, .slice v1_0 x1.vals.length v1_1] 25)).heap.size ≤ w2.heap.size := hb2.size
  clear f11 f12
  have c1_2 : Below ((w.alloc (.cells #[.slice v0_0 x0.rels.length v0_1, .slice v0_2 x0.facts.length v0_3] 38)).alloc (.cells #[.int .i64 x1.rel, .slice v1_0 x1.vals.length v1_1] 25)).heap.size ((w.alloc (.cells #[.slice v0_0 x0.rels.length v0_1, .slice v0_2 x0.facts.length v0_3] 38)).alloc (.cells #[.int .i64 x1.rel, .slice v1_0 x1.vals.length v1_1] 25)) w2 := hb2
  have f13 : w2.cell? ⟨w.heap.size + 1, 0, none⟩ = some (.int .i64 x1.rel) := ((c1_2).cell (p := ⟨w.heap.size + 1, 0, none⟩) (by show w.heap.size + 1 < _; omega)).trans K3.out
  have f14 : w2.cell? ⟨w.heap.size + 1, 1, none⟩ = some (.slice v1_0 x1.vals.length v1_1) := ((c1_2).cell (p := ⟨w.heap.size + 1, 1, none⟩) (by show w.heap.size + 1 < _; omega)).trans K4.out
  have c0_2 : Below w.heap.size w w2 := (c0_1.trans (hb2.mono (by omega)))
  go_wp2_with fail
  refine (szFact_c _ x1 (1048576 - (Instance_sz x0 : Nat)) _ ((A1.out.below c0_2 (Nat.le_refl _)).more c0_2.size) W1.out (by omega) (by omega)).mono ?_
  rw [e2]
  rintro e w3 ⟨rfl, hb3⟩
  have z3 : w2.heap.size ≤ w3.heap.size := hb3.size
  clear f13 f14
  go_wp2_with fail
  have c1_3 : Below ((w.alloc (.cells #[.slice v0_0 x0.rels.length v0_1, .slice v0_2 x0.facts.length v0_3] 38)).alloc (.cells #[.int .i64 x1.rel, .slice v1_0 x1.vals.length v1_1] 25)).heap.size ((w.alloc (.cells #[.slice v0_0 x0.rels.length v0_1, .slice v0_2 x0.facts.length v0_3] 38)).alloc (.cells #[.int .i64 x1.rel, .slice v1_0 x1.vals.length v1_1] 25)) w3 := (c1_2.trans (hb3.mono (by omega)))
  have f15 : w3.cell? ⟨w.heap.size, 0, none⟩ = some (.slice v0_0 x0.rels.length v0_1) := ((c1_3).cell (p := ⟨w.heap.size, 0, none⟩) (by show w.heap.size < _; omega)).trans K1.out
  have gf15 := Aft.cell (B := w3.heap.size) (by omega) f15
  clear f15
  have f16 : w3.cell? ⟨w.heap.size, 1, none⟩ = some (.slice v0_2 x0.facts.length v0_3) := ((c1_3).cell (p := ⟨w.heap.size, 1, none⟩) (by show w.heap.size < _; omega)).trans K2.out
  have gf16 := Aft.cell (B := w3.heap.size) (by omega) f16
  clear f16
  have f17 : w3.cell? ⟨w.heap.size + 1, 0, none⟩ = some (.int .i64 x1.rel) := ((c1_3).cell (p := ⟨w.heap.size + 1, 0, none⟩) (by show w.heap.size + 1 < _; omega)).trans K3.out
  have gf17 := Aft.cell (B := w3.heap.size) (by omega) f17
  clear f17
  have f18 : w3.cell? ⟨w.heap.size + 1, 1, none⟩ = some (.slice v1_0 x1.vals.length v1_1) := ((c1_3).cell (p := ⟨w.heap.size + 1, 1, none⟩) (by show w.heap.size + 1 < _; omega)).trans K4.out
  have gf18 := Aft.cell (B := w3.heap.size) (by omega) f18
  clear f18
  refine wp_region_plan (C := fun w' => ∃ u : Aft w3.heap.size w3, w' = u.now) (.still 0 (.move true 1 (.still 2 (.move true 3 (.move true 4 (.still 5 .done) .none) .none)) .none)) (by kernel_rfl) (by kernel_rfl) (by kernel_rfl) (fun _ => ⟨⟨_, (Below.refl _ _).drew⟩, rfl⟩) ?_
  have hb4 : Below w3.heap.size w3 w3.drew := (Below.refl _ _).drew
  have z4 : w3.drew.heap.size = w3.heap.size := rfl
  have c0_4 : Below w.heap.size w w3.drew := ((c0_2.trans (hb3.mono (by omega))).trans (hb4.mono (by omega)))
  refine plan_look _ rfl rfl ?_
  go_big_quiet_step (fail)
  refine wpQuiet_nil ?_
  refine plan_call _ 20 _ _ _ _ _ rfl _ Try.func20 (by kernel_rfl) (by kernel_rfl) ?_ True.intro
  show Calls Try.prog 20 #[.agg #[.slice v0_0 x0.rels.length v0_1, .slice v0_2 x0.facts.length v0_3]] _ _
  refine (toInstance_c _ x0 _ ((A0.out.below c0_4 (Nat.le_refl _)).more c0_4.size) S0).mono ?_
  rintro e w5 ⟨u19, rfl, ou19, hb5⟩
  have z5 : w3.drew.heap.size ≤ w5.heap.size := hb5.size
  obtain ⟨y20_0, y20_1, y20_2, y20_3, rfl⟩ := Instance_form (ou19.at_ (Nat.le_refl _))
  have c3_5 : Below w3.heap.size w3 w5 := (hb4.trans (hb5.mono (by omega)))
  refine ⟨_, rfl, fun _ => ⟨⟨_, c3_5⟩, rfl⟩, ?_⟩
  refine plan_put ?_ (by simp only [Act.put, List.setIfInBounds_toArray, List.set_cons_succ, List.set_cons_zero]; rfl)
  have c0_5 : Below w.heap.size w w5 := (c0_4.trans (hb5.mono (by omega)))
  refine plan_look _ rfl rfl ?_
  go_big_quiet_step (fail)
  refine wpQuiet_nil ?_
  refine plan_call _ 14 _ _ _ _ _ rfl _ Try.func14 (by kernel_rfl) (by kernel_rfl) ?_ True.intro
  show Calls Try.prog 14 #[.agg #[.int .i64 x1.rel, .slice v1_0 x1.vals.length v1_1]] _ _
  refine (toFact_c _ x1 _ ((A1.out.below c0_5 (Nat.le_refl _)).more c0_5.size) S1).mono ?_
  rintro e w6 ⟨u21, rfl, ou21, hb6⟩
  have z6 : w5.heap.size ≤ w6.heap.size := hb6.size
  obtain ⟨y22_0, y22_1, rfl⟩ := Fact_form (ou21.at_ (Nat.le_refl _))
  have c3_6 : Below w3.heap.size w3 w6 := (c3_5.trans (hb6.mono (by omega)))
  refine ⟨_, rfl, fun _ => ⟨⟨_, c3_6⟩, rfl⟩, ?_⟩
  refine plan_put ?_ (by simp only [Act.put, List.setIfInBounds_toArray, List.set_cons_succ, List.set_cons_zero]; rfl)
  have c5_6 : Below w5.heap.size w5 w6 := hb6
  refine plan_call _ 23 _ _ _ _ _ rfl _ Try.func23 (by kernel_rfl) (by kernel_rfl) ?_ True.intro
  show Calls Try.prog 23 #[.agg #[.slice y20_0 x0.rels.length y20_1, .slice y20_2 x0.facts.length y20_3], .agg #[.int .i64 x1.rel, .slice y22_0 x1.vals.length y22_1]] _ _
  refine (specContainsFact_c _ x0 _ x1 _ ((ou19.below c5_6 (Nat.le_refl _)).at_ (by omega)) W0.out S0 ((ou21.below (Below.refl w6.heap.size w6) (Nat.le_refl _)).at_ (Nat.le_refl _)) W1.out S1).mono ?_
  rintro e w7 ⟨rfl, hb7⟩
  have z7 : w6.heap.size ≤ w7.heap.size := hb7.size
  have c3_7 : Below w3.heap.size w3 w7 := (c3_6.trans (hb7.mono (by omega)))
  refine ⟨_, rfl, fun _ => ⟨⟨_, c3_7⟩, rfl⟩, ?_⟩
  refine plan_put ?_ (by simp only [Act.put, List.setIfInBounds_toArray, List.set_cons_succ, List.set_cons_zero]; rfl)
  refine plan_look _ rfl rfl ?_
  go_big_quiet_step (fail)
  refine wpQuiet_nil ?_
  refine plan_done ?_
  clear gf15 gf16 gf17 gf18
  have c1_7 : Below ((w.alloc (.cells #[.slice v0_0 x0.rels.length v0_1, .slice v0_2 x0.facts.length v0_3] 38)).alloc (.cells #[.int .i64 x1.rel, .slice v1_0 x1.vals.length v1_1] 25)).heap.size ((w.alloc (.cells #[.slice v0_0 x0.rels.length v0_1, .slice v0_2 x0.facts.length v0_3] 38)).alloc (.cells #[.int .i64 x1.rel, .slice v1_0 x1.vals.length v1_1] 25)) w7 := ((((c1_3.trans (hb4.mono (by omega))).trans (hb5.mono (by omega))).trans (hb6.mono (by omega))).trans (hb7.mono (by omega)))
  have f24 : w7.cell? ⟨w.heap.size, 0, none⟩ = some (.slice v0_0 x0.rels.length v0_1) := ((c1_7).cell (p := ⟨w.heap.size, 0, none⟩) (by show w.heap.size < _; omega)).trans K1.out
  have f25 : w7.cell? ⟨w.heap.size, 1, none⟩ = some (.slice v0_2 x0.facts.length v0_3) := ((c1_7).cell (p := ⟨w.heap.size, 1, none⟩) (by show w.heap.size < _; omega)).trans K2.out
  have c0_7 : Below w.heap.size w w7 := ((c0_5.trans (hb6.mono (by omega))).trans (hb7.mono (by omega)))
  go_wp2_with fail
  refine (toInstance_c _ x0 _ ((A0.out.below c0_7 (Nat.le_refl _)).more c0_7.size) S0).mono ?_
  rintro e w8 ⟨u26, rfl, ou26, hb8⟩
  have z8 : w7.heap.size ≤ w8.heap.size := hb8.size
  obtain ⟨y27_0, y27_1, y27_2, y27_3, rfl⟩ := Instance_form (ou26.at_ (Nat.le_refl _))
  have hb9 : Below w8.heap.size w8 (w8.alloc (.cells #[.slice y27_0 x0.rels.length y27_1, .slice y27_2 x0.facts.length y27_3] 43)) := below_more (Below.refl _ _) _
  have z9 : w8.heap.size + 1 ≤ (w8.alloc (.cells #[.slice y27_0 x0.rels.length y27_1, .slice y27_2 x0.facts.length y27_3] 43)).heap.size := by simp
  have K28 := Lib.hid (show (w8.alloc (.cells #[.slice y27_0 x0.rels.length y27_1, .slice y27_2 x0.facts.length y27_3] 43)).cell? ⟨w8.heap.size, 0, none⟩ = some (.slice y27_0 x0.rels.length y27_1) by simp [go_sem])
  have K29 := Lib.hid (show (w8.alloc (.cells #[.slice y27_0 x0.rels.length y27_1, .slice y27_2 x0.facts.length y27_3] 43)).cell? ⟨w8.heap.size, 1, none⟩ = some (.slice y27_2 x0.facts.length y27_3) by simp [go_sem])
  clear f24 f25
  have c1_9 : Below ((w.alloc (.cells #[.slice v0_0 x0.rels.length v0_1, .slice v0_2 x0.facts.length v0_3] 38)).alloc (.cells #[.int .i64 x1.rel, .slice v1_0 x1.vals.length v1_1] 25)).heap.size ((w.alloc (.cells #[.slice v0_0 x0.rels.length v0_1, .slice v0_2 x0.facts.length v0_3] 38)).alloc (.cells #[.int .i64 x1.rel, .slice v1_0 x1.vals.length v1_1] 25)) (w8.alloc (.cells #[.slice y27_0 x0.rels.length y27_1, .slice y27_2 x0.facts.length y27_3] 43)) := ((c1_7.trans (hb8.mono (by omega))).trans (hb9.mono (by omega)))
  have f30 : (w8.alloc (.cells #[.slice y27_0 x0.rels.length y27_1, .slice y27_2 x0.facts.length y27_3] 43)).cell? ⟨w.heap.size + 1, 0, none⟩ = some (.int .i64 x1.rel) := ((c1_9).cell (p := ⟨w.heap.size + 1, 0, none⟩) (by show w.heap.size + 1 < _; omega)).trans K3.out
  have f31 : (w8.alloc (.cells #[.slice y27_0 x0.rels.length y27_1, .slice y27_2 x0.facts.length y27_3] 43)).cell? ⟨w.heap.size + 1, 1, none⟩ = some (.slice v1_0 x1.vals.length v1_1) := ((c1_9).cell (p := ⟨w.heap.size + 1, 1, none⟩) (by show w.heap.size + 1 < _; omega)).trans K4.out
  have c0_9 : Below w.heap.size w (w8.alloc (.cells #[.slice y27_0 x0.rels.length y27_1, .slice y27_2 x0.facts.length y27_3] 43)) := ((c0_7.trans (hb8.mono (by omega))).trans (hb9.mono (by omega)))
  go_wp2_with fail
  refine (toFact_c _ x1 _ ((A1.out.below c0_9 (Nat.le_refl _)).more c0_9.size) S1).mono ?_
  rintro e w10 ⟨u32, rfl, ou32, hb10⟩
  have z10 : (w8.alloc (.cells #[.slice y27_0 x0.rels.length y27_1, .slice y27_2 x0.facts.length y27_3] 43)).heap.size ≤ w10.heap.size := hb10.size
  obtain ⟨y33_0, y33_1, rfl⟩ := Fact_form (ou32.at_ (Nat.le_refl _))
  have hb11 : Below w10.heap.size w10 (w10.alloc (.cells #[.int .i64 x1.rel, .slice y33_0 x1.vals.length y33_1] 31)) := below_more (Below.refl _ _) _
  have z11 : w10.heap.size + 1 ≤ (w10.alloc (.cells #[.int .i64 x1.rel, .slice y33_0 x1.vals.length y33_1] 31)).heap.size := by simp
  have K34 := Lib.hid (show (w10.alloc (.cells #[.int .i64 x1.rel, .slice y33_0 x1.vals.length y33_1] 31)).cell? ⟨w10.heap.size, 0, none⟩ = some (.int .i64 x1.rel) by simp [go_sem])
  have K35 := Lib.hid (show (w10.alloc (.cells #[.int .i64 x1.rel, .slice y33_0 x1.vals.length y33_1] 31)).cell? ⟨w10.heap.size, 1, none⟩ = some (.slice y33_0 x1.vals.length y33_1) by simp [go_sem])
  clear f30 f31
  have c9_11 : Below (w8.alloc (.cells #[.slice y27_0 x0.rels.length y27_1, .slice y27_2 x0.facts.length y27_3] 43)).heap.size (w8.alloc (.cells #[.slice y27_0 x0.rels.length y27_1, .slice y27_2 x0.facts.length y27_3] 43)) (w10.alloc (.cells #[.int .i64 x1.rel, .slice y33_0 x1.vals.length y33_1] 31)) := (hb10.trans (hb11.mono (by omega)))
  have f36 : (w10.alloc (.cells #[.int .i64 x1.rel, .slice y33_0 x1.vals.length y33_1] 31)).cell? ⟨w8.heap.size, 0, none⟩ = some (.slice y27_0 x0.rels.length y27_1) := ((c9_11).cell (p := ⟨w8.heap.size, 0, none⟩) (by show w8.heap.size < _; omega)).trans K28.out
  have f37 : (w10.alloc (.cells #[.int .i64 x1.rel, .slice y33_0 x1.vals.length y33_1] 31)).cell? ⟨w8.heap.size, 1, none⟩ = some (.slice y27_2 x0.facts.length y27_3) := ((c9_11).cell (p := ⟨w8.heap.size, 1, none⟩) (by show w8.heap.size < _; omega)).trans K29.out
  have f38 : (w10.alloc (.cells #[.int .i64 x1.rel, .slice y33_0 x1.vals.length y33_1] 31)).cell? ⟨w10.heap.size, 0, none⟩ = some (.int .i64 x1.rel) := K34.out
  have f39 : (w10.alloc (.cells #[.int .i64 x1.rel, .slice y33_0 x1.vals.length y33_1] 31)).cell? ⟨w10.heap.size, 1, none⟩ = some (.slice y33_0 x1.vals.length y33_1) := K35.out
  have c8_11 : Below w8.heap.size w8 (w10.alloc (.cells #[.int .i64 x1.rel, .slice y33_0 x1.vals.length y33_1] 31)) := ((hb9.trans (hb10.mono (by omega))).trans (hb11.mono (by omega)))
  have c10_11 : Below w10.heap.size w10 (w10.alloc (.cells #[.int .i64 x1.rel, .slice y33_0 x1.vals.length y33_1] 31)) := hb11
  go_wp2_with fail
  refine (implContainsFact_c _ x0 _ x1 _ ((ou26.below c8_11 (Nat.le_refl _)).at_ (by omega)) W0.out S0 ((ou32.below c10_11 (Nat.le_refl _)).at_ (by omega)) W1.out S1).mono ?_
  rintro e w12 ⟨rfl, hb12⟩
  have z12 : (w10.alloc (.cells #[.int .i64 x1.rel, .slice y33_0 x1.vals.length y33_1] 31)).heap.size ≤ w12.heap.size := hb12.size
  clear f36 f37 f38 f39
  go_wp2_with fail
  have c9_12 : Below (w8.alloc (.cells #[.slice y27_0 x0.rels.length y27_1, .slice y27_2 x0.facts.length y27_3] 43)).heap.size (w8.alloc (.cells #[.slice y27_0 x0.rels.length y27_1, .slice y27_2 x0.facts.length y27_3] 43)) w12 := (c9_11.trans (hb12.mono (by omega)))
  have f41 : w12.cell? ⟨w8.heap.size, 0, none⟩ = some (.slice y27_0 x0.rels.length y27_1) := ((c9_12).cell (p := ⟨w8.heap.size, 0, none⟩) (by show w8.heap.size < _; omega)).trans K28.out
  have gf41 := Aft.cell (B := w12.heap.size) (by omega) f41
  clear f41
  have f42 : w12.cell? ⟨w8.heap.size, 1, none⟩ = some (.slice y27_2 x0.facts.length y27_3) := ((c9_12).cell (p := ⟨w8.heap.size, 1, none⟩) (by show w8.heap.size < _; omega)).trans K29.out
  have gf42 := Aft.cell (B := w12.heap.size) (by omega) f42
  clear f42
  have c1_12 : Below ((w.alloc (.cells #[.slice v0_0 x0.rels.length v0_1, .slice v0_2 x0.facts.length v0_3] 38)).alloc (.cells #[.int .i64 x1.rel, .slice v1_0 x1.vals.length v1_1] 25)).heap.size ((w.alloc (.cells #[.slice v0_0 x0.rels.length v0_1, .slice v0_2 x0.facts.length v0_3] 38)).alloc (.cells #[.int .i64 x1.rel, .slice v1_0 x1.vals.length v1_1] 25)) w12 := (((c1_9.trans (hb10.mono (by omega))).trans (hb11.mono (by omega))).trans (hb12.mono (by omega)))
  have f43 : w12.cell? ⟨w.heap.size, 0, none⟩ = some (.slice v0_0 x0.rels.length v0_1) := ((c1_12).cell (p := ⟨w.heap.size, 0, none⟩) (by show w.heap.size < _; omega)).trans K1.out
  have gf43 := Aft.cell (B := w12.heap.size) (by omega) f43
  clear f43
  have f44 : w12.cell? ⟨w.heap.size, 1, none⟩ = some (.slice v0_2 x0.facts.length v0_3) := ((c1_12).cell (p := ⟨w.heap.size, 1, none⟩) (by show w.heap.size < _; omega)).trans K2.out
  have gf44 := Aft.cell (B := w12.heap.size) (by omega) f44
  clear f44
  refine wp_region_plan (C := fun w' => ∃ u : Aft w12.heap.size w12, w' = u.now) (.still 0 (.still 1 (.move true 2 (.move true 3 (.still 4 .done) .none) .none))) (by kernel_rfl) (by kernel_rfl) (by kernel_rfl) (fun _ => ⟨⟨_, (Below.refl _ _).drew⟩, rfl⟩) ?_
  have hb13 : Below w12.heap.size w12 w12.drew := (Below.refl _ _).drew
  have z13 : w12.drew.heap.size = w12.heap.size := rfl
  have c0_13 : Below w.heap.size w w12.drew := ((((c0_9.trans (hb10.mono (by omega))).trans (hb11.mono (by omega))).trans (hb12.mono (by omega))).trans (hb13.mono (by omega)))
  refine plan_look _ rfl rfl ?_
  go_big_quiet_step (fail)
  refine wpQuiet_nil ?_
  refine plan_look _ rfl rfl ?_
  go_big_quiet_step (fail)
  refine wpQuiet_nil ?_
  refine plan_call _ 20 _ _ _ _ _ rfl _ Try.func20 (by kernel_rfl) (by kernel_rfl) ?_ True.intro
  show Calls Try.prog 20 #[.agg #[.slice v0_0 x0.rels.length v0_1, .slice v0_2 x0.facts.length v0_3]] _ _
  refine (toInstance_c _ x0 _ ((A0.out.below c0_13 (Nat.le_refl _)).more c0_13.size) S0).mono ?_
  rintro e w14 ⟨u45, rfl, ou45, hb14⟩
  have z14 : w12.drew.heap.size ≤ w14.heap.size := hb14.size
  obtain ⟨y46_0, y46_1, y46_2, y46_3, rfl⟩ := Instance_form (ou45.at_ (Nat.le_refl _))
  have c12_14 : Below w12.heap.size w12 w14 := (hb13.trans (hb14.mono (by omega)))
  refine ⟨_, rfl, fun _ => ⟨⟨_, c12_14⟩, rfl⟩, ?_⟩
  refine plan_put ?_ (by simp only [Act.put, List.setIfInBounds_toArray, List.set_cons_succ, List.set_cons_zero]; rfl)
  have c8_14 : Below w8.heap.size w8 w14 := (((c8_11.trans (hb12.mono (by omega))).trans (hb13.mono (by omega))).trans (hb14.mono (by omega)))
  refine plan_call _ 22 _ _ _ _ _ rfl _ Try.func22 (by kernel_rfl) (by kernel_rfl) ?_ True.intro
  show Calls Try.prog 22 #[.agg #[.slice y27_0 x0.rels.length y27_1, .slice y27_2 x0.facts.length y27_3], .agg #[.slice y46_0 x0.rels.length y46_1, .slice y46_2 x0.facts.length y46_3]] _ _
  refine (eqInstance_c _ _ x0 _ ((ou26.below c8_14 (Nat.le_refl _)).at_ (by omega)) ((ou45.below (Below.refl w14.heap.size w14) (Nat.le_refl _)).at_ (Nat.le_refl _))).mono ?_
  rintro e w15 ⟨rfl, hb15⟩
  have z15 : w14.heap.size ≤ w15.heap.size := hb15.size
  have c12_15 : Below w12.heap.size w12 w15 := (c12_14.trans (hb15.mono (by omega)))
  refine ⟨_, rfl, fun _ => ⟨⟨_, c12_15⟩, rfl⟩, ?_⟩
  refine plan_put ?_ (by simp only [Act.put, List.setIfInBounds_toArray, List.set_cons_succ, List.set_cons_zero]; rfl)
  refine plan_look _ rfl rfl ?_
  go_big_quiet_step (fail)
  refine wpQuiet_nil ?_
  refine plan_done ?_
  clear gf41 gf42 gf43 gf44
  go_wp2_with fail
  have c11_15 : Below (w10.alloc (.cells #[.int .i64 x1.rel, .slice y33_0 x1.vals.length y33_1] 31)).heap.size (w10.alloc (.cells #[.int .i64 x1.rel, .slice y33_0 x1.vals.length y33_1] 31)) w15 := (((hb12.trans (hb13.mono (by omega))).trans (hb14.mono (by omega))).trans (hb15.mono (by omega)))
  have f47 : w15.cell? ⟨w10.heap.size, 0, none⟩ = some (.int .i64 x1.rel) := ((c11_15).cell (p := ⟨w10.heap.size, 0, none⟩) (by show w10.heap.size < _; omega)).trans K34.out
  have gf47 := Aft.cell (B := w15.heap.size) (by omega) f47
  clear f47
  have f48 : w15.cell? ⟨w10.heap.size, 1, none⟩ = some (.slice y33_0 x1.vals.length y33_1) := ((c11_15).cell (p := ⟨w10.heap.size, 1, none⟩) (by show w10.heap.size < _; omega)).trans K35.out
  have gf48 := Aft.cell (B := w15.heap.size) (by omega) f48
  clear f48
  have c1_15 : Below ((w.alloc (.cells #[.slice v0_0 x0.rels.length v0_1, .slice v0_2 x0.facts.length v0_3] 38)).alloc (.cells #[.int .i64 x1.rel, .slice v1_0 x1.vals.length v1_1] 25)).heap.size ((w.alloc (.cells #[.slice v0_0 x0.rels.length v0_1, .slice v0_2 x0.facts.length v0_3] 38)).alloc (.cells #[.int .i64 x1.rel, .slice v1_0 x1.vals.length v1_1] 25)) w15 := (((c1_12.trans (hb13.mono (by omega))).trans (hb14.mono (by omega))).trans (hb15.mono (by omega)))
  have f49 : w15.cell? ⟨w.heap.size + 1, 0, none⟩ = some (.int .i64 x1.rel) := ((c1_15).cell (p := ⟨w.heap.size + 1, 0, none⟩) (by show w.heap.size + 1 < _; omega)).trans K3.out
  have gf49 := Aft.cell (B := w15.heap.size) (by omega) f49
  clear f49
  have f50 : w15.cell? ⟨w.heap.size + 1, 1, none⟩ = some (.slice v1_0 x1.vals.length v1_1) := ((c1_15).cell (p := ⟨w.heap.size + 1, 1, none⟩) (by show w.heap.size + 1 < _; omega)).trans K4.out
  have gf50 := Aft.cell (B := w15.heap.size) (by omega) f50
  clear f50
  refine wp_region_plan (C := fun w' => ∃ u : Aft w15.heap.size w15, w' = u.now) (.still 0 (.still 1 (.move true 2 (.move true 3 (.still 4 .done) .none) .none))) (by kernel_rfl) (by kernel_rfl) (by kernel_rfl) (fun _ => ⟨⟨_, (Below.refl _ _).drew⟩, rfl⟩) ?_
  have hb16 : Below w15.heap.size w15 w15.drew := (Below.refl _ _).drew
  have z16 : w15.drew.heap.size = w15.heap.size := rfl
  have c0_16 : Below w.heap.size w w15.drew := (((c0_13.trans (hb14.mono (by omega))).trans (hb15.mono (by omega))).trans (hb16.mono (by omega)))
  refine plan_look _ rfl rfl ?_
  go_big_quiet_step (fail)
  refine wpQuiet_nil ?_
  refine plan_look _ rfl rfl ?_
  go_big_quiet_step (fail)
  refine wpQuiet_nil ?_
  refine plan_call _ 14 _ _ _ _ _ rfl _ Try.func14 (by kernel_rfl) (by kernel_rfl) ?_ True.intro
  show Calls Try.prog 14 #[.agg #[.int .i64 x1.rel, .slice v1_0 x1.vals.length v1_1]] _ _
  refine (toFact_c _ x1 _ ((A1.out.below c0_16 (Nat.le_refl _)).more c0_16.size) S1).mono ?_
  rintro e w17 ⟨u51, rfl, ou51, hb17⟩
  have z17 : w15.drew.heap.size ≤ w17.heap.size := hb17.size
  obtain ⟨y52_0, y52_1, rfl⟩ := Fact_form (ou51.at_ (Nat.le_refl _))
  have c15_17 : Below w15.heap.size w15 w17 := (hb16.trans (hb17.mono (by omega)))
  refine ⟨_, rfl, fun _ => ⟨⟨_, c15_17⟩, rfl⟩, ?_⟩
  refine plan_put ?_ (by simp only [Act.put, List.setIfInBounds_toArray, List.set_cons_succ, List.set_cons_zero]; rfl)
  have c10_17 : Below w10.heap.size w10 w17 := ((((((c10_11.trans (hb12.mono (by omega))).trans (hb13.mono (by omega))).trans (hb14.mono (by omega))).trans (hb15.mono (by omega))).trans (hb16.mono (by omega))).trans (hb17.mono (by omega)))
  refine plan_call _ 17 _ _ _ _ _ rfl _ Try.func17 (by kernel_rfl) (by kernel_rfl) ?_ True.intro
  show Calls Try.prog 17 #[.agg #[.int .i64 x1.rel, .slice y33_0 x1.vals.length y33_1], .agg #[.int .i64 x1.rel, .slice y52_0 x1.vals.length y52_1]] _ _
  refine (eqFact_c _ _ x1 _ ((ou32.below c10_17 (Nat.le_refl _)).at_ (by omega)) ((ou51.below (Below.refl w17.heap.size w17) (Nat.le_refl _)).at_ (Nat.le_refl _))).mono ?_
  rintro e w18 ⟨rfl, hb18⟩
  have z18 : w17.heap.size ≤ w18.heap.size := hb18.size
  have c15_18 : Below w15.heap.size w15 w18 := (c15_17.trans (hb18.mono (by omega)))
  refine ⟨_, rfl, fun _ => ⟨⟨_, c15_18⟩, rfl⟩, ?_⟩
  refine plan_put ?_ (by simp only [Act.put, List.setIfInBounds_toArray, List.set_cons_succ, List.set_cons_zero]; rfl)
  refine plan_look _ rfl rfl ?_
  go_big_quiet_step (fail)
  refine wpQuiet_nil ?_
  refine plan_done ?_
  clear gf47 gf48 gf49 gf50
  have c0_18 : Below w.heap.size w w18 := ((c0_16.trans (hb17.mono (by omega))).trans (hb18.mono (by omega)))
  go_wp2
  go_ret
  exact ⟨rfl, c0_18⟩

theorem ty : ∀ t ∈ Try.f5.params.toList, Try.prog.readableRec t = true ∧ t < Try.prog.types.size := by
  rw [Try.params5]; intro t ht
  simp only [List.mem_cons, List.not_mem_nil, or_false] at ht
  rcases ht with rfl | rfl <;> exact ⟨by kernel_rfl, of_decide_eq_true (by kernel_rfl)⟩
set_option maxRecDepth 100000 in
theorem lifted (os : Os) (started : os.Started) (H : Type) (enc : TypeId × Value → H) :
    ReturnsInHanded {} Try.checked os 5 .any (Rows.fnExactContainsFactSpec.pre6 enc Try.prog Try.f5 Rows.fnExactContainsFactRow.domain false) (Rows.fnExactContainsFactSpec.post enc Try.prog Try.f5 false true false false) := by
  refine returnsInHanded_of_change (C := Try.checked) ownFact started (by kernel_rfl) Try.func5
    (ChangeSpec.witness6 (enc := enc) (C := Try.checked) false ⟨#[], #[.agg #[.slice none 0 0, .slice none 0 0], .agg #[.int .i64 0, .slice none 0 0]], []⟩ 8 (by kernel_rfl) (by kernel_rfl) (by kernel_rfl) (by kernel_rfl)) ?_
  intro W base args ds gs before hval0 hW hcnd _
  have hval : ∀ (j : Nat) t v, Try.f5.params[j]? = some t → args[j]? = some v → Value.okWide Try.prog W .any base t v := hval0
  have hW' := hW
  obtain ⟨p, q, hA0, hV, _, hfz, hnd⟩ := hW
  have hA : DataW.TrodAll enc Try.prog W 0 (fun _ => true) true Try.f5.params.toList args.toList ds p := hA0
  rw [Try.params5] at hA hval
  obtain ⟨v0, vs0, d0, ds0, p0, q0, hargs, rfl, _, h0, r0⟩ := trodAll_cons hA
  obtain ⟨v1, vs1, d1, ds1, p1, q1, rfl, rfl, _, h1, r1⟩ := trodAll_cons r0
  obtain ⟨rfl, rfl, _⟩ := trodAll_nil r1
  obtain rfl : args = #[v0, v1] := by cases args; simp_all
  obtain ⟨rfl, _⟩ := trodVars_none hV
  obtain ⟨x0, hx0, hwx0⟩ := open_Instance (hval 0 _ v0 rfl rfl) h0 (DataW.TrodAll.lt (trodAll_mk1 h0))
  obtain ⟨x1, hx1, hwx1⟩ := open_Fact (hval 1 _ v1 rfl rfl) h1 (DataW.TrodAll.lt (trodAll_mk1 h1))
  refine (walk v0 x0 v1 x1 W hx0 hwx0 hx1 hwx1).mono fun e W' ⟨he, hb⟩ => ?_
  subst he
  exact ⟨_, rfl, law_post laidFact ty Try.underlying4 (by kernel_rfl) rfl hW' rfl hb⟩
theorem holds : Rows.FnExactContainsFactSaid :=
  OpenClaim.holds_of_wide 5 Try.f5 rfl rfl rfl rfl rfl rfl rfl ⟨rfl, rfl, rfl, rfl, rfl⟩ rfl rfl rfl rfl rfl (by kernel_rfl) Try.func5 (by kernel_rfl)
    (of_decide_eq_true (by kernel_rfl)) (by unfold Func.isWrapper; first | (rw [if_pos (by decide +kernel)]; kernel_rfl) | (rw [if_neg (by decide +kernel)]; exact ⟨rfl, rfl⟩))
    (fun os started H enc _ => lifted os started H enc)
end lawFnExactContainsFact

end Go.Proofs.Ytchlelkhpahakaa
