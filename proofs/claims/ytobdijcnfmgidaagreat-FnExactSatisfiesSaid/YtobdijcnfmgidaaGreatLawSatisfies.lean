/-
  FnExactSatisfies: for every argument the translated law returns true, and each argument reads afterwards as it read before. Conditions: none beyond the given row's own.
-/
import Derived.Test.YtobdijcnfmgidaaGreatPlan
import Derived.Test.YtobdijcnfmgidaaGreatDepSC
import Derived.Test.YtobdijcnfmgidaaGreatFactSC
import Derived.Test.YtobdijcnfmgidaaGreatLift
import Derived.Test.YtobdijcnfmgidaaGreatSatS
namespace Go.Proofs.YtobdijcnfmgidaaGreat
open Go.RowKit Go.ChangeShapes Go.WideShapes Go.ChangeAt Go.ChangeMaps

namespace lawFnExactSatisfies

set_option maxRecDepth 100000 in
set_option maxHeartbeats 1600000 in
theorem walk (v0 : Value) (x0 : Inst) (v1 : Value) (x1 : List Dep) (w : World) (h0 : Instance_at w w.heap.size v0 x0) (hw0 : Instance_wf x0) (h1 : DependencyS_at w w.heap.size v1 x1) (hw1 : DependencyS_wf x1) :
    Calls Tryz.prog 5 #[v0, v1] w fun e w' => e = .returned (.bool true) ∧ Below w.heap.size w w' := by
  obtain ⟨v0_0, v0_1, v0_2, v0_3, rfl⟩ := Instance_form h0
  have A0 := Lib.hid h0
  have W0 := Lib.hid hw0
  clear h0 hw0
  have A1 := Lib.hid h1
  have W1 := Lib.hid hw1
  clear h1 hw1
  by_cases hz1 : ((Instance_sz x0 : Nat) : Int) ≤ 1048576
  rotate_left
  · skip
    have e1 := szLeft_no hz1
    have hb1 : Below w.heap.size w (w.alloc (.cells #[.slice v0_0 x0.rels.length v0_1, .slice v0_2 x0.facts.length v0_3] 49)) := below_more (Below.refl _ _) _
    have z1 : w.heap.size + 1 ≤ (w.alloc (.cells #[.slice v0_0 x0.rels.length v0_1, .slice v0_2 x0.facts.length v0_3] 49)).heap.size := by simp
    have K1 := Lib.hid (show (w.alloc (.cells #[.slice v0_0 x0.rels.length v0_1, .slice v0_2 x0.facts.length v0_3] 49)).cell? ⟨w.heap.size, 0, none⟩ = some (.slice v0_0 x0.rels.length v0_1) by simp [go_sem])
    have K2 := Lib.hid (show (w.alloc (.cells #[.slice v0_0 x0.rels.length v0_1, .slice v0_2 x0.facts.length v0_3] 49)).cell? ⟨w.heap.size, 1, none⟩ = some (.slice v0_2 x0.facts.length v0_3) by simp [go_sem])
    go_enter Tryz.func5, Tryz.ntmps5
    have f3 : (w.alloc (.cells #[.slice v0_0 x0.rels.length v0_1, .slice v0_2 x0.facts.length v0_3] 49)).cell? ⟨w.heap.size, 0, none⟩ = some (.slice v0_0 x0.rels.length v0_1) := K1.out
    have f4 : (w.alloc (.cells #[.slice v0_0 x0.rels.length v0_1, .slice v0_2 x0.facts.length v0_3] 49)).cell? ⟨w.heap.size, 1, none⟩ = some (.slice v0_2 x0.facts.length v0_3) := K2.out
    have c0_1 : Below w.heap.size w (w.alloc (.cells #[.slice v0_0 x0.rels.length v0_1, .slice v0_2 x0.facts.length v0_3] 49)) := hb1
    go_wp2_with fail
    refine (szInstance_c _ x0 (1048576) _ ((A0.out.below c0_1 (Nat.le_refl _)).more c0_1.size) W0.out (by omega) (by omega)).mono ?_
    rw [e1]
    rintro e w2 ⟨rfl, hb2⟩
    have z2 : (w.alloc (.cells #[.slice v0_0 x0.rels.length v0_1, .slice v0_2 x0.facts.length v0_3] 49)).heap.size ≤ w2.heap.size := hb2.size
    clear f3 f4
    have c0_2 : Below w.heap.size w w2 := (c0_1.trans (hb2.mono (by omega)))
    go_wp2
    go_ret
    exact ⟨rfl, c0_2⟩
  by_cases hz2 : ((DependencyS_sz x1 : Nat) : Int) ≤ 1048576 - (Instance_sz x0 : Nat)
  rotate_left
  · skip
    have e1 := szLeft_yes hz1
    have e2 := szLeft_no hz2
    have hb1 : Below w.heap.size w (w.alloc (.cells #[.slice v0_0 x0.rels.length v0_1, .slice v0_2 x0.facts.length v0_3] 49)) := below_more (Below.refl _ _) _
    have z1 : w.heap.size + 1 ≤ (w.alloc (.cells #[.slice v0_0 x0.rels.length v0_1, .slice v0_2 x0.facts.length v0_3] 49)).heap.size := by simp
    have K1 := Lib.hid (show (w.alloc (.cells #[.slice v0_0 x0.rels.length v0_1, .slice v0_2 x0.facts.length v0_3] 49)).cell? ⟨w.heap.size, 0, none⟩ = some (.slice v0_0 x0.rels.length v0_1) by simp [go_sem])
    have K2 := Lib.hid (show (w.alloc (.cells #[.slice v0_0 x0.rels.length v0_1, .slice v0_2 x0.facts.length v0_3] 49)).cell? ⟨w.heap.size, 1, none⟩ = some (.slice v0_2 x0.facts.length v0_3) by simp [go_sem])
    go_enter Tryz.func5, Tryz.ntmps5
    have f5 : (w.alloc (.cells #[.slice v0_0 x0.rels.length v0_1, .slice v0_2 x0.facts.length v0_3] 49)).cell? ⟨w.heap.size, 0, none⟩ = some (.slice v0_0 x0.rels.length v0_1) := K1.out
    have f6 : (w.alloc (.cells #[.slice v0_0 x0.rels.length v0_1, .slice v0_2 x0.facts.length v0_3] 49)).cell? ⟨w.heap.size, 1, none⟩ = some (.slice v0_2 x0.facts.length v0_3) := K2.out
    have c0_1 : Below w.heap.size w (w.alloc (.cells #[.slice v0_0 x0.rels.length v0_1, .slice v0_2 x0.facts.length v0_3] 49)) := hb1
    go_wp2_with fail
    refine (szInstance_c _ x0 (1048576) _ ((A0.out.below c0_1 (Nat.le_refl _)).more c0_1.size) W0.out (by omega) (by omega)).mono ?_
    rw [e1]
    rintro e w2 ⟨rfl, hb2⟩
    have z2 : (w.alloc (.cells #[.slice v0_0 x0.rels.length v0_1, .slice v0_2 x0.facts.length v0_3] 49)).heap.size ≤ w2.heap.size := hb2.size
    clear f5 f6
    have c0_2 : Below w.heap.size w w2 := (c0_1.trans (hb2.mono (by omega)))
    go_wp2_with fail
    refine (szDependencyS_c _ x1 (1048576 - (Instance_sz x0 : Nat)) _ ((A1.out.below c0_2 (Nat.le_refl _)).more c0_2.size) W1.out (by omega) (by omega)).mono ?_
    rw [e2]
    rintro e w3 ⟨rfl, hb3⟩
    have z3 : w2.heap.size ≤ w3.heap.size := hb3.size
    have c0_3 : Below w.heap.size w w3 := (c0_2.trans (hb3.mono (by omega)))
    go_wp2
    go_ret
    exact ⟨rfl, c0_3⟩
  have e1 := szLeft_yes hz1
  have S0 : Instance_sz x0 ≤ 1048576 := by omega
  have N0 := Instance_cnt_le x0
  have e2 := szLeft_yes hz2
  have S1 : DependencyS_sz x1 ≤ 1048576 := by omega
  have N1 := DependencyS_cnt_le x1
  have hb1 : Below w.heap.size w (w.alloc (.cells #[.slice v0_0 x0.rels.length v0_1, .slice v0_2 x0.facts.length v0_3] 49)) := below_more (Below.refl _ _) _
  have z1 : w.heap.size + 1 ≤ (w.alloc (.cells #[.slice v0_0 x0.rels.length v0_1, .slice v0_2 x0.facts.length v0_3] 49)).heap.size := by simp
  have K1 := Lib.hid (show (w.alloc (.cells #[.slice v0_0 x0.rels.length v0_1, .slice v0_2 x0.facts.length v0_3] 49)).cell? ⟨w.heap.size, 0, none⟩ = some (.slice v0_0 x0.rels.length v0_1) by simp [go_sem])
  have K2 := Lib.hid (show (w.alloc (.cells #[.slice v0_0 x0.rels.length v0_1, .slice v0_2 x0.facts.length v0_3] 49)).cell? ⟨w.heap.size, 1, none⟩ = some (.slice v0_2 x0.facts.length v0_3) by simp [go_sem])
  go_enter Tryz.func5, Tryz.ntmps5
  have f7 : (w.alloc (.cells #[.slice v0_0 x0.rels.length v0_1, .slice v0_2 x0.facts.length v0_3] 49)).cell? ⟨w.heap.size, 0, none⟩ = some (.slice v0_0 x0.rels.length v0_1) := K1.out
  have f8 : (w.alloc (.cells #[.slice v0_0 x0.rels.length v0_1, .slice v0_2 x0.facts.length v0_3] 49)).cell? ⟨w.heap.size, 1, none⟩ = some (.slice v0_2 x0.facts.length v0_3) := K2.out
  have c0_1 : Below w.heap.size w (w.alloc (.cells #[.slice v0_0 x0.rels.length v0_1, .slice v0_2 x0.facts.length v0_3] 49)) := hb1
  go_wp2_with fail
  refine (szInstance_c _ x0 (1048576) _ ((A0.out.below c0_1 (Nat.le_refl _)).more c0_1.size) W0.out (by omega) (by omega)).mono ?_
  rw [e1]
  rintro e w2 ⟨rfl, hb2⟩
  have z2 : (w.alloc (.cells #[.slice v0_0 x0.rels.length v0_1, .slice v0_2 x0.facts.length v0_3] 49)).heap.size ≤ w2.heap.size := hb2.size
  clear f7 f8
  have c0_2 : Below w.heap.size w w2 := (c0_1.trans (hb2.mono (by omega)))
  go_wp2_with fail
  refine (szDependencyS_c _ x1 (1048576 - (Instance_sz x0 : Nat)) _ ((A1.out.below c0_2 (Nat.le_refl _)).more c0_2.size) W1.out (by omega) (by omega)).mono ?_
  rw [e2]
  rintro e w3 ⟨rfl, hb3⟩
  have z3 : w2.heap.size ≤ w3.heap.size := hb3.size
  have c1_3 : Below (w.alloc (.cells #[.slice v0_0 x0.rels.length v0_1, .slice v0_2 x0.facts.length v0_3] 49)).heap.size (w.alloc (.cells #[.slice v0_0 x0.rels.length v0_1, .slice v0_2 x0.facts.length v0_3] 49)) w3 := (hb2.trans (hb3.mono (by omega)))
  have f9 : w3.cell? ⟨w.heap.size, 0, none⟩ = some (.slice v0_0 x0.rels.length v0_1) := ((c1_3).cell (p := ⟨w.heap.size, 0, none⟩) (by show w.heap.size < _; omega)).trans K1.out
  have f10 : w3.cell? ⟨w.heap.size, 1, none⟩ = some (.slice v0_2 x0.facts.length v0_3) := ((c1_3).cell (p := ⟨w.heap.size, 1, none⟩) (by show w.heap.size < _; omega)).trans K2.out
  have c0_3 : Below w.heap.size w w3 := (c0_2.trans (hb3.mono (by omega)))
  go_wp2_with fail
  refine (toInstance_c _ x0 _ ((A0.out.below c0_3 (Nat.le_refl _)).more c0_3.size) S0).mono ?_
  rintro e w4 ⟨u11, rfl, ou11, hb4⟩
  have z4 : w3.heap.size ≤ w4.heap.size := hb4.size
  obtain ⟨y12_0, y12_1, y12_2, y12_3, rfl⟩ := Instance_form (ou11.at_ (Nat.le_refl _))
  have c0_4 : Below w.heap.size w w4 := (c0_3.trans (hb4.mono (by omega)))
  go_wp2_with fail
  refine (toDependencyS_c _ x1 _ ((A1.out.below c0_4 (Nat.le_refl _)).more c0_4.size) S1).mono ?_
  rintro e w5 ⟨u13, rfl, ou13, hb5⟩
  have z5 : w4.heap.size ≤ w5.heap.size := hb5.size
  have c4_5 : Below w4.heap.size w4 w5 := hb5
  go_wp2_with fail
  refine (specSatisfies_c _ x0 _ x1 _ ((ou11.below c4_5 (Nat.le_refl _)).at_ (by omega)) W0.out S0 ((ou13.below (Below.refl w5.heap.size w5) (Nat.le_refl _)).at_ (Nat.le_refl _)) W1.out S1).mono ?_
  rintro e w6 ⟨rfl, hb6⟩
  have z6 : w5.heap.size ≤ w6.heap.size := hb6.size
  clear f9 f10
  have c1_6 : Below (w.alloc (.cells #[.slice v0_0 x0.rels.length v0_1, .slice v0_2 x0.facts.length v0_3] 49)).heap.size (w.alloc (.cells #[.slice v0_0 x0.rels.length v0_1, .slice v0_2 x0.facts.length v0_3] 49)) w6 := (((c1_3.trans (hb4.mono (by omega))).trans (hb5.mono (by omega))).trans (hb6.mono (by omega)))
  have f15 : w6.cell? ⟨w.heap.size, 0, none⟩ = some (.slice v0_0 x0.rels.length v0_1) := ((c1_6).cell (p := ⟨w.heap.size, 0, none⟩) (by show w.heap.size < _; omega)).trans K1.out
  have f16 : w6.cell? ⟨w.heap.size, 1, none⟩ = some (.slice v0_2 x0.facts.length v0_3) := ((c1_6).cell (p := ⟨w.heap.size, 1, none⟩) (by show w.heap.size < _; omega)).trans K2.out
  have c0_6 : Below w.heap.size w w6 := ((c0_4.trans (hb5.mono (by omega))).trans (hb6.mono (by omega)))
  go_wp2_with fail
  refine (toInstance_c _ x0 _ ((A0.out.below c0_6 (Nat.le_refl _)).more c0_6.size) S0).mono ?_
  rintro e w7 ⟨u17, rfl, ou17, hb7⟩
  have z7 : w6.heap.size ≤ w7.heap.size := hb7.size
  obtain ⟨y18_0, y18_1, y18_2, y18_3, rfl⟩ := Instance_form (ou17.at_ (Nat.le_refl _))
  have hb8 : Below w7.heap.size w7 (w7.alloc (.cells #[.slice y18_0 x0.rels.length y18_1, .slice y18_2 x0.facts.length y18_3] 27)) := below_more (Below.refl _ _) _
  have z8 : w7.heap.size + 1 ≤ (w7.alloc (.cells #[.slice y18_0 x0.rels.length y18_1, .slice y18_2 x0.facts.length y18_3] 27)).heap.size := by simp
  have K19 := Lib.hid (show (w7.alloc (.cells #[.slice y18_0 x0.rels.length y18_1, .slice y18_2 x0.facts.length y18_3] 27)).cell? ⟨w7.heap.size, 0, none⟩ = some (.slice y18_0 x0.rels.length y18_1) by simp [go_sem])
  have K20 := Lib.hid (show (w7.alloc (.cells #[.slice y18_0 x0.rels.length y18_1, .slice y18_2 x0.facts.length y18_3] 27)).cell? ⟨w7.heap.size, 1, none⟩ = some (.slice y18_2 x0.facts.length y18_3) by simp [go_sem])
  clear f15 f16
  have c0_8 : Below w.heap.size w (w7.alloc (.cells #[.slice y18_0 x0.rels.length y18_1, .slice y18_2 x0.facts.length y18_3] 27)) := ((c0_6.trans (hb7.mono (by omega))).trans (hb8.mono (by omega)))
  go_wp2_with fail
  refine (toDependencyS_c _ x1 _ ((A1.out.below c0_8 (Nat.le_refl _)).more c0_8.size) S1).mono ?_
  rintro e w9 ⟨u21, rfl, ou21, hb9⟩
  have z9 : (w7.alloc (.cells #[.slice y18_0 x0.rels.length y18_1, .slice y18_2 x0.facts.length y18_3] 27)).heap.size ≤ w9.heap.size := hb9.size
  have c8_9 : Below (w7.alloc (.cells #[.slice y18_0 x0.rels.length y18_1, .slice y18_2 x0.facts.length y18_3] 27)).heap.size (w7.alloc (.cells #[.slice y18_0 x0.rels.length y18_1, .slice y18_2 x0.facts.length y18_3] 27)) w9 := hb9
  have f22 : w9.cell? ⟨w7.heap.size, 0, none⟩ = some (.slice y18_0 x0.rels.length y18_1) := ((c8_9).cell (p := ⟨w7.heap.size, 0, none⟩) (by show w7.heap.size < _; omega)).trans K19.out
  have f23 : w9.cell? ⟨w7.heap.size, 1, none⟩ = some (.slice y18_2 x0.facts.length y18_3) := ((c8_9).cell (p := ⟨w7.heap.size, 1, none⟩) (by show w7.heap.size < _; omega)).trans K20.out
  have c7_9 : Below w7.heap.size w7 w9 := (hb8.trans (hb9.mono (by omega)))
  go_wp2_with fail
  refine (implSatisfies_c _ x0 _ x1 _ ((ou17.below c7_9 (Nat.le_refl _)).at_ (by omega)) W0.out S0 ((ou21.below (Below.refl w9.heap.size w9) (Nat.le_refl _)).at_ (Nat.le_refl _)) W1.out S1).mono ?_
  rintro e w10 ⟨rfl, hb10⟩
  have z10 : w9.heap.size ≤ w10.heap.size := hb10.size
  clear f22 f23
  go_wp2_with fail
  have c8_10 : Below (w7.alloc (.cells #[.slice y18_0 x0.rels.length y18_1, .slice y18_2 x0.facts.length y18_3] 27)).heap.size (w7.alloc (.cells #[.slice y18_0 x0.rels.length y18_1, .slice y18_2 x0.facts.length y18_3] 27)) w10 := (c8_9.trans (hb10.mono (by omega)))
  have f25 : w10.cell? ⟨w7.heap.size, 0, none⟩ = some (.slice y18_0 x0.rels.length y18_1) := ((c8_10).cell (p := ⟨w7.heap.size, 0, none⟩) (by show w7.heap.size < _; omega)).trans K19.out
  have gf25 := Aft.cell (B := w10.heap.size) (by omega) f25
  clear f25
  have f26 : w10.cell? ⟨w7.heap.size, 1, none⟩ = some (.slice y18_2 x0.facts.length y18_3) := ((c8_10).cell (p := ⟨w7.heap.size, 1, none⟩) (by show w7.heap.size < _; omega)).trans K20.out
  have gf26 := Aft.cell (B := w10.heap.size) (by omega) f26
  clear f26
  have c1_10 : Below (w.alloc (.cells #[.slice v0_0 x0.rels.length v0_1, .slice v0_2 x0.facts.length v0_3] 49)).heap.size (w.alloc (.cells #[.slice v0_0 x0.rels.length v0_1, .slice v0_2 x0.facts.length v0_3] 49)) w10 := ((((c1_6.trans (hb7.mono (by omega))).trans (hb8.mono (by omega))).trans (hb9.mono (by omega))).trans (hb10.mono (by omega)))
  have f27 : w10.cell? ⟨w.heap.size, 0, none⟩ = some (.slice v0_0 x0.rels.length v0_1) := ((c1_10).cell (p := ⟨w.heap.size, 0, none⟩) (by show w.heap.size < _; omega)).trans K1.out
  have gf27 := Aft.cell (B := w10.heap.size) (by omega) f27
  clear f27
  have f28 : w10.cell? ⟨w.heap.size, 1, none⟩ = some (.slice v0_2 x0.facts.length v0_3) := ((c1_10).cell (p := ⟨w.heap.size, 1, none⟩) (by show w.heap.size < _; omega)).trans K2.out
  have gf28 := Aft.cell (B := w10.heap.size) (by omega) f28
  clear f28
  refine wp_region_plan (C := fun w' => ∃ u : Aft w10.heap.size w10, w' = u.now) (.still 0 (.still 1 (.move true 2 (.move true 3 (.still 4 .done) .none) .none))) (by kernel_rfl) (by kernel_rfl) (by kernel_rfl) (fun _ => ⟨⟨_, (Below.refl _ _).drew⟩, rfl⟩) ?_
  have hb11 : Below w10.heap.size w10 w10.drew := (Below.refl _ _).drew
  have z11 : w10.drew.heap.size = w10.heap.size := rfl
  have c0_11 : Below w.heap.size w w10.drew := (((c0_8.trans (hb9.mono (by omega))).trans (hb10.mono (by omega))).trans (hb11.mono (by omega)))
  refine plan_look _ rfl rfl ?_
  go_big_quiet_step (fail)
  refine wpQuiet_nil ?_
  refine plan_look _ rfl rfl ?_
  go_big_quiet_step (fail)
  refine wpQuiet_nil ?_
  refine plan_call _ 22 _ _ _ _ _ rfl _ Tryz.func22 (by kernel_rfl) (by kernel_rfl) ?_ True.intro
  show Calls Tryz.prog 22 #[.agg #[.slice v0_0 x0.rels.length v0_1, .slice v0_2 x0.facts.length v0_3]] _ _
  refine (toInstance_c _ x0 _ ((A0.out.below c0_11 (Nat.le_refl _)).more c0_11.size) S0).mono ?_
  rintro e w12 ⟨u29, rfl, ou29, hb12⟩
  have z12 : w10.drew.heap.size ≤ w12.heap.size := hb12.size
  obtain ⟨y30_0, y30_1, y30_2, y30_3, rfl⟩ := Instance_form (ou29.at_ (Nat.le_refl _))
  have c10_12 : Below w10.heap.size w10 w12 := (hb11.trans (hb12.mono (by omega)))
  refine ⟨_, rfl, fun _ => ⟨⟨_, c10_12⟩, rfl⟩, ?_⟩
  refine plan_put ?_ (by simp only [Act.put, List.setIfInBounds_toArray, List.set_cons_succ, List.set_cons_zero]; rfl)
  have c7_12 : Below w7.heap.size w7 w12 := (((c7_9.trans (hb10.mono (by omega))).trans (hb11.mono (by omega))).trans (hb12.mono (by omega)))
  refine plan_call _ 25 _ _ _ _ _ rfl _ Tryz.func25 (by kernel_rfl) (by kernel_rfl) ?_ True.intro
  show Calls Tryz.prog 25 #[.agg #[.slice y18_0 x0.rels.length y18_1, .slice y18_2 x0.facts.length y18_3], .agg #[.slice y30_0 x0.rels.length y30_1, .slice y30_2 x0.facts.length y30_3]] _ _
  refine (eqInstance_c _ _ x0 _ ((ou17.below c7_12 (Nat.le_refl _)).at_ (by omega)) ((ou29.below (Below.refl w12.heap.size w12) (Nat.le_refl _)).at_ (Nat.le_refl _))).mono ?_
  rintro e w13 ⟨rfl, hb13⟩
  have z13 : w12.heap.size ≤ w13.heap.size := hb13.size
  have c10_13 : Below w10.heap.size w10 w13 := (c10_12.trans (hb13.mono (by omega)))
  refine ⟨_, rfl, fun _ => ⟨⟨_, c10_13⟩, rfl⟩, ?_⟩
  refine plan_put ?_ (by simp only [Act.put, List.setIfInBounds_toArray, List.set_cons_succ, List.set_cons_zero]; rfl)
  refine plan_look _ rfl rfl ?_
  go_big_quiet_step (fail)
  refine wpQuiet_nil ?_
  refine plan_done ?_
  clear gf25 gf26 gf27 gf28
  have c0_13 : Below w.heap.size w w13 := ((c0_11.trans (hb12.mono (by omega))).trans (hb13.mono (by omega)))
  go_wp2_with fail
  refine (toDependencyS_c _ x1 _ ((A1.out.below c0_13 (Nat.le_refl _)).more c0_13.size) S1).mono ?_
  rintro e w14 ⟨u31, rfl, ou31, hb14⟩
  have z14 : w13.heap.size ≤ w14.heap.size := hb14.size
  have c9_14 : Below w9.heap.size w9 w14 := ((((hb10.trans (hb11.mono (by omega))).trans (hb12.mono (by omega))).trans (hb13.mono (by omega))).trans (hb14.mono (by omega)))
  go_wp2_with fail
  refine (eqDependencyS_c _ _ x1 _ ((ou21.below c9_14 (Nat.le_refl _)).at_ (by omega)) ((ou31.below (Below.refl w14.heap.size w14) (Nat.le_refl _)).at_ (Nat.le_refl _))).mono ?_
  rintro e w15 ⟨rfl, hb15⟩
  have z15 : w14.heap.size ≤ w15.heap.size := hb15.size
  have c0_15 : Below w.heap.size w w15 := ((c0_13.trans (hb14.mono (by omega))).trans (hb15.mono (by omega)))
  go_wp2
  go_ret
  exact ⟨rfl, c0_15⟩

theorem ty : ∀ t ∈ Tryz.f5.params.toList, Tryz.prog.readableRec t = true ∧ t < Tryz.prog.types.size := by
  rw [Tryz.params5]; intro t ht
  simp only [List.mem_cons, List.not_mem_nil, or_false] at ht
  rcases ht with rfl | rfl <;> exact ⟨by kernel_rfl, of_decide_eq_true (by kernel_rfl)⟩
set_option maxRecDepth 100000 in
theorem lifted (os : Os) (started : os.Started) (H : Type) (enc : TypeId × Value → H) :
    ReturnsInHanded {} Tryz.checked os 5 .any (Rows.fnExactSatisfiesSpec.pre6 enc Tryz.prog Tryz.f5 Rows.fnExactSatisfiesRow.domain false) (Rows.fnExactSatisfiesSpec.post enc Tryz.prog Tryz.f5 false true false false) := by
  refine returnsInHanded_of_change (C := Tryz.checked) ownFact started (by kernel_rfl) Tryz.func5
    (ChangeSpec.witness6 (enc := enc) (C := Tryz.checked) false ⟨#[], #[.agg #[.slice none 0 0, .slice none 0 0], .slice none 0 0], []⟩ 8 (by kernel_rfl) (by kernel_rfl) (by kernel_rfl) (by kernel_rfl)) ?_
  intro W base args ds gs before hval0 hW hcnd _
  have hval : ∀ (j : Nat) t v, Tryz.f5.params[j]? = some t → args[j]? = some v → Value.okWide Tryz.prog W .any base t v := hval0
  have hW' := hW
  obtain ⟨p, q, hA0, hV, _, hfz, hnd⟩ := hW
  have hA : DataW.TrodAll enc Tryz.prog W 0 (fun _ => true) true Tryz.f5.params.toList args.toList ds p := hA0
  rw [Tryz.params5] at hA hval
  obtain ⟨v0, vs0, d0, ds0, p0, q0, hargs, rfl, _, h0, r0⟩ := trodAll_cons hA
  obtain ⟨v1, vs1, d1, ds1, p1, q1, rfl, rfl, _, h1, r1⟩ := trodAll_cons r0
  obtain ⟨rfl, rfl, _⟩ := trodAll_nil r1
  obtain rfl : args = #[v0, v1] := by cases args; simp_all
  obtain ⟨rfl, _⟩ := trodVars_none hV
  obtain ⟨x0, hx0, hwx0⟩ := open_Instance (hval 0 _ v0 rfl rfl) h0 (DataW.TrodAll.lt (trodAll_mk1 h0))
  obtain ⟨x1, hx1, hwx1⟩ := open_DependencyS (hval 1 _ v1 rfl rfl) h1 (DataW.TrodAll.lt (trodAll_mk1 h1))
  refine (walk v0 x0 v1 x1 W hx0 hwx0 hx1 hwx1).mono fun e W' ⟨he, hb⟩ => ?_
  subst he
  exact ⟨_, rfl, law_post laidFact ty Tryz.underlying4 (by kernel_rfl) rfl hW' rfl hb⟩
theorem holds : Rows.FnExactSatisfiesSaid :=
  OpenClaim.holds_of_wide 5 Tryz.f5 rfl rfl rfl rfl rfl rfl rfl ⟨rfl, rfl, rfl, rfl, rfl⟩ rfl rfl rfl rfl rfl (by kernel_rfl) Tryz.func5 (by kernel_rfl)
    (of_decide_eq_true (by kernel_rfl)) (by unfold Func.isWrapper; first | (rw [if_pos (by decide +kernel)]; kernel_rfl) | (rw [if_neg (by decide +kernel)]; exact ⟨rfl, rfl⟩))
    (fun os started H enc _ => lifted os started H enc)
end lawFnExactSatisfies

end Go.Proofs.YtobdijcnfmgidaaGreat
