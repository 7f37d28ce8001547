/-
  FnExactFirstViolation: for every argument the translated law returns true, and each argument reads afterwards as it read before. Conditions: none beyond the given row's own.
-/
import Derived.Test.YtobdijcnfmgidaaGreatPlan
import Derived.Test.YtobdijcnfmgidaaGreatFactC
import Derived.Test.YtobdijcnfmgidaaGreatDepSC
import Derived.Test.YtobdijcnfmgidaaGreatFactSC
import Derived.Test.YtobdijcnfmgidaaGreatDepsV
import Derived.Test.YtobdijcnfmgidaaGreatActsI
import Derived.Test.YtobdijcnfmgidaaGreatLift
namespace Go.Proofs.YtobdijcnfmgidaaGreat
open Go.RowKit Go.ChangeShapes Go.WideShapes Go.ChangeAt Go.ChangeMaps

namespace lawFnExactFirstViolation

set_option maxRecDepth 100000 in
set_option maxHeartbeats 1600000 in
theorem walk (v0 : Value) (x0 : Inst) (v1 : Value) (x1 : List Dep) (w : World) (h0 : Instance_at w w.heap.size v0 x0) (hw0 : Instance_wf x0) (h1 : DependencyS_at w w.heap.size v1 x1) (hw1 : DependencyS_wf x1) :
    Calls Tryz.prog 4 #[v0, v1] w fun e w' => e = .returned (.bool true) ∧ Below w.heap.size w w' := by
  obtain ⟨v0_0, v0_1, v0_2, v0_3, rfl⟩ := Instance_form h0
  have A0 := Lib.hid h0
  have W0 := Lib.hid hw0
  clear h0 hw0
  have A1 := Lib.hid h1
  have W1 := Lib.hid hw1
  clear h1 hw1
  by_cases hz1 : ((Instance_sz x0 : Nat) : Int) ≤ 1048576
  rotate_left
  · skip
    have e1 := szLeft_no hz1
    have hb1 : Below w.heap.size w (w.alloc (.cells #[.slice v0_0 x0.rels.length v0_1, .slice v0_2 x0.facts.length v0_3] 49)) := below_more (Below.refl _ _) _
    have z1 : w.heap.size + 1 ≤ (w.alloc (.cells #[.slice v0_0 x0.rels.length v0_1, .slice v0_2 x0.facts.length v0_3] 49)).heap.size := by simp
    have K1 := Lib.hid (show (w.alloc (.cells #[.slice v0_0 x0.rels.length v0_1, .slice v0_2 x0.facts.length v0_3] 49)).cell? ⟨w.heap.size, 0, none⟩ = some (.slice v0_0 x0.rels.length v0_1) by simp [go_sem])
    have K2 := Lib.hid (show (w.alloc (.cells #[.slice v0_0 x0.rels.length v0_1, .slice v0_2 x0.facts.length v0_3] 49)).cell? ⟨w.heap.size, 1, none⟩ = some (.slice v0_2 x0.facts.length v0_3) by simp [go_sem])
    go_enter Tryz.func4, Tryz.ntmps4
    have f3 : (w.alloc (.cells #[.slice v0_0 x0.rels.length v0_1, .slice v0_2 x0.facts.length v0_3] 49)).cell? ⟨w.heap.size, 0, none⟩ = some (.slice v0_0 x0.rels.length v0_1) := K1.out
    have f4 : (w.alloc (.cells #[.slice v0_0 x0.rels.length v0_1, .slice v0_2 x0.facts.length v0_3] 49)).cell? ⟨w.heap.size, 1, none⟩ = some (.slice v0_2 x0.facts.length v0_3) := K2.out
    have c0_1 : Below w.heap.size w (w.alloc (.cells #[.slice v0_0 x0.rels.length v0_1, .slice v0_2 x0.facts.length v0_3] 49)) := hb1
    go_wp2_with fail
    refine (szInstance_c _ x0 (1048576) _ ((A0.out.below c0_1 (Nat.le_refl _)).more c0_1.size) W0.out (by omega) (by omega)).mono ?_
    rw [e1]
    rintro e w2 ⟨rfl, hb2⟩
    have z2 : (w.alloc (.cells #[.slice v0_0 x0.rels.length v0_1, .slice v0_2 x0.facts.length v0_3] 49)).heap.size ≤ w2.heap.size := hb2.size
    clear f3 f4
    have c0_2 : Below w.heap.size w w2 := (c0_1.trans (hb2.mono (by omega)))
    go_wp2
    go_ret
    exact ⟨rfl, c0_2⟩
  by_cases hz2 : ((DependencyS_sz x1 : Nat) : Int) ≤ 1048576 - (Instance_sz x0 : Nat)
  rotate_left
  · skip
    have e1 := szLeft_yes hz1
    have e2 := szLeft_no hz2
    have hb1 : Below w.heap.size w (w.alloc (.cells #[.slice v0_0 x0.rels.length v0_1, .slice v0_2 x0.facts.length v0_3] 49)) := below_more (Below.refl _ _) _
    have z1 : w.heap.size + 1 ≤ (w.alloc (.cells #[.slice v0_0 x0.rels.length v0_1, .slice v0_2 x0.facts.length v0_3] 49)).heap.size := by simp
    have K1 := Lib.hid (show (w.alloc (.cells #[.slice v0_0 x0.rels.length v0_1, .slice v0_2 x0.facts.length v0_3] 49)).cell? ⟨w.heap.size, 0, none⟩ = some (.slice v0_0 x0.rels.length v0_1) by simp [go_sem])
    have K2 := Lib.hid (show (w.alloc (.cells #[.slice v0_0 x0.rels.length v0_1, .slice v0_2 x0.facts.length v0_3] 49)).cell? ⟨w.heap.size, 1, none⟩ = some (.slice v0_2 x0.facts.length v0_3) by simp [go_sem])
    go_enter Tryz.func4, Tryz.ntmps4
    have f5 : (w.alloc (.cells #[.slice v0_0 x0.rels.length v0_1, .slice v0_2 x0.facts.length v0_3] 49)).cell? ⟨w.heap.size, 0, none⟩ = some (.slice v0_0 x0.rels.length v0_1) := K1.out
    have f6 : (w.alloc (.cells #[.slice v0_0 x0.rels.length v0_1, .slice v0_2 x0.facts.length v0_3] 49)).cell? ⟨w.heap.size, 1, none⟩ = some (.slice v0_2 x0.facts.length v0_3) := K2.out
    have c0_1 : Below w.heap.size w (w.alloc (.cells #[.slice v0_0 x0.rels.length v0_1, .slice v0_2 x0.facts.length v0_3] 49)) := hb1
    go_wp2_with fail
    refine (szInstance_c _ x0 (1048576) _ ((A0.out.below c0_1 (Nat.le_refl _)).more c0_1.size) W0.out (by omega) (by omega)).mono ?_
    rw [e1]
    rintro e w2 ⟨rfl, hb2⟩
    have z2 : (w.alloc (.cells #[.slice v0_0 x0.rels.length v0_1, .slice v0_2 x0.facts.length v0_3] 49)).heap.size ≤ w2.heap.size := hb2.size
    clear f5 f6
    have c0_2 : Below w.heap.size w w2 := (c0_1.trans (hb2.mono (by omega)))
    go_wp2_with fail
    refine (szDependencyS_c _ x1 (1048576 - (Instance_sz x0 : Nat)) _ ((A1.out.below c0_2 (Nat.le_refl _)).more c0_2.size) W1.out (by omega) (by omega)).mono ?_
    rw [e2]
    rintro e w3 ⟨rfl, hb3⟩
    have z3 : w2.heap.size ≤ w3.heap.size := hb3.size
    have c0_3 : Below w.heap.size w w3 := (c0_2.trans (hb3.mono (by omega)))
    go_wp2
    go_ret
    exact ⟨rfl, c0_3⟩
  have e1 := szLeft_yes hz1
  have S0 : Instance_sz x0 ≤ 1048576 := by omega
  have N0 := Instance_cnt_le x0
  have e2 := szLeft_yes hz2
  have S1 : DependencyS_sz x1 ≤ 1048576 := by omega
  have N1 := DependencyS_cnt_le x1
  have hb1 : Below w.heap.size w (w.alloc (.cells #[.slice v0_0 x0.rels.length v0_1, .slice v0_2 x0.facts.length v0_3] 49)) := below_more (Below.refl _ _) _
  have z1 : w.heap.size + 1 ≤ (w.alloc (.cells #[.slice v0_0 x0.rels.length v0_1, .slice v0_2 x0.facts.length v0_3] 49)).heap.size := by simp
  have K1 := Lib.hid (show (w.alloc (.cells #[.slice v0_0 x0.rels.length v0_1, .slice v0_2 x0.facts.length v0_3] 49)).cell? ⟨w.heap.size, 0, none⟩ = some (.slice v0_0 x0.rels.length v0_1) by simp [go_sem])
  have K2 := Lib.hid (show (w.alloc (.cells #[.slice v0_0 x0.rels.length v0_1, .slice v0_2 x0.facts.length v0_3] 49)).cell? ⟨w.heap.size, 1, none⟩ = some (.slice v0_2 x0.facts.length v0_3) by simp [go_sem])
  go_enter Tryz.func4, Tryz.ntmps4
  have f7 : (w.alloc (.cells #[.slice v0_0 x0.rels.length v0_1, .slice v0_2 x0.facts.length v0_3] 49)).cell? ⟨w.heap.size, 0, none⟩ = some (.slice v0_0 x0.rels.length v0_1) := K1.out
  have f8 : (w.alloc (.cells #[.slice v0_0 x0.rels.length v0_1, .slice v0_2 x0.facts.length v0_3] 49)).cell? ⟨w.heap.size, 1, none⟩ = some (.slice v0_2 x0.facts.length v0_3) := K2.out
  have c0_1 : Below w.heap.size w (w.alloc (.cells #[.slice v0_0 x0.rels.length v0_1, .slice v0_2 x0.facts.length v0_3] 49)) := hb1
  go_wp2_with fail
  refine (szInstance_c _ x0 (1048576) _ ((A0.out.below c0_1 (Nat.le_refl _)).more c0_1.size) W0.out (by omega) (by omega)).mono ?_
  rw [e1]
  rintro e w2 ⟨rfl, hb2⟩
  have z2 : (w.alloc (.cells #[.slice v0_0 x0.rels.length v0_1, .slice v0_2 x0.facts.length v0_3] 49)).heap.size ≤ w2.heap.size := hb2.size
  clear f7 f8
  have c0_2 : Below w.heap.size w w2 := (c0_1.trans (hb2.mono (by omega)))
  go_wp2_with fail
  refine (szDependencyS_c _ x1 (1048576 - (Instance_sz x0 : Nat)) _ ((A1.out.below c0_2 (Nat.le_refl _)).more c0_2.size) W1.out (by omega) (by omega)).mono ?_
  rw [e2]
  rintro e w3 ⟨rfl, hb3⟩
  have z3 : w2.heap.size ≤ w3.heap.size := hb3.size
  have c1_3 : Below (w.alloc (.cells #[.slice v0_0 x0.rels.length v0_1, .slice v0_2 x0.facts.length v0_3] 49)).heap.size (w.alloc (.cells #[.slice v0_0 x0.rels.length v0_1, .slice v0_2 x0.facts.length v0_3] 49)) w3 := (hb2.trans (hb3.mono (by omega)))
  have f9 : w3.cell? ⟨w.heap.size, 0, none⟩ = some (.slice v0_0 x0.rels.length v0_1) := ((c1_3).cell (p := ⟨w.heap.size, 0, none⟩) (by show w.heap.size < _; omega)).trans K1.out
  have f10 : w3.cell? ⟨w.heap.size, 1, none⟩ = some (.slice v0_2 x0.facts.length v0_3) := ((c1_3).cell (p := ⟨w.heap.size, 1, none⟩) (by show w.heap.size < _; omega)).trans K2.out
  have c0_3 : Below w.heap.size w w3 := (c0_2.trans (hb3.mono (by omega)))
  go_wp2_with fail
  refine (toInstance_c _ x0 _ ((A0.out.below c0_3 (Nat.le_refl _)).more c0_3.size) S0).mono ?_
  rintro e w4 ⟨u11, rfl, ou11, hb4⟩
  have z4 : w3.heap.size ≤ w4.heap.size := hb4.size
  obtain ⟨y12_0, y12_1, y12_2, y12_3, rfl⟩ := Instance_form (ou11.at_ (Nat.le_refl _))
  have c0_4 : Below w.heap.size w w4 := (c0_3.trans (hb4.mono (by omega)))
  go_wp2_with fail
  refine (toDependencyS_c _ x1 _ ((A1.out.below c0_4 (Nat.le_refl _)).more c0_4.size) S1).mono ?_
  rintro e w5 ⟨u13, rfl, ou13, hb5⟩
  have z5 : w4.heap.size ≤ w5.heap.size := hb5.size
  have c4_5 : Below w4.heap.size w4 w5 := hb5
  go_wp2_with fail
  refine (specFirstViolation_c _ x0 _ x1 _ ((ou11.below c4_5 (Nat.le_refl _)).at_ (by omega)) W0.out S0 ((ou13.below (Below.refl w5.heap.size w5) (Nat.le_refl _)).at_ (Nat.le_refl _)) W1.out S1).mono ?_
  rintro e w6 ⟨r14_1, rfl, p14_1, hb6⟩
  have z6 : w5.heap.size ≤ w6.heap.size := hb6.size
  clear f9 f10
  have c1_6 : Below (w.alloc (.cells #[.slice v0_0 x0.rels.length v0_1, .slice v0_2 x0.facts.length v0_3] 49)).heap.size (w.alloc (.cells #[.slice v0_0 x0.rels.length v0_1, .slice v0_2 x0.facts.length v0_3] 49)) w6 := (((c1_3.trans (hb4.mono (by omega))).trans (hb5.mono (by omega))).trans (hb6.mono (by omega)))
  have f15 : w6.cell? ⟨w.heap.size, 0, none⟩ = some (.slice v0_0 x0.rels.length v0_1) := ((c1_6).cell (p := ⟨w.heap.size, 0, none⟩) (by show w.heap.size < _; omega)).trans K1.out
  have f16 : w6.cell? ⟨w.heap.size, 1, none⟩ = some (.slice v0_2 x0.facts.length v0_3) := ((c1_6).cell (p := ⟨w.heap.size, 1, none⟩) (by show w.heap.size < _; omega)).trans K2.out
  have c0_6 : Below w.heap.size w w6 := ((c0_4.trans (hb5.mono (by omega))).trans (hb6.mono (by omega)))
  go_wp2_with fail
  refine (toInstance_c _ x0 _ ((A0.out.below c0_6 (Nat.le_refl _)).more c0_6.size) S0).mono ?_
  rintro e w7 ⟨u17, rfl, ou17, hb7⟩
  have z7 : w6.heap.size ≤ w7.heap.size := hb7.size
  obtain ⟨y18_0, y18_1, y18_2, y18_3, rfl⟩ := Instance_form (ou17.at_ (Nat.le_refl _))
  have hb8 : Below w7.heap.size w7 (w7.alloc (.cells #[.slice y18_0 x0.rels.length y18_1, .slice y18_2 x0.facts.length y18_3] 27)) := below_more (Below.refl _ _) _
  have z8 : w7.heap.size + 1 ≤ (w7.alloc (.cells #[.slice y18_0 x0.rels.length y18_1, .slice y18_2 x0.facts.length y18_3] 27)).heap.size := by simp
  have K19 := Lib.hid (show (w7.alloc (.cells #[.slice y18_0 x0.rels.length y18_1, .slice y18_2 x0.facts.length y18_3] 27)).cell? ⟨w7.heap.size, 0, none⟩ = some (.slice y18_0 x0.rels.length y18_1) by simp [go_sem])
  have K20 := Lib.hid (show (w7.alloc (.cells #[.slice y18_0 x0.rels.length y18_1, .slice y18_2 x0.facts.length y18_3] 27)).cell? ⟨w7.heap.size, 1, none⟩ = some (.slice y18_2 x0.facts.length y18_3) by simp [go_sem])
  clear f15 f16
  have c0_8 : Below w.heap.size w (w7.alloc (.cells #[.slice y18_0 x0.rels.length y18_1, .slice y18_2 x0.facts.length y18_3] 27)) := ((c0_6.trans (hb7.mono (by omega))).trans (hb8.mono (by omega)))
  go_wp2_with fail
  refine (toDependencyS_c _ x1 _ ((A1.out.below c0_8 (Nat.le_refl _)).more c0_8.size) S1).mono ?_
  rintro e w9 ⟨u21, rfl, ou21, hb9⟩
  have z9 : (w7.alloc (.cells #[.slice y18_0 x0.rels.length y18_1, .slice y18_2 x0.facts.length y18_3] 27)).heap.size ≤ w9.heap.size := hb9.size
  have c8_9 : Below (w7.alloc (.cells #[.slice y18_0 x0.rels.length y18_1, .slice y18_2 x0.facts.length y18_3] 27)).heap.size (w7.alloc (.cells #[.slice y18_0 x0.rels.length y18_1, .slice y18_2 x0.facts.length y18_3] 27)) w9 := hb9
  have f22 : w9.cell? ⟨w7.heap.size, 0, none⟩ = some (.slice y18_0 x0.rels.length y18_1) := ((c8_9).cell (p := ⟨w7.heap.size, 0, none⟩) (by show w7.heap.size < _; omega)).trans K19.out
  have f23 : w9.cell? ⟨w7.heap.size, 1, none⟩ = some (.slice y18_2 x0.facts.length y18_3) := ((c8_9).cell (p := ⟨w7.heap.size, 1, none⟩) (by show w7.heap.size < _; omega)).trans K20.out
  have c7_9 : Below w7.heap.size w7 w9 := (hb8.trans (hb9.mono (by omega)))
  go_wp2_with fail
  refine (implFirstViolation_c _ x0 _ x1 _ ((ou17.below c7_9 (Nat.le_refl _)).at_ (by omega)) W0.out S0 ((ou21.below (Below.refl w9.heap.size w9) (Nat.le_refl _)).at_ (Nat.le_refl _)) W1.out S1).mono ?_
  rintro e w10 ⟨r24_1, rfl, p24_1, q24_1, hb10⟩
  have z10 : w9.heap.size ≤ w10.heap.size := hb10.size
  have NC24_1 := IntS_cnt_le (FirstViolation_r1 x0 x1)
  clear f22 f23
  have c6_10 : Below w6.heap.size w6 w10 := (((hb7.trans (hb8.mono (by omega))).trans (hb9.mono (by omega))).trans (hb10.mono (by omega)))
  go_wp2_with fail
  refine (eqIntS_c _ _ (FirstViolation_r1 x0 x1) _ ((p24_1.below (Below.refl w10.heap.size w10) (Nat.le_refl _)).at_ (Nat.le_refl _)) ((p14_1.below c6_10 (Nat.le_refl _)).more c6_10.size)).mono ?_
  rintro e w11 ⟨rfl, hb11⟩
  have z11 : w10.heap.size ≤ w11.heap.size := hb11.size
  go_wp2_with fail
  have c8_11 : Below (w7.alloc (.cells #[.slice y18_0 x0.rels.length y18_1, .slice y18_2 x0.facts.length y18_3] 27)).heap.size (w7.alloc (.cells #[.slice y18_0 x0.rels.length y18_1, .slice y18_2 x0.facts.length y18_3] 27)) w11 := ((c8_9.trans (hb10.mono (by omega))).trans (hb11.mono (by omega)))
  have f25 : w11.cell? ⟨w7.heap.size, 0, none⟩ = some (.slice y18_0 x0.rels.length y18_1) := ((c8_11).cell (p := ⟨w7.heap.size, 0, none⟩) (by show w7.heap.size < _; omega)).trans K19.out
  have gf25 := Aft.cell (B := w11.heap.size) (by omega) f25
  clear f25
  have f26 : w11.cell? ⟨w7.heap.size, 1, none⟩ = some (.slice y18_2 x0.facts.length y18_3) := ((c8_11).cell (p := ⟨w7.heap.size, 1, none⟩) (by show w7.heap.size < _; omega)).trans K20.out
  have gf26 := Aft.cell (B := w11.heap.size) (by omega) f26
  clear f26
  have c1_11 : Below (w.alloc (.cells #[.slice v0_0 x0.rels.length v0_1, .slice v0_2 x0.facts.length v0_3] 49)).heap.size (w.alloc (.cells #[.slice v0_0 x0.rels.length v0_1, .slice v0_2 x0.facts.length v0_3] 49)) w11 := (((((c1_6.trans (hb7.mono (by omega))).trans (hb8.mono (by omega))).trans (hb9.mono (by omega))).trans (hb10.mono (by omega))).trans (hb11.mono (by omega)))
  have f27 : w11.cell? ⟨w.heap.size, 0, none⟩ = some (.slice v0_0 x0.rels.length v0_1) := ((c1_11).cell (p := ⟨w.heap.size, 0, none⟩) (by show w.heap.size < _; omega)).trans K1.out
  have gf27 := Aft.cell (B := w11.heap.size) (by omega) f27
  clear f27
  have f28 : w11.cell? ⟨w.heap.size, 1, none⟩ = some (.slice v0_2 x0.facts.length v0_3) := ((c1_11).cell (p := ⟨w.heap.size, 1, none⟩) (by show w.heap.size < _; omega)).trans K2.out
  have gf28 := Aft.cell (B := w11.heap.size) (by omega) f28
  clear f28
  refine wp_region_plan (C := fun w' => ∃ u : Aft w11.heap.size w11, w' = u.now) (.still 0 (.still 1 (.move true 2 (.move true 3 (.still 4 .done) .none) .none))) (by kernel_rfl) (by kernel_rfl) (by kernel_rfl) (fun _ => ⟨⟨_, (Below.refl _ _).drew⟩, rfl⟩) ?_
  have hb12 : Below w11.heap.size w11 w11.drew := (Below.refl _ _).drew
  have z12 : w11.drew.heap.size = w11.heap.size := rfl
  have c0_12 : Below w.heap.size w w11.drew := ((((c0_8.trans (hb9.mono (by omega))).trans (hb10.mono (by omega))).trans (hb11.mono (by omega))).trans (hb12.mono (by omega)))
  refine plan_look _ rfl rfl ?_
  go_big_quiet_step (fail)
  refine wpQuiet_nil ?_
  refine plan_look _ rfl rfl ?_
  go_big_quiet_step (fail)
  refine wpQuiet_nil ?_
  refine plan_call _ 22 _ _ _ _ _ rfl _ Tryz.func22 (by kernel_rfl) (by kernel_rfl) ?_ True.intro
  show Calls Tryz.prog 22 #[.agg #[.slice v0_0 x0.rels.length v0_1, .slice v0_2 x0.facts.length v0_3]] _ _
  refine (toInstance_c _ x0 _ ((A0.out.below c0_12 (Nat.le_refl _)).more c0_12.size) S0).mono ?_
  rintro e w13 ⟨u29, rfl, ou29, hb13⟩
  have z13 : w11.drew.heap.size ≤ w13.heap.size := hb13.size
  obtain ⟨y30_0, y30_1, y30_2, y30_3, rfl⟩ := Instance_form (ou29.at_ (Nat.le_refl _))
  have c11_13 : Below w11.heap.size w11 w13 := (hb12.trans (hb13.mono (by omega)))
  refine ⟨_, rfl, fun _ => ⟨⟨_, c11_13⟩, rfl⟩, ?_⟩
  refine plan_put ?_ (by simp only [Act.put, List.setIfInBounds_toArray, List.set_cons_succ, List.set_cons_zero]; rfl)
  have c7_13 : Below w7.heap.size w7 w13 := ((((c7_9.trans (hb10.mono (by omega))).trans (hb11.mono (by omega))).trans (hb12.mono (by omega))).trans (hb13.mono (by omega)))
  refine plan_call _ 25 _ _ _ _ _ rfl _ Tryz.func25 (by kernel_rfl) (by kernel_rfl) ?_ True.intro
  show Calls Tryz.prog 25 #[.agg #[.slice y18_0 x0.rels.length y18_1, .slice y18_2 x0.facts.length y18_3], .agg #[.slice y30_0 x0.rels.length y30_1, .slice y30_2 x0.facts.length y30_3]] _ _
  refine (eqInstance_c _ _ x0 _ ((ou17.below c7_13 (Nat.le_refl _)).at_ (by omega)) ((ou29.below (Below.refl w13.heap.size w13) (Nat.le_refl _)).at_ (Nat.le_refl _))).mono ?_
  rintro e w14 ⟨rfl, hb14⟩
  have z14 : w13.heap.size ≤ w14.heap.size := hb14.size
  have c11_14 : Below w11.heap.size w11 w14 := (c11_13.trans (hb14.mono (by omega)))
  refine ⟨_, rfl, fun _ => ⟨⟨_, c11_14⟩, rfl⟩, ?_⟩
  refine plan_put ?_ (by simp only [Act.put, List.setIfInBounds_toArray, List.set_cons_succ, List.set_cons_zero]; rfl)
  refine plan_look _ rfl rfl ?_
  go_big_quiet_step (fail)
  refine wpQuiet_nil ?_
  refine plan_done ?_
  clear gf25 gf26 gf27 gf28
  have c0_14 : Below w.heap.size w w14 := ((c0_12.trans (hb13.mono (by omega))).trans (hb14.mono (by omega)))
  go_wp2_with fail
  refine (toDependencyS_c _ x1 _ ((A1.out.below c0_14 (Nat.le_refl _)).more c0_14.size) S1).mono ?_
  rintro e w15 ⟨u31, rfl, ou31, hb15⟩
  have z15 : w14.heap.size ≤ w15.heap.size := hb15.size
  have c9_15 : Below w9.heap.size w9 w15 := (((((hb10.trans (hb11.mono (by omega))).trans (hb12.mono (by omega))).trans (hb13.mono (by omega))).trans (hb14.mono (by omega))).trans (hb15.mono (by omega)))
  go_wp2_with fail
  refine (eqDependencyS_c _ _ x1 _ ((ou21.below c9_15 (Nat.le_refl _)).at_ (by omega)) ((ou31.below (Below.refl w15.heap.size w15) (Nat.le_refl _)).at_ (Nat.le_refl _))).mono ?_
  rintro e w16 ⟨rfl, hb16⟩
  have z16 : w15.heap.size ≤ w16.heap.size := hb16.size
  have c8_16 : Below (w7.alloc (.cells #[.slice y18_0 x0.rels.length y18_1, .slice y18_2 x0.facts.length y18_3] 27)).heap.size (w7.alloc (.cells #[.slice y18_0 x0.rels.length y18_1, .slice y18_2 x0.facts.length y18_3] 27)) w16 := (((((c8_11.trans (hb12.mono (by omega))).trans (hb13.mono (by omega))).trans (hb14.mono (by omega))).trans (hb15.mono (by omega))).trans (hb16.mono (by omega)))
  have f32 : w16.cell? ⟨w7.heap.size, 0, none⟩ = some (.slice y18_0 x0.rels.length y18_1) := ((c8_16).cell (p := ⟨w7.heap.size, 0, none⟩) (by show w7.heap.size < _; omega)).trans K19.out
  have f33 : w16.cell? ⟨w7.heap.size, 1, none⟩ = some (.slice y18_2 x0.facts.length y18_3) := ((c8_16).cell (p := ⟨w7.heap.size, 1, none⟩) (by show w7.heap.size < _; omega)).trans K20.out
  have c7_16 : Below w7.heap.size w7 w16 := (((c7_13.trans (hb14.mono (by omega))).trans (hb15.mono (by omega))).trans (hb16.mono (by omega)))
  have c9_16 : Below w9.heap.size w9 w16 := (c9_15.trans (hb16.mono (by omega)))
  have c10_16 : Below w10.heap.size w10 w16 := (((((hb11.trans (hb12.mono (by omega))).trans (hb13.mono (by omega))).trans (hb14.mono (by omega))).trans (hb15.mono (by omega))).trans (hb16.mono (by omega)))
  go_wp2_with fail
  refine (markInstance_c _ _ _ x0 (1) _ (ou17.below c7_16 (Nat.le_refl _)) S0 (by omega) (by omega)).mono ?_
  rintro e w17 ⟨rfl, om17, hb17⟩
  have om17_tu21 := (ou21.below c9_16 (Nat.le_refl _)).chg hb17 (by omega)
  have om17_g1 := (p24_1.below c10_16 (Nat.le_refl _)).chg hb17 (by omega)
  have z17 : w16.heap.size ≤ w17.heap.size := hb17.size
  clear f32 f33
  have K34 := Lib.hid ((hb17.mid_cell (b := w7.heap.size) (o := 0) (by omega) (by omega)).trans (((c8_16).cell (p := ⟨w7.heap.size, 0, none⟩) (by show w7.heap.size < _; omega)).trans K19.out))
  have K35 := Lib.hid ((hb17.mid_cell (b := w7.heap.size) (o := 1) (by omega) (by omega)).trans (((c8_16).cell (p := ⟨w7.heap.size, 1, none⟩) (by show w7.heap.size < _; omega)).trans K20.out))
  go_wp2_with fail
  refine (markDependencyS_c _ _ _ x1 (1 + Instance_cnt x0) _ (om17_tu21.below (Below.refl w17.heap.size w17) (by omega)) S1 (by omega) (by omega)).mono ?_
  rintro e w18 ⟨rfl, om18, hb18⟩
  have om18_tu17 := (om17.below (Below.refl w17.heap.size w17) (by omega)).chg hb18 (by omega)
  have om18_g1 := (om17_g1.below (Below.refl w17.heap.size w17) (by omega)).chg hb18 (by omega)
  have z18 : w17.heap.size ≤ w18.heap.size := hb18.size
  have K36 := Lib.hid ((hb18.mid_cell (b := w7.heap.size) (o := 0) (by omega) (by omega)).trans (K34.out))
  have K37 := Lib.hid ((hb18.mid_cell (b := w7.heap.size) (o := 1) (by omega) (by omega)).trans (K35.out))
  have c6_18 : Below w6.heap.size w6 w18 := ((((((((c6_10.trans (hb11.mono (by omega))).trans (hb12.mono (by omega))).trans (hb13.mono (by omega))).trans (hb14.mono (by omega))).trans (hb15.mono (by omega))).trans (hb16.mono (by omega))).trans (hb17.mid_below (by omega) (by omega))).trans (hb18.mid_below (by omega) (by omega)))
  go_wp2_with fail
  refine (eqIntS_c _ _ (FirstViolation_r1 x0 x1) _ ((om18_g1.below (Below.refl w18.heap.size w18) (by omega)).at_ (by omega)) ((p14_1.below c6_18 (Nat.le_refl _)).more c6_18.size)).mono ?_
  rintro e w19 ⟨rfl, hb19⟩
  have z19 : w18.heap.size ≤ w19.heap.size := hb19.size
  have c18_19 : Below w18.heap.size w18 w19 := hb19
  go_wp2_with fail
  refine (markIntS_c _ _ _ (FirstViolation_r1 x0 x1) (1) _ (om18_g1.below c18_19 (by omega)) q24_1 (by omega) (by omega)).mono ?_
  rintro e w20 ⟨rfl, om20, hb20⟩
  have om20_tu17 := (om18_tu17.below c18_19 (by omega)).chg hb20 (by omega)
  have om20_tu21 := (om18.below c18_19 (by omega)).chg hb20 (by omega)
  have z20 : w19.heap.size ≤ w20.heap.size := hb20.size
  have K38 := Lib.hid ((hb20.mid_cell (b := w7.heap.size) (o := 0) (by omega) (by omega)).trans (((c18_19).cell (p := ⟨w7.heap.size, 0, none⟩) (by show w7.heap.size < _; omega)).trans K36.out))
  have K39 := Lib.hid ((hb20.mid_cell (b := w7.heap.size) (o := 1) (by omega) (by omega)).trans (((c18_19).cell (p := ⟨w7.heap.size, 1, none⟩) (by show w7.heap.size < _; omega)).trans K37.out))
  go_wp2_with fail
  refine (heldIntS_c _ (FirstViolation_r1 x0 x1) (1) _ ((om20.below (Below.refl w20.heap.size w20) (by omega)).at_ (by omega)) q24_1 (by omega) (by omega)).mono ?_
  rintro e w21 ⟨rfl, hb21⟩
  have z21 : w20.heap.size ≤ w21.heap.size := hb21.size
  have c1_21 : Below (w.alloc (.cells #[.slice v0_0 x0.rels.length v0_1, .slice v0_2 x0.facts.length v0_3] 49)).heap.size (w.alloc (.cells #[.slice v0_0 x0.rels.length v0_1, .slice v0_2 x0.facts.length v0_3] 49)) w21 := ((((((((((c1_11.trans (hb12.mono (by omega))).trans (hb13.mono (by omega))).trans (hb14.mono (by omega))).trans (hb15.mono (by omega))).trans (hb16.mono (by omega))).trans (hb17.mid_below (by omega) (by omega))).trans (hb18.mid_below (by omega) (by omega))).trans (hb19.mono (by omega))).trans (hb20.mid_below (by omega) (by omega))).trans (hb21.mono (by omega)))
  have f40 : w21.cell? ⟨w.heap.size, 0, none⟩ = some (.slice v0_0 x0.rels.length v0_1) := ((c1_21).cell (p := ⟨w.heap.size, 0, none⟩) (by show w.heap.size < _; omega)).trans K1.out
  have f41 : w21.cell? ⟨w.heap.size, 1, none⟩ = some (.slice v0_2 x0.facts.length v0_3) := ((c1_21).cell (p := ⟨w.heap.size, 1, none⟩) (by show w.heap.size < _; omega)).trans K2.out
  have c0_21 : Below w.heap.size w w21 := (((((((c0_14.trans (hb15.mono (by omega))).trans (hb16.mono (by omega))).trans (hb17.mid_below (by omega) (by omega))).trans (hb18.mid_below (by omega) (by omega))).trans (hb19.mono (by omega))).trans (hb20.mid_below (by omega) (by omega))).trans (hb21.mono (by omega)))
  go_wp2_with fail
  refine (toInstance_c _ x0 _ ((A0.out.below c0_21 (Nat.le_refl _)).more c0_21.size) S0).mono ?_
  rintro e w22 ⟨u42, rfl, ou42, hb22⟩
  have z22 : w21.heap.size ≤ w22.heap.size := hb22.size
  obtain ⟨y43_0, y43_1, y43_2, y43_3, rfl⟩ := Instance_form (ou42.at_ (Nat.le_refl _))
  have c0_22 : Below w.heap.size w w22 := (c0_21.trans (hb22.mono (by omega)))
  go_wp2_with fail
  refine (toDependencyS_c _ x1 _ ((A1.out.below c0_22 (Nat.le_refl _)).more c0_22.size) S1).mono ?_
  rintro e w23 ⟨u44, rfl, ou44, hb23⟩
  have z23 : w22.heap.size ≤ w23.heap.size := hb23.size
  have c22_23 : Below w22.heap.size w22 w23 := hb23
  go_wp2_with fail
  refine (implFirstViolation_c _ x0 _ x1 _ ((ou42.below c22_23 (Nat.le_refl _)).at_ (by omega)) W0.out S0 ((ou44.below (Below.refl w23.heap.size w23) (Nat.le_refl _)).at_ (Nat.le_refl _)) W1.out S1).mono ?_
  rintro e w24 ⟨r45_1, rfl, p45_1, q45_1, hb24⟩
  have z24 : w23.heap.size ≤ w24.heap.size := hb24.size
  have NC45_1 := IntS_cnt_le (FirstViolation_r1 x0 x1)
  clear f40 f41
  have c6_24 : Below w6.heap.size w6 w24 := ((((((c6_18.trans (hb19.mono (by omega))).trans (hb20.mid_below (by omega) (by omega))).trans (hb21.mono (by omega))).trans (hb22.mono (by omega))).trans (hb23.mono (by omega))).trans (hb24.mono (by omega)))
  go_wp2_with fail
  refine (eqIntS_c _ _ (FirstViolation_r1 x0 x1) _ ((p45_1.below (Below.refl w24.heap.size w24) (Nat.le_refl _)).at_ (Nat.le_refl _)) ((p14_1.below c6_24 (Nat.le_refl _)).more c6_24.size)).mono ?_
  rintro e w25 ⟨rfl, hb25⟩
  have z25 : w24.heap.size ≤ w25.heap.size := hb25.size
  have c20_25 : Below w20.heap.size w20 w25 := ((((hb21.trans (hb22.mono (by omega))).trans (hb23.mono (by omega))).trans (hb24.mono (by omega))).trans (hb25.mono (by omega)))
  go_wp2_with fail
  refine (heldIntS_c _ (FirstViolation_r1 x0 x1) (1) _ ((om20.below c20_25 (by omega)).at_ (by omega)) q45_1 (by omega) (by omega)).mono ?_
  rintro e w26 ⟨rfl, hb26⟩
  have z26 : w25.heap.size ≤ w26.heap.size := hb26.size
  have c0_26 : Below w.heap.size w w26 := ((((c0_22.trans (hb23.mono (by omega))).trans (hb24.mono (by omega))).trans (hb25.mono (by omega))).trans (hb26.mono (by omega)))
  go_wp2
  go_ret
  exact ⟨rfl, c0_26⟩

theorem ty : ∀ t ∈ Tryz.f4.params.toList, Tryz.prog.readableRec t = true ∧ t < Tryz.prog.types.size := by
  rw [Tryz.params4]; intro t ht
  simp only [List.mem_cons, List.not_mem_nil, or_false] at ht
  rcases ht with rfl | rfl <;> exact ⟨by kernel_rfl, of_decide_eq_true (by kernel_rfl)⟩
set_option maxRecDepth 100000 in
theorem lifted (os : Os) (started : os.Started) (H : Type) (enc : TypeId × Value → H) :
    ReturnsInHanded {} Tryz.checked os 4 .any (Rows.fnExactFirstViolationSpec.pre6 enc Tryz.prog Tryz.f4 Rows.fnExactFirstViolationRow.domain false) (Rows.fnExactFirstViolationSpec.post enc Tryz.prog Tryz.f4 false true false false) := by
  refine returnsInHanded_of_change (C := Tryz.checked) ownFact started (by kernel_rfl) Tryz.func4
    (ChangeSpec.witness6 (enc := enc) (C := Tryz.checked) false ⟨#[], #[.agg #[.slice none 0 0, .slice none 0 0], .slice none 0 0], []⟩ 8 (by kernel_rfl) (by kernel_rfl) (by kernel_rfl) (by kernel_rfl)) ?_
  intro W base args ds gs before hval0 hW hcnd _
  have hval : ∀ (j : Nat) t v, Tryz.f4.params[j]? = some t → args[j]? = some v → Value.okWide Tryz.prog W .any base t v := hval0
  have hW' := hW
  obtain ⟨p, q, hA0, hV, _, hfz, hnd⟩ := hW
  have hA : DataW.TrodAll enc Tryz.prog W 0 (fun _ => true) true Tryz.f4.params.toList args.toList ds p := hA0
  rw [Tryz.params4] at hA hval
  obtain ⟨v0, vs0, d0, ds0, p0, q0, hargs, rfl, _, h0, r0⟩ := trodAll_cons hA
  obtain ⟨v1, vs1, d1, ds1, p1, q1, rfl, rfl, _, h1, r1⟩ := trodAll_cons r0
  obtain ⟨rfl, rfl, _⟩ := trodAll_nil r1
  obtain rfl : args = #[v0, v1] := by cases args; simp_all
  obtain ⟨rfl, _⟩ := trodVars_none hV
  obtain ⟨x0, hx0, hwx0⟩ := open_Instance (hval 0 _ v0 rfl rfl) h0 (DataW.TrodAll.lt (trodAll_mk1 h0))
  obtain ⟨x1, hx1, hwx1⟩ := open_DependencyS (hval 1 _ v1 rfl rfl) h1 (DataW.TrodAll.lt (trodAll_mk1 h1))
  refine (walk v0 x0 v1 x1 W hx0 hwx0 hx1 hwx1).mono fun e W' ⟨he, hb⟩ => ?_
  subst he
  exact ⟨_, rfl, law_post laidFact ty Tryz.underlying4 (by kernel_rfl) rfl hW' rfl hb⟩
theorem holds : Rows.FnExactFirstViolationSaid :=
  OpenClaim.holds_of_wide 4 Tryz.f4 rfl rfl rfl rfl rfl rfl rfl ⟨rfl, rfl, rfl, rfl, rfl⟩ rfl rfl rfl rfl rfl (by kernel_rfl) Tryz.func4 (by kernel_rfl)
    (of_decide_eq_true (by kernel_rfl)) (by unfold Func.isWrapper; first | (rw [if_pos (by decide +kernel)]; kernel_rfl) | (rw [if_neg (by decide +kernel)]; exact ⟨rfl, rfl⟩))
    (fun os started H enc _ => lifted os started H enc)
end lawFnExactFirstViolation

end Go.Proofs.YtobdijcnfmgidaaGreat
