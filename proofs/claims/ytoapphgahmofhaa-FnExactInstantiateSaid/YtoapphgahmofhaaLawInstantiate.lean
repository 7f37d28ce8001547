/-
  FnExactInstantiate: for every argument the translated law returns true, and each argument reads afterwards as it read before. Conditions: none beyond the given row's own.
-/
import Derived.Test.YtoapphgahmofhaaPlan
import Derived.Test.YtoapphgahmofhaaFactC
import Derived.Test.YtoapphgahmofhaaAtomC
import Derived.Test.YtoapphgahmofhaaInstS
import Derived.Test.YtoapphgahmofhaaLift
import Derived.Test.YtoapphgahmofhaaInstI
namespace Go.Proofs.Ytoapphgahmofhaa
open Go.RowKit Go.ChangeShapes Go.WideShapes Go.ChangeAt Go.ChangeMaps

namespace lawFnExactInstantiate

set_option maxRecDepth 100000 in
set_option maxHeartbeats 1600000 in
theorem walk (v0 : Value) (x0 : Atm) (v1 : Value) (x1 : List Int) (w : World) (h0 : Atom_at w w.heap.size v0 x0) (hw0 : Atom_wf x0) (h1 : IntS_at w w.heap.size v1 x1) (hw1 : IntS_wf x1) :
    Calls Try.prog 6 #[v0, v1] w fun e w' => e = .returned (.bool true) ∧ Below w.heap.size w w' := by
  obtain ⟨v0_0, v0_1, rfl⟩ := Atom_form h0
  have A0 := Lib.hid h0
  have W0 := Lib.hid hw0
  clear h0 hw0
  obtain ⟨PI1, cI1, rfl, -, cL1, -⟩ := id h1
  unfold maxLen at cL1
  have A1 := Lib.hid h1
  have W1 := Lib.hid hw1
  clear h1 hw1
  by_cases hlong1 : 1048576 < x1.length
  · skip
    go_enter Try.func6, Try.ntmps6
    go_wp2
    go_ret
    exact ⟨rfl, below_more (Below.refl _ _) _⟩
  by_cases hz1 : ((Atom_sz x0 : Nat) : Int) ≤ 1048576
  rotate_left
  · skip
    have e1 := szLeft_no hz1
    have hb1 : Below w.heap.size w (w.alloc (.cells #[.int .i64 x0.rel, .slice v0_0 x0.vals.length v0_1] 67)) := below_more (Below.refl _ _) _
    have z1 : w.heap.size + 1 ≤ (w.alloc (.cells #[.int .i64 x0.rel, .slice v0_0 x0.vals.length v0_1] 67)).heap.size := by simp
    have K1 := Lib.hid (show (w.alloc (.cells #[.int .i64 x0.rel, .slice v0_0 x0.vals.length v0_1] 67)).cell? ⟨w.heap.size, 0, none⟩ = some (.int .i64 x0.rel) by simp [go_sem])
    have K2 := Lib.hid (show (w.alloc (.cells #[.int .i64 x0.rel, .slice v0_0 x0.vals.length v0_1] 67)).cell? ⟨w.heap.size, 1, none⟩ = some (.slice v0_0 x0.vals.length v0_1) by simp [go_sem])
    go_enter Try.func6, Try.ntmps6
    have f3 : (w.alloc (.cells #[.int .i64 x0.rel, .slice v0_0 x0.vals.length v0_1] 67)).cell? ⟨w.heap.size, 0, none⟩ = some (.int .i64 x0.rel) := K1.out
    have f4 : (w.alloc (.cells #[.int .i64 x0.rel, .slice v0_0 x0.vals.length v0_1] 67)).cell? ⟨w.heap.size, 1, none⟩ = some (.slice v0_0 x0.vals.length v0_1) := K2.out
    have c0_1 : Below w.heap.size w (w.alloc (.cells #[.int .i64 x0.rel, .slice v0_0 x0.vals.length v0_1] 67)) := hb1
    go_wp2_with fail
    refine (szAtom_c _ x0 (1048576) _ ((A0.out.below c0_1 (Nat.le_refl _)).more c0_1.size) W0.out (by omega) (by omega)).mono ?_
    rw [e1]
    rintro e w2 ⟨rfl, hb2⟩
    have z2 : (w.alloc (.cells #[.int .i64 x0.rel, .slice v0_0 x0.vals.length v0_1] 67)).heap.size ≤ w2.heap.size := hb2.size
    clear f3 f4
    have c0_2 : Below w.heap.size w w2 := (c0_1.trans (hb2.mono (by omega)))
    go_wp2
    go_ret
    exact ⟨rfl, c0_2⟩
  have e1 := szLeft_yes hz1
  have S0 : Atom_sz x0 ≤ 1048576 := by omega
  have N0 := Atom_cnt_le x0
  have S1 : IntS_sz x1 ≤ 1048576 := by show x1.length ≤ _; omega
  have N1 := IntS_cnt_le x1
  have hb1 : Below w.heap.size w (w.alloc (.cells #[.int .i64 x0.rel, .slice v0_0 x0.vals.length v0_1] 67)) := below_more (Below.refl _ _) _
  have z1 : w.heap.size + 1 ≤ (w.alloc (.cells #[.int .i64 x0.rel, .slice v0_0 x0.vals.length v0_1] 67)).heap.size := by simp
  have K1 := Lib.hid (show (w.alloc (.cells #[.int .i64 x0.rel, .slice v0_0 x0.vals.length v0_1] 67)).cell? ⟨w.heap.size, 0, none⟩ = some (.int .i64 x0.rel) by simp [go_sem])
  have K2 := Lib.hid (show (w.alloc (.cells #[.int .i64 x0.rel, .slice v0_0 x0.vals.length v0_1] 67)).cell? ⟨w.heap.size, 1, none⟩ = some (.slice v0_0 x0.vals.length v0_1) by simp [go_sem])
  go_enter Try.func6, Try.ntmps6
  have f5 : (w.alloc (.cells #[.int .i64 x0.rel, .slice v0_0 x0.vals.length v0_1] 67)).cell? ⟨w.heap.size, 0, none⟩ = some (.int .i64 x0.rel) := K1.out
  have f6 : (w.alloc (.cells #[.int .i64 x0.rel, .slice v0_0 x0.vals.length v0_1] 67)).cell? ⟨w.heap.size, 1, none⟩ = some (.slice v0_0 x0.vals.length v0_1) := K2.out
  have c0_1 : Below w.heap.size w (w.alloc (.cells #[.int .i64 x0.rel, .slice v0_0 x0.vals.length v0_1] 67)) := hb1
  go_wp2_with fail
  refine (szAtom_c _ x0 (1048576) _ ((A0.out.below c0_1 (Nat.le_refl _)).more c0_1.size) W0.out (by omega) (by omega)).mono ?_
  rw [e1]
  rintro e w2 ⟨rfl, hb2⟩
  have z2 : (w.alloc (.cells #[.int .i64 x0.rel, .slice v0_0 x0.vals.length v0_1] 67)).heap.size ≤ w2.heap.size := hb2.size
  clear f5 f6
  have c1_2 : Below (w.alloc (.cells #[.int .i64 x0.rel, .slice v0_0 x0.vals.length v0_1] 67)).heap.size (w.alloc (.cells #[.int .i64 x0.rel, .slice v0_0 x0.vals.length v0_1] 67)) w2 := hb2
  have f7 : w2.cell? ⟨w.heap.size, 0, none⟩ = some (.int .i64 x0.rel) := ((c1_2).cell (p := ⟨w.heap.size, 0, none⟩) (by show w.heap.size < _; omega)).trans K1.out
  have f8 : w2.cell? ⟨w.heap.size, 1, none⟩ = some (.slice v0_0 x0.vals.length v0_1) := ((c1_2).cell (p := ⟨w.heap.size, 1, none⟩) (by show w.heap.size < _; omega)).trans K2.out
  have c0_2 : Below w.heap.size w w2 := (c0_1.trans (hb2.mono (by omega)))
  go_wp2_with fail
  refine (toAtom_c _ x0 _ ((A0.out.below c0_2 (Nat.le_refl _)).more c0_2.size) S0).mono ?_
  rintro e w3 ⟨u9, rfl, ou9, hb3⟩
  have z3 : w2.heap.size ≤ w3.heap.size := hb3.size
  obtain ⟨y10_0, y10_1, rfl⟩ := Atom_form (ou9.at_ (Nat.le_refl _))
  have c0_3 : Below w.heap.size w w3 := (c0_2.trans (hb3.mono (by omega)))
  go_wp2_with fail
  refine (toIntS_c _ x1 _ ((A1.out.below c0_3 (Nat.le_refl _)).more c0_3.size) S1).mono ?_
  rintro e w4 ⟨u11, rfl, ou11, hb4⟩
  have z4 : w3.heap.size ≤ w4.heap.size := hb4.size
  have c3_4 : Below w3.heap.size w3 w4 := hb4
  go_wp2_with fail
  refine (specInstantiate_c _ x0 _ x1 _ ((ou9.below c3_4 (Nat.le_refl _)).at_ (by omega)) W0.out S0 ((ou11.below (Below.refl w4.heap.size w4) (Nat.le_refl _)).at_ (Nat.le_refl _)) W1.out S1).mono ?_
  rintro e w5 ⟨r12_0, rfl, p12_0, hb5⟩
  have z5 : w4.heap.size ≤ w5.heap.size := hb5.size
  obtain ⟨y13_0, y13_1, rfl⟩ := Fact_form p12_0
  have hb6 : Below w5.heap.size w5 (w5.alloc (.cells #[.int .i64 (Instantiate_r0 x0 x1).rel, .slice y13_0 (Instantiate_r0 x0 x1).vals.length y13_1] 36)) := below_more (Below.refl _ _) _
  have z6 : w5.heap.size + 1 ≤ (w5.alloc (.cells #[.int .i64 (Instantiate_r0 x0 x1).rel, .slice y13_0 (Instantiate_r0 x0 x1).vals.length y13_1] 36)).heap.size := by simp
  have K14 := Lib.hid (show (w5.alloc (.cells #[.int .i64 (Instantiate_r0 x0 x1).rel, .slice y13_0 (Instantiate_r0 x0 x1).vals.length y13_1] 36)).cell? ⟨w5.heap.size, 0, none⟩ = some (.int .i64 (Instantiate_r0 x0 x1).rel) by simp [go_sem])
  have K15 := Lib.hid (show (w5.alloc (.cells #[.int .i64 (Instantiate_r0 x0 x1).rel, .slice y13_0 (Instantiate_r0 x0 x1).vals.length y13_1] 36)).cell? ⟨w5.heap.size, 1, none⟩ = some (.slice y13_0 (Instantiate_r0 x0 x1).vals.length y13_1) by simp [go_sem])
  clear f7 f8
  have c1_6 : Below (w.alloc (.cells #[.int .i64 x0.rel, .slice v0_0 x0.vals.length v0_1] 67)).heap.size (w.alloc (.cells #[.int .i64 x0.rel, .slice v0_0 x0.vals.length v0_1] 67)) (w5.alloc (.cells #[.int .i64 (Instantiate_r0 x0 x1).rel, .slice y13_0 (Instantiate_r0 x0 x1).vals.length y13_1] 36)) := ((((c1_2.trans (hb3.mono (by omega))).trans (hb4.mono (by omega))).trans (hb5.mono (by omega))).trans (hb6.mono (by omega)))
  have f16 : (w5.alloc (.cells #[.int .i64 (Instantiate_r0 x0 x1).rel, .slice y13_0 (Instantiate_r0 x0 x1).vals.length y13_1] 36)).cell? ⟨w.heap.size, 0, none⟩ = some (.int .i64 x0.rel) := ((c1_6).cell (p := ⟨w.heap.size, 0, none⟩) (by show w.heap.size < _; omega)).trans K1.out
  have f17 : (w5.alloc (.cells #[.int .i64 (Instantiate_r0 x0 x1).rel, .slice y13_0 (Instantiate_r0 x0 x1).vals.length y13_1] 36)).cell? ⟨w.heap.size, 1, none⟩ = some (.slice v0_0 x0.vals.length v0_1) := ((c1_6).cell (p := ⟨w.heap.size, 1, none⟩) (by show w.heap.size < _; omega)).trans K2.out
  have c0_6 : Below w.heap.size w (w5.alloc (.cells #[.int .i64 (Instantiate_r0 x0 x1).rel, .slice y13_0 (Instantiate_r0 x0 x1).vals.length y13_1] 36)) := (((c0_3.trans (hb4.mono (by omega))).trans (hb5.mono (by omega))).trans (hb6.mono (by omega)))
  go_wp2_with fail
  refine (toAtom_c _ x0 _ ((A0.out.below c0_6 (Nat.le_refl _)).more c0_6.size) S0).mono ?_
  rintro e w7 ⟨u18, rfl, ou18, hb7⟩
  have z7 : (w5.alloc (.cells #[.int .i64 (Instantiate_r0 x0 x1).rel, .slice y13_0 (Instantiate_r0 x0 x1).vals.length y13_1] 36)).heap.size ≤ w7.heap.size := hb7.size
  obtain ⟨y19_0, y19_1, rfl⟩ := Atom_form (ou18.at_ (Nat.le_refl _))
  have hb8 : Below w7.heap.size w7 (w7.alloc (.cells #[.int .i64 x0.rel, .slice y19_0 x0.vals.length y19_1] 40)) := below_more (Below.refl _ _) _
  have z8 : w7.heap.size + 1 ≤ (w7.alloc (.cells #[.int .i64 x0.rel, .slice y19_0 x0.vals.length y19_1] 40)).heap.size := by simp
  have K20 := Lib.hid (show (w7.alloc (.cells #[.int .i64 x0.rel, .slice y19_0 x0.vals.length y19_1] 40)).cell? ⟨w7.heap.size, 0, none⟩ = some (.int .i64 x0.rel) by simp [go_sem])
  have K21 := Lib.hid (show (w7.alloc (.cells #[.int .i64 x0.rel, .slice y19_0 x0.vals.length y19_1] 40)).cell? ⟨w7.heap.size, 1, none⟩ = some (.slice y19_0 x0.vals.length y19_1) by simp [go_sem])
  clear f16 f17
  have c0_8 : Below w.heap.size w (w7.alloc (.cells #[.int .i64 x0.rel, .slice y19_0 x0.vals.length y19_1] 40)) := ((c0_6.trans (hb7.mono (by omega))).trans (hb8.mono (by omega)))
  go_wp2_with fail
  refine (toIntS_c _ x1 _ ((A1.out.below c0_8 (Nat.le_refl _)).more c0_8.size) S1).mono ?_
  rintro e w9 ⟨u22, rfl, ou22, hb9⟩
  have z9 : (w7.alloc (.cells #[.int .i64 x0.rel, .slice y19_0 x0.vals.length y19_1] 40)).heap.size ≤ w9.heap.size := hb9.size
  have c8_9 : Below (w7.alloc (.cells #[.int .i64 x0.rel, .slice y19_0 x0.vals.length y19_1] 40)).heap.size (w7.alloc (.cells #[.int .i64 x0.rel, .slice y19_0 x0.vals.length y19_1] 40)) w9 := hb9
  have f23 : w9.cell? ⟨w7.heap.size, 0, none⟩ = some (.int .i64 x0.rel) := ((c8_9).cell (p := ⟨w7.heap.size, 0, none⟩) (by show w7.heap.size < _; omega)).trans K20.out
  have f24 : w9.cell? ⟨w7.heap.size, 1, none⟩ = some (.slice y19_0 x0.vals.length y19_1) := ((c8_9).cell (p := ⟨w7.heap.size, 1, none⟩) (by show w7.heap.size < _; omega)).trans K21.out
  have c7_9 : Below w7.heap.size w7 w9 := (hb8.trans (hb9.mono (by omega)))
  go_wp2_with fail
  refine (implInstantiate_c _ x0 _ x1 _ ((ou18.below c7_9 (Nat.le_refl _)).at_ (by omega)) W0.out S0 ((ou22.below (Below.refl w9.heap.size w9) (Nat.le_refl _)).at_ (Nat.le_refl _)) W1.out S1).mono ?_
  rintro e w10 ⟨r25_0, rfl, p25_0, q25_0, hb10⟩
  have z10 : w9.heap.size ≤ w10.heap.size := hb10.size
  have NC25_0 := Fact_cnt_le (Instantiate_r0 x0 x1)
  obtain ⟨y26_0, y26_1, rfl⟩ := Fact_form (p25_0.at_ (Nat.le_refl _))
  have hb11 : Below w10.heap.size w10 (w10.alloc (.cells #[.int .i64 (Instantiate_r0 x0 x1).rel, .slice y26_0 (Instantiate_r0 x0 x1).vals.length y26_1] 36)) := below_more (Below.refl _ _) _
  have z11 : w10.heap.size + 1 ≤ (w10.alloc (.cells #[.int .i64 (Instantiate_r0 x0 x1).rel, .slice y26_0 (Instantiate_r0 x0 x1).vals.length y26_1] 36)).heap.size := by simp
  have K27 := Lib.hid (show (w10.alloc (.cells #[.int .i64 (Instantiate_r0 x0 x1).rel, .slice y26_0 (Instantiate_r0 x0 x1).vals.length y26_1] 36)).cell? ⟨w10.heap.size, 0, none⟩ = some (.int .i64 (Instantiate_r0 x0 x1).rel) by simp [go_sem])
  have K28 := Lib.hid (show (w10.alloc (.cells #[.int .i64 (Instantiate_r0 x0 x1).rel, .slice y26_0 (Instantiate_r0 x0 x1).vals.length y26_1] 36)).cell? ⟨w10.heap.size, 1, none⟩ = some (.slice y26_0 (Instantiate_r0 x0 x1).vals.length y26_1) by simp [go_sem])
  clear f23 f24
  have f29 : (w10.alloc (.cells #[.int .i64 (Instantiate_r0 x0 x1).rel, .slice y26_0 (Instantiate_r0 x0 x1).vals.length y26_1] 36)).cell? ⟨w10.heap.size, 0, none⟩ = some (.int .i64 (Instantiate_r0 x0 x1).rel) := K27.out
  have f30 : (w10.alloc (.cells #[.int .i64 (Instantiate_r0 x0 x1).rel, .slice y26_0 (Instantiate_r0 x0 x1).vals.length y26_1] 36)).cell? ⟨w10.heap.size, 1, none⟩ = some (.slice y26_0 (Instantiate_r0 x0 x1).vals.length y26_1) := K28.out
  have c6_11 : Below (w5.alloc (.cells #[.int .i64 (Instantiate_r0 x0 x1).rel, .slice y13_0 (Instantiate_r0 x0 x1).vals.length y13_1] 36)).heap.size (w5.alloc (.cells #[.int .i64 (Instantiate_r0 x0 x1).rel, .slice y13_0 (Instantiate_r0 x0 x1).vals.length y13_1] 36)) (w10.alloc (.cells #[.int .i64 (Instantiate_r0 x0 x1).rel, .slice y26_0 (Instantiate_r0 x0 x1).vals.length y26_1] 36)) := ((((hb7.trans (hb8.mono (by omega))).trans (hb9.mono (by omega))).trans (hb10.mono (by omega))).trans (hb11.mono (by omega)))
  have f31 : (w10.alloc (.cells #[.int .i64 (Instantiate_r0 x0 x1).rel, .slice y26_0 (Instantiate_r0 x0 x1).vals.length y26_1] 36)).cell? ⟨w5.heap.size, 0, none⟩ = some (.int .i64 (Instantiate_r0 x0 x1).rel) := ((c6_11).cell (p := ⟨w5.heap.size, 0, none⟩) (by show w5.heap.size < _; omega)).trans K14.out
  have f32 : (w10.alloc (.cells #[.int .i64 (Instantiate_r0 x0 x1).rel, .slice y26_0 (Instantiate_r0 x0 x1).vals.length y26_1] 36)).cell? ⟨w5.heap.size, 1, none⟩ = some (.slice y13_0 (Instantiate_r0 x0 x1).vals.length y13_1) := ((c6_11).cell (p := ⟨w5.heap.size, 1, none⟩) (by show w5.heap.size < _; omega)).trans K15.out
  have c10_11 : Below w10.heap.size w10 (w10.alloc (.cells #[.int .i64 (Instantiate_r0 x0 x1).rel, .slice y26_0 (Instantiate_r0 x0 x1).vals.length y26_1] 36)) := hb11
  have c5_11 : Below w5.heap.size w5 (w10.alloc (.cells #[.int .i64 (Instantiate_r0 x0 x1).rel, .slice y26_0 (Instantiate_r0 x0 x1).vals.length y26_1] 36)) := (((((hb6.trans (hb7.mono (by omega))).trans (hb8.mono (by omega))).trans (hb9.mono (by omega))).trans (hb10.mono (by omega))).trans (hb11.mono (by omega)))
  go_wp2_with fail
  refine (eqFact_c _ _ (Instantiate_r0 x0 x1) _ ((p25_0.below c10_11 (Nat.le_refl _)).at_ (by omega)) ((p12_0.below c5_11 (Nat.le_refl _)).more c5_11.size)).mono ?_
  rintro e w12 ⟨rfl, hb12⟩
  have z12 : (w10.alloc (.cells #[.int .i64 (Instantiate_r0 x0 x1).rel, .slice y26_0 (Instantiate_r0 x0 x1).vals.length y26_1] 36)).heap.size ≤ w12.heap.size := hb12.size
  clear f29 f30 f31 f32
  go_wp2_with fail
  have c8_12 : Below (w7.alloc (.cells #[.int .i64 x0.rel, .slice y19_0 x0.vals.length y19_1] 40)).heap.size (w7.alloc (.cells #[.int .i64 x0.rel, .slice y19_0 x0.vals.length y19_1] 40)) w12 := (((c8_9.trans (hb10.mono (by omega))).trans (hb11.mono (by omega))).trans (hb12.mono (by omega)))
  have f33 : w12.cell? ⟨w7.heap.size, 0, none⟩ = some (.int .i64 x0.rel) := ((c8_12).cell (p := ⟨w7.heap.size, 0, none⟩) (by show w7.heap.size < _; omega)).trans K20.out
  have gf33 := Aft.cell (B := w12.heap.size) (by omega) f33
  clear f33
  have f34 : w12.cell? ⟨w7.heap.size, 1, none⟩ = some (.slice y19_0 x0.vals.length y19_1) := ((c8_12).cell (p := ⟨w7.heap.size, 1, none⟩) (by show w7.heap.size < _; omega)).trans K21.out
  have gf34 := Aft.cell (B := w12.heap.size) (by omega) f34
  clear f34
  have c1_12 : Below (w.alloc (.cells #[.int .i64 x0.rel, .slice v0_0 x0.vals.length v0_1] 67)).heap.size (w.alloc (.cells #[.int .i64 x0.rel, .slice v0_0 x0.vals.length v0_1] 67)) w12 := ((((((c1_6.trans (hb7.mono (by omega))).trans (hb8.mono (by omega))).trans (hb9.mono (by omega))).trans (hb10.mono (by omega))).trans (hb11.mono (by omega))).trans (hb12.mono (by omega)))
  have f35 : w12.cell? ⟨w.heap.size, 0, none⟩ = some (.int .i64 x0.rel) := ((c1_12).cell (p := ⟨w.heap.size, 0, none⟩) (by show w.heap.size < _; omega)).trans K1.out
  have gf35 := Aft.cell (B := w12.heap.size) (by omega) f35
  clear f35
  have f36 : w12.cell? ⟨w.heap.size, 1, none⟩ = some (.slice v0_0 x0.vals.length v0_1) := ((c1_12).cell (p := ⟨w.heap.size, 1, none⟩) (by show w.heap.size < _; omega)).trans K2.out
  have gf36 := Aft.cell (B := w12.heap.size) (by omega) f36
  clear f36
  refine wp_region_plan (C := fun w' => ∃ u : Aft w12.heap.size w12, w' = u.now) (.still 0 (.still 1 (.move true 2 (.move true 3 (.still 4 .done) .none) .none))) (by kernel_rfl) (by kernel_rfl) (by kernel_rfl) (fun _ => ⟨⟨_, (Below.refl _ _).drew⟩, rfl⟩) ?_
  have hb13 : Below w12.heap.size w12 w12.drew := (Below.refl _ _).drew
  have z13 : w12.drew.heap.size = w12.heap.size := rfl
  have c0_13 : Below w.heap.size w w12.drew := (((((c0_8.trans (hb9.mono (by omega))).trans (hb10.mono (by omega))).trans (hb11.mono (by omega))).trans (hb12.mono (by omega))).trans (hb13.mono (by omega)))
  refine plan_look _ rfl rfl ?_
  go_big_quiet_step (fail)
  refine wpQuiet_nil ?_
  refine plan_look _ rfl rfl ?_
  go_big_quiet_step (fail)
  refine wpQuiet_nil ?_
  refine plan_call _ 35 _ _ _ _ _ rfl _ Try.func35 (by kernel_rfl) (by kernel_rfl) ?_ True.intro
  show Calls Try.prog 35 #[.agg #[.int .i64 x0.rel, .slice v0_0 x0.vals.length v0_1]] _ _
  refine (toAtom_c _ x0 _ ((A0.out.below c0_13 (Nat.le_refl _)).more c0_13.size) S0).mono ?_
  rintro e w14 ⟨u37, rfl, ou37, hb14⟩
  have z14 : w12.drew.heap.size ≤ w14.heap.size := hb14.size
  obtain ⟨y38_0, y38_1, rfl⟩ := Atom_form (ou37.at_ (Nat.le_refl _))
  have c12_14 : Below w12.heap.size w12 w14 := (hb13.trans (hb14.mono (by omega)))
  refine ⟨_, rfl, fun _ => ⟨⟨_, c12_14⟩, rfl⟩, ?_⟩
  refine plan_put ?_ (by simp only [Act.put, List.setIfInBounds_toArray, List.set_cons_succ, List.set_cons_zero]; rfl)
  have c7_14 : Below w7.heap.size w7 w14 := (((((c7_9.trans (hb10.mono (by omega))).trans (hb11.mono (by omega))).trans (hb12.mono (by omega))).trans (hb13.mono (by omega))).trans (hb14.mono (by omega)))
  refine plan_call _ 37 _ _ _ _ _ rfl _ Try.func37 (by kernel_rfl) (by kernel_rfl) ?_ True.intro
  show Calls Try.prog 37 #[.agg #[.int .i64 x0.rel, .slice y19_0 x0.vals.length y19_1], .agg #[.int .i64 x0.rel, .slice y38_0 x0.vals.length y38_1]] _ _
  refine (eqAtom_c _ _ x0 _ ((ou18.below c7_14 (Nat.le_refl _)).at_ (by omega)) ((ou37.below (Below.refl w14.heap.size w14) (Nat.le_refl _)).at_ (Nat.le_refl _))).mono ?_
  rintro e w15 ⟨rfl, hb15⟩
  have z15 : w14.heap.size ≤ w15.heap.size := hb15.size
  have c12_15 : Below w12.heap.size w12 w15 := (c12_14.trans (hb15.mono (by omega)))
  refine ⟨_, rfl, fun _ => ⟨⟨_, c12_15⟩, rfl⟩, ?_⟩
  refine plan_put ?_ (by simp only [Act.put, List.setIfInBounds_toArray, List.set_cons_succ, List.set_cons_zero]; rfl)
  refine plan_look _ rfl rfl ?_
  go_big_quiet_step (fail)
  refine wpQuiet_nil ?_
  refine plan_done ?_
  clear gf33 gf34 gf35 gf36
  have c0_15 : Below w.heap.size w w15 := ((c0_13.trans (hb14.mono (by omega))).trans (hb15.mono (by omega)))
  go_wp2_with fail
  refine (toIntS_c _ x1 _ ((A1.out.below c0_15 (Nat.le_refl _)).more c0_15.size) S1).mono ?_
  rintro e w16 ⟨u39, rfl, ou39, hb16⟩
  have z16 : w15.heap.size ≤ w16.heap.size := hb16.size
  have c9_16 : Below w9.heap.size w9 w16 := ((((((hb10.trans (hb11.mono (by omega))).trans (hb12.mono (by omega))).trans (hb13.mono (by omega))).trans (hb14.mono (by omega))).trans (hb15.mono (by omega))).trans (hb16.mono (by omega)))
  go_wp2_with fail
  refine (eqIntS_c _ _ x1 _ ((ou22.below c9_16 (Nat.le_refl _)).at_ (by omega)) ((ou39.below (Below.refl w16.heap.size w16) (Nat.le_refl _)).at_ (Nat.le_refl _))).mono ?_
  rintro e w17 ⟨rfl, hb17⟩
  have z17 : w16.heap.size ≤ w17.heap.size := hb17.size
  have c8_17 : Below (w7.alloc (.cells #[.int .i64 x0.rel, .slice y19_0 x0.vals.length y19_1] 40)).heap.size (w7.alloc (.cells #[.int .i64 x0.rel, .slice y19_0 x0.vals.length y19_1] 40)) w17 := (((((c8_12.trans (hb13.mono (by omega))).trans (hb14.mono (by omega))).trans (hb15.mono (by omega))).trans (hb16.mono (by omega))).trans (hb17.mono (by omega)))
  have f40 : w17.cell? ⟨w7.heap.size, 0, none⟩ = some (.int .i64 x0.rel) := ((c8_17).cell (p := ⟨w7.heap.size, 0, none⟩) (by show w7.heap.size < _; omega)).trans K20.out
  have f41 : w17.cell? ⟨w7.heap.size, 1, none⟩ = some (.slice y19_0 x0.vals.length y19_1) := ((c8_17).cell (p := ⟨w7.heap.size, 1, none⟩) (by show w7.heap.size < _; omega)).trans K21.out
  have c7_17 : Below w7.heap.size w7 w17 := (((c7_14.trans (hb15.mono (by omega))).trans (hb16.mono (by omega))).trans (hb17.mono (by omega)))
  have c9_17 : Below w9.heap.size w9 w17 := (c9_16.trans (hb17.mono (by omega)))
  have c10_17 : Below w10.heap.size w10 w17 := ((((((c10_11.trans (hb12.mono (by omega))).trans (hb13.mono (by omega))).trans (hb14.mono (by omega))).trans (hb15.mono (by omega))).trans (hb16.mono (by omega))).trans (hb17.mono (by omega)))
  have c11_17 : Below (w10.alloc (.cells #[.int .i64 (Instantiate_r0 x0 x1).rel, .slice y26_0 (Instantiate_r0 x0 x1).vals.length y26_1] 36)).heap.size (w10.alloc (.cells #[.int .i64 (Instantiate_r0 x0 x1).rel, .slice y26_0 (Instantiate_r0 x0 x1).vals.length y26_1] 36)) w17 := (((((hb12.trans (hb13.mono (by omega))).trans (hb14.mono (by omega))).trans (hb15.mono (by omega))).trans (hb16.mono (by omega))).trans (hb17.mono (by omega)))
  go_wp2_with fail
  refine (markAtom_c _ _ _ x0 (1) _ (ou18.below c7_17 (Nat.le_refl _)) S0 (by omega) (by omega)).mono ?_
  rintro e w18 ⟨rfl, om18, hb18⟩
  have om18_tu22 := (ou22.below c9_17 (Nat.le_refl _)).chg hb18 (by omega)
  have om18_g0 := (p25_0.below c10_17 (Nat.le_refl _)).chg hb18 (by omega)
  have z18 : w17.heap.size ≤ w18.heap.size := hb18.size
  clear f40 f41
  have K42 := Lib.hid ((hb18.mid_cell (b := w7.heap.size) (o := 0) (by omega) (by omega)).trans (((c8_17).cell (p := ⟨w7.heap.size, 0, none⟩) (by show w7.heap.size < _; omega)).trans K20.out))
  have K43 := Lib.hid ((hb18.mid_cell (b := w7.heap.size) (o := 1) (by omega) (by omega)).trans (((c8_17).cell (p := ⟨w7.heap.size, 1, none⟩) (by show w7.heap.size < _; omega)).trans K21.out))
  have K44 := Lib.hid ((hb18.mid_cell (b := w10.heap.size) (o := 0) (by omega) (by omega)).trans (((c11_17).cell (p := ⟨w10.heap.size, 0, none⟩) (by show w10.heap.size < _; omega)).trans K27.out))
  have K45 := Lib.hid ((hb18.mid_cell (b := w10.heap.size) (o := 1) (by omega) (by omega)).trans (((c11_17).cell (p := ⟨w10.heap.size, 1, none⟩) (by show w10.heap.size < _; omega)).trans K28.out))
  go_wp2_with fail
  refine (markIntS_c _ _ _ x1 (1 + Atom_cnt x0) _ (om18_tu22.below (Below.refl w18.heap.size w18) (by omega)) S1 (by omega) (by omega)).mono ?_
  rintro e w19 ⟨rfl, om19, hb19⟩
  have om19_tu18 := (om18.below (Below.refl w18.heap.size w18) (by omega)).chg hb19 (by omega)
  have om19_g0 := (om18_g0.below (Below.refl w18.heap.size w18) (by omega)).chg hb19 (by omega)
  have z19 : w18.heap.size ≤ w19.heap.size := hb19.size
  have K46 := Lib.hid ((hb19.mid_cell (b := w7.heap.size) (o := 0) (by omega) (by omega)).trans (K42.out))
  have K47 := Lib.hid ((hb19.mid_cell (b := w7.heap.size) (o := 1) (by omega) (by omega)).trans (K43.out))
  have K48 := Lib.hid ((hb19.mid_cell (b := w10.heap.size) (o := 0) (by omega) (by omega)).trans (K44.out))
  have K49 := Lib.hid ((hb19.mid_cell (b := w10.heap.size) (o := 1) (by omega) (by omega)).trans (K45.out))
  have f50 : w19.cell? ⟨w10.heap.size, 0, none⟩ = some (.int .i64 (Instantiate_r0 x0 x1).rel) := K48.out
  have f51 : w19.cell? ⟨w10.heap.size, 1, none⟩ = some (.slice y26_0 (Instantiate_r0 x0 x1).vals.length y26_1) := K49.out
  have c6_19 : Below (w5.alloc (.cells #[.int .i64 (Instantiate_r0 x0 x1).rel, .slice y13_0 (Instantiate_r0 x0 x1).vals.length y13_1] 36)).heap.size (w5.alloc (.cells #[.int .i64 (Instantiate_r0 x0 x1).rel, .slice y13_0 (Instantiate_r0 x0 x1).vals.length y13_1] 36)) w19 := ((((((((c6_11.trans (hb12.mono (by omega))).trans (hb13.mono (by omega))).trans (hb14.mono (by omega))).trans (hb15.mono (by omega))).trans (hb16.mono (by omega))).trans (hb17.mono (by omega))).trans (hb18.mid_below (by omega) (by omega))).trans (hb19.mid_below (by omega) (by omega)))
  have f52 : w19.cell? ⟨w5.heap.size, 0, none⟩ = some (.int .i64 (Instantiate_r0 x0 x1).rel) := ((c6_19).cell (p := ⟨w5.heap.size, 0, none⟩) (by show w5.heap.size < _; omega)).trans K14.out
  have f53 : w19.cell? ⟨w5.heap.size, 1, none⟩ = some (.slice y13_0 (Instantiate_r0 x0 x1).vals.length y13_1) := ((c6_19).cell (p := ⟨w5.heap.size, 1, none⟩) (by show w5.heap.size < _; omega)).trans K15.out
  have c5_19 : Below w5.heap.size w5 w19 := ((((((((c5_11.trans (hb12.mono (by omega))).trans (hb13.mono (by omega))).trans (hb14.mono (by omega))).trans (hb15.mono (by omega))).trans (hb16.mono (by omega))).trans (hb17.mono (by omega))).trans (hb18.mid_below (by omega) (by omega))).trans (hb19.mid_below (by omega) (by omega)))
  go_wp2_with fail
  refine (eqFact_c _ _ (Instantiate_r0 x0 x1) _ ((om19_g0.below (Below.refl w19.heap.size w19) (by omega)).at_ (by omega)) ((p12_0.below c5_19 (Nat.le_refl _)).more c5_19.size)).mono ?_
  rintro e w20 ⟨rfl, hb20⟩
  have z20 : w19.heap.size ≤ w20.heap.size := hb20.size
  clear f50 f51 f52 f53
  have c19_20 : Below w19.heap.size w19 w20 := hb20
  have f54 : w20.cell? ⟨w10.heap.size, 0, none⟩ = some (.int .i64 (Instantiate_r0 x0 x1).rel) := ((c19_20).cell (p := ⟨w10.heap.size, 0, none⟩) (by show w10.heap.size < _; omega)).trans K48.out
  have f55 : w20.cell? ⟨w10.heap.size, 1, none⟩ = some (.slice y26_0 (Instantiate_r0 x0 x1).vals.length y26_1) := ((c19_20).cell (p := ⟨w10.heap.size, 1, none⟩) (by show w10.heap.size < _; omega)).trans K49.out
  go_wp2_with fail
  refine (markFact_c _ _ _ (Instantiate_r0 x0 x1) (1) _ (om19_g0.below c19_20 (by omega)) q25_0 (by omega) (by omega)).mono ?_
  rintro e w21 ⟨rfl, om21, hb21⟩
  have om21_tu18 := (om19_tu18.below c19_20 (by omega)).chg hb21 (by omega)
  have om21_tu22 := (om19.below c19_20 (by omega)).chg hb21 (by omega)
  have z21 : w20.heap.size ≤ w21.heap.size := hb21.size
  clear f54 f55
  have K56 := Lib.hid ((hb21.mid_cell (b := w7.heap.size) (o := 0) (by omega) (by omega)).trans (((c19_20).cell (p := ⟨w7.heap.size, 0, none⟩) (by show w7.heap.size < _; omega)).trans K46.out))
  have K57 := Lib.hid ((hb21.mid_cell (b := w7.heap.size) (o := 1) (by omega) (by omega)).trans (((c19_20).cell (p := ⟨w7.heap.size, 1, none⟩) (by show w7.heap.size < _; omega)).trans K47.out))
  have K58 := Lib.hid ((hb21.mid_cell (b := w10.heap.size) (o := 0) (by omega) (by omega)).trans (((c19_20).cell (p := ⟨w10.heap.size, 0, none⟩) (by show w10.heap.size < _; omega)).trans K48.out))
  have K59 := Lib.hid ((hb21.mid_cell (b := w10.heap.size) (o := 1) (by omega) (by omega)).trans (((c19_20).cell (p := ⟨w10.heap.size, 1, none⟩) (by show w10.heap.size < _; omega)).trans K49.out))
  have f60 : w21.cell? ⟨w10.heap.size, 0, none⟩ = some (.int .i64 (Instantiate_r0 x0 x1).rel) := K58.out
  have f61 : w21.cell? ⟨w10.heap.size, 1, none⟩ = some (.slice y26_0 (Instantiate_r0 x0 x1).vals.length y26_1) := K59.out
  go_wp2_with fail
  refine (heldFact_c _ (Instantiate_r0 x0 x1) (1) _ ((om21.below (Below.refl w21.heap.size w21) (by omega)).at_ (by omega)) q25_0 (by omega) (by omega)).mono ?_
  rintro e w22 ⟨rfl, hb22⟩
  have z22 : w21.heap.size ≤ w22.heap.size := hb22.size
  clear f60 f61
  have c1_22 : Below (w.alloc (.cells #[.int .i64 x0.rel, .slice v0_0 x0.vals.length v0_1] 67)).heap.size (w.alloc (.cells #[.int .i64 x0.rel, .slice v0_0 x0.vals.length v0_1] 67)) w22 := ((((((((((c1_12.trans (hb13.mono (by omega))).trans (hb14.mono (by omega))).trans (hb15.mono (by omega))).trans (hb16.mono (by omega))).trans (hb17.mono (by omega))).trans (hb18.mid_below (by omega) (by omega))).trans (hb19.mid_below (by omega) (by omega))).trans (hb20.mono (by omega))).trans (hb21.mid_below (by omega) (by omega))).trans (hb22.mono (by omega)))
  have f62 : w22.cell? ⟨w.heap.size, 0, none⟩ = some (.int .i64 x0.rel) := ((c1_22).cell (p := ⟨w.heap.size, 0, none⟩) (by show w.heap.size < _; omega)).trans K1.out
  have f63 : w22.cell? ⟨w.heap.size, 1, none⟩ = some (.slice v0_0 x0.vals.length v0_1) := ((c1_22).cell (p := ⟨w.heap.size, 1, none⟩) (by show w.heap.size < _; omega)).trans K2.out
  have c0_22 : Below w.heap.size w w22 := (((((((c0_15.trans (hb16.mono (by omega))).trans (hb17.mono (by omega))).trans (hb18.mid_below (by omega) (by omega))).trans (hb19.mid_below (by omega) (by omega))).trans (hb20.mono (by omega))).trans (hb21.mid_below (by omega) (by omega))).trans (hb22.mono (by omega)))
  go_wp2_with fail
  refine (toAtom_c _ x0 _ ((A0.out.below c0_22 (Nat.le_refl _)).more c0_22.size) S0).mono ?_
  rintro e w23 ⟨u64, rfl, ou64, hb23⟩
  have z23 : w22.heap.size ≤ w23.heap.size := hb23.size
  obtain ⟨y65_0, y65_1, rfl⟩ := Atom_form (ou64.at_ (Nat.le_refl _))
  have c0_23 : Below w.heap.size w w23 := (c0_22.trans (hb23.mono (by omega)))
  go_wp2_with fail
  refine (toIntS_c _ x1 _ ((A1.out.below c0_23 (Nat.le_refl _)).more c0_23.size) S1).mono ?_
  rintro e w24 ⟨u66, rfl, ou66, hb24⟩
  have z24 : w23.heap.size ≤ w24.heap.size := hb24.size
  have c23_24 : Below w23.heap.size w23 w24 := hb24
  go_wp2_with fail
  refine (implInstantiate_c _ x0 _ x1 _ ((ou64.below c23_24 (Nat.le_refl _)).at_ (by omega)) W0.out S0 ((ou66.below (Below.refl w24.heap.size w24) (Nat.le_refl _)).at_ (Nat.le_refl _)) W1.out S1).mono ?_
  rintro e w25 ⟨r67_0, rfl, p67_0, q67_0, hb25⟩
  have z25 : w24.heap.size ≤ w25.heap.size := hb25.size
  have NC67_0 := Fact_cnt_le (Instantiate_r0 x0 x1)
  obtain ⟨y68_0, y68_1, rfl⟩ := Fact_form (p67_0.at_ (Nat.le_refl _))
  have hb26 : Below w25.heap.size w25 (w25.alloc (.cells #[.int .i64 (Instantiate_r0 x0 x1).rel, .slice y68_0 (Instantiate_r0 x0 x1).vals.length y68_1] 36)) := below_more (Below.refl _ _) _
  have z26 : w25.heap.size + 1 ≤ (w25.alloc (.cells #[.int .i64 (Instantiate_r0 x0 x1).rel, .slice y68_0 (Instantiate_r0 x0 x1).vals.length y68_1] 36)).heap.size := by simp
  have K69 := Lib.hid (show (w25.alloc (.cells #[.int .i64 (Instantiate_r0 x0 x1).rel, .slice y68_0 (Instantiate_r0 x0 x1).vals.length y68_1] 36)).cell? ⟨w25.heap.size, 0, none⟩ = some (.int .i64 (Instantiate_r0 x0 x1).rel) by simp [go_sem])
  have K70 := Lib.hid (show (w25.alloc (.cells #[.int .i64 (Instantiate_r0 x0 x1).rel, .slice y68_0 (Instantiate_r0 x0 x1).vals.length y68_1] 36)).cell? ⟨w25.heap.size, 1, none⟩ = some (.slice y68_0 (Instantiate_r0 x0 x1).vals.length y68_1) by simp [go_sem])
  clear f62 f63
  have f71 : (w25.alloc (.cells #[.int .i64 (Instantiate_r0 x0 x1).rel, .slice y68_0 (Instantiate_r0 x0 x1).vals.length y68_1] 36)).cell? ⟨w25.heap.size, 0, none⟩ = some (.int .i64 (Instantiate_r0 x0 x1).rel) := K69.out
  have f72 : (w25.alloc (.cells #[.int .i64 (Instantiate_r0 x0 x1).rel, .slice y68_0 (Instantiate_r0 x0 x1).vals.length y68_1] 36)).cell? ⟨w25.heap.size, 1, none⟩ = some (.slice y68_0 (Instantiate_r0 x0 x1).vals.length y68_1) := K70.out
  have c6_26 : Below (w5.alloc (.cells #[.int .i64 (Instantiate_r0 x0 x1).rel, .slice y13_0 (Instantiate_r0 x0 x1).vals.length y13_1] 36)).heap.size (w5.alloc (.cells #[.int .i64 (Instantiate_r0 x0 x1).rel, .slice y13_0 (Instantiate_r0 x0 x1).vals.length y13_1] 36)) (w25.alloc (.cells #[.int .i64 (Instantiate_r0 x0 x1).rel, .slice y68_0 (Instantiate_r0 x0 x1).vals.length y68_1] 36)) := (((((((c6_19.trans (hb20.mono (by omega))).trans (hb21.mid_below (by omega) (by omega))).trans (hb22.mono (by omega))).trans (hb23.mono (by omega))).trans (hb24.mono (by omega))).trans (hb25.mono (by omega))).trans (hb26.mono (by omega)))
  have f73 : (w25.alloc (.cells #[.int .i64 (Instantiate_r0 x0 x1).rel, .slice y68_0 (Instantiate_r0 x0 x1).vals.length y68_1] 36)).cell? ⟨w5.heap.size, 0, none⟩ = some (.int .i64 (Instantiate_r0 x0 x1).rel) := ((c6_26).cell (p := ⟨w5.heap.size, 0, none⟩) (by show w5.heap.size < _; omega)).trans K14.out
  have f74 : (w25.alloc (.cells #[.int .i64 (Instantiate_r0 x0 x1).rel, .slice y68_0 (Instantiate_r0 x0 x1).vals.length y68_1] 36)).cell? ⟨w5.heap.size, 1, none⟩ = some (.slice y13_0 (Instantiate_r0 x0 x1).vals.length y13_1) := ((c6_26).cell (p := ⟨w5.heap.size, 1, none⟩) (by show w5.heap.size < _; omega)).trans K15.out
  have c25_26 : Below w25.heap.size w25 (w25.alloc (.cells #[.int .i64 (Instantiate_r0 x0 x1).rel, .slice y68_0 (Instantiate_r0 x0 x1).vals.length y68_1] 36)) := hb26
  have c5_26 : Below w5.heap.size w5 (w25.alloc (.cells #[.int .i64 (Instantiate_r0 x0 x1).rel, .slice y68_0 (Instantiate_r0 x0 x1).vals.length y68_1] 36)) := (((((((c5_19.trans (hb20.mono (by omega))).trans (hb21.mid_below (by omega) (by omega))).trans (hb22.mono (by omega))).trans (hb23.mono (by omega))).trans (hb24.mono (by omega))).trans (hb25.mono (by omega))).trans (hb26.mono (by omega)))
  go_wp2_with fail
  refine (eqFact_c _ _ (Instantiate_r0 x0 x1) _ ((p67_0.below c25_26 (Nat.le_refl _)).at_ (by omega)) ((p12_0.below c5_26 (Nat.le_refl _)).more c5_26.size)).mono ?_
  rintro e w27 ⟨rfl, hb27⟩
  have z27 : (w25.alloc (.cells #[.int .i64 (Instantiate_r0 x0 x1).rel, .slice y68_0 (Instantiate_r0 x0 x1).vals.length y68_1] 36)).heap.size ≤ w27.heap.size := hb27.size
  clear f71 f72 f73 f74
  have c21_27 : Below w21.heap.size w21 w27 := (((((hb22.trans (hb23.mono (by omega))).trans (hb24.mono (by omega))).trans (hb25.mono (by omega))).trans (hb26.mono (by omega))).trans (hb27.mono (by omega)))
  have f75 : w27.cell? ⟨w10.heap.size, 0, none⟩ = some (.int .i64 (Instantiate_r0 x0 x1).rel) := ((c21_27).cell (p := ⟨w10.heap.size, 0, none⟩) (by show w10.heap.size < _; omega)).trans K58.out
  have f76 : w27.cell? ⟨w10.heap.size, 1, none⟩ = some (.slice y26_0 (Instantiate_r0 x0 x1).vals.length y26_1) := ((c21_27).cell (p := ⟨w10.heap.size, 1, none⟩) (by show w10.heap.size < _; omega)).trans K59.out
  go_wp2_with fail
  refine (heldFact_c _ (Instantiate_r0 x0 x1) (1) _ ((om21.below c21_27 (by omega)).at_ (by omega)) q67_0 (by omega) (by omega)).mono ?_
  rintro e w28 ⟨rfl, hb28⟩
  have z28 : w27.heap.size ≤ w28.heap.size := hb28.size
  clear f75 f76
  have c0_28 : Below w.heap.size w w28 := (((((c0_23.trans (hb24.mono (by omega))).trans (hb25.mono (by omega))).trans (hb26.mono (by omega))).trans (hb27.mono (by omega))).trans (hb28.mono (by omega)))
  go_wp2
  go_ret
  exact ⟨rfl, c0_28⟩

theorem ty : ∀ t ∈ Try.f6.params.toList, Try.prog.readableRec t = true ∧ t < Try.prog.types.size := by
  rw [Try.params6]; intro t ht
  simp only [List.mem_cons, List.not_mem_nil, or_false] at ht
  rcases ht with rfl | rfl <;> exact ⟨by kernel_rfl, of_decide_eq_true (by kernel_rfl)⟩
set_option maxRecDepth 100000 in
theorem lifted (os : Os) (started : os.Started) (H : Type) (enc : TypeId × Value → H) :
    ReturnsInHanded {} Try.checked os 6 .any (Rows.fnExactInstantiateSpec.pre6 enc Try.prog Try.f6 Rows.fnExactInstantiateRow.domain false) (Rows.fnExactInstantiateSpec.post enc Try.prog Try.f6 false true false false) := by
  refine returnsInHanded_of_change (C := Try.checked) ownFact started (by kernel_rfl) Try.func6
    (ChangeSpec.witness6 (enc := enc) (C := Try.checked) false ⟨#[], #[.agg #[.int .i64 0, .slice none 0 0], .slice none 0 0], []⟩ 8 (by kernel_rfl) (by kernel_rfl) (by kernel_rfl) (by kernel_rfl)) ?_
  intro W base args ds gs before hval0 hW hcnd _
  have hval : ∀ (j : Nat) t v, Try.f6.params[j]? = some t → args[j]? = some v → Value.okWide Try.prog W .any base t v := hval0
  have hW' := hW
  obtain ⟨p, q, hA0, hV, _, hfz, hnd⟩ := hW
  have hA : DataW.TrodAll enc Try.prog W 0 (fun _ => true) true Try.f6.params.toList args.toList ds p := hA0
  rw [Try.params6] at hA hval
  obtain ⟨v0, vs0, d0, ds0, p0, q0, hargs, rfl, _, h0, r0⟩ := trodAll_cons hA
  obtain ⟨v1, vs1, d1, ds1, p1, q1, rfl, rfl, _, h1, r1⟩ := trodAll_cons r0
  obtain ⟨rfl, rfl, _⟩ := trodAll_nil r1
  obtain rfl : args = #[v0, v1] := by cases args; simp_all
  obtain ⟨rfl, _⟩ := trodVars_none hV
  obtain ⟨x0, hx0, hwx0⟩ := open_Atom (hval 0 _ v0 rfl rfl) h0 (DataW.TrodAll.lt (trodAll_mk1 h0))
  obtain ⟨x1, hx1, hwx1⟩ := open_IntS (hval 1 _ v1 rfl rfl) h1 (DataW.TrodAll.lt (trodAll_mk1 h1))
  refine (walk v0 x0 v1 x1 W hx0 hwx0 hx1 hwx1).mono fun e W' ⟨he, hb⟩ => ?_
  subst he
  exact ⟨_, rfl, law_post laidFact ty Try.underlying4 (by kernel_rfl) rfl hW' rfl hb⟩
theorem holds : Rows.FnExactInstantiateSaid :=
  OpenClaim.holds_of_wide 6 Try.f6 rfl rfl rfl rfl rfl rfl rfl ⟨rfl, rfl, rfl, rfl, rfl⟩ rfl rfl rfl rfl rfl (by kernel_rfl) Try.func6 (by kernel_rfl)
    (of_decide_eq_true (by kernel_rfl)) (by unfold Func.isWrapper; first | (rw [if_pos (by decide +kernel)]; kernel_rfl) | (rw [if_neg (by decide +kernel)]; exact ⟨rfl, rfl⟩))
    (fun os started H enc _ => lifted os started H enc)
end lawFnExactInstantiate

end Go.Proofs.Ytoapphgahmofhaa
