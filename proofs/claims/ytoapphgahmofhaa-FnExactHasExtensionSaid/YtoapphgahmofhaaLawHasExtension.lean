/-
  FnExactHasExtension: for every argument the translated law returns true, and each argument reads afterwards as it read before. Conditions: none beyond the given row's own.
-/
import Derived.Test.YtoapphgahmofhaaPlan
import Derived.Test.YtoapphgahmofhaaFactC
import Derived.Test.YtoapphgahmofhaaLift
import Derived.Test.YtoapphgahmofhaaAtomSC
import Derived.Test.YtoapphgahmofhaaInstC
import Derived.Test.YtoapphgahmofhaaMatK
import Derived.Test.YtoapphgahmofhaaHasE
namespace Go.Proofs.Ytoapphgahmofhaa
open Go.RowKit Go.ChangeShapes Go.WideShapes Go.ChangeAt Go.ChangeMaps

namespace lawFnExactHasExtension

set_option maxRecDepth 100000 in
set_option maxHeartbeats 1600000 in
theorem walk (v0 : Value) (x0 : Inst) (v1 : Value) (x1 : List Atm) (v2 : Value) (x2 : List Int) (w : World) (h0 : Instance_at w w.heap.size v0 x0) (hw0 : Instance_wf x0) (h1 : AtomS_at w w.heap.size v1 x1) (hw1 : AtomS_wf x1) (h2 : IntS_at w w.heap.size v2 x2) (hw2 : IntS_wf x2) :
    Calls Try.prog 5 #[v0, v1, v2] w fun e w' => e = .returned (.bool true) ∧ Below w.heap.size w w' := by
  obtain ⟨v0_0, v0_1, v0_2, v0_3, rfl⟩ := Instance_form h0
  have A0 := Lib.hid h0
  have W0 := Lib.hid hw0
  clear h0 hw0
  have A1 := Lib.hid h1
  have W1 := Lib.hid hw1
  clear h1 hw1
  obtain ⟨PI2, cI2, rfl, -, cL2, -⟩ := id h2
  unfold maxLen at cL2
  have A2 := Lib.hid h2
  have W2 := Lib.hid hw2
  clear h2 hw2
  by_cases hlong2 : 1048576 < x2.length
  · skip
    go_enter Try.func5, Try.ntmps5
    go_wp2
    go_ret
    exact ⟨rfl, below_more (Below.refl _ _) _⟩
  by_cases hz1 : ((Instance_sz x0 : Nat) : Int) ≤ 1048576
  rotate_left
  · skip
    have e1 := szLeft_no hz1
    have hb1 : Below w.heap.size w (w.alloc (.cells #[.slice v0_0 x0.rels.length v0_1, .slice v0_2 x0.facts.length v0_3] 52)) := below_more (Below.refl _ _) _
    have z1 : w.heap.size + 1 ≤ (w.alloc (.cells #[.slice v0_0 x0.rels.length v0_1, .slice v0_2 x0.facts.length v0_3] 52)).heap.size := by simp
    have K1 := Lib.hid (show (w.alloc (.cells #[.slice v0_0 x0.rels.length v0_1, .slice v0_2 x0.facts.length v0_3] 52)).cell? ⟨w.heap.size, 0, none⟩ = some (.slice v0_0 x0.rels.length v0_1) by simp [go_sem])
    have K2 := Lib.hid (show (w.alloc (.cells #[.slice v0_0 x0.rels.length v0_1, .slice v0_2 x0.facts.length v0_3] 52)).cell? ⟨w.heap.size, 1, none⟩ = some (.slice v0_2 x0.facts.length v0_3) by simp [go_sem])
    go_enter Try.func5, Try.ntmps5
    have f3 : (w.alloc (.cells #[.slice v0_0 x0.rels.length v0_1, .slice v0_2 x0.facts.length v0_3] 52)).cell? ⟨w.heap.size, 0, none⟩ = some (.slice v0_0 x0.rels.length v0_1) := K1.out
    have f4 : (w.alloc (.cells #[.slice v0_0 x0.rels.length v0_1, .slice v0_2 x0.facts.length v0_3] 52)).cell? ⟨w.heap.size, 1, none⟩ = some (.slice v0_2 x0.facts.length v0_3) := K2.out
    have c0_1 : Below w.heap.size w (w.alloc (.cells #[.slice v0_0 x0.rels.length v0_1, .slice v0_2 x0.facts.length v0_3] 52)) := hb1
    go_wp2_with fail
    refine (szInstance_c _ x0 (1048576) _ ((A0.out.below c0_1 (Nat.le_refl _)).more c0_1.size) W0.out (by omega) (by omega)).mono ?_
    rw [e1]
    rintro e w2 ⟨rfl, hb2⟩
    have z2 : (w.alloc (.cells #[.slice v0_0 x0.rels.length v0_1, .slice v0_2 x0.facts.length v0_3] 52)).heap.size ≤ w2.heap.size := hb2.size
    clear f3 f4
    have c0_2 : Below w.heap.size w w2 := (c0_1.trans (hb2.mono (by omega)))
    go_wp2
    go_ret
    exact ⟨rfl, c0_2⟩
  by_cases hz2 : ((AtomS_sz x1 : Nat) : Int) ≤ 1048576 - (Instance_sz x0 : Nat)
  rotate_left
  · skip
    have e1 := szLeft_yes hz1
    have e2 := szLeft_no hz2
    have hb1 : Below w.heap.size w (w.alloc (.cells #[.slice v0_0 x0.rels.length v0_1, .slice v0_2 x0.facts.length v0_3] 52)) := below_more (Below.refl _ _) _
    have z1 : w.heap.size + 1 ≤ (w.alloc (.cells #[.slice v0_0 x0.rels.length v0_1, .slice v0_2 x0.facts.length v0_3] 52)).heap.size := by simp
    have K1 := Lib.hid (show (w.alloc (.cells #[.slice v0_0 x0.rels.length v0_1, .slice v0_2 x0.facts.length v0_3] 52)).cell? ⟨w.heap.size, 0, none⟩ = some (.slice v0_0 x0.rels.length v0_1) by simp [go_sem])
    have K2 := Lib.hid (show (w.alloc (.cells #[.slice v0_0 x0.rels.length v0_1, .slice v0_2 x0.facts.length v0_3] 52)).cell? ⟨w.heap.size, 1, none⟩ = some (.slice v0_2 x0.facts.length v0_3) by simp [go_sem])
    go_enter Try.func5, Try.ntmps5
    have f5 : (w.alloc (.cells #[.slice v0_0 x0.rels.length v0_1, .slice v0_2 x0.facts.length v0_3] 52)).cell? ⟨w.heap.size, 0, none⟩ = some (.slice v0_0 x0.rels.length v0_1) := K1.out
    have f6 : (w.alloc (.cells #[.slice v0_0 x0.rels.length v0_1, .slice v0_2 x0.facts.length v0_3] 52)).cell? ⟨w.heap.size, 1, none⟩ = some (.slice v0_2 x0.facts.length v0_3) := K2.out
    have c0_1 : Below w.heap.size w (w.alloc (.cells #[.slice v0_0 x0.rels.length v0_1, .slice v0_2 x0.facts.length v0_3] 52)) := hb1
    go_wp2_with fail
    refine (szInstance_c _ x0 (1048576) _ ((A0.out.below c0_1 (Nat.le_refl _)).more c0_1.size) W0.out (by omega) (by omega)).mono ?_
    rw [e1]
    rintro e w2 ⟨rfl, hb2⟩
    have z2 : (w.alloc (.cells #[.slice v0_0 x0.rels.length v0_1, .slice v0_2 x0.facts.length v0_3] 52)).heap.size ≤ w2.heap.size := hb2.size
    clear f5 f6
    have c0_2 : Below w.heap.size w w2 := (c0_1.trans (hb2.mono (by omega)))
    go_wp2_with fail
    refine (szAtomS_c _ x1 (1048576 - (Instance_sz x0 : Nat)) _ ((A1.out.below c0_2 (Nat.le_refl _)).more c0_2.size) W1.out (by omega) (by omega)).mono ?_
    rw [e2]
    rintro e w3 ⟨rfl, hb3⟩
    have z3 : w2.heap.size ≤ w3.heap.size := hb3.size
    have c0_3 : Below w.heap.size w w3 := (c0_2.trans (hb3.mono (by omega)))
    go_wp2
    go_ret
    exact ⟨rfl, c0_3⟩
  have e1 := szLeft_yes hz1
  have S0 : Instance_sz x0 ≤ 1048576 := by omega
  have N0 := Instance_cnt_le x0
  have e2 := szLeft_yes hz2
  have S1 : AtomS_sz x1 ≤ 1048576 := by omega
  have N1 := AtomS_cnt_le x1
  have S2 : IntS_sz x2 ≤ 1048576 := by show x2.length ≤ _; omega
  have N2 := IntS_cnt_le x2
  have hb1 : Below w.heap.size w (w.alloc (.cells #[.slice v0_0 x0.rels.length v0_1, .slice v0_2 x0.facts.length v0_3] 52)) := below_more (Below.refl _ _) _
  have z1 : w.heap.size + 1 ≤ (w.alloc (.cells #[.slice v0_0 x0.rels.length v0_1, .slice v0_2 x0.facts.length v0_3] 52)).heap.size := by simp
  have K1 := Lib.hid (show (w.alloc (.cells #[.slice v0_0 x0.rels.length v0_1, .slice v0_2 x0.facts.length v0_3] 52)).cell? ⟨w.heap.size, 0, none⟩ = some (.slice v0_0 x0.rels.length v0_1) by simp [go_sem])
  have K2 := Lib.hid (show (w.alloc (.cells #[.slice v0_0 x0.rels.length v0_1, .slice v0_2 x0.facts.length v0_3] 52)).cell? ⟨w.heap.size, 1, none⟩ = some (.slice v0_2 x0.facts.length v0_3) by simp [go_sem])
  go_enter Try.func5, Try.ntmps5
  have f7 : (w.alloc (.cells #[.slice v0_0 x0.rels.length v0_1, .slice v0_2 x0.facts.length v0_3] 52)).cell? ⟨w.heap.size, 0, none⟩ = some (.slice v0_0 x0.rels.length v0_1) := K1.out
  have f8 : (w.alloc (.cells #[.slice v0_0 x0.rels.length v0_1, .slice v0_2 x0.facts.length v0_3] 52)).cell? ⟨w.heap.size, 1, none⟩ = some (.slice v0_2 x0.facts.length v0_3) := K2.out
  have c0_1 : Below w.heap.size w (w.alloc (.cells #[.slice v0_0 x0.rels.length v0_1, .slice v0_2 x0.facts.length v0_3] 52)) := hb1
  go_wp2_with fail
  refine (szInstance_c _ x0 (1048576) _ ((A0.out.below c0_1 (Nat.le_refl _)).more c0_1.size) W0.out (by omega) (by omega)).mono ?_
  rw [e1]
  rintro e w2 ⟨rfl, hb2⟩
  have z2 : (w.alloc (.cells #[.slice v0_0 x0.rels.length v0_1, .slice v0_2 x0.facts.length v0_3] 52)).heap.size ≤ w2.heap.size := hb2.size
  clear f7 f8
  have c0_2 : Below w.heap.size w w2 := (c0_1.trans (hb2.mono (by omega)))
  go_wp2_with fail
  refine (szAtomS_c _ x1 (1048576 - (Instance_sz x0 : Nat)) _ ((A1.out.below c0_2 (Nat.le_refl _)).more c0_2.size) W1.out (by omega) (by omega)).mono ?_
  rw [e2]
  rintro e w3 ⟨rfl, hb3⟩
  have z3 : w2.heap.size ≤ w3.heap.size := hb3.size
  have c1_3 : Below (w.alloc (.cells #[.slice v0_0 x0.rels.length v0_1, .slice v0_2 x0.facts.length v0_3] 52)).heap.size (w.alloc (.cells #[.slice v0_0 x0.rels.length v0_1, .slice v0_2 x0.facts.length v0_3] 52)) w3 := (hb2.trans (hb3.mono (by omega)))
  have f9 : w3.cell? ⟨w.heap.size, 0, none⟩ = some (.slice v0_0 x0.rels.length v0_1) := ((c1_3).cell (p := ⟨w.heap.size, 0, none⟩) (by show w.heap.size < _; omega)).trans K1.out
  have f10 : w3.cell? ⟨w.heap.size, 1, none⟩ = some (.slice v0_2 x0.facts.length v0_3) := ((c1_3).cell (p := ⟨w.heap.size, 1, none⟩) (by show w.heap.size < _; omega)).trans K2.out
  have c0_3 : Below w.heap.size w w3 := (c0_2.trans (hb3.mono (by omega)))
  go_wp2_with fail
  refine (toInstance_c _ x0 _ ((A0.out.below c0_3 (Nat.le_refl _)).more c0_3.size) S0).mono ?_
  rintro e w4 ⟨u11, rfl, ou11, hb4⟩
  have z4 : w3.heap.size ≤ w4.heap.size := hb4.size
  obtain ⟨y12_0, y12_1, y12_2, y12_3, rfl⟩ := Instance_form (ou11.at_ (Nat.le_refl _))
  have c0_4 : Below w.heap.size w w4 := (c0_3.trans (hb4.mono (by omega)))
  go_wp2_with fail
  refine (toAtomS_c _ x1 _ ((A1.out.below c0_4 (Nat.le_refl _)).more c0_4.size) S1).mono ?_
  rintro e w5 ⟨u13, rfl, ou13, hb5⟩
  have z5 : w4.heap.size ≤ w5.heap.size := hb5.size
  have c0_5 : Below w.heap.size w w5 := (c0_4.trans (hb5.mono (by omega)))
  go_wp2_with fail
  refine (toIntS_c _ x2 _ ((A2.out.below c0_5 (Nat.le_refl _)).more c0_5.size) S2).mono ?_
  rintro e w6 ⟨u14, rfl, ou14, hb6⟩
  have z6 : w5.heap.size ≤ w6.heap.size := hb6.size
  have c4_6 : Below w4.heap.size w4 w6 := (hb5.trans (hb6.mono (by omega)))
  have c5_6 : Below w5.heap.size w5 w6 := hb6
  go_wp2_with fail
  refine (specHasExtension_c _ x0 _ x1 _ x2 _ ((ou11.below c4_6 (Nat.le_refl _)).at_ (by omega)) W0.out S0 ((ou13.below c5_6 (Nat.le_refl _)).at_ (by omega)) W1.out S1 ((ou14.below (Below.refl w6.heap.size w6) (Nat.le_refl _)).at_ (Nat.le_refl _)) W2.out S2).mono ?_
  rintro e w7 ⟨rfl, hb7⟩
  have z7 : w6.heap.size ≤ w7.heap.size := hb7.size
  clear f9 f10
  have c1_7 : Below (w.alloc (.cells #[.slice v0_0 x0.rels.length v0_1, .slice v0_2 x0.facts.length v0_3] 52)).heap.size (w.alloc (.cells #[.slice v0_0 x0.rels.length v0_1, .slice v0_2 x0.facts.length v0_3] 52)) w7 := ((((c1_3.trans (hb4.mono (by omega))).trans (hb5.mono (by omega))).trans (hb6.mono (by omega))).trans (hb7.mono (by omega)))
  have f16 : w7.cell? ⟨w.heap.size, 0, none⟩ = some (.slice v0_0 x0.rels.length v0_1) := ((c1_7).cell (p := ⟨w.heap.size, 0, none⟩) (by show w.heap.size < _; omega)).trans K1.out
  have f17 : w7.cell? ⟨w.heap.size, 1, none⟩ = some (.slice v0_2 x0.facts.length v0_3) := ((c1_7).cell (p := ⟨w.heap.size, 1, none⟩) (by show w.heap.size < _; omega)).trans K2.out
  have c0_7 : Below w.heap.size w w7 := ((c0_5.trans (hb6.mono (by omega))).trans (hb7.mono (by omega)))
  go_wp2_with fail
  refine (toInstance_c _ x0 _ ((A0.out.below c0_7 (Nat.le_refl _)).more c0_7.size) S0).mono ?_
  rintro e w8 ⟨u18, rfl, ou18, hb8⟩
  have z8 : w7.heap.size ≤ w8.heap.size := hb8.size
  obtain ⟨y19_0, y19_1, y19_2, y19_3, rfl⟩ := Instance_form (ou18.at_ (Nat.le_refl _))
  have hb9 : Below w8.heap.size w8 (w8.alloc (.cells #[.slice y19_0 x0.rels.length y19_1, .slice y19_2 x0.facts.length y19_3] 27)) := below_more (Below.refl _ _) _
  have z9 : w8.heap.size + 1 ≤ (w8.alloc (.cells #[.slice y19_0 x0.rels.length y19_1, .slice y19_2 x0.facts.length y19_3] 27)).heap.size := by simp
  have K20 := Lib.hid (show (w8.alloc (.cells #[.slice y19_0 x0.rels.length y19_1, .slice y19_2 x0.facts.length y19_3] 27)).cell? ⟨w8.heap.size, 0, none⟩ = some (.slice y19_0 x0.rels.length y19_1) by simp [go_sem])
  have K21 := Lib.hid (show (w8.alloc (.cells #[.slice y19_0 x0.rels.length y19_1, .slice y19_2 x0.facts.length y19_3] 27)).cell? ⟨w8.heap.size, 1, none⟩ = some (.slice y19_2 x0.facts.length y19_3) by simp [go_sem])
  clear f16 f17
  have c0_9 : Below w.heap.size w (w8.alloc (.cells #[.slice y19_0 x0.rels.length y19_1, .slice y19_2 x0.facts.length y19_3] 27)) := ((c0_7.trans (hb8.mono (by omega))).trans (hb9.mono (by omega)))
  go_wp2_with fail
  refine (toAtomS_c _ x1 _ ((A1.out.below c0_9 (Nat.le_refl _)).more c0_9.size) S1).mono ?_
  rintro e w10 ⟨u22, rfl, ou22, hb10⟩
  have z10 : (w8.alloc (.cells #[.slice y19_0 x0.rels.length y19_1, .slice y19_2 x0.facts.length y19_3] 27)).heap.size ≤ w10.heap.size := hb10.size
  have c0_10 : Below w.heap.size w w10 := (c0_9.trans (hb10.mono (by omega)))
  go_wp2_with fail
  refine (toIntS_c _ x2 _ ((A2.out.below c0_10 (Nat.le_refl _)).more c0_10.size) S2).mono ?_
  rintro e w11 ⟨u23, rfl, ou23, hb11⟩
  have z11 : w10.heap.size ≤ w11.heap.size := hb11.size
  have c9_11 : Below (w8.alloc (.cells #[.slice y19_0 x0.rels.length y19_1, .slice y19_2 x0.facts.length y19_3] 27)).heap.size (w8.alloc (.cells #[.slice y19_0 x0.rels.length y19_1, .slice y19_2 x0.facts.length y19_3] 27)) w11 := (hb10.trans (hb11.mono (by omega)))
  have f24 : w11.cell? ⟨w8.heap.size, 0, none⟩ = some (.slice y19_0 x0.rels.length y19_1) := ((c9_11).cell (p := ⟨w8.heap.size, 0, none⟩) (by show w8.heap.size < _; omega)).trans K20.out
  have f25 : w11.cell? ⟨w8.heap.size, 1, none⟩ = some (.slice y19_2 x0.facts.length y19_3) := ((c9_11).cell (p := ⟨w8.heap.size, 1, none⟩) (by show w8.heap.size < _; omega)).trans K21.out
  have c8_11 : Below w8.heap.size w8 w11 := ((hb9.trans (hb10.mono (by omega))).trans (hb11.mono (by omega)))
  have c10_11 : Below w10.heap.size w10 w11 := hb11
  go_wp2_with fail
  refine (implHasExtension_c _ x0 _ x1 _ x2 _ ((ou18.below c8_11 (Nat.le_refl _)).at_ (by omega)) W0.out S0 ((ou22.below c10_11 (Nat.le_refl _)).at_ (by omega)) W1.out S1 ((ou23.below (Below.refl w11.heap.size w11) (Nat.le_refl _)).at_ (Nat.le_refl _)) W2.out S2).mono ?_
  rintro e w12 ⟨rfl, hb12⟩
  have z12 : w11.heap.size ≤ w12.heap.size := hb12.size
  clear f24 f25
  go_wp2_with fail
  have c9_12 : Below (w8.alloc (.cells #[.slice y19_0 x0.rels.length y19_1, .slice y19_2 x0.facts.length y19_3] 27)).heap.size (w8.alloc (.cells #[.slice y19_0 x0.rels.length y19_1, .slice y19_2 x0.facts.length y19_3] 27)) w12 := (c9_11.trans (hb12.mono (by omega)))
  have f27 : w12.cell? ⟨w8.heap.size, 0, none⟩ = some (.slice y19_0 x0.rels.length y19_1) := ((c9_12).cell (p := ⟨w8.heap.size, 0, none⟩) (by show w8.heap.size < _; omega)).trans K20.out
  have gf27 := Aft.cell (B := w12.heap.size) (by omega) f27
  clear f27
  have f28 : w12.cell? ⟨w8.heap.size, 1, none⟩ = some (.slice y19_2 x0.facts.length y19_3) := ((c9_12).cell (p := ⟨w8.heap.size, 1, none⟩) (by show w8.heap.size < _; omega)).trans K21.out
  have gf28 := Aft.cell (B := w12.heap.size) (by omega) f28
  clear f28
  have c1_12 : Below (w.alloc (.cells #[.slice v0_0 x0.rels.length v0_1, .slice v0_2 x0.facts.length v0_3] 52)).heap.size (w.alloc (.cells #[.slice v0_0 x0.rels.length v0_1, .slice v0_2 x0.facts.length v0_3] 52)) w12 := (((((c1_7.trans (hb8.mono (by omega))).trans (hb9.mono (by omega))).trans (hb10.mono (by omega))).trans (hb11.mono (by omega))).trans (hb12.mono (by omega)))
  have f29 : w12.cell? ⟨w.heap.size, 0, none⟩ = some (.slice v0_0 x0.rels.length v0_1) := ((c1_12).cell (p := ⟨w.heap.size, 0, none⟩) (by show w.heap.size < _; omega)).trans K1.out
  have gf29 := Aft.cell (B := w12.heap.size) (by omega) f29
  clear f29
  have f30 : w12.cell? ⟨w.heap.size, 1, none⟩ = some (.slice v0_2 x0.facts.length v0_3) := ((c1_12).cell (p := ⟨w.heap.size, 1, none⟩) (by show w.heap.size < _; omega)).trans K2.out
  have gf30 := Aft.cell (B := w12.heap.size) (by omega) f30
  clear f30
  refine wp_region_plan (C := fun w' => ∃ u : Aft w12.heap.size w12, w' = u.now) (.still 0 (.still 1 (.move true 2 (.move true 3 (.still 4 .done) .none) .none))) (by kernel_rfl) (by kernel_rfl) (by kernel_rfl) (fun _ => ⟨⟨_, (Below.refl _ _).drew⟩, rfl⟩) ?_
  have hb13 : Below w12.heap.size w12 w12.drew := (Below.refl _ _).drew
  have z13 : w12.drew.heap.size = w12.heap.size := rfl
  have c0_13 : Below w.heap.size w w12.drew := (((c0_10.trans (hb11.mono (by omega))).trans (hb12.mono (by omega))).trans (hb13.mono (by omega)))
  refine plan_look _ rfl rfl ?_
  go_big_quiet_step (fail)
  refine wpQuiet_nil ?_
  refine plan_look _ rfl rfl ?_
  go_big_quiet_step (fail)
  refine wpQuiet_nil ?_
  refine plan_call _ 23 _ _ _ _ _ rfl _ Try.func23 (by kernel_rfl) (by kernel_rfl) ?_ True.intro
  show Calls Try.prog 23 #[.agg #[.slice v0_0 x0.rels.length v0_1, .slice v0_2 x0.facts.length v0_3]] _ _
  refine (toInstance_c _ x0 _ ((A0.out.below c0_13 (Nat.le_refl _)).more c0_13.size) S0).mono ?_
  rintro e w14 ⟨u31, rfl, ou31, hb14⟩
  have z14 : w12.drew.heap.size ≤ w14.heap.size := hb14.size
  obtain ⟨y32_0, y32_1, y32_2, y32_3, rfl⟩ := Instance_form (ou31.at_ (Nat.le_refl _))
  have c12_14 : Below w12.heap.size w12 w14 := (hb13.trans (hb14.mono (by omega)))
  refine ⟨_, rfl, fun _ => ⟨⟨_, c12_14⟩, rfl⟩, ?_⟩
  refine plan_put ?_ (by simp only [Act.put, List.setIfInBounds_toArray, List.set_cons_succ, List.set_cons_zero]; rfl)
  have c8_14 : Below w8.heap.size w8 w14 := (((c8_11.trans (hb12.mono (by omega))).trans (hb13.mono (by omega))).trans (hb14.mono (by omega)))
  refine plan_call _ 26 _ _ _ _ _ rfl _ Try.func26 (by kernel_rfl) (by kernel_rfl) ?_ True.intro
  show Calls Try.prog 26 #[.agg #[.slice y19_0 x0.rels.length y19_1, .slice y19_2 x0.facts.length y19_3], .agg #[.slice y32_0 x0.rels.length y32_1, .slice y32_2 x0.facts.length y32_3]] _ _
  refine (eqInstance_c _ _ x0 _ ((ou18.below c8_14 (Nat.le_refl _)).at_ (by omega)) ((ou31.below (Below.refl w14.heap.size w14) (Nat.le_refl _)).at_ (Nat.le_refl _))).mono ?_
  rintro e w15 ⟨rfl, hb15⟩
  have z15 : w14.heap.size ≤ w15.heap.size := hb15.size
  have c12_15 : Below w12.heap.size w12 w15 := (c12_14.trans (hb15.mono (by omega)))
  refine ⟨_, rfl, fun _ => ⟨⟨_, c12_15⟩, rfl⟩, ?_⟩
  refine plan_put ?_ (by simp only [Act.put, List.setIfInBounds_toArray, List.set_cons_succ, List.set_cons_zero]; rfl)
  refine plan_look _ rfl rfl ?_
  go_big_quiet_step (fail)
  refine wpQuiet_nil ?_
  refine plan_done ?_
  clear gf27 gf28 gf29 gf30
  have c0_15 : Below w.heap.size w w15 := ((c0_13.trans (hb14.mono (by omega))).trans (hb15.mono (by omega)))
  go_wp2_with fail
  refine (toAtomS_c _ x1 _ ((A1.out.below c0_15 (Nat.le_refl _)).more c0_15.size) S1).mono ?_
  rintro e w16 ⟨u33, rfl, ou33, hb16⟩
  have z16 : w15.heap.size ≤ w16.heap.size := hb16.size
  have c10_16 : Below w10.heap.size w10 w16 := (((((c10_11.trans (hb12.mono (by omega))).trans (hb13.mono (by omega))).trans (hb14.mono (by omega))).trans (hb15.mono (by omega))).trans (hb16.mono (by omega)))
  go_wp2_with fail
  refine (eqAtomS_c _ _ x1 _ ((ou22.below c10_16 (Nat.le_refl _)).at_ (by omega)) ((ou33.below (Below.refl w16.heap.size w16) (Nat.le_refl _)).at_ (Nat.le_refl _))).mono ?_
  rintro e w17 ⟨rfl, hb17⟩
  have z17 : w16.heap.size ≤ w17.heap.size := hb17.size
  have c0_17 : Below w.heap.size w w17 := ((c0_15.trans (hb16.mono (by omega))).trans (hb17.mono (by omega)))
  go_wp2_with fail
  refine (toIntS_c _ x2 _ ((A2.out.below c0_17 (Nat.le_refl _)).more c0_17.size) S2).mono ?_
  rintro e w18 ⟨u34, rfl, ou34, hb18⟩
  have z18 : w17.heap.size ≤ w18.heap.size := hb18.size
  have c11_18 : Below w11.heap.size w11 w18 := ((((((hb12.trans (hb13.mono (by omega))).trans (hb14.mono (by omega))).trans (hb15.mono (by omega))).trans (hb16.mono (by omega))).trans (hb17.mono (by omega))).trans (hb18.mono (by omega)))
  go_wp2_with fail
  refine (eqIntS_c _ _ x2 _ ((ou23.below c11_18 (Nat.le_refl _)).at_ (by omega)) ((ou34.below (Below.refl w18.heap.size w18) (Nat.le_refl _)).at_ (Nat.le_refl _))).mono ?_
  rintro e w19 ⟨rfl, hb19⟩
  have z19 : w18.heap.size ≤ w19.heap.size := hb19.size
  have c0_19 : Below w.heap.size w w19 := ((c0_17.trans (hb18.mono (by omega))).trans (hb19.mono (by omega)))
  go_wp2
  go_ret
  exact ⟨rfl, c0_19⟩

theorem ty : ∀ t ∈ Try.f5.params.toList, Try.prog.readableRec t = true ∧ t < Try.prog.types.size := by
  rw [Try.params5]; intro t ht
  simp only [List.mem_cons, List.not_mem_nil, or_false] at ht
  rcases ht with rfl | rfl | rfl <;> exact ⟨by kernel_rfl, of_decide_eq_true (by kernel_rfl)⟩
set_option maxRecDepth 100000 in
theorem lifted (os : Os) (started : os.Started) (H : Type) (enc : TypeId × Value → H) :
    ReturnsInHanded {} Try.checked os 5 .any (Rows.fnExactHasExtensionSpec.pre6 enc Try.prog Try.f5 Rows.fnExactHasExtensionRow.domain false) (Rows.fnExactHasExtensionSpec.post enc Try.prog Try.f5 false true false false) := by
  refine returnsInHanded_of_change (C := Try.checked) ownFact started (by kernel_rfl) Try.func5
    (ChangeSpec.witness6 (enc := enc) (C := Try.checked) false ⟨#[], #[.agg #[.slice none 0 0, .slice none 0 0], .slice none 0 0, .slice none 0 0], []⟩ 8 (by kernel_rfl) (by kernel_rfl) (by kernel_rfl) (by kernel_rfl)) ?_
  intro W base args ds gs before hval0 hW hcnd _
  have hval : ∀ (j : Nat) t v, Try.f5.params[j]? = some t → args[j]? = some v → Value.okWide Try.prog W .any base t v := hval0
  have hW' := hW
  obtain ⟨p, q, hA0, hV, _, hfz, hnd⟩ := hW
  have hA : DataW.TrodAll enc Try.prog W 0 (fun _ => true) true Try.f5.params.toList args.toList ds p := hA0
  rw [Try.params5] at hA hval
  obtain ⟨v0, vs0, d0, ds0, p0, q0, hargs, rfl, _, h0, r0⟩ := trodAll_cons hA
  obtain ⟨v1, vs1, d1, ds1, p1, q1, rfl, rfl, _, h1, r1⟩ := trodAll_cons r0
  obtain ⟨v2, vs2, d2, ds2, p2, q2, rfl, rfl, _, h2, r2⟩ := trodAll_cons r1
  obtain ⟨rfl, rfl, _⟩ := trodAll_nil r2
  obtain rfl : args = #[v0, v1, v2] := by cases args; simp_all
  obtain ⟨rfl, _⟩ := trodVars_none hV
  obtain ⟨x0, hx0, hwx0⟩ := open_Instance (hval 0 _ v0 rfl rfl) h0 (DataW.TrodAll.lt (trodAll_mk1 h0))
  obtain ⟨x1, hx1, hwx1⟩ := open_AtomS (hval 1 _ v1 rfl rfl) h1 (DataW.TrodAll.lt (trodAll_mk1 h1))
  obtain ⟨x2, hx2, hwx2⟩ := open_IntS (hval 2 _ v2 rfl rfl) h2 (DataW.TrodAll.lt (trodAll_mk1 h2))
  refine (walk v0 x0 v1 x1 v2 x2 W hx0 hwx0 hx1 hwx1 hx2 hwx2).mono fun e W' ⟨he, hb⟩ => ?_
  subst he
  exact ⟨_, rfl, law_post laidFact ty Try.underlying4 (by kernel_rfl) rfl hW' rfl hb⟩
theorem holds : Rows.FnExactHasExtensionSaid :=
  OpenClaim.holds_of_wide 5 Try.f5 rfl rfl rfl rfl rfl rfl rfl ⟨rfl, rfl, rfl, rfl, rfl⟩ rfl rfl rfl rfl rfl (by kernel_rfl) Try.func5 (by kernel_rfl)
    (of_decide_eq_true (by kernel_rfl)) (by unfold Func.isWrapper; first | (rw [if_pos (by decide +kernel)]; kernel_rfl) | (rw [if_neg (by decide +kernel)]; exact ⟨rfl, rfl⟩))
    (fun os started H enc _ => lifted os started H enc)
end lawFnExactHasExtension

end Go.Proofs.Ytoapphgahmofhaa
