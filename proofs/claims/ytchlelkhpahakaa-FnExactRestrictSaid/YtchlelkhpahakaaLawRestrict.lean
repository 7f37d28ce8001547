/-
  FnExactRestrict: for every argument the translated law returns true, and each argument reads afterwards as it read before. Conditions: none beyond the given row's own.
-/
import Derived.Test.YtchlelkhpahakaaPlan
import Derived.Test.YtchlelkhpahakaaInstC
import Derived.Test.YtchlelkhpahakaaInstR
import Derived.Test.YtchlelkhpahakaaResI
import Derived.Test.YtchlelkhpahakaaLift
namespace Go.Proofs.Ytchlelkhpahakaa
open Go.RowKit Go.ChangeShapes Go.WideShapes Go.ChangeAt Go.ChangeMaps

namespace lawFnExactRestrict

set_option maxRecDepth 100000 in
set_option maxHeartbeats 1600000 in
theorem walk (v0 : Value) (x0 : Inst) (b1 : Bool) (w : World) (h0 : Instance_at w w.heap.size v0 x0) (hw0 : Instance_wf x0) :
    Calls Try.prog 8 #[v0, .bool b1] w fun e w' => e = .returned (.bool true) ∧ Below w.heap.size w w' := by
  obtain ⟨v0_0, v0_1, v0_2, v0_3, rfl⟩ := Instance_form h0
  have A0 := Lib.hid h0
  have W0 := Lib.hid hw0
  clear h0 hw0
  by_cases hz1 : ((Instance_sz x0 : Nat) : Int) ≤ 1048576
  rotate_left
  · skip
    have e1 := szLeft_no hz1
    have hb1 : Below w.heap.size w (w.alloc (.cells #[.slice v0_0 x0.rels.length v0_1, .slice v0_2 x0.facts.length v0_3] 38)) := below_more (Below.refl _ _) _
    have z1 : w.heap.size + 1 ≤ (w.alloc (.cells #[.slice v0_0 x0.rels.length v0_1, .slice v0_2 x0.facts.length v0_3] 38)).heap.size := by simp
    have K1 := Lib.hid (show (w.alloc (.cells #[.slice v0_0 x0.rels.length v0_1, .slice v0_2 x0.facts.length v0_3] 38)).cell? ⟨w.heap.size, 0, none⟩ = some (.slice v0_0 x0.rels.length v0_1) by simp [go_sem])
    have K2 := Lib.hid (show (w.alloc (.cells #[.slice v0_0 x0.rels.length v0_1, .slice v0_2 x0.facts.length v0_3] 38)).cell? ⟨w.heap.size, 1, none⟩ = some (.slice v0_2 x0.facts.length v0_3) by simp [go_sem])
    go_enter Try.func8, Try.ntmps8
    have f3 : (w.alloc (.cells #[.slice v0_0 x0.rels.length v0_1, .slice v0_2 x0.facts.length v0_3] 38)).cell? ⟨w.heap.size, 0, none⟩ = some (.slice v0_0 x0.rels.length v0_1) := K1.out
    have f4 : (w.alloc (.cells #[.slice v0_0 x0.rels.length v0_1, .slice v0_2 x0.facts.length v0_3] 38)).cell? ⟨w.heap.size, 1, none⟩ = some (.slice v0_2 x0.facts.length v0_3) := K2.out
    have c0_1 : Below w.heap.size w (w.alloc (.cells #[.slice v0_0 x0.rels.length v0_1, .slice v0_2 x0.facts.length v0_3] 38)) := hb1
    go_wp2_with fail
    refine (szInstance_c _ x0 (1048576) _ ((A0.out.below c0_1 (Nat.le_refl _)).more c0_1.size) W0.out (by omega) (by omega)).mono ?_
    rw [e1]
    rintro e w2 ⟨rfl, hb2⟩
    have z2 : (w.alloc (.cells #[.slice v0_0 x0.rels.length v0_1, .slice v0_2 x0.facts.length v0_3] 38)).heap.size ≤ w2.heap.size := hb2.size
    clear f3 f4
    have c0_2 : Below w.heap.size w w2 := (c0_1.trans (hb2.mono (by omega)))
    go_wp2
    go_ret
    exact ⟨rfl, c0_2⟩
  have e1 := szLeft_yes hz1
  have S0 : Instance_sz x0 ≤ 1048576 := by omega
  have N0 := Instance_cnt_le x0
  have hb1 : Below w.heap.size w (w.alloc (.cells #[.slice v0_0 x0.rels.length v0_1, .slice v0_2 x0.facts.length v0_3] 38)) := below_more (Below.refl _ _) _
  have z1 : w.heap.size + 1 ≤ (w.alloc (.cells #[.slice v0_0 x0.rels.length v0_1, .slice v0_2 x0.facts.length v0_3] 38)).heap.size := by simp
  have K1 := Lib.hid (show (w.alloc (.cells #[.slice v0_0 x0.rels.length v0_1, .slice v0_2 x0.facts.length v0_3] 38)).cell? ⟨w.heap.size, 0, none⟩ = some (.slice v0_0 x0.rels.length v0_1) by simp [go_sem])
  have K2 := Lib.hid (show (w.alloc (.cells #[.slice v0_0 x0.rels.length v0_1, .slice v0_2 x0.facts.length v0_3] 38)).cell? ⟨w.heap.size, 1, none⟩ = some (.slice v0_2 x0.facts.length v0_3) by simp [go_sem])
  go_enter Try.func8, Try.ntmps8
  have f5 : (w.alloc (.cells #[.slice v0_0 x0.rels.length v0_1, .slice v0_2 x0.facts.length v0_3] 38)).cell? ⟨w.heap.size, 0, none⟩ = some (.slice v0_0 x0.rels.length v0_1) := K1.out
  have f6 : (w.alloc (.cells #[.slice v0_0 x0.rels.length v0_1, .slice v0_2 x0.facts.length v0_3] 38)).cell? ⟨w.heap.size, 1, none⟩ = some (.slice v0_2 x0.facts.length v0_3) := K2.out
  have c0_1 : Below w.heap.size w (w.alloc (.cells #[.slice v0_0 x0.rels.length v0_1, .slice v0_2 x0.facts.length v0_3] 38)) := hb1
  go_wp2_with fail
  refine (szInstance_c _ x0 (1048576) _ ((A0.out.below c0_1 (Nat.le_refl _)).more c0_1.size) W0.out (by omega) (by omega)).mono ?_
  rw [e1]
  rintro e w2 ⟨rfl, hb2⟩
  have z2 : (w.alloc (.cells #[.slice v0_0 x0.rels.length v0_1, .slice v0_2 x0.facts.length v0_3] 38)).heap.size ≤ w2.heap.size := hb2.size
  clear f5 f6
  have c1_2 : Below (w.alloc (.cells #[.slice v0_0 x0.rels.length v0_1, .slice v0_2 x0.facts.length v0_3] 38)).heap.size (w.alloc (.cells #[.slice v0_0 x0.rels.length v0_1, .slice v0_2 x0.facts.length v0_3] 38)) w2 := hb2
  have f7 : w2.cell? ⟨w.heap.size, 0, none⟩ = some (.slice v0_0 x0.rels.length v0_1) := ((c1_2).cell (p := ⟨w.heap.size, 0, none⟩) (by show w.heap.size < _; omega)).trans K1.out
  have f8 : w2.cell? ⟨w.heap.size, 1, none⟩ = some (.slice v0_2 x0.facts.length v0_3) := ((c1_2).cell (p := ⟨w.heap.size, 1, none⟩) (by show w.heap.size < _; omega)).trans K2.out
  have c0_2 : Below w.heap.size w w2 := (c0_1.trans (hb2.mono (by omega)))
  go_wp2_with fail
  refine (toInstance_c _ x0 _ ((A0.out.below c0_2 (Nat.le_refl _)).more c0_2.size) S0).mono ?_
  rintro e w3 ⟨u9, rfl, ou9, hb3⟩
  have z3 : w2.heap.size ≤ w3.heap.size := hb3.size
  obtain ⟨y10_0, y10_1, y10_2, y10_3, rfl⟩ := Instance_form (ou9.at_ (Nat.le_refl _))
  go_wp2_with fail
  refine (specRestrict_c _ x0 b1 _ ((ou9.below (Below.refl w3.heap.size w3) (Nat.le_refl _)).at_ (Nat.le_refl _)) W0.out S0).mono ?_
  rintro e w4 ⟨r11_0, rfl, p11_0, hb4⟩
  have z4 : w3.heap.size ≤ w4.heap.size := hb4.size
  obtain ⟨y12_0, y12_1, y12_2, y12_3, rfl⟩ := Instance_form p11_0
  have hb5 : Below w4.heap.size w4 (w4.alloc (.cells #[.slice y12_0 (Restrict_r0 x0 b1).rels.length y12_1, .slice y12_2 (Restrict_r0 x0 b1).facts.length y12_3] 43)) := below_more (Below.refl _ _) _
  have z5 : w4.heap.size + 1 ≤ (w4.alloc (.cells #[.slice y12_0 (Restrict_r0 x0 b1).rels.length y12_1, .slice y12_2 (Restrict_r0 x0 b1).facts.length y12_3] 43)).heap.size := by simp
  have K13 := Lib.hid (show (w4.alloc (.cells #[.slice y12_0 (Restrict_r0 x0 b1).rels.length y12_1, .slice y12_2 (Restrict_r0 x0 b1).facts.length y12_3] 43)).cell? ⟨w4.heap.size, 0, none⟩ = some (.slice y12_0 (Restrict_r0 x0 b1).rels.length y12_1) by simp [go_sem])
  have K14 := Lib.hid (show (w4.alloc (.cells #[.slice y12_0 (Restrict_r0 x0 b1).rels.length y12_1, .slice y12_2 (Restrict_r0 x0 b1).facts.length y12_3] 43)).cell? ⟨w4.heap.size, 1, none⟩ = some (.slice y12_2 (Restrict_r0 x0 b1).facts.length y12_3) by simp [go_sem])
  clear f7 f8
  have c1_5 : Below (w.alloc (.cells #[.slice v0_0 x0.rels.length v0_1, .slice v0_2 x0.facts.length v0_3] 38)).heap.size (w.alloc (.cells #[.slice v0_0 x0.rels.length v0_1, .slice v0_2 x0.facts.length v0_3] 38)) (w4.alloc (.cells #[.slice y12_0 (Restrict_r0 x0 b1).rels.length y12_1, .slice y12_2 (Restrict_r0 x0 b1).facts.length y12_3] 43)) := (((c1_2.trans (hb3.mono (by omega))).trans (hb4.mono (by omega))).trans (hb5.mono (by omega)))
  have f15 : (w4.alloc (.cells #[.slice y12_0 (Restrict_r0 x0 b1).rels.length y12_1, .slice y12_2 (Restrict_r0 x0 b1).facts.length y12_3] 43)).cell? ⟨w.heap.size, 0, none⟩ = some (.slice v0_0 x0.rels.length v0_1) := ((c1_5).cell (p := ⟨w.heap.size, 0, none⟩) (by show w.heap.size < _; omega)).trans K1.out
  have f16 : (w4.alloc (.cells #[.slice y12_0 (Restrict_r0 x0 b1).rels.length y12_1, .slice y12_2 (Restrict_r0 x0 b1).facts.length y12_3] 43)).cell? ⟨w.heap.size, 1, none⟩ = some (.slice v0_2 x0.facts.length v0_3) := ((c1_5).cell (p := ⟨w.heap.size, 1, none⟩) (by show w.heap.size < _; omega)).trans K2.out
  have c0_5 : Below w.heap.size w (w4.alloc (.cells #[.slice y12_0 (Restrict_r0 x0 b1).rels.length y12_1, .slice y12_2 (Restrict_r0 x0 b1).facts.length y12_3] 43)) := (((c0_2.trans (hb3.mono (by omega))).trans (hb4.mono (by omega))).trans (hb5.mono (by omega)))
  go_wp2_with fail
  refine (toInstance_c _ x0 _ ((A0.out.below c0_5 (Nat.le_refl _)).more c0_5.size) S0).mono ?_
  rintro e w6 ⟨u17, rfl, ou17, hb6⟩
  have z6 : (w4.alloc (.cells #[.slice y12_0 (Restrict_r0 x0 b1).rels.length y12_1, .slice y12_2 (Restrict_r0 x0 b1).facts.length y12_3] 43)).heap.size ≤ w6.heap.size := hb6.size
  obtain ⟨y18_0, y18_1, y18_2, y18_3, rfl⟩ := Instance_form (ou17.at_ (Nat.le_refl _))
  have hb7 : Below w6.heap.size w6 (w6.alloc (.cells #[.slice y18_0 x0.rels.length y18_1, .slice y18_2 x0.facts.length y18_3] 43)) := below_more (Below.refl _ _) _
  have z7 : w6.heap.size + 1 ≤ (w6.alloc (.cells #[.slice y18_0 x0.rels.length y18_1, .slice y18_2 x0.facts.length y18_3] 43)).heap.size := by simp
  have K19 := Lib.hid (show (w6.alloc (.cells #[.slice y18_0 x0.rels.length y18_1, .slice y18_2 x0.facts.length y18_3] 43)).cell? ⟨w6.heap.size, 0, none⟩ = some (.slice y18_0 x0.rels.length y18_1) by simp [go_sem])
  have K20 := Lib.hid (show (w6.alloc (.cells #[.slice y18_0 x0.rels.length y18_1, .slice y18_2 x0.facts.length y18_3] 43)).cell? ⟨w6.heap.size, 1, none⟩ = some (.slice y18_2 x0.facts.length y18_3) by simp [go_sem])
  clear f15 f16
  have f21 : (w6.alloc (.cells #[.slice y18_0 x0.rels.length y18_1, .slice y18_2 x0.facts.length y18_3] 43)).cell? ⟨w6.heap.size, 0, none⟩ = some (.slice y18_0 x0.rels.length y18_1) := K19.out
  have f22 : (w6.alloc (.cells #[.slice y18_0 x0.rels.length y18_1, .slice y18_2 x0.facts.length y18_3] 43)).cell? ⟨w6.heap.size, 1, none⟩ = some (.slice y18_2 x0.facts.length y18_3) := K20.out
  have c6_7 : Below w6.heap.size w6 (w6.alloc (.cells #[.slice y18_0 x0.rels.length y18_1, .slice y18_2 x0.facts.length y18_3] 43)) := hb7
  go_wp2_with fail
  refine (implRestrict_c _ x0 b1 _ ((ou17.below c6_7 (Nat.le_refl _)).at_ (by omega)) W0.out S0).mono ?_
  rintro e w8 ⟨r23_0, rfl, p23_0, q23_0, hb8⟩
  have z8 : (w6.alloc (.cells #[.slice y18_0 x0.rels.length y18_1, .slice y18_2 x0.facts.length y18_3] 43)).heap.size ≤ w8.heap.size := hb8.size
  have NC23_0 := Instance_cnt_le (Restrict_r0 x0 b1)
  obtain ⟨y24_0, y24_1, y24_2, y24_3, rfl⟩ := Instance_form (p23_0.at_ (Nat.le_refl _))
  have hb9 : Below w8.heap.size w8 (w8.alloc (.cells #[.slice y24_0 (Restrict_r0 x0 b1).rels.length y24_1, .slice y24_2 (Restrict_r0 x0 b1).facts.length y24_3] 43)) := below_more (Below.refl _ _) _
  have z9 : w8.heap.size + 1 ≤ (w8.alloc (.cells #[.slice y24_0 (Restrict_r0 x0 b1).rels.length y24_1, .slice y24_2 (Restrict_r0 x0 b1).facts.length y24_3] 43)).heap.size := by simp
  have K25 := Lib.hid (show (w8.alloc (.cells #[.slice y24_0 (Restrict_r0 x0 b1).rels.length y24_1, .slice y24_2 (Restrict_r0 x0 b1).facts.length y24_3] 43)).cell? ⟨w8.heap.size, 0, none⟩ = some (.slice y24_0 (Restrict_r0 x0 b1).rels.length y24_1) by simp [go_sem])
  have K26 := Lib.hid (show (w8.alloc (.cells #[.slice y24_0 (Restrict_r0 x0 b1).rels.length y24_1, .slice y24_2 (Restrict_r0 x0 b1).facts.length y24_3] 43)).cell? ⟨w8.heap.size, 1, none⟩ = some (.slice y24_2 (Restrict_r0 x0 b1).facts.length y24_3) by simp [go_sem])
  clear f21 f22
  have f27 : (w8.alloc (.cells #[.slice y24_0 (Restrict_r0 x0 b1).rels.length y24_1, .slice y24_2 (Restrict_r0 x0 b1).facts.length y24_3] 43)).cell? ⟨w8.heap.size, 0, none⟩ = some (.slice y24_0 (Restrict_r0 x0 b1).rels.length y24_1) := K25.out
  have f28 : (w8.alloc (.cells #[.slice y24_0 (Restrict_r0 x0 b1).rels.length y24_1, .slice y24_2 (Restrict_r0 x0 b1).facts.length y24_3] 43)).cell? ⟨w8.heap.size, 1, none⟩ = some (.slice y24_2 (Restrict_r0 x0 b1).facts.length y24_3) := K26.out
  have c5_9 : Below (w4.alloc (.cells #[.slice y12_0 (Restrict_r0 x0 b1).rels.length y12_1, .slice y12_2 (Restrict_r0 x0 b1).facts.length y12_3] 43)).heap.size (w4.alloc (.cells #[.slice y12_0 (Restrict_r0 x0 b1).rels.length y12_1, .slice y12_2 (Restrict_r0 x0 b1).facts.length y12_3] 43)) (w8.alloc (.cells #[.slice y24_0 (Restrict_r0 x0 b1).rels.length y24_1, .slice y24_2 (Restrict_r0 x0 b1).facts.length y24_3] 43)) := (((hb6.trans (hb7.mono (by omega))).trans (hb8.mono (by omega))).trans (hb9.mono (by omega)))
  have f29 : (w8.alloc (.cells #[.slice y24_0 (Restrict_r0 x0 b1).rels.length y24_1, .slice y24_2 (Restrict_r0 x0 b1).facts.length y24_3] 43)).cell? ⟨w4.heap.size, 0, none⟩ = some (.slice y12_0 (Restrict_r0 x0 b1).rels.length y12_1) := ((c5_9).cell (p := ⟨w4.heap.size, 0, none⟩) (by show w4.heap.size < _; omega)).trans K13.out
  have f30 : (w8.alloc (.cells #[.slice y24_0 (Restrict_r0 x0 b1).rels.length y24_1, .slice y24_2 (Restrict_r0 x0 b1).facts.length y24_3] 43)).cell? ⟨w4.heap.size, 1, none⟩ = some (.slice y12_2 (Restrict_r0 x0 b1).facts.length y12_3) := ((c5_9).cell (p := ⟨w4.heap.size, 1, none⟩) (by show w4.heap.size < _; omega)).trans K14.out
  have c8_9 : Below w8.heap.size w8 (w8.alloc (.cells #[.slice y24_0 (Restrict_r0 x0 b1).rels.length y24_1, .slice y24_2 (Restrict_r0 x0 b1).facts.length y24_3] 43)) := hb9
  have c4_9 : Below w4.heap.size w4 (w8.alloc (.cells #[.slice y24_0 (Restrict_r0 x0 b1).rels.length y24_1, .slice y24_2 (Restrict_r0 x0 b1).facts.length y24_3] 43)) := ((((hb5.trans (hb6.mono (by omega))).trans (hb7.mono (by omega))).trans (hb8.mono (by omega))).trans (hb9.mono (by omega)))
  go_wp2_with fail
  refine (eqInstance_c _ _ (Restrict_r0 x0 b1) _ ((p23_0.below c8_9 (Nat.le_refl _)).at_ (by omega)) ((p11_0.below c4_9 (Nat.le_refl _)).more c4_9.size)).mono ?_
  rintro e w10 ⟨rfl, hb10⟩
  have z10 : (w8.alloc (.cells #[.slice y24_0 (Restrict_r0 x0 b1).rels.length y24_1, .slice y24_2 (Restrict_r0 x0 b1).facts.length y24_3] 43)).heap.size ≤ w10.heap.size := hb10.size
  clear f27 f28 f29 f30
  go_wp2_with fail
  have c7_10 : Below (w6.alloc (.cells #[.slice y18_0 x0.rels.length y18_1, .slice y18_2 x0.facts.length y18_3] 43)).heap.size (w6.alloc (.cells #[.slice y18_0 x0.rels.length y18_1, .slice y18_2 x0.facts.length y18_3] 43)) w10 := ((hb8.trans (hb9.mono (by omega))).trans (hb10.mono (by omega)))
  have f31 : w10.cell? ⟨w6.heap.size, 0, none⟩ = some (.slice y18_0 x0.rels.length y18_1) := ((c7_10).cell (p := ⟨w6.heap.size, 0, none⟩) (by show w6.heap.size < _; omega)).trans K19.out
  have gf31 := Aft.cell (B := w10.heap.size) (by omega) f31
  clear f31
  have f32 : w10.cell? ⟨w6.heap.size, 1, none⟩ = some (.slice y18_2 x0.facts.length y18_3) := ((c7_10).cell (p := ⟨w6.heap.size, 1, none⟩) (by show w6.heap.size < _; omega)).trans K20.out
  have gf32 := Aft.cell (B := w10.heap.size) (by omega) f32
  clear f32
  have c1_10 : Below (w.alloc (.cells #[.slice v0_0 x0.rels.length v0_1, .slice v0_2 x0.facts.length v0_3] 38)).heap.size (w.alloc (.cells #[.slice v0_0 x0.rels.length v0_1, .slice v0_2 x0.facts.length v0_3] 38)) w10 := (((((c1_5.trans (hb6.mono (by omega))).trans (hb7.mono (by omega))).trans (hb8.mono (by omega))).trans (hb9.mono (by omega))).trans (hb10.mono (by omega)))
  have f33 : w10.cell? ⟨w.heap.size, 0, none⟩ = some (.slice v0_0 x0.rels.length v0_1) := ((c1_10).cell (p := ⟨w.heap.size, 0, none⟩) (by show w.heap.size < _; omega)).trans K1.out
  have gf33 := Aft.cell (B := w10.heap.size) (by omega) f33
  clear f33
  have f34 : w10.cell? ⟨w.heap.size, 1, none⟩ = some (.slice v0_2 x0.facts.length v0_3) := ((c1_10).cell (p := ⟨w.heap.size, 1, none⟩) (by show w.heap.size < _; omega)).trans K2.out
  have gf34 := Aft.cell (B := w10.heap.size) (by omega) f34
  clear f34
  refine wp_region_plan (C := fun w' => ∃ u : Aft w10.heap.size w10, w' = u.now) (.still 0 (.still 1 (.move true 2 (.move true 3 (.still 4 .done) .none) .none))) (by kernel_rfl) (by kernel_rfl) (by kernel_rfl) (fun _ => ⟨⟨_, (Below.refl _ _).drew⟩, rfl⟩) ?_
  have hb11 : Below w10.heap.size w10 w10.drew := (Below.refl _ _).drew
  have z11 : w10.drew.heap.size = w10.heap.size := rfl
  have c0_11 : Below w.heap.size w w10.drew := ((((((c0_5.trans (hb6.mono (by omega))).trans (hb7.mono (by omega))).trans (hb8.mono (by omega))).trans (hb9.mono (by omega))).trans (hb10.mono (by omega))).trans (hb11.mono (by omega)))
  refine plan_look _ rfl rfl ?_
  go_big_quiet_step (fail)
  refine wpQuiet_nil ?_
  refine plan_look _ rfl rfl ?_
  go_big_quiet_step (fail)
  refine wpQuiet_nil ?_
  refine plan_call _ 20 _ _ _ _ _ rfl _ Try.func20 (by kernel_rfl) (by kernel_rfl) ?_ True.intro
  show Calls Try.prog 20 #[.agg #[.slice v0_0 x0.rels.length v0_1, .slice v0_2 x0.facts.length v0_3]] _ _
  refine (toInstance_c _ x0 _ ((A0.out.below c0_11 (Nat.le_refl _)).more c0_11.size) S0).mono ?_
  rintro e w12 ⟨u35, rfl, ou35, hb12⟩
  have z12 : w10.drew.heap.size ≤ w12.heap.size := hb12.size
  obtain ⟨y36_0, y36_1, y36_2, y36_3, rfl⟩ := Instance_form (ou35.at_ (Nat.le_refl _))
  have c10_12 : Below w10.heap.size w10 w12 := (hb11.trans (hb12.mono (by omega)))
  refine ⟨_, rfl, fun _ => ⟨⟨_, c10_12⟩, rfl⟩, ?_⟩
  refine plan_put ?_ (by simp only [Act.put, List.setIfInBounds_toArray, List.set_cons_succ, List.set_cons_zero]; rfl)
  have c6_12 : Below w6.heap.size w6 w12 := (((((c6_7.trans (hb8.mono (by omega))).trans (hb9.mono (by omega))).trans (hb10.mono (by omega))).trans (hb11.mono (by omega))).trans (hb12.mono (by omega)))
  refine plan_call _ 22 _ _ _ _ _ rfl _ Try.func22 (by kernel_rfl) (by kernel_rfl) ?_ True.intro
  show Calls Try.prog 22 #[.agg #[.slice y18_0 x0.rels.length y18_1, .slice y18_2 x0.facts.length y18_3], .agg #[.slice y36_0 x0.rels.length y36_1, .slice y36_2 x0.facts.length y36_3]] _ _
  refine (eqInstance_c _ _ x0 _ ((ou17.below c6_12 (Nat.le_refl _)).at_ (by omega)) ((ou35.below (Below.refl w12.heap.size w12) (Nat.le_refl _)).at_ (Nat.le_refl _))).mono ?_
  rintro e w13 ⟨rfl, hb13⟩
  have z13 : w12.heap.size ≤ w13.heap.size := hb13.size
  have c10_13 : Below w10.heap.size w10 w13 := (c10_12.trans (hb13.mono (by omega)))
  refine ⟨_, rfl, fun _ => ⟨⟨_, c10_13⟩, rfl⟩, ?_⟩
  refine plan_put ?_ (by simp only [Act.put, List.setIfInBounds_toArray, List.set_cons_succ, List.set_cons_zero]; rfl)
  refine plan_look _ rfl rfl ?_
  go_big_quiet_step (fail)
  refine wpQuiet_nil ?_
  refine plan_done ?_
  clear gf31 gf32 gf33 gf34
  have c7_13 : Below (w6.alloc (.cells #[.slice y18_0 x0.rels.length y18_1, .slice y18_2 x0.facts.length y18_3] 43)).heap.size (w6.alloc (.cells #[.slice y18_0 x0.rels.length y18_1, .slice y18_2 x0.facts.length y18_3] 43)) w13 := (((c7_10.trans (hb11.mono (by omega))).trans (hb12.mono (by omega))).trans (hb13.mono (by omega)))
  have f37 : w13.cell? ⟨w6.heap.size, 0, none⟩ = some (.slice y18_0 x0.rels.length y18_1) := ((c7_13).cell (p := ⟨w6.heap.size, 0, none⟩) (by show w6.heap.size < _; omega)).trans K19.out
  have f38 : w13.cell? ⟨w6.heap.size, 1, none⟩ = some (.slice y18_2 x0.facts.length y18_3) := ((c7_13).cell (p := ⟨w6.heap.size, 1, none⟩) (by show w6.heap.size < _; omega)).trans K20.out
  have c6_13 : Below w6.heap.size w6 w13 := (c6_12.trans (hb13.mono (by omega)))
  have c8_13 : Below w8.heap.size w8 w13 := ((((c8_9.trans (hb10.mono (by omega))).trans (hb11.mono (by omega))).trans (hb12.mono (by omega))).trans (hb13.mono (by omega)))
  have c9_13 : Below (w8.alloc (.cells #[.slice y24_0 (Restrict_r0 x0 b1).rels.length y24_1, .slice y24_2 (Restrict_r0 x0 b1).facts.length y24_3] 43)).heap.size (w8.alloc (.cells #[.slice y24_0 (Restrict_r0 x0 b1).rels.length y24_1, .slice y24_2 (Restrict_r0 x0 b1).facts.length y24_3] 43)) w13 := (((hb10.trans (hb11.mono (by omega))).trans (hb12.mono (by omega))).trans (hb13.mono (by omega)))
  go_wp2_with fail
  refine (markInstance_c _ _ _ x0 (1) _ (ou17.below c6_13 (Nat.le_refl _)) S0 (by omega) (by omega)).mono ?_
  rintro e w14 ⟨rfl, om14, hb14⟩
  have om14_g0 := (p23_0.below c8_13 (Nat.le_refl _)).chg hb14 (by omega)
  have z14 : w13.heap.size ≤ w14.heap.size := hb14.size
  clear f37 f38
  have K39 := Lib.hid ((hb14.mid_cell (b := w6.heap.size) (o := 0) (by omega) (by omega)).trans (((c7_13).cell (p := ⟨w6.heap.size, 0, none⟩) (by show w6.heap.size < _; omega)).trans K19.out))
  have K40 := Lib.hid ((hb14.mid_cell (b := w6.heap.size) (o := 1) (by omega) (by omega)).trans (((c7_13).cell (p := ⟨w6.heap.size, 1, none⟩) (by show w6.heap.size < _; omega)).trans K20.out))
  have K41 := Lib.hid ((hb14.mid_cell (b := w8.heap.size) (o := 0) (by omega) (by omega)).trans (((c9_13).cell (p := ⟨w8.heap.size, 0, none⟩) (by show w8.heap.size < _; omega)).trans K25.out))
  have K42 := Lib.hid ((hb14.mid_cell (b := w8.heap.size) (o := 1) (by omega) (by omega)).trans (((c9_13).cell (p := ⟨w8.heap.size, 1, none⟩) (by show w8.heap.size < _; omega)).trans K26.out))
  have f43 : w14.cell? ⟨w8.heap.size, 0, none⟩ = some (.slice y24_0 (Restrict_r0 x0 b1).rels.length y24_1) := K41.out
  have f44 : w14.cell? ⟨w8.heap.size, 1, none⟩ = some (.slice y24_2 (Restrict_r0 x0 b1).facts.length y24_3) := K42.out
  have c5_14 : Below (w4.alloc (.cells #[.slice y12_0 (Restrict_r0 x0 b1).rels.length y12_1, .slice y12_2 (Restrict_r0 x0 b1).facts.length y12_3] 43)).heap.size (w4.alloc (.cells #[.slice y12_0 (Restrict_r0 x0 b1).rels.length y12_1, .slice y12_2 (Restrict_r0 x0 b1).facts.length y12_3] 43)) w14 := (((((c5_9.trans (hb10.mono (by omega))).trans (hb11.mono (by omega))).trans (hb12.mono (by omega))).trans (hb13.mono (by omega))).trans (hb14.mid_below (by omega) (by omega)))
  have f45 : w14.cell? ⟨w4.heap.size, 0, none⟩ = some (.slice y12_0 (Restrict_r0 x0 b1).rels.length y12_1) := ((c5_14).cell (p := ⟨w4.heap.size, 0, none⟩) (by show w4.heap.size < _; omega)).trans K13.out
  have f46 : w14.cell? ⟨w4.heap.size, 1, none⟩ = some (.slice y12_2 (Restrict_r0 x0 b1).facts.length y12_3) := ((c5_14).cell (p := ⟨w4.heap.size, 1, none⟩) (by show w4.heap.size < _; omega)).trans K14.out
  have c4_14 : Below w4.heap.size w4 w14 := (((((c4_9.trans (hb10.mono (by omega))).trans (hb11.mono (by omega))).trans (hb12.mono (by omega))).trans (hb13.mono (by omega))).trans (hb14.mid_below (by omega) (by omega)))
  go_wp2_with fail
  refine (eqInstance_c _ _ (Restrict_r0 x0 b1) _ ((om14_g0.below (Below.refl w14.heap.size w14) (by omega)).at_ (by omega)) ((p11_0.below c4_14 (Nat.le_refl _)).more c4_14.size)).mono ?_
  rintro e w15 ⟨rfl, hb15⟩
  have z15 : w14.heap.size ≤ w15.heap.size := hb15.size
  clear f43 f44 f45 f46
  have c14_15 : Below w14.heap.size w14 w15 := hb15
  have f47 : w15.cell? ⟨w8.heap.size, 0, none⟩ = some (.slice y24_0 (Restrict_r0 x0 b1).rels.length y24_1) := ((c14_15).cell (p := ⟨w8.heap.size, 0, none⟩) (by show w8.heap.size < _; omega)).trans K41.out
  have f48 : w15.cell? ⟨w8.heap.size, 1, none⟩ = some (.slice y24_2 (Restrict_r0 x0 b1).facts.length y24_3) := ((c14_15).cell (p := ⟨w8.heap.size, 1, none⟩) (by show w8.heap.size < _; omega)).trans K42.out
  go_wp2_with fail
  refine (markInstance_c _ _ _ (Restrict_r0 x0 b1) (1) _ (om14_g0.below c14_15 (by omega)) q23_0 (by omega) (by omega)).mono ?_
  rintro e w16 ⟨rfl, om16, hb16⟩
  have om16_tu17 := (om14.below c14_15 (by omega)).chg hb16 (by omega)
  have z16 : w15.heap.size ≤ w16.heap.size := hb16.size
  clear f47 f48
  have K49 := Lib.hid ((hb16.mid_cell (b := w6.heap.size) (o := 0) (by omega) (by omega)).trans (((c14_15).cell (p := ⟨w6.heap.size, 0, none⟩) (by show w6.heap.size < _; omega)).trans K39.out))
  have K50 := Lib.hid ((hb16.mid_cell (b := w6.heap.size) (o := 1) (by omega) (by omega)).trans (((c14_15).cell (p := ⟨w6.heap.size, 1, none⟩) (by show w6.heap.size < _; omega)).trans K40.out))
  have K51 := Lib.hid ((hb16.mid_cell (b := w8.heap.size) (o := 0) (by omega) (by omega)).trans (((c14_15).cell (p := ⟨w8.heap.size, 0, none⟩) (by show w8.heap.size < _; omega)).trans K41.out))
  have K52 := Lib.hid ((hb16.mid_cell (b := w8.heap.size) (o := 1) (by omega) (by omega)).trans (((c14_15).cell (p := ⟨w8.heap.size, 1, none⟩) (by show w8.heap.size < _; omega)).trans K42.out))
  have f53 : w16.cell? ⟨w8.heap.size, 0, none⟩ = some (.slice y24_0 (Restrict_r0 x0 b1).rels.length y24_1) := K51.out
  have f54 : w16.cell? ⟨w8.heap.size, 1, none⟩ = some (.slice y24_2 (Restrict_r0 x0 b1).facts.length y24_3) := K52.out
  go_wp2_with fail
  refine (heldInstance_c _ (Restrict_r0 x0 b1) (1) _ ((om16.below (Below.refl w16.heap.size w16) (by omega)).at_ (by omega)) q23_0 (by omega) (by omega)).mono ?_
  rintro e w17 ⟨rfl, hb17⟩
  have z17 : w16.heap.size ≤ w17.heap.size := hb17.size
  clear f53 f54
  have c1_17 : Below (w.alloc (.cells #[.slice v0_0 x0.rels.length v0_1, .slice v0_2 x0.facts.length v0_3] 38)).heap.size (w.alloc (.cells #[.slice v0_0 x0.rels.length v0_1, .slice v0_2 x0.facts.length v0_3] 38)) w17 := (((((((c1_10.trans (hb11.mono (by omega))).trans (hb12.mono (by omega))).trans (hb13.mono (by omega))).trans (hb14.mid_below (by omega) (by omega))).trans (hb15.mono (by omega))).trans (hb16.mid_below (by omega) (by omega))).trans (hb17.mono (by omega)))
  have f55 : w17.cell? ⟨w.heap.size, 0, none⟩ = some (.slice v0_0 x0.rels.length v0_1) := ((c1_17).cell (p := ⟨w.heap.size, 0, none⟩) (by show w.heap.size < _; omega)).trans K1.out
  have f56 : w17.cell? ⟨w.heap.size, 1, none⟩ = some (.slice v0_2 x0.facts.length v0_3) := ((c1_17).cell (p := ⟨w.heap.size, 1, none⟩) (by show w.heap.size < _; omega)).trans K2.out
  have c0_17 : Below w.heap.size w w17 := ((((((c0_11.trans (hb12.mono (by omega))).trans (hb13.mono (by omega))).trans (hb14.mid_below (by omega) (by omega))).trans (hb15.mono (by omega))).trans (hb16.mid_below (by omega) (by omega))).trans (hb17.mono (by omega)))
  go_wp2_with fail
  refine (toInstance_c _ x0 _ ((A0.out.below c0_17 (Nat.le_refl _)).more c0_17.size) S0).mono ?_
  rintro e w18 ⟨u57, rfl, ou57, hb18⟩
  have z18 : w17.heap.size ≤ w18.heap.size := hb18.size
  obtain ⟨y58_0, y58_1, y58_2, y58_3, rfl⟩ := Instance_form (ou57.at_ (Nat.le_refl _))
  go_wp2_with fail
  refine (implRestrict_c _ x0 b1 _ ((ou57.below (Below.refl w18.heap.size w18) (Nat.le_refl _)).at_ (Nat.le_refl _)) W0.out S0).mono ?_
  rintro e w19 ⟨r59_0, rfl, p59_0, q59_0, hb19⟩
  have z19 : w18.heap.size ≤ w19.heap.size := hb19.size
  have NC59_0 := Instance_cnt_le (Restrict_r0 x0 b1)
  obtain ⟨y60_0, y60_1, y60_2, y60_3, rfl⟩ := Instance_form (p59_0.at_ (Nat.le_refl _))
  have hb20 : Below w19.heap.size w19 (w19.alloc (.cells #[.slice y60_0 (Restrict_r0 x0 b1).rels.length y60_1, .slice y60_2 (Restrict_r0 x0 b1).facts.length y60_3] 43)) := below_more (Below.refl _ _) _
  have z20 : w19.heap.size + 1 ≤ (w19.alloc (.cells #[.slice y60_0 (Restrict_r0 x0 b1).rels.length y60_1, .slice y60_2 (Restrict_r0 x0 b1).facts.length y60_3] 43)).heap.size := by simp
  have K61 := Lib.hid (show (w19.alloc (.cells #[.slice y60_0 (Restrict_r0 x0 b1).rels.length y60_1, .slice y60_2 (Restrict_r0 x0 b1).facts.length y60_3] 43)).cell? ⟨w19.heap.size, 0, none⟩ = some (.slice y60_0 (Restrict_r0 x0 b1).rels.length y60_1) by simp [go_sem])
  have K62 := Lib.hid (show (w19.alloc (.cells #[.slice y60_0 (Restrict_r0 x0 b1).rels.length y60_1, .slice y60_2 (Restrict_r0 x0 b1).facts.length y60_3] 43)).cell? ⟨w19.heap.size, 1, none⟩ = some (.slice y60_2 (Restrict_r0 x0 b1).facts.length y60_3) by simp [go_sem])
  clear f55 f56
  have f63 : (w19.alloc (.cells #[.slice y60_0 (Restrict_r0 x0 b1).rels.length y60_1, .slice y60_2 (Restrict_r0 x0 b1).facts.length y60_3] 43)).cell? ⟨w19.heap.size, 0, none⟩ = some (.slice y60_0 (Restrict_r0 x0 b1).rels.length y60_1) := K61.out
  have f64 : (w19.alloc (.cells #[.slice y60_0 (Restrict_r0 x0 b1).rels.length y60_1, .slice y60_2 (Restrict_r0 x0 b1).facts.length y60_3] 43)).cell? ⟨w19.heap.size, 1, none⟩ = some (.slice y60_2 (Restrict_r0 x0 b1).facts.length y60_3) := K62.out
  have c5_20 : Below (w4.alloc (.cells #[.slice y12_0 (Restrict_r0 x0 b1).rels.length y12_1, .slice y12_2 (Restrict_r0 x0 b1).facts.length y12_3] 43)).heap.size (w4.alloc (.cells #[.slice y12_0 (Restrict_r0 x0 b1).rels.length y12_1, .slice y12_2 (Restrict_r0 x0 b1).facts.length y12_3] 43)) (w19.alloc (.cells #[.slice y60_0 (Restrict_r0 x0 b1).rels.length y60_1, .slice y60_2 (Restrict_r0 x0 b1).facts.length y60_3] 43)) := ((((((c5_14.trans (hb15.mono (by omega))).trans (hb16.mid_below (by omega) (by omega))).trans (hb17.mono (by omega))).trans (hb18.mono (by omega))).trans (hb19.mono (by omega))).trans (hb20.mono (by omega)))
  have f65 : (w19.alloc (.cells #[.slice y60_0 (Restrict_r0 x0 b1).rels.length y60_1, .slice y60_2 (Restrict_r0 x0 b1).facts.length y60_3] 43)).cell? ⟨w4.heap.size, 0, none⟩ = some (.slice y12_0 (Restrict_r0 x0 b1).rels.length y12_1) := ((c5_20).cell (p := ⟨w4.heap.size, 0, none⟩) (by show w4.heap.size < _; omega)).trans K13.out
  have f66 : (w19.alloc (.cells #[.slice y60_0 (Restrict_r0 x0 b1).rels.length y60_1, .slice y60_2 (Restrict_r0 x0 b1).facts.length y60_3] 43)).cell? ⟨w4.heap.size, 1, none⟩ = some (.slice y12_2 (Restrict_r0 x0 b1).facts.length y12_3) := ((c5_20).cell (p := ⟨w4.heap.size, 1, none⟩) (by show w4.heap.size < _; omega)).trans K14.out
  have c19_20 : Below w19.heap.size w19 (w19.alloc (.cells #[.slice y60_0 (Restrict_r0 x0 b1).rels.length y60_1, .slice y60_2 (Restrict_r0 x0 b1).facts.length y60_3] 43)) := hb20
  have c4_20 : Below w4.heap.size w4 (w19.alloc (.cells #[.slice y60_0 (Restrict_r0 x0 b1).rels.length y60_1, .slice y60_2 (Restrict_r0 x0 b1).facts.length y60_3] 43)) := ((((((c4_14.trans (hb15.mono (by omega))).trans (hb16.mid_below (by omega) (by omega))).trans (hb17.mono (by omega))).trans (hb18.mono (by omega))).trans (hb19.mono (by omega))).trans (hb20.mono (by omega)))
  go_wp2_with fail
  refine (eqInstance_c _ _ (Restrict_r0 x0 b1) _ ((p59_0.below c19_20 (Nat.le_refl _)).at_ (by omega)) ((p11_0.below c4_20 (Nat.le_refl _)).more c4_20.size)).mono ?_
  rintro e w21 ⟨rfl, hb21⟩
  have z21 : (w19.alloc (.cells #[.slice y60_0 (Restrict_r0 x0 b1).rels.length y60_1, .slice y60_2 (Restrict_r0 x0 b1).facts.length y60_3] 43)).heap.size ≤ w21.heap.size := hb21.size
  clear f63 f64 f65 f66
  have c16_21 : Below w16.heap.size w16 w21 := ((((hb17.trans (hb18.mono (by omega))).trans (hb19.mono (by omega))).trans (hb20.mono (by omega))).trans (hb21.mono (by omega)))
  have f67 : w21.cell? ⟨w8.heap.size, 0, none⟩ = some (.slice y24_0 (Restrict_r0 x0 b1).rels.length y24_1) := ((c16_21).cell (p := ⟨w8.heap.size, 0, none⟩) (by show w8.heap.size < _; omega)).trans K51.out
  have f68 : w21.cell? ⟨w8.heap.size, 1, none⟩ = some (.slice y24_2 (Restrict_r0 x0 b1).facts.length y24_3) := ((c16_21).cell (p := ⟨w8.heap.size, 1, none⟩) (by show w8.heap.size < _; omega)).trans K52.out
  go_wp2_with fail
  refine (heldInstance_c _ (Restrict_r0 x0 b1) (1) _ ((om16.below c16_21 (by omega)).at_ (by omega)) q59_0 (by omega) (by omega)).mono ?_
  rintro e w22 ⟨rfl, hb22⟩
  have z22 : w21.heap.size ≤ w22.heap.size := hb22.size
  clear f67 f68
  have c0_22 : Below w.heap.size w w22 := (((((c0_17.trans (hb18.mono (by omega))).trans (hb19.mono (by omega))).trans (hb20.mono (by omega))).trans (hb21.mono (by omega))).trans (hb22.mono (by omega)))
  go_wp2
  go_ret
  exact ⟨rfl, c0_22⟩

theorem ty : ∀ t ∈ Try.f8.params.toList, Try.prog.readableRec t = true ∧ t < Try.prog.types.size := by
  rw [Try.params8]; intro t ht
  simp only [List.mem_cons, List.not_mem_nil, or_false] at ht
  rcases ht with rfl | rfl <;> exact ⟨by kernel_rfl, of_decide_eq_true (by kernel_rfl)⟩
set_option maxRecDepth 100000 in
theorem lifted (os : Os) (started : os.Started) (H : Type) (enc : TypeId × Value → H) :
    ReturnsInHanded {} Try.checked os 8 .any (Rows.fnExactRestrictSpec.pre6 enc Try.prog Try.f8 Rows.fnExactRestrictRow.domain false) (Rows.fnExactRestrictSpec.post enc Try.prog Try.f8 false true false false) := by
  refine returnsInHanded_of_change (C := Try.checked) ownFact started (by kernel_rfl) Try.func8
    (ChangeSpec.witness6 (enc := enc) (C := Try.checked) false ⟨#[], #[.agg #[.slice none 0 0, .slice none 0 0], .bool false], []⟩ 8 (by kernel_rfl) (by kernel_rfl) (by kernel_rfl) (by kernel_rfl)) ?_
  intro W base args ds gs before hval0 hW hcnd _
  have hval : ∀ (j : Nat) t v, Try.f8.params[j]? = some t → args[j]? = some v → Value.okWide Try.prog W .any base t v := hval0
  have hW' := hW
  obtain ⟨p, q, hA0, hV, _, hfz, hnd⟩ := hW
  have hA : DataW.TrodAll enc Try.prog W 0 (fun _ => true) true Try.f8.params.toList args.toList ds p := hA0
  rw [Try.params8] at hA hval
  obtain ⟨v0, vs0, d0, ds0, p0, q0, hargs, rfl, _, h0, r0⟩ := trodAll_cons hA
  obtain ⟨v1, vs1, d1, ds1, p1, q1, rfl, rfl, _, h1, r1⟩ := trodAll_cons r0
  obtain ⟨rfl, rfl, _⟩ := trodAll_nil r1
  obtain rfl : args = #[v0, v1] := by cases args; simp_all
  obtain ⟨rfl, _⟩ := trodVars_none hV
  obtain ⟨x0, hx0, hwx0⟩ := open_Instance (hval 0 _ v0 rfl rfl) h0 (DataW.TrodAll.lt (trodAll_mk1 h0))
  obtain ⟨a1, rfl, _, _⟩ := open_bool Try.underlying4 (hval 1 4 v1 rfl rfl) h1
  refine (walk v0 x0 a1 W hx0 hwx0).mono fun e W' ⟨he, hb⟩ => ?_
  subst he
  exact ⟨_, rfl, law_post laidFact ty Try.underlying4 (by kernel_rfl) rfl hW' rfl hb⟩
theorem holds : Rows.FnExactRestrictSaid :=
  OpenClaim.holds_of_wide 8 Try.f8 rfl rfl rfl rfl rfl rfl rfl ⟨rfl, rfl, rfl, rfl, rfl⟩ rfl rfl rfl rfl rfl (by kernel_rfl) Try.func8 (by kernel_rfl)
    (of_decide_eq_true (by kernel_rfl)) (by unfold Func.isWrapper; first | (rw [if_pos (by decide +kernel)]; kernel_rfl) | (rw [if_neg (by decide +kernel)]; exact ⟨rfl, rfl⟩))
    (fun os started H enc _ => lifted os started H enc)
end lawFnExactRestrict

end Go.Proofs.Ytchlelkhpahakaa
