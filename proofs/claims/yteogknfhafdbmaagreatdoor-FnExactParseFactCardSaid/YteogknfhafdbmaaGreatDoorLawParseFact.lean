/-
  FnExactParseFact: for every argument the translated law returns true, and each argument reads afterwards as it read before. Conditions: none beyond the given row's own.
-/
import Derived.Test.YteogknfhafdbmaaGreatDoorPlan
import Derived.Test.YteogknfhafdbmaaGreatDoorRelsC
import Derived.Test.YteogknfhafdbmaaGreatDoorMaxL
import Derived.Test.YteogknfhafdbmaaGreatDoorLift
import Derived.Test.YteogknfhafdbmaaGreatDoorLaid
import Derived.Test.YteogknfhafdbmaaGreatDoorFactC
import Derived.Test.YteogknfhafdbmaaGreatDoorParFS
import Derived.Test.YteogknfhafdbmaaGreatDoorParFI
namespace Go.Proofs.YteogknfhafdbmaaGreatDoor
open Go.RowKit Go.ChangeShapes Go.WideShapes Go.ChangeAt Go.ChangeMaps

namespace lawFnExactParseFact

set_option maxRecDepth 100000 in
set_option maxHeartbeats 1600000 in
theorem walk (v0 : Value) (x0 : List Rel) (s1 : ByteArray) (hs1 : s1.size ≤ maxLen) (w : World) (h0 : RelationS_at w w.heap.size v0 x0) (hw0 : RelationS_wf x0) (ht : Tab w) (hv : ErrVars w) (hm : MaxL w) :
    Calls Tryz.prog 3 #[v0, .string s1] w fun e w' => e = .returned (.bool true) ∧ Below w.heap.size w w' := by
  unfold maxLen at hs1
  have A0 := Lib.hid h0
  have W0 := Lib.hid hw0
  clear h0 hw0
  by_cases hlong1 : 1048576 < s1.size
  · skip
    go_enter Tryz.func3, Tryz.ntmps3
    go_wp2
    go_ret
    exact ⟨rfl, Below.refl _ _⟩
  by_cases hz1 : ((RelationS_sz x0 : Nat) : Int) ≤ 1048576
  rotate_left
  · skip
    have e1 := szLeft_no hz1
    go_enter Tryz.func3, Tryz.ntmps3
    go_wp2_with fail
    refine (szRelationS_c _ x0 (1048576) _ ((A0.out.below (Below.refl w.heap.size w) (Nat.le_refl _)).more (Below.refl w.heap.size w).size) W0.out (by omega) (by omega)).mono ?_
    rw [e1]
    rintro e w1 ⟨rfl, hb1⟩
    have z1 : w.heap.size ≤ w1.heap.size := hb1.size
    have c0_1 : Below w.heap.size w w1 := hb1
    go_wp2
    go_ret
    exact ⟨rfl, c0_1⟩
  have e1 := szLeft_yes hz1
  have S0 : RelationS_sz x0 ≤ 1048576 := by omega
  have N0 := RelationS_cnt_le x0
  have hl1 : s1.size ≤ 1048576 := by omega
  go_enter Tryz.func3, Tryz.ntmps3
  go_wp2_with fail
  refine (szRelationS_c _ x0 (1048576) _ ((A0.out.below (Below.refl w.heap.size w) (Nat.le_refl _)).more (Below.refl w.heap.size w).size) W0.out (by omega) (by omega)).mono ?_
  rw [e1]
  rintro e w1 ⟨rfl, hb1⟩
  have z1 : w.heap.size ≤ w1.heap.size := hb1.size
  have c0_1 : Below w.heap.size w w1 := hb1
  go_wp2_with fail
  refine (toRelationS_c _ x0 _ ((A0.out.below c0_1 (Nat.le_refl _)).more c0_1.size) S0).mono ?_
  rintro e w2 ⟨u1, rfl, ou1, hb2⟩
  have z2 : w1.heap.size ≤ w2.heap.size := hb2.size
  go_wp2_with fail
  refine (specParseFact_c _ x0 s1 _ ((ou1.below (Below.refl w2.heap.size w2) (Nat.le_refl _)).at_ (Nat.le_refl _)) W0.out S0 hl1).mono ?_
  rintro e w3 ⟨r2_0, rfl, p2_0, hb3⟩
  have z3 : w2.heap.size ≤ w3.heap.size := hb3.size
  obtain ⟨y3_0, y3_1, rfl⟩ := Fact_form p2_0
  have hb4 : Below w3.heap.size w3 (w3.alloc (.cells #[.int .i64 (ParseFact_r0 x0 s1).rel, .slice y3_0 (ParseFact_r0 x0 s1).vals.length y3_1] 26)) := below_more (Below.refl _ _) _
  have z4 : w3.heap.size + 1 ≤ (w3.alloc (.cells #[.int .i64 (ParseFact_r0 x0 s1).rel, .slice y3_0 (ParseFact_r0 x0 s1).vals.length y3_1] 26)).heap.size := by simp
  have K4 := Lib.hid (show (w3.alloc (.cells #[.int .i64 (ParseFact_r0 x0 s1).rel, .slice y3_0 (ParseFact_r0 x0 s1).vals.length y3_1] 26)).cell? ⟨w3.heap.size, 0, none⟩ = some (.int .i64 (ParseFact_r0 x0 s1).rel) by simp [go_sem])
  have K5 := Lib.hid (show (w3.alloc (.cells #[.int .i64 (ParseFact_r0 x0 s1).rel, .slice y3_0 (ParseFact_r0 x0 s1).vals.length y3_1] 26)).cell? ⟨w3.heap.size, 1, none⟩ = some (.slice y3_0 (ParseFact_r0 x0 s1).vals.length y3_1) by simp [go_sem])
  have c0_4 : Below w.heap.size w (w3.alloc (.cells #[.int .i64 (ParseFact_r0 x0 s1).rel, .slice y3_0 (ParseFact_r0 x0 s1).vals.length y3_1] 26)) := (((c0_1.trans (hb2.mono (by omega))).trans (hb3.mono (by omega))).trans (hb4.mono (by omega)))
  go_wp2_with fail
  refine (toRelationS_c _ x0 _ ((A0.out.below c0_4 (Nat.le_refl _)).more c0_4.size) S0).mono ?_
  rintro e w5 ⟨u6, rfl, ou6, hb5⟩
  have z5 : (w3.alloc (.cells #[.int .i64 (ParseFact_r0 x0 s1).rel, .slice y3_0 (ParseFact_r0 x0 s1).vals.length y3_1] 26)).heap.size ≤ w5.heap.size := hb5.size
  have c0_5 : Below w.heap.size w w5 := (c0_4.trans (hb5.mono (by omega)))
  go_wp2_with fail
  refine (implParseFact_c _ x0 s1 _ ((ou6.below (Below.refl w5.heap.size w5) (Nat.le_refl _)).at_ (Nat.le_refl _)) W0.out S0 hl1 (ht.below c0_5) (hv.below c0_5) (hm.below c0_5)).mono ?_
  rintro e w6 ⟨r7_0, rfl, p7_0, q7_0, hb6⟩
  have z6 : w5.heap.size ≤ w6.heap.size := hb6.size
  have NC7_0 := Fact_cnt_le (ParseFact_r0 x0 s1)
  obtain ⟨y8_0, y8_1, rfl⟩ := Fact_form (p7_0.at_ (Nat.le_refl _))
  have hb7 : Below w6.heap.size w6 (w6.alloc (.cells #[.int .i64 (ParseFact_r0 x0 s1).rel, .slice y8_0 (ParseFact_r0 x0 s1).vals.length y8_1] 26)) := below_more (Below.refl _ _) _
  have z7 : w6.heap.size + 1 ≤ (w6.alloc (.cells #[.int .i64 (ParseFact_r0 x0 s1).rel, .slice y8_0 (ParseFact_r0 x0 s1).vals.length y8_1] 26)).heap.size := by simp
  have K9 := Lib.hid (show (w6.alloc (.cells #[.int .i64 (ParseFact_r0 x0 s1).rel, .slice y8_0 (ParseFact_r0 x0 s1).vals.length y8_1] 26)).cell? ⟨w6.heap.size, 0, none⟩ = some (.int .i64 (ParseFact_r0 x0 s1).rel) by simp [go_sem])
  have K10 := Lib.hid (show (w6.alloc (.cells #[.int .i64 (ParseFact_r0 x0 s1).rel, .slice y8_0 (ParseFact_r0 x0 s1).vals.length y8_1] 26)).cell? ⟨w6.heap.size, 1, none⟩ = some (.slice y8_0 (ParseFact_r0 x0 s1).vals.length y8_1) by simp [go_sem])
  have f11 : (w6.alloc (.cells #[.int .i64 (ParseFact_r0 x0 s1).rel, .slice y8_0 (ParseFact_r0 x0 s1).vals.length y8_1] 26)).cell? ⟨w6.heap.size, 0, none⟩ = some (.int .i64 (ParseFact_r0 x0 s1).rel) := K9.out
  have f12 : (w6.alloc (.cells #[.int .i64 (ParseFact_r0 x0 s1).rel, .slice y8_0 (ParseFact_r0 x0 s1).vals.length y8_1] 26)).cell? ⟨w6.heap.size, 1, none⟩ = some (.slice y8_0 (ParseFact_r0 x0 s1).vals.length y8_1) := K10.out
  have c4_7 : Below (w3.alloc (.cells #[.int .i64 (ParseFact_r0 x0 s1).rel, .slice y3_0 (ParseFact_r0 x0 s1).vals.length y3_1] 26)).heap.size (w3.alloc (.cells #[.int .i64 (ParseFact_r0 x0 s1).rel, .slice y3_0 (ParseFact_r0 x0 s1).vals.length y3_1] 26)) (w6.alloc (.cells #[.int .i64 (ParseFact_r0 x0 s1).rel, .slice y8_0 (ParseFact_r0 x0 s1).vals.length y8_1] 26)) := ((hb5.trans (hb6.mono (by omega))).trans (hb7.mono (by omega)))
  have f13 : (w6.alloc (.cells #[.int .i64 (ParseFact_r0 x0 s1).rel, .slice y8_0 (ParseFact_r0 x0 s1).vals.length y8_1] 26)).cell? ⟨w3.heap.size, 0, none⟩ = some (.int .i64 (ParseFact_r0 x0 s1).rel) := ((c4_7).cell (p := ⟨w3.heap.size, 0, none⟩) (by show w3.heap.size < _; omega)).trans K4.out
  have f14 : (w6.alloc (.cells #[.int .i64 (ParseFact_r0 x0 s1).rel, .slice y8_0 (ParseFact_r0 x0 s1).vals.length y8_1] 26)).cell? ⟨w3.heap.size, 1, none⟩ = some (.slice y3_0 (ParseFact_r0 x0 s1).vals.length y3_1) := ((c4_7).cell (p := ⟨w3.heap.size, 1, none⟩) (by show w3.heap.size < _; omega)).trans K5.out
  have c6_7 : Below w6.heap.size w6 (w6.alloc (.cells #[.int .i64 (ParseFact_r0 x0 s1).rel, .slice y8_0 (ParseFact_r0 x0 s1).vals.length y8_1] 26)) := hb7
  have c3_7 : Below w3.heap.size w3 (w6.alloc (.cells #[.int .i64 (ParseFact_r0 x0 s1).rel, .slice y8_0 (ParseFact_r0 x0 s1).vals.length y8_1] 26)) := (((hb4.trans (hb5.mono (by omega))).trans (hb6.mono (by omega))).trans (hb7.mono (by omega)))
  go_wp2_with fail
  refine (eqFact_c _ _ (ParseFact_r0 x0 s1) _ ((p7_0.below c6_7 (Nat.le_refl _)).at_ (by omega)) ((p2_0.below c3_7 (Nat.le_refl _)).more c3_7.size)).mono ?_
  rintro e w8 ⟨rfl, hb8⟩
  have z8 : (w6.alloc (.cells #[.int .i64 (ParseFact_r0 x0 s1).rel, .slice y8_0 (ParseFact_r0 x0 s1).vals.length y8_1] 26)).heap.size ≤ w8.heap.size := hb8.size
  clear f11 f12 f13 f14
  have c0_8 : Below w.heap.size w w8 := (((c0_5.trans (hb6.mono (by omega))).trans (hb7.mono (by omega))).trans (hb8.mono (by omega)))
  go_wp2_with fail
  refine (toRelationS_c _ x0 _ ((A0.out.below c0_8 (Nat.le_refl _)).more c0_8.size) S0).mono ?_
  rintro e w9 ⟨u15, rfl, ou15, hb9⟩
  have z9 : w8.heap.size ≤ w9.heap.size := hb9.size
  have c5_9 : Below w5.heap.size w5 w9 := (((hb6.trans (hb7.mono (by omega))).trans (hb8.mono (by omega))).trans (hb9.mono (by omega)))
  go_wp2_with fail
  refine (eqRelationS_c _ _ x0 _ ((ou6.below c5_9 (Nat.le_refl _)).at_ (by omega)) ((ou15.below (Below.refl w9.heap.size w9) (Nat.le_refl _)).at_ (Nat.le_refl _))).mono ?_
  rintro e w10 ⟨rfl, hb10⟩
  have z10 : w9.heap.size ≤ w10.heap.size := hb10.size
  have c5_10 : Below w5.heap.size w5 w10 := (c5_9.trans (hb10.mono (by omega)))
  have c6_10 : Below w6.heap.size w6 w10 := (((c6_7.trans (hb8.mono (by omega))).trans (hb9.mono (by omega))).trans (hb10.mono (by omega)))
  have c7_10 : Below (w6.alloc (.cells #[.int .i64 (ParseFact_r0 x0 s1).rel, .slice y8_0 (ParseFact_r0 x0 s1).vals.length y8_1] 26)).heap.size (w6.alloc (.cells #[.int .i64 (ParseFact_r0 x0 s1).rel, .slice y8_0 (ParseFact_r0 x0 s1).vals.length y8_1] 26)) w10 := ((hb8.trans (hb9.mono (by omega))).trans (hb10.mono (by omega)))
  go_wp2_with fail
  refine (markRelationS_c _ _ _ x0 (1) _ (ou6.below c5_10 (Nat.le_refl _)) S0 (by omega) (by omega)).mono ?_
  rintro e w11 ⟨rfl, om11, hb11⟩
  have om11_g0 := (p7_0.below c6_10 (Nat.le_refl _)).chg hb11 (by omega)
  have z11 : w10.heap.size ≤ w11.heap.size := hb11.size
  have K16 := Lib.hid ((hb11.mid_cell (b := w6.heap.size) (o := 0) (by omega) (by omega)).trans (((c7_10).cell (p := ⟨w6.heap.size, 0, none⟩) (by show w6.heap.size < _; omega)).trans K9.out))
  have K17 := Lib.hid ((hb11.mid_cell (b := w6.heap.size) (o := 1) (by omega) (by omega)).trans (((c7_10).cell (p := ⟨w6.heap.size, 1, none⟩) (by show w6.heap.size < _; omega)).trans K10.out))
  have f18 : w11.cell? ⟨w6.heap.size, 0, none⟩ = some (.int .i64 (ParseFact_r0 x0 s1).rel) := K16.out
  have f19 : w11.cell? ⟨w6.heap.size, 1, none⟩ = some (.slice y8_0 (ParseFact_r0 x0 s1).vals.length y8_1) := K17.out
  have c4_11 : Below (w3.alloc (.cells #[.int .i64 (ParseFact_r0 x0 s1).rel, .slice y3_0 (ParseFact_r0 x0 s1).vals.length y3_1] 26)).heap.size (w3.alloc (.cells #[.int .i64 (ParseFact_r0 x0 s1).rel, .slice y3_0 (ParseFact_r0 x0 s1).vals.length y3_1] 26)) w11 := ((((c4_7.trans (hb8.mono (by omega))).trans (hb9.mono (by omega))).trans (hb10.mono (by omega))).trans (hb11.mid_below (by omega) (by omega)))
  have f20 : w11.cell? ⟨w3.heap.size, 0, none⟩ = some (.int .i64 (ParseFact_r0 x0 s1).rel) := ((c4_11).cell (p := ⟨w3.heap.size, 0, none⟩) (by show w3.heap.size < _; omega)).trans K4.out
  have f21 : w11.cell? ⟨w3.heap.size, 1, none⟩ = some (.slice y3_0 (ParseFact_r0 x0 s1).vals.length y3_1) := ((c4_11).cell (p := ⟨w3.heap.size, 1, none⟩) (by show w3.heap.size < _; omega)).trans K5.out
  have c3_11 : Below w3.heap.size w3 w11 := ((((c3_7.trans (hb8.mono (by omega))).trans (hb9.mono (by omega))).trans (hb10.mono (by omega))).trans (hb11.mid_below (by omega) (by omega)))
  go_wp2_with fail
  refine (eqFact_c _ _ (ParseFact_r0 x0 s1) _ ((om11_g0.below (Below.refl w11.heap.size w11) (by omega)).at_ (by omega)) ((p2_0.below c3_11 (Nat.le_refl _)).more c3_11.size)).mono ?_
  rintro e w12 ⟨rfl, hb12⟩
  have z12 : w11.heap.size ≤ w12.heap.size := hb12.size
  clear f18 f19 f20 f21
  have c11_12 : Below w11.heap.size w11 w12 := hb12
  have f22 : w12.cell? ⟨w6.heap.size, 0, none⟩ = some (.int .i64 (ParseFact_r0 x0 s1).rel) := ((c11_12).cell (p := ⟨w6.heap.size, 0, none⟩) (by show w6.heap.size < _; omega)).trans K16.out
  have f23 : w12.cell? ⟨w6.heap.size, 1, none⟩ = some (.slice y8_0 (ParseFact_r0 x0 s1).vals.length y8_1) := ((c11_12).cell (p := ⟨w6.heap.size, 1, none⟩) (by show w6.heap.size < _; omega)).trans K17.out
  go_wp2_with fail
  refine (markFact_c _ _ _ (ParseFact_r0 x0 s1) (1) _ (om11_g0.below c11_12 (by omega)) q7_0 (by omega) (by omega)).mono ?_
  rintro e w13 ⟨rfl, om13, hb13⟩
  have om13_tu6 := (om11.below c11_12 (by omega)).chg hb13 (by omega)
  have z13 : w12.heap.size ≤ w13.heap.size := hb13.size
  clear f22 f23
  have K24 := Lib.hid ((hb13.mid_cell (b := w6.heap.size) (o := 0) (by omega) (by omega)).trans (((c11_12).cell (p := ⟨w6.heap.size, 0, none⟩) (by show w6.heap.size < _; omega)).trans K16.out))
  have K25 := Lib.hid ((hb13.mid_cell (b := w6.heap.size) (o := 1) (by omega) (by omega)).trans (((c11_12).cell (p := ⟨w6.heap.size, 1, none⟩) (by show w6.heap.size < _; omega)).trans K17.out))
  have f26 : w13.cell? ⟨w6.heap.size, 0, none⟩ = some (.int .i64 (ParseFact_r0 x0 s1).rel) := K24.out
  have f27 : w13.cell? ⟨w6.heap.size, 1, none⟩ = some (.slice y8_0 (ParseFact_r0 x0 s1).vals.length y8_1) := K25.out
  go_wp2_with fail
  refine (heldFact_c _ (ParseFact_r0 x0 s1) (1) _ ((om13.below (Below.refl w13.heap.size w13) (by omega)).at_ (by omega)) q7_0 (by omega) (by omega)).mono ?_
  rintro e w14 ⟨rfl, hb14⟩
  have z14 : w13.heap.size ≤ w14.heap.size := hb14.size
  clear f26 f27
  have c0_14 : Below w.heap.size w w14 := ((((((c0_8.trans (hb9.mono (by omega))).trans (hb10.mono (by omega))).trans (hb11.mid_below (by omega) (by omega))).trans (hb12.mono (by omega))).trans (hb13.mid_below (by omega) (by omega))).trans (hb14.mono (by omega)))
  go_wp2_with fail
  refine (toRelationS_c _ x0 _ ((A0.out.below c0_14 (Nat.le_refl _)).more c0_14.size) S0).mono ?_
  rintro e w15 ⟨u28, rfl, ou28, hb15⟩
  have z15 : w14.heap.size ≤ w15.heap.size := hb15.size
  have c0_15 : Below w.heap.size w w15 := (c0_14.trans (hb15.mono (by omega)))
  go_wp2_with fail
  refine (implParseFact_c _ x0 s1 _ ((ou28.below (Below.refl w15.heap.size w15) (Nat.le_refl _)).at_ (Nat.le_refl _)) W0.out S0 hl1 (ht.below c0_15) (hv.below c0_15) (hm.below c0_15)).mono ?_
  rintro e w16 ⟨r29_0, rfl, p29_0, q29_0, hb16⟩
  have z16 : w15.heap.size ≤ w16.heap.size := hb16.size
  have NC29_0 := Fact_cnt_le (ParseFact_r0 x0 s1)
  obtain ⟨y30_0, y30_1, rfl⟩ := Fact_form (p29_0.at_ (Nat.le_refl _))
  have hb17 : Below w16.heap.size w16 (w16.alloc (.cells #[.int .i64 (ParseFact_r0 x0 s1).rel, .slice y30_0 (ParseFact_r0 x0 s1).vals.length y30_1] 26)) := below_more (Below.refl _ _) _
  have z17 : w16.heap.size + 1 ≤ (w16.alloc (.cells #[.int .i64 (ParseFact_r0 x0 s1).rel, .slice y30_0 (ParseFact_r0 x0 s1).vals.length y30_1] 26)).heap.size := by simp
  have K31 := Lib.hid (show (w16.alloc (.cells #[.int .i64 (ParseFact_r0 x0 s1).rel, .slice y30_0 (ParseFact_r0 x0 s1).vals.length y30_1] 26)).cell? ⟨w16.heap.size, 0, none⟩ = some (.int .i64 (ParseFact_r0 x0 s1).rel) by simp [go_sem])
  have K32 := Lib.hid (show (w16.alloc (.cells #[.int .i64 (ParseFact_r0 x0 s1).rel, .slice y30_0 (ParseFact_r0 x0 s1).vals.length y30_1] 26)).cell? ⟨w16.heap.size, 1, none⟩ = some (.slice y30_0 (ParseFact_r0 x0 s1).vals.length y30_1) by simp [go_sem])
  have f33 : (w16.alloc (.cells #[.int .i64 (ParseFact_r0 x0 s1).rel, .slice y30_0 (ParseFact_r0 x0 s1).vals.length y30_1] 26)).cell? ⟨w16.heap.size, 0, none⟩ = some (.int .i64 (ParseFact_r0 x0 s1).rel) := K31.out
  have f34 : (w16.alloc (.cells #[.int .i64 (ParseFact_r0 x0 s1).rel, .slice y30_0 (ParseFact_r0 x0 s1).vals.length y30_1] 26)).cell? ⟨w16.heap.size, 1, none⟩ = some (.slice y30_0 (ParseFact_r0 x0 s1).vals.length y30_1) := K32.out
  have c4_17 : Below (w3.alloc (.cells #[.int .i64 (ParseFact_r0 x0 s1).rel, .slice y3_0 (ParseFact_r0 x0 s1).vals.length y3_1] 26)).heap.size (w3.alloc (.cells #[.int .i64 (ParseFact_r0 x0 s1).rel, .slice y3_0 (ParseFact_r0 x0 s1).vals.length y3_1] 26)) (w16.alloc (.cells #[.int .i64 (ParseFact_r0 x0 s1).rel, .slice y30_0 (ParseFact_r0 x0 s1).vals.length y30_1] 26)) := ((((((c4_11.trans (hb12.mono (by omega))).trans (hb13.mid_below (by omega) (by omega))).trans (hb14.mono (by omega))).trans (hb15.mono (by omega))).trans (hb16.mono (by omega))).trans (hb17.mono (by omega)))
  have f35 : (w16.alloc (.cells #[.int .i64 (ParseFact_r0 x0 s1).rel, .slice y30_0 (ParseFact_r0 x0 s1).vals.length y30_1] 26)).cell? ⟨w3.heap.size, 0, none⟩ = some (.int .i64 (ParseFact_r0 x0 s1).rel) := ((c4_17).cell (p := ⟨w3.heap.size, 0, none⟩) (by show w3.heap.size < _; omega)).trans K4.out
  have f36 : (w16.alloc (.cells #[.int .i64 (ParseFact_r0 x0 s1).rel, .slice y30_0 (ParseFact_r0 x0 s1).vals.length y30_1] 26)).cell? ⟨w3.heap.size, 1, none⟩ = some (.slice y3_0 (ParseFact_r0 x0 s1).vals.length y3_1) := ((c4_17).cell (p := ⟨w3.heap.size, 1, none⟩) (by show w3.heap.size < _; omega)).trans K5.out
  have c16_17 : Below w16.heap.size w16 (w16.alloc (.cells #[.int .i64 (ParseFact_r0 x0 s1).rel, .slice y30_0 (ParseFact_r0 x0 s1).vals.length y30_1] 26)) := hb17
  have c3_17 : Below w3.heap.size w3 (w16.alloc (.cells #[.int .i64 (ParseFact_r0 x0 s1).rel, .slice y30_0 (ParseFact_r0 x0 s1).vals.length y30_1] 26)) := ((((((c3_11.trans (hb12.mono (by omega))).trans (hb13.mid_below (by omega) (by omega))).trans (hb14.mono (by omega))).trans (hb15.mono (by omega))).trans (hb16.mono (by omega))).trans (hb17.mono (by omega)))
  go_wp2_with fail
  refine (eqFact_c _ _ (ParseFact_r0 x0 s1) _ ((p29_0.below c16_17 (Nat.le_refl _)).at_ (by omega)) ((p2_0.below c3_17 (Nat.le_refl _)).more c3_17.size)).mono ?_
  rintro e w18 ⟨rfl, hb18⟩
  have z18 : (w16.alloc (.cells #[.int .i64 (ParseFact_r0 x0 s1).rel, .slice y30_0 (ParseFact_r0 x0 s1).vals.length y30_1] 26)).heap.size ≤ w18.heap.size := hb18.size
  clear f33 f34 f35 f36
  have c13_18 : Below w13.heap.size w13 w18 := ((((hb14.trans (hb15.mono (by omega))).trans (hb16.mono (by omega))).trans (hb17.mono (by omega))).trans (hb18.mono (by omega)))
  have f37 : w18.cell? ⟨w6.heap.size, 0, none⟩ = some (.int .i64 (ParseFact_r0 x0 s1).rel) := ((c13_18).cell (p := ⟨w6.heap.size, 0, none⟩) (by show w6.heap.size < _; omega)).trans K24.out
  have f38 : w18.cell? ⟨w6.heap.size, 1, none⟩ = some (.slice y8_0 (ParseFact_r0 x0 s1).vals.length y8_1) := ((c13_18).cell (p := ⟨w6.heap.size, 1, none⟩) (by show w6.heap.size < _; omega)).trans K25.out
  go_wp2_with fail
  refine (heldFact_c _ (ParseFact_r0 x0 s1) (1) _ ((om13.below c13_18 (by omega)).at_ (by omega)) q29_0 (by omega) (by omega)).mono ?_
  rintro e w19 ⟨rfl, hb19⟩
  have z19 : w18.heap.size ≤ w19.heap.size := hb19.size
  clear f37 f38
  have c0_19 : Below w.heap.size w w19 := ((((c0_15.trans (hb16.mono (by omega))).trans (hb17.mono (by omega))).trans (hb18.mono (by omega))).trans (hb19.mono (by omega)))
  go_wp2
  go_ret
  exact ⟨rfl, c0_19⟩

theorem ty : ∀ t ∈ Tryz.f3.params.toList, Tryz.prog.readableRec t = true ∧ t < Tryz.prog.types.size := by
  rw [Tryz.params3]; intro t ht
  simp only [List.mem_cons, List.not_mem_nil, or_false] at ht
  rcases ht with rfl | rfl <;> exact ⟨by kernel_rfl, of_decide_eq_true (by kernel_rfl)⟩
noncomputable def laidWorld (os : Os) : World :=
  setVar (setVar (setVar (setVar (setVar (setVar (setVar (World.holding Tryz.prog os ⟨#[.cells #[sentText Rows.laid_strconv_ErrRange] 133, .cells #[sentText Rows.laid_strconv_ErrSyntax] 133], #[], []⟩) 6 (aggCells Rows.laid_math_bits_deBruijn32tab)) 7 (aggCells Rows.laid_math_bits_deBruijn64tab)) 5 (aggCells Rows.laid_internal_strconv_uint64pow10)) 2 (aggCells Rows.laid_unicode_utf8_acceptRanges)) 4 #[.iface 131 (.pointer (some ⟨low + 0, 0, none⟩))]) 3 #[.iface 131 (.pointer (some ⟨low + 1, 0, none⟩))]) 1 (aggCells Rows.laid_unicode_utf8_first)
theorem laid_met (os : Os) : laidMet Tryz.prog Rows.fnExactParseFactRow.laid ((laidWorld os).forCall (fun _ _ => 0) ⟨#[], #[.slice none 0 0, .string ⟨#[]⟩], []⟩).memory :=
  laidMet_of_run' 100 (by kernel_rfl) (by kernel_rfl)
theorem reads (os : Os) {H : Type} (enc : TypeId × Value → H) : ∃ places, DataW.whole enc Tryz.prog ((laidWorld os).forCall (fun _ _ => 0) ⟨#[], #[.slice none 0 0, .string ⟨#[]⟩], []⟩).memory Tryz.f3.params.toList Rows.fnExactParseFactSpec.vars false (#[.slice none 0 0, .string ⟨#[]⟩] : Array Value).toList 8 = some ([.nil, .lit (.string [])], [], places) :=
  ⟨[], by kernel_rfl⟩
set_option maxRecDepth 100000 in
theorem lifted (os : Os) (started : os.Started) (H : Type) (enc : TypeId × Value → H) (F : Stop.Interp) :
    ReturnsInHanded {} Tryz.checked os 3 .any ((OpenSpec.ofChange Rows.fnExactParseFactSpec).preRow enc Tryz.prog Tryz.f3 Rows.fnExactParseFactRow.domain false Rows.fnExactParseFactRow.laid) (((OpenSpec.ofChange Rows.fnExactParseFactSpec).at F).post enc Tryz.prog Tryz.f3 false true false false) := by
  obtain ⟨places, hx⟩ := reads os enc
  refine returnsInHanded_of_row (C := Tryz.checked) (s := OpenSpec.ofChange Rows.fnExactParseFactSpec) ownFact started (by kernel_rfl) Tryz.func3
    (witness_row_at (enc := enc) (C := Tryz.checked) false (laidWorld os) #[.slice none 0 0, .string ⟨#[]⟩] rfl (by kernel_rfl) (by kernel_rfl) (by kernel_rfl)
      (OpenSpec.preRow_of_cond 8 hx (by kernel_rfl) (fun k hk => by cases hk) (by kernel_rfl) (laid_met os))) ?_
  intro W base args ds gs before hval0 hW _ _ _ hL hSh _
  have hval : ∀ (j : Nat) t v, Tryz.f3.params[j]? = some t → args[j]? = some v → Value.okWide Tryz.prog W .any base t v := hval0
  have hW' := hW
  obtain ⟨p, q, hA0, hV, _, hfz, hnd⟩ := hW
  have hA : DataW.TrodAll enc Tryz.prog W 0 (fun _ => true) true Tryz.f3.params.toList args.toList ds p := hA0
  rw [Tryz.params3] at hA hval
  obtain ⟨v0, vs0, d0, ds0, p0, q0, hargs, rfl, _, h0, r0⟩ := trodAll_cons hA
  obtain ⟨v1, vs1, d1, ds1, p1, q1, rfl, rfl, _, h1, r1⟩ := trodAll_cons r0
  obtain ⟨rfl, rfl, _⟩ := trodAll_nil r1
  obtain rfl : args = #[v0, v1] := by cases args; simp_all
  obtain ⟨rfl, _⟩ := trodVars_none hV
  obtain ⟨x0, hx0, hwx0⟩ := open_RelationS (hval 0 _ v0 rfl rfl) h0 (DataW.TrodAll.lt (trodAll_mk1 h0))
  obtain ⟨a1, rfl, _, _, wa1⟩ := open_string Tryz.underlying9 (hval 1 9 v1 rfl rfl) h1
  have hL1 : laidMet Tryz.prog Rows.fnExactParseFactRow.laid W := hL
  refine (walk v0 x0 a1 wa1 W hx0 hwx0 (tab_of_laid (laidMet.tail (laidMet.tail hL1))) (errVars_of_laid (laidMet.tail (laidMet.tail (laidMet.tail (laidMet.tail hL1))))) (maxL_of_shape hSh)).mono fun e W' ⟨he, hb⟩ => ?_
  subst he
  exact ⟨_, rfl, law_post laidFact ty Tryz.underlying4 (by kernel_rfl) rfl hW' rfl hb⟩
theorem said : Rows.FnExactParseFactSaid :=
  OpenClaim.holds_of_cond 3 Tryz.f3 rfl rfl rfl rfl rfl rfl rfl ⟨rfl, rfl, rfl, rfl, rfl⟩ rfl rfl rfl rfl rfl (by kernel_rfl) Tryz.func3 (by kernel_rfl)
    (of_decide_eq_true (by kernel_rfl)) (by unfold Func.isWrapper; first | (rw [if_pos (by decide +kernel)]; kernel_rfl) | (rw [if_neg (by decide +kernel)]; exact ⟨rfl, rfl⟩))
    (fun os started H enc _ F => by rw [OpenClaim.pre_eq_preRow]; exact lifted os started H enc F)
theorem plain (f : FuncId) (fn : Func) (hf : Tryz.pinned.checked.prog.funcNamed "loop.example/g01919/laws.FnExactParseFact" = some f) (hfn : Tryz.pinned.checked.prog.funcs[f]? = some fn) :
    true = Tryz.pinned.checked.prog.looks [] ∧ ∀ (j : Nat) t, fn.params[j]? = some t → Tryz.pinned.checked.prog.wantsStandIn t = false := by
  obtain rfl : f = 3 := Option.some.inj ((show Tryz.prog.funcNamed "loop.example/g01919/laws.FnExactParseFact" = some 3 by kernel_rfl).symm.trans hf) |>.symm
  obtain rfl : fn = Tryz.f3 := (Option.some.inj (Tryz.func3.symm.trans hfn)).symm
  refine ⟨by kernel_rfl, fun j t ht => ?_⟩
  rw [Tryz.params3] at ht
  have ht2 := Array.mem_of_getElem? ht
  simp only [List.mem_toArray, List.mem_cons, List.not_mem_nil, or_false] at ht2
  rcases ht2 with rfl | rfl
  · exact (show Tryz.prog.wantsStandIn 22 = false by kernel_rfl)
  · exact (show Tryz.prog.wantsStandIn 9 = false by kernel_rfl)
theorem holds : Rows.FnExactParseFactCardSaid :=
  Claim7.holds_tied_plain_at .later [] _ _ _ _ said (fun _ h => by cases h) (by kernel_rfl) (fun _ h => by cases h) fnExactParseFact_row_tie rfl ⟨rfl, rfl⟩ (by kernel_rfl) rfl plain (by kernel_rfl)
end lawFnExactParseFact

end Go.Proofs.YteogknfhafdbmaaGreatDoor
