/-
  FnExactUnion: for every argument the translated law returns true, and each argument reads afterwards as it read before. Conditions: none beyond the given row's own.
-/
import Derived.Test.YtalijnfbopcmeaaPlan
import Derived.Test.YtalijnfbopcmeaaLift
import Derived.Test.YtalijnfbopcmeaaUfC
import Derived.Test.YtalijnfbopcmeaaUfU
import Derived.Test.YtalijnfbopcmeaaUfUI
namespace Go.Proofs.Ytalijnfbopcmeaa
open Go.RowKit Go.ChangeShapes Go.WideShapes Go.ChangeAt Go.ChangeMaps

namespace lawFnExactUnion

set_option maxRecDepth 100000 in
set_option maxHeartbeats 1600000 in
theorem walk (v0 : Value) (x0 : List Int) (n1 : Int) (hn1 : -9223372036854775808 ≤ n1 ∧ n1 ≤ 9223372036854775807) (n2 : Int) (hn2 : -9223372036854775808 ≤ n2 ∧ n2 ≤ 9223372036854775807) (w : World) (h0 : UnionFind_at w w.heap.size v0 x0) (hw0 : UnionFind_wf x0) :
    Calls Try.prog 8 #[v0, .int .i64 n1, .int .i64 n2] w fun e w' => e = .returned (.bool true) ∧ Below w.heap.size w w' := by
  obtain ⟨v0_0, v0_1, rfl⟩ := UnionFind_form h0
  have A0 := Lib.hid h0
  have W0 := Lib.hid hw0
  clear h0 hw0
  by_cases hz1 : ((UnionFind_sz x0 : Nat) : Int) ≤ 1048576
  rotate_left
  · skip
    have e1 := szLeft_no hz1
    have hb1 : Below w.heap.size w (w.alloc (.cells #[.slice v0_0 x0.length v0_1] 46)) := below_more (Below.refl _ _) _
    have z1 : w.heap.size + 1 ≤ (w.alloc (.cells #[.slice v0_0 x0.length v0_1] 46)).heap.size := by simp
    have K1 := Lib.hid (show (w.alloc (.cells #[.slice v0_0 x0.length v0_1] 46)).cell? ⟨w.heap.size, 0, none⟩ = some (.slice v0_0 x0.length v0_1) by simp [go_sem])
    go_enter Try.func8, Try.ntmps8
    have f2 : (w.alloc (.cells #[.slice v0_0 x0.length v0_1] 46)).cell? ⟨w.heap.size, 0, none⟩ = some (.slice v0_0 x0.length v0_1) := K1.out
    have c0_1 : Below w.heap.size w (w.alloc (.cells #[.slice v0_0 x0.length v0_1] 46)) := hb1
    go_wp2_with fail
    refine (szUnionFind_c _ x0 (1048576) _ ((A0.out.below c0_1 (Nat.le_refl _)).more c0_1.size) W0.out (by omega) (by omega)).mono ?_
    rw [e1]
    rintro e w2 ⟨rfl, hb2⟩
    have z2 : (w.alloc (.cells #[.slice v0_0 x0.length v0_1] 46)).heap.size ≤ w2.heap.size := hb2.size
    clear f2
    have c0_2 : Below w.heap.size w w2 := (c0_1.trans (hb2.mono (by omega)))
    go_wp2
    go_ret
    exact ⟨rfl, c0_2⟩
  have e1 := szLeft_yes hz1
  have S0 : UnionFind_sz x0 ≤ 1048576 := by omega
  have N0 := UnionFind_cnt_le x0
  have hb1 : Below w.heap.size w (w.alloc (.cells #[.slice v0_0 x0.length v0_1] 46)) := below_more (Below.refl _ _) _
  have z1 : w.heap.size + 1 ≤ (w.alloc (.cells #[.slice v0_0 x0.length v0_1] 46)).heap.size := by simp
  have K1 := Lib.hid (show (w.alloc (.cells #[.slice v0_0 x0.length v0_1] 46)).cell? ⟨w.heap.size, 0, none⟩ = some (.slice v0_0 x0.length v0_1) by simp [go_sem])
  go_enter Try.func8, Try.ntmps8
  have f3 : (w.alloc (.cells #[.slice v0_0 x0.length v0_1] 46)).cell? ⟨w.heap.size, 0, none⟩ = some (.slice v0_0 x0.length v0_1) := K1.out
  have c0_1 : Below w.heap.size w (w.alloc (.cells #[.slice v0_0 x0.length v0_1] 46)) := hb1
  go_wp2_with fail
  refine (szUnionFind_c _ x0 (1048576) _ ((A0.out.below c0_1 (Nat.le_refl _)).more c0_1.size) W0.out (by omega) (by omega)).mono ?_
  rw [e1]
  rintro e w2 ⟨rfl, hb2⟩
  have z2 : (w.alloc (.cells #[.slice v0_0 x0.length v0_1] 46)).heap.size ≤ w2.heap.size := hb2.size
  clear f3
  have c1_2 : Below (w.alloc (.cells #[.slice v0_0 x0.length v0_1] 46)).heap.size (w.alloc (.cells #[.slice v0_0 x0.length v0_1] 46)) w2 := hb2
  have f4 : w2.cell? ⟨w.heap.size, 0, none⟩ = some (.slice v0_0 x0.length v0_1) := ((c1_2).cell (p := ⟨w.heap.size, 0, none⟩) (by show w.heap.size < _; omega)).trans K1.out
  have c0_2 : Below w.heap.size w w2 := (c0_1.trans (hb2.mono (by omega)))
  go_wp2_with fail
  refine (toUnionFind_c _ x0 _ ((A0.out.below c0_2 (Nat.le_refl _)).more c0_2.size) S0).mono ?_
  rintro e w3 ⟨u5, rfl, ou5, hb3⟩
  have z3 : w2.heap.size ≤ w3.heap.size := hb3.size
  obtain ⟨y6_0, y6_1, rfl⟩ := UnionFind_form (ou5.at_ (Nat.le_refl _))
  go_wp2_with fail
  refine (specUnion_c _ x0 n1 n2 _ ((ou5.below (Below.refl w3.heap.size w3) (Nat.le_refl _)).at_ (Nat.le_refl _)) W0.out S0 hn1 hn2).mono ?_
  rintro e w4 ⟨r7_0, rfl, p7_0, hb4⟩
  have z4 : w3.heap.size ≤ w4.heap.size := hb4.size
  obtain ⟨y8_0, y8_1, rfl⟩ := UnionFind_form p7_0
  have hb5 : Below w4.heap.size w4 (w4.alloc (.cells #[.slice y8_0 (Union_r0 x0 n1 n2).length y8_1] 26)) := below_more (Below.refl _ _) _
  have z5 : w4.heap.size + 1 ≤ (w4.alloc (.cells #[.slice y8_0 (Union_r0 x0 n1 n2).length y8_1] 26)).heap.size := by simp
  have K9 := Lib.hid (show (w4.alloc (.cells #[.slice y8_0 (Union_r0 x0 n1 n2).length y8_1] 26)).cell? ⟨w4.heap.size, 0, none⟩ = some (.slice y8_0 (Union_r0 x0 n1 n2).length y8_1) by simp [go_sem])
  clear f4
  have c1_5 : Below (w.alloc (.cells #[.slice v0_0 x0.length v0_1] 46)).heap.size (w.alloc (.cells #[.slice v0_0 x0.length v0_1] 46)) (w4.alloc (.cells #[.slice y8_0 (Union_r0 x0 n1 n2).length y8_1] 26)) := (((c1_2.trans (hb3.mono (by omega))).trans (hb4.mono (by omega))).trans (hb5.mono (by omega)))
  have f10 : (w4.alloc (.cells #[.slice y8_0 (Union_r0 x0 n1 n2).length y8_1] 26)).cell? ⟨w.heap.size, 0, none⟩ = some (.slice v0_0 x0.length v0_1) := ((c1_5).cell (p := ⟨w.heap.size, 0, none⟩) (by show w.heap.size < _; omega)).trans K1.out
  have c0_5 : Below w.heap.size w (w4.alloc (.cells #[.slice y8_0 (Union_r0 x0 n1 n2).length y8_1] 26)) := (((c0_2.trans (hb3.mono (by omega))).trans (hb4.mono (by omega))).trans (hb5.mono (by omega)))
  go_wp2_with fail
  refine (toUnionFind_c _ x0 _ ((A0.out.below c0_5 (Nat.le_refl _)).more c0_5.size) S0).mono ?_
  rintro e w6 ⟨u11, rfl, ou11, hb6⟩
  have z6 : (w4.alloc (.cells #[.slice y8_0 (Union_r0 x0 n1 n2).length y8_1] 26)).heap.size ≤ w6.heap.size := hb6.size
  obtain ⟨y12_0, y12_1, rfl⟩ := UnionFind_form (ou11.at_ (Nat.le_refl _))
  have hb7 : Below w6.heap.size w6 (w6.alloc (.cells #[.slice y12_0 x0.length y12_1] 26)) := below_more (Below.refl _ _) _
  have z7 : w6.heap.size + 1 ≤ (w6.alloc (.cells #[.slice y12_0 x0.length y12_1] 26)).heap.size := by simp
  have K13 := Lib.hid (show (w6.alloc (.cells #[.slice y12_0 x0.length y12_1] 26)).cell? ⟨w6.heap.size, 0, none⟩ = some (.slice y12_0 x0.length y12_1) by simp [go_sem])
  clear f10
  have f14 : (w6.alloc (.cells #[.slice y12_0 x0.length y12_1] 26)).cell? ⟨w6.heap.size, 0, none⟩ = some (.slice y12_0 x0.length y12_1) := K13.out
  have c6_7 : Below w6.heap.size w6 (w6.alloc (.cells #[.slice y12_0 x0.length y12_1] 26)) := hb7
  go_wp2_with fail
  refine (implUnion_c _ x0 n1 n2 _ ((ou11.below c6_7 (Nat.le_refl _)).at_ (by omega)) W0.out S0 hn1 hn2).mono ?_
  rintro e w8 ⟨r15_0, rfl, p15_0, q15_0, hb8⟩
  have z8 : (w6.alloc (.cells #[.slice y12_0 x0.length y12_1] 26)).heap.size ≤ w8.heap.size := hb8.size
  have NC15_0 := UnionFind_cnt_le (Union_r0 x0 n1 n2)
  obtain ⟨y16_0, y16_1, rfl⟩ := UnionFind_form (p15_0.at_ (Nat.le_refl _))
  have hb9 : Below w8.heap.size w8 (w8.alloc (.cells #[.slice y16_0 (Union_r0 x0 n1 n2).length y16_1] 26)) := below_more (Below.refl _ _) _
  have z9 : w8.heap.size + 1 ≤ (w8.alloc (.cells #[.slice y16_0 (Union_r0 x0 n1 n2).length y16_1] 26)).heap.size := by simp
  have K17 := Lib.hid (show (w8.alloc (.cells #[.slice y16_0 (Union_r0 x0 n1 n2).length y16_1] 26)).cell? ⟨w8.heap.size, 0, none⟩ = some (.slice y16_0 (Union_r0 x0 n1 n2).length y16_1) by simp [go_sem])
  clear f14
  have f18 : (w8.alloc (.cells #[.slice y16_0 (Union_r0 x0 n1 n2).length y16_1] 26)).cell? ⟨w8.heap.size, 0, none⟩ = some (.slice y16_0 (Union_r0 x0 n1 n2).length y16_1) := K17.out
  have c5_9 : Below (w4.alloc (.cells #[.slice y8_0 (Union_r0 x0 n1 n2).length y8_1] 26)).heap.size (w4.alloc (.cells #[.slice y8_0 (Union_r0 x0 n1 n2).length y8_1] 26)) (w8.alloc (.cells #[.slice y16_0 (Union_r0 x0 n1 n2).length y16_1] 26)) := (((hb6.trans (hb7.mono (by omega))).trans (hb8.mono (by omega))).trans (hb9.mono (by omega)))
  have f19 : (w8.alloc (.cells #[.slice y16_0 (Union_r0 x0 n1 n2).length y16_1] 26)).cell? ⟨w4.heap.size, 0, none⟩ = some (.slice y8_0 (Union_r0 x0 n1 n2).length y8_1) := ((c5_9).cell (p := ⟨w4.heap.size, 0, none⟩) (by show w4.heap.size < _; omega)).trans K9.out
  have c8_9 : Below w8.heap.size w8 (w8.alloc (.cells #[.slice y16_0 (Union_r0 x0 n1 n2).length y16_1] 26)) := hb9
  have c4_9 : Below w4.heap.size w4 (w8.alloc (.cells #[.slice y16_0 (Union_r0 x0 n1 n2).length y16_1] 26)) := ((((hb5.trans (hb6.mono (by omega))).trans (hb7.mono (by omega))).trans (hb8.mono (by omega))).trans (hb9.mono (by omega)))
  go_wp2_with fail
  refine (eqUnionFind_c _ _ (Union_r0 x0 n1 n2) _ ((p15_0.below c8_9 (Nat.le_refl _)).at_ (by omega)) ((p7_0.below c4_9 (Nat.le_refl _)).more c4_9.size)).mono ?_
  rintro e w10 ⟨rfl, hb10⟩
  have z10 : (w8.alloc (.cells #[.slice y16_0 (Union_r0 x0 n1 n2).length y16_1] 26)).heap.size ≤ w10.heap.size := hb10.size
  clear f18 f19
  go_wp2_with fail
  have c7_10 : Below (w6.alloc (.cells #[.slice y12_0 x0.length y12_1] 26)).heap.size (w6.alloc (.cells #[.slice y12_0 x0.length y12_1] 26)) w10 := ((hb8.trans (hb9.mono (by omega))).trans (hb10.mono (by omega)))
  have f20 : w10.cell? ⟨w6.heap.size, 0, none⟩ = some (.slice y12_0 x0.length y12_1) := ((c7_10).cell (p := ⟨w6.heap.size, 0, none⟩) (by show w6.heap.size < _; omega)).trans K13.out
  have gf20 := Aft.cell (B := w10.heap.size) (by omega) f20
  clear f20
  have c1_10 : Below (w.alloc (.cells #[.slice v0_0 x0.length v0_1] 46)).heap.size (w.alloc (.cells #[.slice v0_0 x0.length v0_1] 46)) w10 := (((((c1_5.trans (hb6.mono (by omega))).trans (hb7.mono (by omega))).trans (hb8.mono (by omega))).trans (hb9.mono (by omega))).trans (hb10.mono (by omega)))
  have f21 : w10.cell? ⟨w.heap.size, 0, none⟩ = some (.slice v0_0 x0.length v0_1) := ((c1_10).cell (p := ⟨w.heap.size, 0, none⟩) (by show w.heap.size < _; omega)).trans K1.out
  have gf21 := Aft.cell (B := w10.heap.size) (by omega) f21
  clear f21
  refine wp_region_plan (C := fun w' => ∃ u : Aft w10.heap.size w10, w' = u.now) (.still 0 (.still 1 (.move true 2 (.move true 3 (.still 4 .done) .none) .none))) (by kernel_rfl) (by kernel_rfl) (by kernel_rfl) (fun _ => ⟨⟨_, (Below.refl _ _).drew⟩, rfl⟩) ?_
  have hb11 : Below w10.heap.size w10 w10.drew := (Below.refl _ _).drew
  have z11 : w10.drew.heap.size = w10.heap.size := rfl
  have c0_11 : Below w.heap.size w w10.drew := ((((((c0_5.trans (hb6.mono (by omega))).trans (hb7.mono (by omega))).trans (hb8.mono (by omega))).trans (hb9.mono (by omega))).trans (hb10.mono (by omega))).trans (hb11.mono (by omega)))
  refine plan_look _ rfl rfl ?_
  go_big_quiet_step (fail)
  refine wpQuiet_nil ?_
  refine plan_look _ rfl rfl ?_
  go_big_quiet_step (fail)
  refine wpQuiet_nil ?_
  refine plan_call _ 36 _ _ _ _ _ rfl _ Try.func36 (by kernel_rfl) (by kernel_rfl) ?_ True.intro
  show Calls Try.prog 36 #[.agg #[.slice v0_0 x0.length v0_1]] _ _
  refine (toUnionFind_c _ x0 _ ((A0.out.below c0_11 (Nat.le_refl _)).more c0_11.size) S0).mono ?_
  rintro e w12 ⟨u22, rfl, ou22, hb12⟩
  have z12 : w10.drew.heap.size ≤ w12.heap.size := hb12.size
  obtain ⟨y23_0, y23_1, rfl⟩ := UnionFind_form (ou22.at_ (Nat.le_refl _))
  have c10_12 : Below w10.heap.size w10 w12 := (hb11.trans (hb12.mono (by omega)))
  refine ⟨_, rfl, fun _ => ⟨⟨_, c10_12⟩, rfl⟩, ?_⟩
  refine plan_put ?_ (by simp only [Act.put, List.setIfInBounds_toArray, List.set_cons_succ, List.set_cons_zero]; rfl)
  have c6_12 : Below w6.heap.size w6 w12 := (((((c6_7.trans (hb8.mono (by omega))).trans (hb9.mono (by omega))).trans (hb10.mono (by omega))).trans (hb11.mono (by omega))).trans (hb12.mono (by omega)))
  refine plan_call _ 32 _ _ _ _ _ rfl _ Try.func32 (by kernel_rfl) (by kernel_rfl) ?_ True.intro
  show Calls Try.prog 32 #[.agg #[.slice y12_0 x0.length y12_1], .agg #[.slice y23_0 x0.length y23_1]] _ _
  refine (eqUnionFind_c _ _ x0 _ ((ou11.below c6_12 (Nat.le_refl _)).at_ (by omega)) ((ou22.below (Below.refl w12.heap.size w12) (Nat.le_refl _)).at_ (Nat.le_refl _))).mono ?_
  rintro e w13 ⟨rfl, hb13⟩
  have z13 : w12.heap.size ≤ w13.heap.size := hb13.size
  have c10_13 : Below w10.heap.size w10 w13 := (c10_12.trans (hb13.mono (by omega)))
  refine ⟨_, rfl, fun _ => ⟨⟨_, c10_13⟩, rfl⟩, ?_⟩
  refine plan_put ?_ (by simp only [Act.put, List.setIfInBounds_toArray, List.set_cons_succ, List.set_cons_zero]; rfl)
  refine plan_look _ rfl rfl ?_
  go_big_quiet_step (fail)
  refine wpQuiet_nil ?_
  refine plan_done ?_
  clear gf20 gf21
  have c7_13 : Below (w6.alloc (.cells #[.slice y12_0 x0.length y12_1] 26)).heap.size (w6.alloc (.cells #[.slice y12_0 x0.length y12_1] 26)) w13 := (((c7_10.trans (hb11.mono (by omega))).trans (hb12.mono (by omega))).trans (hb13.mono (by omega)))
  have f24 : w13.cell? ⟨w6.heap.size, 0, none⟩ = some (.slice y12_0 x0.length y12_1) := ((c7_13).cell (p := ⟨w6.heap.size, 0, none⟩) (by show w6.heap.size < _; omega)).trans K13.out
  have c6_13 : Below w6.heap.size w6 w13 := (c6_12.trans (hb13.mono (by omega)))
  have c8_13 : Below w8.heap.size w8 w13 := ((((c8_9.trans (hb10.mono (by omega))).trans (hb11.mono (by omega))).trans (hb12.mono (by omega))).trans (hb13.mono (by omega)))
  have c9_13 : Below (w8.alloc (.cells #[.slice y16_0 (Union_r0 x0 n1 n2).length y16_1] 26)).heap.size (w8.alloc (.cells #[.slice y16_0 (Union_r0 x0 n1 n2).length y16_1] 26)) w13 := (((hb10.trans (hb11.mono (by omega))).trans (hb12.mono (by omega))).trans (hb13.mono (by omega)))
  go_wp2_with fail
  refine (markUnionFind_c _ _ _ x0 (1) _ (ou11.below c6_13 (Nat.le_refl _)) S0 (by omega) (by omega)).mono ?_
  rintro e w14 ⟨rfl, om14, hb14⟩
  have om14_g0 := (p15_0.below c8_13 (Nat.le_refl _)).chg hb14 (by omega)
  have z14 : w13.heap.size ≤ w14.heap.size := hb14.size
  clear f24
  have K25 := Lib.hid ((hb14.mid_cell (b := w6.heap.size) (o := 0) (by omega) (by omega)).trans (((c7_13).cell (p := ⟨w6.heap.size, 0, none⟩) (by show w6.heap.size < _; omega)).trans K13.out))
  have K26 := Lib.hid ((hb14.mid_cell (b := w8.heap.size) (o := 0) (by omega) (by omega)).trans (((c9_13).cell (p := ⟨w8.heap.size, 0, none⟩) (by show w8.heap.size < _; omega)).trans K17.out))
  have f27 : w14.cell? ⟨w8.heap.size, 0, none⟩ = some (.slice y16_0 (Union_r0 x0 n1 n2).length y16_1) := K26.out
  have c5_14 : Below (w4.alloc (.cells #[.slice y8_0 (Union_r0 x0 n1 n2).length y8_1] 26)).heap.size (w4.alloc (.cells #[.slice y8_0 (Union_r0 x0 n1 n2).length y8_1] 26)) w14 := (((((c5_9.trans (hb10.mono (by omega))).trans (hb11.mono (by omega))).trans (hb12.mono (by omega))).trans (hb13.mono (by omega))).trans (hb14.mid_below (by omega) (by omega)))
  have f28 : w14.cell? ⟨w4.heap.size, 0, none⟩ = some (.slice y8_0 (Union_r0 x0 n1 n2).length y8_1) := ((c5_14).cell (p := ⟨w4.heap.size, 0, none⟩) (by show w4.heap.size < _; omega)).trans K9.out
  have c4_14 : Below w4.heap.size w4 w14 := (((((c4_9.trans (hb10.mono (by omega))).trans (hb11.mono (by omega))).trans (hb12.mono (by omega))).trans (hb13.mono (by omega))).trans (hb14.mid_below (by omega) (by omega)))
  go_wp2_with fail
  refine (eqUnionFind_c _ _ (Union_r0 x0 n1 n2) _ ((om14_g0.below (Below.refl w14.heap.size w14) (by omega)).at_ (by omega)) ((p7_0.below c4_14 (Nat.le_refl _)).more c4_14.size)).mono ?_
  rintro e w15 ⟨rfl, hb15⟩
  have z15 : w14.heap.size ≤ w15.heap.size := hb15.size
  clear f27 f28
  have c14_15 : Below w14.heap.size w14 w15 := hb15
  have f29 : w15.cell? ⟨w8.heap.size, 0, none⟩ = some (.slice y16_0 (Union_r0 x0 n1 n2).length y16_1) := ((c14_15).cell (p := ⟨w8.heap.size, 0, none⟩) (by show w8.heap.size < _; omega)).trans K26.out
  go_wp2_with fail
  refine (markUnionFind_c _ _ _ (Union_r0 x0 n1 n2) (1) _ (om14_g0.below c14_15 (by omega)) q15_0 (by omega) (by omega)).mono ?_
  rintro e w16 ⟨rfl, om16, hb16⟩
  have om16_tu11 := (om14.below c14_15 (by omega)).chg hb16 (by omega)
  have z16 : w15.heap.size ≤ w16.heap.size := hb16.size
  clear f29
  have K30 := Lib.hid ((hb16.mid_cell (b := w6.heap.size) (o := 0) (by omega) (by omega)).trans (((c14_15).cell (p := ⟨w6.heap.size, 0, none⟩) (by show w6.heap.size < _; omega)).trans K25.out))
  have K31 := Lib.hid ((hb16.mid_cell (b := w8.heap.size) (o := 0) (by omega) (by omega)).trans (((c14_15).cell (p := ⟨w8.heap.size, 0, none⟩) (by show w8.heap.size < _; omega)).trans K26.out))
  have f32 : w16.cell? ⟨w8.heap.size, 0, none⟩ = some (.slice y16_0 (Union_r0 x0 n1 n2).length y16_1) := K31.out
  go_wp2_with fail
  refine (heldUnionFind_c _ (Union_r0 x0 n1 n2) (1) _ ((om16.below (Below.refl w16.heap.size w16) (by omega)).at_ (by omega)) q15_0 (by omega) (by omega)).mono ?_
  rintro e w17 ⟨rfl, hb17⟩
  have z17 : w16.heap.size ≤ w17.heap.size := hb17.size
  clear f32
  have c1_17 : Below (w.alloc (.cells #[.slice v0_0 x0.length v0_1] 46)).heap.size (w.alloc (.cells #[.slice v0_0 x0.length v0_1] 46)) w17 := (((((((c1_10.trans (hb11.mono (by omega))).trans (hb12.mono (by omega))).trans (hb13.mono (by omega))).trans (hb14.mid_below (by omega) (by omega))).trans (hb15.mono (by omega))).trans (hb16.mid_below (by omega) (by omega))).trans (hb17.mono (by omega)))
  have f33 : w17.cell? ⟨w.heap.size, 0, none⟩ = some (.slice v0_0 x0.length v0_1) := ((c1_17).cell (p := ⟨w.heap.size, 0, none⟩) (by show w.heap.size < _; omega)).trans K1.out
  have c0_17 : Below w.heap.size w w17 := ((((((c0_11.trans (hb12.mono (by omega))).trans (hb13.mono (by omega))).trans (hb14.mid_below (by omega) (by omega))).trans (hb15.mono (by omega))).trans (hb16.mid_below (by omega) (by omega))).trans (hb17.mono (by omega)))
  go_wp2_with fail
  refine (toUnionFind_c _ x0 _ ((A0.out.below c0_17 (Nat.le_refl _)).more c0_17.size) S0).mono ?_
  rintro e w18 ⟨u34, rfl, ou34, hb18⟩
  have z18 : w17.heap.size ≤ w18.heap.size := hb18.size
  obtain ⟨y35_0, y35_1, rfl⟩ := UnionFind_form (ou34.at_ (Nat.le_refl _))
  go_wp2_with fail
  refine (implUnion_c _ x0 n1 n2 _ ((ou34.below (Below.refl w18.heap.size w18) (Nat.le_refl _)).at_ (Nat.le_refl _)) W0.out S0 hn1 hn2).mono ?_
  rintro e w19 ⟨r36_0, rfl, p36_0, q36_0, hb19⟩
  have z19 : w18.heap.size ≤ w19.heap.size := hb19.size
  have NC36_0 := UnionFind_cnt_le (Union_r0 x0 n1 n2)
  obtain ⟨y37_0, y37_1, rfl⟩ := UnionFind_form (p36_0.at_ (Nat.le_refl _))
  have hb20 : Below w19.heap.size w19 (w19.alloc (.cells #[.slice y37_0 (Union_r0 x0 n1 n2).length y37_1] 26)) := below_more (Below.refl _ _) _
  have z20 : w19.heap.size + 1 ≤ (w19.alloc (.cells #[.slice y37_0 (Union_r0 x0 n1 n2).length y37_1] 26)).heap.size := by simp
  have K38 := Lib.hid (show (w19.alloc (.cells #[.slice y37_0 (Union_r0 x0 n1 n2).length y37_1] 26)).cell? ⟨w19.heap.size, 0, none⟩ = some (.slice y37_0 (Union_r0 x0 n1 n2).length y37_1) by simp [go_sem])
  clear f33
  have f39 : (w19.alloc (.cells #[.slice y37_0 (Union_r0 x0 n1 n2).length y37_1] 26)).cell? ⟨w19.heap.size, 0, none⟩ = some (.slice y37_0 (Union_r0 x0 n1 n2).length y37_1) := K38.out
  have c5_20 : Below (w4.alloc (.cells #[.slice y8_0 (Union_r0 x0 n1 n2).length y8_1] 26)).heap.size (w4.alloc (.cells #[.slice y8_0 (Union_r0 x0 n1 n2).length y8_1] 26)) (w19.alloc (.cells #[.slice y37_0 (Union_r0 x0 n1 n2).length y37_1] 26)) := ((((((c5_14.trans (hb15.mono (by omega))).trans (hb16.mid_below (by omega) (by omega))).trans (hb17.mono (by omega))).trans (hb18.mono (by omega))).trans (hb19.mono (by omega))).trans (hb20.mono (by omega)))
  have f40 : (w19.alloc (.cells #[.slice y37_0 (Union_r0 x0 n1 n2).length y37_1] 26)).cell? ⟨w4.heap.size, 0, none⟩ = some (.slice y8_0 (Union_r0 x0 n1 n2).length y8_1) := ((c5_20).cell (p := ⟨w4.heap.size, 0, none⟩) (by show w4.heap.size < _; omega)).trans K9.out
  have c19_20 : Below w19.heap.size w19 (w19.alloc (.cells #[.slice y37_0 (Union_r0 x0 n1 n2).length y37_1] 26)) := hb20
  have c4_20 : Below w4.heap.size w4 (w19.alloc (.cells #[.slice y37_0 (Union_r0 x0 n1 n2).length y37_1] 26)) := ((((((c4_14.trans (hb15.mono (by omega))).trans (hb16.mid_below (by omega) (by omega))).trans (hb17.mono (by omega))).trans (hb18.mono (by omega))).trans (hb19.mono (by omega))).trans (hb20.mono (by omega)))
  go_wp2_with fail
  refine (eqUnionFind_c _ _ (Union_r0 x0 n1 n2) _ ((p36_0.below c19_20 (Nat.le_refl _)).at_ (by omega)) ((p7_0.below c4_20 (Nat.le_refl _)).more c4_20.size)).mono ?_
  rintro e w21 ⟨rfl, hb21⟩
  have z21 : (w19.alloc (.cells #[.slice y37_0 (Union_r0 x0 n1 n2).length y37_1] 26)).heap.size ≤ w21.heap.size := hb21.size
  clear f39 f40
  have c16_21 : Below w16.heap.size w16 w21 := ((((hb17.trans (hb18.mono (by omega))).trans (hb19.mono (by omega))).trans (hb20.mono (by omega))).trans (hb21.mono (by omega)))
  have f41 : w21.cell? ⟨w8.heap.size, 0, none⟩ = some (.slice y16_0 (Union_r0 x0 n1 n2).length y16_1) := ((c16_21).cell (p := ⟨w8.heap.size, 0, none⟩) (by show w8.heap.size < _; omega)).trans K31.out
  go_wp2_with fail
  refine (heldUnionFind_c _ (Union_r0 x0 n1 n2) (1) _ ((om16.below c16_21 (by omega)).at_ (by omega)) q36_0 (by omega) (by omega)).mono ?_
  rintro e w22 ⟨rfl, hb22⟩
  have z22 : w21.heap.size ≤ w22.heap.size := hb22.size
  clear f41
  have c0_22 : Below w.heap.size w w22 := (((((c0_17.trans (hb18.mono (by omega))).trans (hb19.mono (by omega))).trans (hb20.mono (by omega))).trans (hb21.mono (by omega))).trans (hb22.mono (by omega)))
  go_wp2
  go_ret
  exact ⟨rfl, c0_22⟩

theorem ty : ∀ t ∈ Try.f8.params.toList, Try.prog.readableRec t = true ∧ t < Try.prog.types.size := by
  rw [Try.params8]; intro t ht
  simp only [List.mem_cons, List.not_mem_nil, or_false] at ht
  rcases ht with rfl | rfl | rfl <;> exact ⟨by kernel_rfl, of_decide_eq_true (by kernel_rfl)⟩
set_option maxRecDepth 100000 in
theorem lifted (os : Os) (started : os.Started) (H : Type) (enc : TypeId × Value → H) :
    ReturnsInHanded {} Try.checked os 8 .any (Rows.fnExactUnionSpec.pre6 enc Try.prog Try.f8 Rows.fnExactUnionRow.domain false) (Rows.fnExactUnionSpec.post enc Try.prog Try.f8 false true false false) := by
  refine returnsInHanded_of_change (C := Try.checked) ownFact started (by kernel_rfl) Try.func8
    (ChangeSpec.witness6 (enc := enc) (C := Try.checked) false ⟨#[], #[.agg #[.slice none 0 0], .int .i64 0, .int .i64 0], []⟩ 8 (by kernel_rfl) (by kernel_rfl) (by kernel_rfl) (by kernel_rfl)) ?_
  intro W base args ds gs before hval0 hW hcnd _
  have hval : ∀ (j : Nat) t v, Try.f8.params[j]? = some t → args[j]? = some v → Value.okWide Try.prog W .any base t v := hval0
  have hW' := hW
  obtain ⟨p, q, hA0, hV, _, hfz, hnd⟩ := hW
  have hA : DataW.TrodAll enc Try.prog W 0 (fun _ => true) true Try.f8.params.toList args.toList ds p := hA0
  rw [Try.params8] at hA hval
  obtain ⟨v0, vs0, d0, ds0, p0, q0, hargs, rfl, _, h0, r0⟩ := trodAll_cons hA
  obtain ⟨v1, vs1, d1, ds1, p1, q1, rfl, rfl, _, h1, r1⟩ := trodAll_cons r0
  obtain ⟨v2, vs2, d2, ds2, p2, q2, rfl, rfl, _, h2, r2⟩ := trodAll_cons r1
  obtain ⟨rfl, rfl, _⟩ := trodAll_nil r2
  obtain rfl : args = #[v0, v1, v2] := by cases args; simp_all
  obtain ⟨rfl, _⟩ := trodVars_none hV
  obtain ⟨x0, hx0, hwx0⟩ := open_UnionFind (hval 0 _ v0 rfl rfl) h0 (DataW.TrodAll.lt (trodAll_mk1 h0))
  obtain ⟨a1, rfl, _, _, wa1⟩ := open_int Try.underlying3 (hval 1 3 v1 rfl rfl) h1
  obtain ⟨a2, rfl, _, _, wa2⟩ := open_int Try.underlying3 (hval 2 3 v2 rfl rfl) h2
  refine (walk v0 x0 a1 ⟨i64_ge wa1, i64_le wa1⟩ a2 ⟨i64_ge wa2, i64_le wa2⟩ W hx0 hwx0).mono fun e W' ⟨he, hb⟩ => ?_
  subst he
  exact ⟨_, rfl, law_post laidFact ty Try.underlying4 (by kernel_rfl) rfl hW' rfl hb⟩
theorem holds : Rows.FnExactUnionSaid :=
  OpenClaim.holds_of_wide 8 Try.f8 rfl rfl rfl rfl rfl rfl rfl ⟨rfl, rfl, rfl, rfl, rfl⟩ rfl rfl rfl rfl rfl (by kernel_rfl) Try.func8 (by kernel_rfl)
    (of_decide_eq_true (by kernel_rfl)) (by unfold Func.isWrapper; first | (rw [if_pos (by decide +kernel)]; kernel_rfl) | (rw [if_neg (by decide +kernel)]; exact ⟨rfl, rfl⟩))
    (fun os started H enc _ => lifted os started H enc)
end lawFnExactUnion

end Go.Proofs.Ytalijnfbopcmeaa
