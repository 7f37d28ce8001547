/-
  FnExactEqualUnionFinds: for every argument the translated law returns true, and each argument reads afterwards as it read before. Conditions: none beyond the given row's own.
-/
import Derived.Test.YtalijnfbopcmeaaPlan
import Derived.Test.YtalijnfbopcmeaaLift
import Derived.Test.YtalijnfbopcmeaaUfC
import Derived.Test.YtalijnfbopcmeaaUfE
import Derived.Test.YtalijnfbopcmeaaUfEI
namespace Go.Proofs.Ytalijnfbopcmeaa
open Go.RowKit Go.ChangeShapes Go.WideShapes Go.ChangeAt Go.ChangeMaps

namespace lawFnExactEqualUnionFinds

set_option maxRecDepth 100000 in
set_option maxHeartbeats 1600000 in
theorem walk (v0 : Value) (x0 : List Int) (v1 : Value) (x1 : List Int) (w : World) (h0 : UnionFind_at w w.heap.size v0 x0) (hw0 : UnionFind_wf x0) (h1 : UnionFind_at w w.heap.size v1 x1) (hw1 : UnionFind_wf x1) :
    Calls Try.prog 11 #[v0, v1] w fun e w' => e = .returned (.bool true) ∧ Below w.heap.size w w' := by
  obtain ⟨v0_0, v0_1, rfl⟩ := UnionFind_form h0
  have A0 := Lib.hid h0
  have W0 := Lib.hid hw0
  clear h0 hw0
  obtain ⟨v1_0, v1_1, rfl⟩ := UnionFind_form h1
  have A1 := Lib.hid h1
  have W1 := Lib.hid hw1
  clear h1 hw1
  by_cases hz1 : ((UnionFind_sz x0 : Nat) : Int) ≤ 1048576
  rotate_left
  · skip
    have e1 := szLeft_no hz1
    have hb1 : Below w.heap.size w ((w.alloc (.cells #[.slice v0_0 x0.length v0_1] 46)).alloc (.cells #[.slice v1_0 x1.length v1_1] 46)) := below_more (below_more (Below.refl _ _) _) _
    have z1 : w.heap.size + 2 ≤ ((w.alloc (.cells #[.slice v0_0 x0.length v0_1] 46)).alloc (.cells #[.slice v1_0 x1.length v1_1] 46)).heap.size := by simp
    have K1 := Lib.hid (show ((w.alloc (.cells #[.slice v0_0 x0.length v0_1] 46)).alloc (.cells #[.slice v1_0 x1.length v1_1] 46)).cell? ⟨w.heap.size, 0, none⟩ = some (.slice v0_0 x0.length v0_1) by simp [go_sem])
    have K2 := Lib.hid (show ((w.alloc (.cells #[.slice v0_0 x0.length v0_1] 46)).alloc (.cells #[.slice v1_0 x1.length v1_1] 46)).cell? ⟨w.heap.size + 1, 0, none⟩ = some (.slice v1_0 x1.length v1_1) by simp [go_sem])
    go_enter Try.func11, Try.ntmps11
    have f3 : ((w.alloc (.cells #[.slice v0_0 x0.length v0_1] 46)).alloc (.cells #[.slice v1_0 x1.length v1_1] 46)).cell? ⟨w.heap.size, 0, none⟩ = some (.slice v0_0 x0.length v0_1) := K1.out
    have c0_1 : Below w.heap.size w ((w.alloc (.cells #[.slice v0_0 x0.length v0_1] 46)).alloc (.cells #[.slice v1_0 x1.length v1_1] 46)) := hb1
    go_wp2_with fail
    refine (szUnionFind_c _ x0 (1048576) _ ((A0.out.below c0_1 (Nat.le_refl _)).more c0_1.size) W0.out (by omega) (by omega)).mono ?_
    rw [e1]
    rintro e w2 ⟨rfl, hb2⟩
    have z2 : ((w.alloc (.cells #[.slice v0_0 x0.length v0_1] 46)).alloc (.cells #[.slice v1_0 x1.length v1_1] 46)).heap.size ≤ w2.heap.size := hb2.size
    clear f3
    have c0_2 : Below w.heap.size w w2 := (c0_1.trans (hb2.mono (by omega)))
    go_wp2
    go_ret
    exact ⟨rfl, c0_2⟩
  by_cases hz2 : ((UnionFind_sz x1 : Nat) : Int) ≤ 1048576 - (UnionFind_sz x0 : Nat)
  rotate_left
  · skip
    have e1 := szLeft_yes hz1
    have e2 := szLeft_no hz2
    have hb1 : Below w.heap.size w ((w.alloc (.cells #[.slice v0_0 x0.length v0_1] 46)).alloc (.cells #[.slice v1_0 x1.length v1_1] 46)) := below_more (below_more (Below.refl _ _) _) _
    have z1 : w.heap.size + 2 ≤ ((w.alloc (.cells #[.slice v0_0 x0.length v0_1] 46)).alloc (.cells #[.slice v1_0 x1.length v1_1] 46)).heap.size := by simp
    have K1 := Lib.hid (show ((w.alloc (.cells #[.slice v0_0 x0.length v0_1] 46)).alloc (.cells #[.slice v1_0 x1.length v1_1] 46)).cell? ⟨w.heap.size, 0, none⟩ = some (.slice v0_0 x0.length v0_1) by simp [go_sem])
    have K2 := Lib.hid (show ((w.alloc (.cells #[.slice v0_0 x0.length v0_1] 46)).alloc (.cells #[.slice v1_0 x1.length v1_1] 46)).cell? ⟨w.heap.size + 1, 0, none⟩ = some (.slice v1_0 x1.length v1_1) by simp [go_sem])
    go_enter Try.func11, Try.ntmps11
    have f4 : ((w.alloc (.cells #[.slice v0_0 x0.length v0_1] 46)).alloc (.cells #[.slice v1_0 x1.length v1_1] 46)).cell? ⟨w.heap.size, 0, none⟩ = some (.slice v0_0 x0.length v0_1) := K1.out
    have c0_1 : Below w.heap.size w ((w.alloc (.cells #[.slice v0_0 x0.length v0_1] 46)).alloc (.cells #[.slice v1_0 x1.length v1_1] 46)) := hb1
    go_wp2_with fail
    refine (szUnionFind_c _ x0 (1048576) _ ((A0.out.below c0_1 (Nat.le_refl _)).more c0_1.size) W0.out (by omega) (by omega)).mono ?_
    rw [e1]
    rintro e w2 ⟨rfl, hb2⟩
    have z2 : ((w.alloc (.cells #[.slice v0_0 x0.length v0_1] 46)).alloc (.cells #[.slice v1_0 x1.length v1_1] 46)).heap.size ≤ w2.heap.size := hb2.size
    clear f4
    have c1_2 : Below ((w.alloc (.cells #[.slice v0_0 x0.length v0_1] 46)).alloc (.cells #[.slice v1_0 x1.length v1_1] 46)).heap.size ((w.alloc (.cells #[.slice v0_0 x0.length v0_1] 46)).alloc (.cells #[.slice v1_0 x1.length v1_1] 46)) w2 := hb2
    have f5 : w2.cell? ⟨w.heap.size + 1, 0, none⟩ = some (.slice v1_0 x1.length v1_1) := ((c1_2).cell (p := ⟨w.heap.size + 1, 0, none⟩) (by show w.heap.size + 1 < _; omega)).trans K2.out
    have c0_2 : Below w.heap.size w w2 := (c0_1.trans (hb2.mono (by omega)))
    go_wp2_with fail
    refine (szUnionFind_c _ x1 (1048576 - (UnionFind_sz x0 : Nat)) _ ((A1.out.below c0_2 (Nat.le_refl _)).more c0_2.size) W1.out (by omega) (by omega)).mono ?_
    rw [e2]
    rintro e w3 ⟨rfl, hb3⟩
    have z3 : w2.heap.size ≤ w3.heap.size := hb3.size
    clear f5
    have c0_3 : Below w.heap.size w w3 := (c0_2.trans (hb3.mono (by omega)))
    go_wp2
    go_ret
    exact ⟨rfl, c0_3⟩
  have e1 := szLeft_yes hz1
  have S0 : UnionFind_sz x0 ≤ 1048576 := by omega
  have N0 := UnionFind_cnt_le x0
  have e2 := szLeft_yes hz2
  have S1 : UnionFind_sz x1 ≤ 1048576 := by omega
  have N1 := UnionFind_cnt_le x1
  have hb1 : Below w.heap.size w ((w.alloc (.cells #[.slice v0_0 x0.length v0_1] 46)).alloc (.cells #[.slice v1_0 x1.length v1_1] 46)) := below_more (below_more (Below.refl _ _) _) _
  have z1 : w.heap.size + 2 ≤ ((w.alloc (.cells #[.slice v0_0 x0.length v0_1] 46)).alloc (.cells #[.slice v1_0 x1.length v1_1] 46)).heap.size := by simp
  have K1 := Lib.hid (show ((w.alloc (.cells #[.slice v0_0 x0.length v0_1] 46)).alloc (.cells #[.slice v1_0 x1.length v1_1] 46)).cell? ⟨w.heap.size, 0, none⟩ = some (.slice v0_0 x0.length v0_1) by simp [go_sem])
  have K2 := Lib.hid (show ((w.alloc (.cells #[.slice v0_0 x0.length v0_1] 46)).alloc (.cells #[.slice v1_0 x1.length v1_1] 46)).cell? ⟨w.heap.size + 1, 0, none⟩ = some (.slice v1_0 x1.length v1_1) by simp [go_sem])
  go_enter Try.func11, Try.ntmps11
  have f6 : ((w.alloc (.cells #[.slice v0_0 x0.length v0_1] 46)).alloc (.cells #[.slice v1_0 x1.length v1_1] 46)).cell? ⟨w.heap.size, 0, none⟩ = some (.slice v0_0 x0.length v0_1) := K1.out
  have c0_1 : Below w.heap.size w ((w.alloc (.cells #[.slice v0_0 x0.length v0_1] 46)).alloc (.cells #[.slice v1_0 x1.length v1_1] 46)) := hb1
  go_wp2_with fail
  refine (szUnionFind_c _ x0 (1048576) _ ((A0.out.below c0_1 (Nat.le_refl _)).more c0_1.size) W0.out (by omega) (by omega)).mono ?_
  rw [e1]
  rintro e w2 ⟨rfl, hb2⟩
  have z2 : ((w.alloc (.cells #[.slice v0_0 x0.length v0_1] 46)).alloc (.cells #[.slice v1_0 x1.length v1_1] 46)).heap.size ≤ w2.heap.size := hb2.size
  clear f6
  have c1_2 : Below ((w.alloc (.cells #[.slice v0_0 x0.length v0_1] 46)).alloc (.cells #[.slice v1_0 x1.length v1_1] 46)).heap.size ((w.alloc (.cells #[.slice v0_0 x0.length v0_1] 46)).alloc (.cells #[.slice v1_0 x1.length v1_1] 46)) w2 := hb2
  have f7 : w2.cell? ⟨w.heap.size + 1, 0, none⟩ = some (.slice v1_0 x1.length v1_1) := ((c1_2).cell (p := ⟨w.heap.size + 1, 0, none⟩) (by show w.heap.size + 1 < _; omega)).trans K2.out
  have c0_2 : Below w.heap.size w w2 := (c0_1.trans (hb2.mono (by omega)))
  go_wp2_with fail
  refine (szUnionFind_c _ x1 (1048576 - (UnionFind_sz x0 : Nat)) _ ((A1.out.below c0_2 (Nat.le_refl _)).more c0_2.size) W1.out (by omega) (by omega)).mono ?_
  rw [e2]
  rintro e w3 ⟨rfl, hb3⟩
  have z3 : w2.heap.size ≤ w3.heap.size := hb3.size
  clear f7
  go_wp2_with fail
  have c1_3 : Below ((w.alloc (.cells #[.slice v0_0 x0.length v0_1] 46)).alloc (.cells #[.slice v1_0 x1.length v1_1] 46)).heap.size ((w.alloc (.cells #[.slice v0_0 x0.length v0_1] 46)).alloc (.cells #[.slice v1_0 x1.length v1_1] 46)) w3 := (c1_2.trans (hb3.mono (by omega)))
  have f8 : w3.cell? ⟨w.heap.size, 0, none⟩ = some (.slice v0_0 x0.length v0_1) := ((c1_3).cell (p := ⟨w.heap.size, 0, none⟩) (by show w.heap.size < _; omega)).trans K1.out
  have gf8 := Aft.cell (B := w3.heap.size) (by omega) f8
  clear f8
  have f9 : w3.cell? ⟨w.heap.size + 1, 0, none⟩ = some (.slice v1_0 x1.length v1_1) := ((c1_3).cell (p := ⟨w.heap.size + 1, 0, none⟩) (by show w.heap.size + 1 < _; omega)).trans K2.out
  have gf9 := Aft.cell (B := w3.heap.size) (by omega) f9
  clear f9
  refine wp_region_plan (C := fun w' => ∃ u : Aft w3.heap.size w3, w' = u.now) (.still 0 (.move true 1 (.still 2 (.move true 3 (.move true 4 (.still 5 .done) .none) .none)) .none)) (by kernel_rfl) (by kernel_rfl) (by kernel_rfl) (fun _ => ⟨⟨_, (Below.refl _ _).drew⟩, rfl⟩) ?_
  have hb4 : Below w3.heap.size w3 w3.drew := (Below.refl _ _).drew
  have z4 : w3.drew.heap.size = w3.heap.size := rfl
  have c0_4 : Below w.heap.size w w3.drew := ((c0_2.trans (hb3.mono (by omega))).trans (hb4.mono (by omega)))
  refine plan_look _ rfl rfl ?_
  go_big_quiet_step (fail)
  refine wpQuiet_nil ?_
  refine plan_call _ 36 _ _ _ _ _ rfl _ Try.func36 (by kernel_rfl) (by kernel_rfl) ?_ True.intro
  show Calls Try.prog 36 #[.agg #[.slice v0_0 x0.length v0_1]] _ _
  refine (toUnionFind_c _ x0 _ ((A0.out.below c0_4 (Nat.le_refl _)).more c0_4.size) S0).mono ?_
  rintro e w5 ⟨u10, rfl, ou10, hb5⟩
  have z5 : w3.drew.heap.size ≤ w5.heap.size := hb5.size
  obtain ⟨y11_0, y11_1, rfl⟩ := UnionFind_form (ou10.at_ (Nat.le_refl _))
  have c3_5 : Below w3.heap.size w3 w5 := (hb4.trans (hb5.mono (by omega)))
  refine ⟨_, rfl, fun _ => ⟨⟨_, c3_5⟩, rfl⟩, ?_⟩
  refine plan_put ?_ (by simp only [Act.put, List.setIfInBounds_toArray, List.set_cons_succ, List.set_cons_zero]; rfl)
  have c0_5 : Below w.heap.size w w5 := (c0_4.trans (hb5.mono (by omega)))
  refine plan_look _ rfl rfl ?_
  go_big_quiet_step (fail)
  refine wpQuiet_nil ?_
  refine plan_call _ 36 _ _ _ _ _ rfl _ Try.func36 (by kernel_rfl) (by kernel_rfl) ?_ True.intro
  show Calls Try.prog 36 #[.agg #[.slice v1_0 x1.length v1_1]] _ _
  refine (toUnionFind_c _ x1 _ ((A1.out.below c0_5 (Nat.le_refl _)).more c0_5.size) S1).mono ?_
  rintro e w6 ⟨u12, rfl, ou12, hb6⟩
  have z6 : w5.heap.size ≤ w6.heap.size := hb6.size
  obtain ⟨y13_0, y13_1, rfl⟩ := UnionFind_form (ou12.at_ (Nat.le_refl _))
  have c3_6 : Below w3.heap.size w3 w6 := (c3_5.trans (hb6.mono (by omega)))
  refine ⟨_, rfl, fun _ => ⟨⟨_, c3_6⟩, rfl⟩, ?_⟩
  refine plan_put ?_ (by simp only [Act.put, List.setIfInBounds_toArray, List.set_cons_succ, List.set_cons_zero]; rfl)
  have c5_6 : Below w5.heap.size w5 w6 := hb6
  refine plan_call _ 16 _ _ _ _ _ rfl _ Try.func16 (by kernel_rfl) (by kernel_rfl) ?_ True.intro
  show Calls Try.prog 16 #[.agg #[.slice y11_0 x0.length y11_1], .agg #[.slice y13_0 x1.length y13_1]] _ _
  refine (specEqualUnionFinds_c _ x0 _ x1 _ ((ou10.below c5_6 (Nat.le_refl _)).at_ (by omega)) W0.out S0 ((ou12.below (Below.refl w6.heap.size w6) (Nat.le_refl _)).at_ (Nat.le_refl _)) W1.out S1).mono ?_
  rintro e w7 ⟨rfl, hb7⟩
  have z7 : w6.heap.size ≤ w7.heap.size := hb7.size
  have c3_7 : Below w3.heap.size w3 w7 := (c3_6.trans (hb7.mono (by omega)))
  refine ⟨_, rfl, fun _ => ⟨⟨_, c3_7⟩, rfl⟩, ?_⟩
  refine plan_put ?_ (by simp only [Act.put, List.setIfInBounds_toArray, List.set_cons_succ, List.set_cons_zero]; rfl)
  refine plan_look _ rfl rfl ?_
  go_big_quiet_step (fail)
  refine wpQuiet_nil ?_
  refine plan_done ?_
  clear gf8 gf9
  have c1_7 : Below ((w.alloc (.cells #[.slice v0_0 x0.length v0_1] 46)).alloc (.cells #[.slice v1_0 x1.length v1_1] 46)).heap.size ((w.alloc (.cells #[.slice v0_0 x0.length v0_1] 46)).alloc (.cells #[.slice v1_0 x1.length v1_1] 46)) w7 := ((((c1_3.trans (hb4.mono (by omega))).trans (hb5.mono (by omega))).trans (hb6.mono (by omega))).trans (hb7.mono (by omega)))
  have f15 : w7.cell? ⟨w.heap.size, 0, none⟩ = some (.slice v0_0 x0.length v0_1) := ((c1_7).cell (p := ⟨w.heap.size, 0, none⟩) (by show w.heap.size < _; omega)).trans K1.out
  have c0_7 : Below w.heap.size w w7 := ((c0_5.trans (hb6.mono (by omega))).trans (hb7.mono (by omega)))
  go_wp2_with fail
  refine (toUnionFind_c _ x0 _ ((A0.out.below c0_7 (Nat.le_refl _)).more c0_7.size) S0).mono ?_
  rintro e w8 ⟨u16, rfl, ou16, hb8⟩
  have z8 : w7.heap.size ≤ w8.heap.size := hb8.size
  obtain ⟨y17_0, y17_1, rfl⟩ := UnionFind_form (ou16.at_ (Nat.le_refl _))
  have hb9 : Below w8.heap.size w8 (w8.alloc (.cells #[.slice y17_0 x0.length y17_1] 26)) := below_more (Below.refl _ _) _
  have z9 : w8.heap.size + 1 ≤ (w8.alloc (.cells #[.slice y17_0 x0.length y17_1] 26)).heap.size := by simp
  have K18 := Lib.hid (show (w8.alloc (.cells #[.slice y17_0 x0.length y17_1] 26)).cell? ⟨w8.heap.size, 0, none⟩ = some (.slice y17_0 x0.length y17_1) by simp [go_sem])
  clear f15
  have c1_9 : Below ((w.alloc (.cells #[.slice v0_0 x0.length v0_1] 46)).alloc (.cells #[.slice v1_0 x1.length v1_1] 46)).heap.size ((w.alloc (.cells #[.slice v0_0 x0.length v0_1] 46)).alloc (.cells #[.slice v1_0 x1.length v1_1] 46)) (w8.alloc (.cells #[.slice y17_0 x0.length y17_1] 26)) := ((c1_7.trans (hb8.mono (by omega))).trans (hb9.mono (by omega)))
  have f19 : (w8.alloc (.cells #[.slice y17_0 x0.length y17_1] 26)).cell? ⟨w.heap.size + 1, 0, none⟩ = some (.slice v1_0 x1.length v1_1) := ((c1_9).cell (p := ⟨w.heap.size + 1, 0, none⟩) (by show w.heap.size + 1 < _; omega)).trans K2.out
  have c0_9 : Below w.heap.size w (w8.alloc (.cells #[.slice y17_0 x0.length y17_1] 26)) := ((c0_7.trans (hb8.mono (by omega))).trans (hb9.mono (by omega)))
  go_wp2_with fail
  refine (toUnionFind_c _ x1 _ ((A1.out.below c0_9 (Nat.le_refl _)).more c0_9.size) S1).mono ?_
  rintro e w10 ⟨u20, rfl, ou20, hb10⟩
  have z10 : (w8.alloc (.cells #[.slice y17_0 x0.length y17_1] 26)).heap.size ≤ w10.heap.size := hb10.size
  obtain ⟨y21_0, y21_1, rfl⟩ := UnionFind_form (ou20.at_ (Nat.le_refl _))
  have hb11 : Below w10.heap.size w10 (w10.alloc (.cells #[.slice y21_0 x1.length y21_1] 26)) := below_more (Below.refl _ _) _
  have z11 : w10.heap.size + 1 ≤ (w10.alloc (.cells #[.slice y21_0 x1.length y21_1] 26)).heap.size := by simp
  have K22 := Lib.hid (show (w10.alloc (.cells #[.slice y21_0 x1.length y21_1] 26)).cell? ⟨w10.heap.size, 0, none⟩ = some (.slice y21_0 x1.length y21_1) by simp [go_sem])
  clear f19
  have c9_11 : Below (w8.alloc (.cells #[.slice y17_0 x0.length y17_1] 26)).heap.size (w8.alloc (.cells #[.slice y17_0 x0.length y17_1] 26)) (w10.alloc (.cells #[.slice y21_0 x1.length y21_1] 26)) := (hb10.trans (hb11.mono (by omega)))
  have f23 : (w10.alloc (.cells #[.slice y21_0 x1.length y21_1] 26)).cell? ⟨w8.heap.size, 0, none⟩ = some (.slice y17_0 x0.length y17_1) := ((c9_11).cell (p := ⟨w8.heap.size, 0, none⟩) (by show w8.heap.size < _; omega)).trans K18.out
  have f24 : (w10.alloc (.cells #[.slice y21_0 x1.length y21_1] 26)).cell? ⟨w10.heap.size, 0, none⟩ = some (.slice y21_0 x1.length y21_1) := K22.out
  have c8_11 : Below w8.heap.size w8 (w10.alloc (.cells #[.slice y21_0 x1.length y21_1] 26)) := ((hb9.trans (hb10.mono (by omega))).trans (hb11.mono (by omega)))
  have c10_11 : Below w10.heap.size w10 (w10.alloc (.cells #[.slice y21_0 x1.length y21_1] 26)) := hb11
  go_wp2_with fail
  refine (implEqualUnionFinds_c _ x0 _ x1 _ ((ou16.below c8_11 (Nat.le_refl _)).at_ (by omega)) W0.out S0 ((ou20.below c10_11 (Nat.le_refl _)).at_ (by omega)) W1.out S1).mono ?_
  rintro e w12 ⟨rfl, hb12⟩
  have z12 : (w10.alloc (.cells #[.slice y21_0 x1.length y21_1] 26)).heap.size ≤ w12.heap.size := hb12.size
  clear f23 f24
  go_wp2_with fail
  have c9_12 : Below (w8.alloc (.cells #[.slice y17_0 x0.length y17_1] 26)).heap.size (w8.alloc (.cells #[.slice y17_0 x0.length y17_1] 26)) w12 := (c9_11.trans (hb12.mono (by omega)))
  have f26 : w12.cell? ⟨w8.heap.size, 0, none⟩ = some (.slice y17_0 x0.length y17_1) := ((c9_12).cell (p := ⟨w8.heap.size, 0, none⟩) (by show w8.heap.size < _; omega)).trans K18.out
  have gf26 := Aft.cell (B := w12.heap.size) (by omega) f26
  clear f26
  have c1_12 : Below ((w.alloc (.cells #[.slice v0_0 x0.length v0_1] 46)).alloc (.cells #[.slice v1_0 x1.length v1_1] 46)).heap.size ((w.alloc (.cells #[.slice v0_0 x0.length v0_1] 46)).alloc (.cells #[.slice v1_0 x1.length v1_1] 46)) w12 := (((c1_9.trans (hb10.mono (by omega))).trans (hb11.mono (by omega))).trans (hb12.mono (by omega)))
  have f27 : w12.cell? ⟨w.heap.size, 0, none⟩ = some (.slice v0_0 x0.length v0_1) := ((c1_12).cell (p := ⟨w.heap.size, 0, none⟩) (by show w.heap.size < _; omega)).trans K1.out
  have gf27 := Aft.cell (B := w12.heap.size) (by omega) f27
  clear f27
  refine wp_region_plan (C := fun w' => ∃ u : Aft w12.heap.size w12, w' = u.now) (.still 0 (.still 1 (.move true 2 (.move true 3 (.still 4 .done) .none) .none))) (by kernel_rfl) (by kernel_rfl) (by kernel_rfl) (fun _ => ⟨⟨_, (Below.refl _ _).drew⟩, rfl⟩) ?_
  have hb13 : Below w12.heap.size w12 w12.drew := (Below.refl _ _).drew
  have z13 : w12.drew.heap.size = w12.heap.size := rfl
  have c0_13 : Below w.heap.size w w12.drew := ((((c0_9.trans (hb10.mono (by omega))).trans (hb11.mono (by omega))).trans (hb12.mono (by omega))).trans (hb13.mono (by omega)))
  refine plan_look _ rfl rfl ?_
  go_big_quiet_step (fail)
  refine wpQuiet_nil ?_
  refine plan_look _ rfl rfl ?_
  go_big_quiet_step (fail)
  refine wpQuiet_nil ?_
  refine plan_call _ 36 _ _ _ _ _ rfl _ Try.func36 (by kernel_rfl) (by kernel_rfl) ?_ True.intro
  show Calls Try.prog 36 #[.agg #[.slice v0_0 x0.length v0_1]] _ _
  refine (toUnionFind_c _ x0 _ ((A0.out.below c0_13 (Nat.le_refl _)).more c0_13.size) S0).mono ?_
  rintro e w14 ⟨u28, rfl, ou28, hb14⟩
  have z14 : w12.drew.heap.size ≤ w14.heap.size := hb14.size
  obtain ⟨y29_0, y29_1, rfl⟩ := UnionFind_form (ou28.at_ (Nat.le_refl _))
  have c12_14 : Below w12.heap.size w12 w14 := (hb13.trans (hb14.mono (by omega)))
  refine ⟨_, rfl, fun _ => ⟨⟨_, c12_14⟩, rfl⟩, ?_⟩
  refine plan_put ?_ (by simp only [Act.put, List.setIfInBounds_toArray, List.set_cons_succ, List.set_cons_zero]; rfl)
  have c8_14 : Below w8.heap.size w8 w14 := (((c8_11.trans (hb12.mono (by omega))).trans (hb13.mono (by omega))).trans (hb14.mono (by omega)))
  refine plan_call _ 32 _ _ _ _ _ rfl _ Try.func32 (by kernel_rfl) (by kernel_rfl) ?_ True.intro
  show Calls Try.prog 32 #[.agg #[.slice y17_0 x0.length y17_1], .agg #[.slice y29_0 x0.length y29_1]] _ _
  refine (eqUnionFind_c _ _ x0 _ ((ou16.below c8_14 (Nat.le_refl _)).at_ (by omega)) ((ou28.below (Below.refl w14.heap.size w14) (Nat.le_refl _)).at_ (Nat.le_refl _))).mono ?_
  rintro e w15 ⟨rfl, hb15⟩
  have z15 : w14.heap.size ≤ w15.heap.size := hb15.size
  have c12_15 : Below w12.heap.size w12 w15 := (c12_14.trans (hb15.mono (by omega)))
  refine ⟨_, rfl, fun _ => ⟨⟨_, c12_15⟩, rfl⟩, ?_⟩
  refine plan_put ?_ (by simp only [Act.put, List.setIfInBounds_toArray, List.set_cons_succ, List.set_cons_zero]; rfl)
  refine plan_look _ rfl rfl ?_
  go_big_quiet_step (fail)
  refine wpQuiet_nil ?_
  refine plan_done ?_
  clear gf26 gf27
  go_wp2_with fail
  have c11_15 : Below (w10.alloc (.cells #[.slice y21_0 x1.length y21_1] 26)).heap.size (w10.alloc (.cells #[.slice y21_0 x1.length y21_1] 26)) w15 := (((hb12.trans (hb13.mono (by omega))).trans (hb14.mono (by omega))).trans (hb15.mono (by omega)))
  have f30 : w15.cell? ⟨w10.heap.size, 0, none⟩ = some (.slice y21_0 x1.length y21_1) := ((c11_15).cell (p := ⟨w10.heap.size, 0, none⟩) (by show w10.heap.size < _; omega)).trans K22.out
  have gf30 := Aft.cell (B := w15.heap.size) (by omega) f30
  clear f30
  have c1_15 : Below ((w.alloc (.cells #[.slice v0_0 x0.length v0_1] 46)).alloc (.cells #[.slice v1_0 x1.length v1_1] 46)).heap.size ((w.alloc (.cells #[.slice v0_0 x0.length v0_1] 46)).alloc (.cells #[.slice v1_0 x1.length v1_1] 46)) w15 := (((c1_12.trans (hb13.mono (by omega))).trans (hb14.mono (by omega))).trans (hb15.mono (by omega)))
  have f31 : w15.cell? ⟨w.heap.size + 1, 0, none⟩ = some (.slice v1_0 x1.length v1_1) := ((c1_15).cell (p := ⟨w.heap.size + 1, 0, none⟩) (by show w.heap.size + 1 < _; omega)).trans K2.out
  have gf31 := Aft.cell (B := w15.heap.size) (by omega) f31
  clear f31
  refine wp_region_plan (C := fun w' => ∃ u : Aft w15.heap.size w15, w' = u.now) (.still 0 (.still 1 (.move true 2 (.move true 3 (.still 4 .done) .none) .none))) (by kernel_rfl) (by kernel_rfl) (by kernel_rfl) (fun _ => ⟨⟨_, (Below.refl _ _).drew⟩, rfl⟩) ?_
  have hb16 : Below w15.heap.size w15 w15.drew := (Below.refl _ _).drew
  have z16 : w15.drew.heap.size = w15.heap.size := rfl
  have c0_16 : Below w.heap.size w w15.drew := (((c0_13.trans (hb14.mono (by omega))).trans (hb15.mono (by omega))).trans (hb16.mono (by omega)))
  refine plan_look _ rfl rfl ?_
  go_big_quiet_step (fail)
  refine wpQuiet_nil ?_
  refine plan_look _ rfl rfl ?_
  go_big_quiet_step (fail)
  refine wpQuiet_nil ?_
  refine plan_call _ 36 _ _ _ _ _ rfl _ Try.func36 (by kernel_rfl) (by kernel_rfl) ?_ True.intro
  show Calls Try.prog 36 #[.agg #[.slice v1_0 x1.length v1_1]] _ _
  refine (toUnionFind_c _ x1 _ ((A1.out.below c0_16 (Nat.le_refl _)).more c0_16.size) S1).mono ?_
  rintro e w17 ⟨u32, rfl, ou32, hb17⟩
  have z17 : w15.drew.heap.size ≤ w17.heap.size := hb17.size
  obtain ⟨y33_0, y33_1, rfl⟩ := UnionFind_form (ou32.at_ (Nat.le_refl _))
  have c15_17 : Below w15.heap.size w15 w17 := (hb16.trans (hb17.mono (by omega)))
  refine ⟨_, rfl, fun _ => ⟨⟨_, c15_17⟩, rfl⟩, ?_⟩
  refine plan_put ?_ (by simp only [Act.put, List.setIfInBounds_toArray, List.set_cons_succ, List.set_cons_zero]; rfl)
  have c10_17 : Below w10.heap.size w10 w17 := ((((((c10_11.trans (hb12.mono (by omega))).trans (hb13.mono (by omega))).trans (hb14.mono (by omega))).trans (hb15.mono (by omega))).trans (hb16.mono (by omega))).trans (hb17.mono (by omega)))
  refine plan_call _ 32 _ _ _ _ _ rfl _ Try.func32 (by kernel_rfl) (by kernel_rfl) ?_ True.intro
  show Calls Try.prog 32 #[.agg #[.slice y21_0 x1.length y21_1], .agg #[.slice y33_0 x1.length y33_1]] _ _
  refine (eqUnionFind_c _ _ x1 _ ((ou20.below c10_17 (Nat.le_refl _)).at_ (by omega)) ((ou32.below (Below.refl w17.heap.size w17) (Nat.le_refl _)).at_ (Nat.le_refl _))).mono ?_
  rintro e w18 ⟨rfl, hb18⟩
  have z18 : w17.heap.size ≤ w18.heap.size := hb18.size
  have c15_18 : Below w15.heap.size w15 w18 := (c15_17.trans (hb18.mono (by omega)))
  refine ⟨_, rfl, fun _ => ⟨⟨_, c15_18⟩, rfl⟩, ?_⟩
  refine plan_put ?_ (by simp only [Act.put, List.setIfInBounds_toArray, List.set_cons_succ, List.set_cons_zero]; rfl)
  refine plan_look _ rfl rfl ?_
  go_big_quiet_step (fail)
  refine wpQuiet_nil ?_
  refine plan_done ?_
  clear gf30 gf31
  have c0_18 : Below w.heap.size w w18 := ((c0_16.trans (hb17.mono (by omega))).trans (hb18.mono (by omega)))
  go_wp2
  go_ret
  exact ⟨rfl, c0_18⟩

theorem ty : ∀ t ∈ Try.f11.params.toList, Try.prog.readableRec t = true ∧ t < Try.prog.types.size := by
  rw [Try.params11]; intro t ht
  simp only [List.mem_cons, List.not_mem_nil, or_false] at ht
  rcases ht with rfl | rfl <;> exact ⟨by kernel_rfl, of_decide_eq_true (by kernel_rfl)⟩
set_option maxRecDepth 100000 in
theorem lifted (os : Os) (started : os.Started) (H : Type) (enc : TypeId × Value → H) :
    ReturnsInHanded {} Try.checked os 11 .any (Rows.fnExactEqualUnionFindsSpec.pre6 enc Try.prog Try.f11 Rows.fnExactEqualUnionFindsRow.domain false) (Rows.fnExactEqualUnionFindsSpec.post enc Try.prog Try.f11 false true false false) := by
  refine returnsInHanded_of_change (C := Try.checked) ownFact started (by kernel_rfl) Try.func11
    (ChangeSpec.witness6 (enc := enc) (C := Try.checked) false ⟨#[], #[.agg #[.slice none 0 0], .agg #[.slice none 0 0]], []⟩ 8 (by kernel_rfl) (by kernel_rfl) (by kernel_rfl) (by kernel_rfl)) ?_
  intro W base args ds gs before hval0 hW hcnd _
  have hval : ∀ (j : Nat) t v, Try.f11.params[j]? = some t → args[j]? = some v → Value.okWide Try.prog W .any base t v := hval0
  have hW' := hW
  obtain ⟨p, q, hA0, hV, _, hfz, hnd⟩ := hW
  have hA : DataW.TrodAll enc Try.prog W 0 (fun _ => true) true Try.f11.params.toList args.toList ds p := hA0
  rw [Try.params11] at hA hval
  obtain ⟨v0, vs0, d0, ds0, p0, q0, hargs, rfl, _, h0, r0⟩ := trodAll_cons hA
  obtain ⟨v1, vs1, d1, ds1, p1, q1, rfl, rfl, _, h1, r1⟩ := trodAll_cons r0
  obtain ⟨rfl, rfl, _⟩ := trodAll_nil r1
  obtain rfl : args = #[v0, v1] := by cases args; simp_all
  obtain ⟨rfl, _⟩ := trodVars_none hV
  obtain ⟨x0, hx0, hwx0⟩ := open_UnionFind (hval 0 _ v0 rfl rfl) h0 (DataW.TrodAll.lt (trodAll_mk1 h0))
  obtain ⟨x1, hx1, hwx1⟩ := open_UnionFind (hval 1 _ v1 rfl rfl) h1 (DataW.TrodAll.lt (trodAll_mk1 h1))
  refine (walk v0 x0 v1 x1 W hx0 hwx0 hx1 hwx1).mono fun e W' ⟨he, hb⟩ => ?_
  subst he
  exact ⟨_, rfl, law_post laidFact ty Try.underlying4 (by kernel_rfl) rfl hW' rfl hb⟩
theorem holds : Rows.FnExactEqualUnionFindsSaid :=
  OpenClaim.holds_of_wide 11 Try.f11 rfl rfl rfl rfl rfl rfl rfl ⟨rfl, rfl, rfl, rfl, rfl⟩ rfl rfl rfl rfl rfl (by kernel_rfl) Try.func11 (by kernel_rfl)
    (of_decide_eq_true (by kernel_rfl)) (by unfold Func.isWrapper; first | (rw [if_pos (by decide +kernel)]; kernel_rfl) | (rw [if_neg (by decide +kernel)]; exact ⟨rfl, rfl⟩))
    (fun os started H enc _ => lifted os started H enc)
end lawFnExactEqualUnionFinds

end Go.Proofs.Ytalijnfbopcmeaa
