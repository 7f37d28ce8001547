/-
  FnExactFormatAtom: for every argument the translated law returns true, and each argument reads afterwards as it read before. Conditions: none beyond the given row's own.
-/
import Derived.Test.YtmecdjincmkofaaDoorPlan
import Derived.Test.YtmecdjincmkofaaDoorLift
import Derived.Test.YtmecdjincmkofaaDoorLaid
import Derived.Test.YtmecdjincmkofaaDoorAtomC
import Derived.Test.YtmecdjincmkofaaDoorRelsC
import Derived.Test.YtmecdjincmkofaaDoorFmtTS
import Derived.Test.YtmecdjincmkofaaDoorFmtTI
namespace Go.Proofs.YtmecdjincmkofaaDoor
open Go.RowKit Go.ChangeShapes Go.WideShapes Go.ChangeAt Go.ChangeMaps

namespace lawFnExactFormatAtom

set_option maxRecDepth 100000 in
set_option maxHeartbeats 1600000 in
theorem walk (v0 : Value) (x0 : List Rel) (v1 : Value) (x1 : Atm) (w : World) (h0 : RelationS_at w w.heap.size v0 x0) (hw0 : RelationS_wf x0) (h1 : Atom_at w w.heap.size v1 x1) (hw1 : Atom_wf x1) (ht : Tab w) :
    Calls Tryd.prog 4 #[v0, v1] w fun e w' => e = .returned (.bool true) ∧ Below w.heap.size w w' := by
  have A0 := Lib.hid h0
  have W0 := Lib.hid hw0
  clear h0 hw0
  obtain ⟨v1_0, v1_1, rfl⟩ := Atom_form h1
  have A1 := Lib.hid h1
  have W1 := Lib.hid hw1
  clear h1 hw1
  by_cases hz1 : ((RelationS_sz x0 : Nat) : Int) ≤ 1048576
  rotate_left
  · skip
    have e1 := szLeft_no hz1
    have hb1 : Below w.heap.size w (w.alloc (.cells #[.int .i64 x1.rel, .slice v1_0 x1.vals.length v1_1] 27)) := below_more (Below.refl _ _) _
    have z1 : w.heap.size + 1 ≤ (w.alloc (.cells #[.int .i64 x1.rel, .slice v1_0 x1.vals.length v1_1] 27)).heap.size := by simp
    have K1 := Lib.hid (show (w.alloc (.cells #[.int .i64 x1.rel, .slice v1_0 x1.vals.length v1_1] 27)).cell? ⟨w.heap.size, 0, none⟩ = some (.int .i64 x1.rel) by simp [go_sem])
    have K2 := Lib.hid (show (w.alloc (.cells #[.int .i64 x1.rel, .slice v1_0 x1.vals.length v1_1] 27)).cell? ⟨w.heap.size, 1, none⟩ = some (.slice v1_0 x1.vals.length v1_1) by simp [go_sem])
    go_enter Tryd.func4, Tryd.ntmps4
    have c0_1 : Below w.heap.size w (w.alloc (.cells #[.int .i64 x1.rel, .slice v1_0 x1.vals.length v1_1] 27)) := hb1
    go_wp2_with fail
    refine (szRelationS_c _ x0 (1048576) _ ((A0.out.below c0_1 (Nat.le_refl _)).more c0_1.size) W0.out (by omega) (by omega)).mono ?_
    rw [e1]
    rintro e w2 ⟨rfl, hb2⟩
    have z2 : (w.alloc (.cells #[.int .i64 x1.rel, .slice v1_0 x1.vals.length v1_1] 27)).heap.size ≤ w2.heap.size := hb2.size
    have c0_2 : Below w.heap.size w w2 := (c0_1.trans (hb2.mono (by omega)))
    go_wp2
    go_ret
    exact ⟨rfl, c0_2⟩
  by_cases hz2 : ((Atom_sz x1 : Nat) : Int) ≤ 1048576 - (RelationS_sz x0 : Nat)
  rotate_left
  · skip
    have e1 := szLeft_yes hz1
    have e2 := szLeft_no hz2
    have hb1 : Below w.heap.size w (w.alloc (.cells #[.int .i64 x1.rel, .slice v1_0 x1.vals.length v1_1] 27)) := below_more (Below.refl _ _) _
    have z1 : w.heap.size + 1 ≤ (w.alloc (.cells #[.int .i64 x1.rel, .slice v1_0 x1.vals.length v1_1] 27)).heap.size := by simp
    have K1 := Lib.hid (show (w.alloc (.cells #[.int .i64 x1.rel, .slice v1_0 x1.vals.length v1_1] 27)).cell? ⟨w.heap.size, 0, none⟩ = some (.int .i64 x1.rel) by simp [go_sem])
    have K2 := Lib.hid (show (w.alloc (.cells #[.int .i64 x1.rel, .slice v1_0 x1.vals.length v1_1] 27)).cell? ⟨w.heap.size, 1, none⟩ = some (.slice v1_0 x1.vals.length v1_1) by simp [go_sem])
    go_enter Tryd.func4, Tryd.ntmps4
    have c0_1 : Below w.heap.size w (w.alloc (.cells #[.int .i64 x1.rel, .slice v1_0 x1.vals.length v1_1] 27)) := hb1
    go_wp2_with fail
    refine (szRelationS_c _ x0 (1048576) _ ((A0.out.below c0_1 (Nat.le_refl _)).more c0_1.size) W0.out (by omega) (by omega)).mono ?_
    rw [e1]
    rintro e w2 ⟨rfl, hb2⟩
    have z2 : (w.alloc (.cells #[.int .i64 x1.rel, .slice v1_0 x1.vals.length v1_1] 27)).heap.size ≤ w2.heap.size := hb2.size
    have c1_2 : Below (w.alloc (.cells #[.int .i64 x1.rel, .slice v1_0 x1.vals.length v1_1] 27)).heap.size (w.alloc (.cells #[.int .i64 x1.rel, .slice v1_0 x1.vals.length v1_1] 27)) w2 := hb2
    have f3 : w2.cell? ⟨w.heap.size, 0, none⟩ = some (.int .i64 x1.rel) := ((c1_2).cell (p := ⟨w.heap.size, 0, none⟩) (by show w.heap.size < _; omega)).trans K1.out
    have f4 : w2.cell? ⟨w.heap.size, 1, none⟩ = some (.slice v1_0 x1.vals.length v1_1) := ((c1_2).cell (p := ⟨w.heap.size, 1, none⟩) (by show w.heap.size < _; omega)).trans K2.out
    have c0_2 : Below w.heap.size w w2 := (c0_1.trans (hb2.mono (by omega)))
    go_wp2_with fail
    refine (szAtom_c _ x1 (1048576 - (RelationS_sz x0 : Nat)) _ ((A1.out.below c0_2 (Nat.le_refl _)).more c0_2.size) W1.out (by omega) (by omega)).mono ?_
    rw [e2]
    rintro e w3 ⟨rfl, hb3⟩
    have z3 : w2.heap.size ≤ w3.heap.size := hb3.size
    clear f3 f4
    have c0_3 : Below w.heap.size w w3 := (c0_2.trans (hb3.mono (by omega)))
    go_wp2
    go_ret
    exact ⟨rfl, c0_3⟩
  have e1 := szLeft_yes hz1
  have S0 : RelationS_sz x0 ≤ 1048576 := by omega
  have N0 := RelationS_cnt_le x0
  have e2 := szLeft_yes hz2
  have S1 : Atom_sz x1 ≤ 1048576 := by omega
  have N1 := Atom_cnt_le x1
  have hb1 : Below w.heap.size w (w.alloc (.cells #[.int .i64 x1.rel, .slice v1_0 x1.vals.length v1_1] 27)) := below_more (Below.refl _ _) _
  have z1 : w.heap.size + 1 ≤ (w.alloc (.cells #[.int .i64 x1.rel, .slice v1_0 x1.vals.length v1_1] 27)).heap.size := by simp
  have K1 := Lib.hid (show (w.alloc (.cells #[.int .i64 x1.rel, .slice v1_0 x1.vals.length v1_1] 27)).cell? ⟨w.heap.size, 0, none⟩ = some (.int .i64 x1.rel) by simp [go_sem])
  have K2 := Lib.hid (show (w.alloc (.cells #[.int .i64 x1.rel, .slice v1_0 x1.vals.length v1_1] 27)).cell? ⟨w.heap.size, 1, none⟩ = some (.slice v1_0 x1.vals.length v1_1) by simp [go_sem])
  go_enter Tryd.func4, Tryd.ntmps4
  have c0_1 : Below w.heap.size w (w.alloc (.cells #[.int .i64 x1.rel, .slice v1_0 x1.vals.length v1_1] 27)) := hb1
  go_wp2_with fail
  refine (szRelationS_c _ x0 (1048576) _ ((A0.out.below c0_1 (Nat.le_refl _)).more c0_1.size) W0.out (by omega) (by omega)).mono ?_
  rw [e1]
  rintro e w2 ⟨rfl, hb2⟩
  have z2 : (w.alloc (.cells #[.int .i64 x1.rel, .slice v1_0 x1.vals.length v1_1] 27)).heap.size ≤ w2.heap.size := hb2.size
  have c1_2 : Below (w.alloc (.cells #[.int .i64 x1.rel, .slice v1_0 x1.vals.length v1_1] 27)).heap.size (w.alloc (.cells #[.int .i64 x1.rel, .slice v1_0 x1.vals.length v1_1] 27)) w2 := hb2
  have f5 : w2.cell? ⟨w.heap.size, 0, none⟩ = some (.int .i64 x1.rel) := ((c1_2).cell (p := ⟨w.heap.size, 0, none⟩) (by show w.heap.size < _; omega)).trans K1.out
  have f6 : w2.cell? ⟨w.heap.size, 1, none⟩ = some (.slice v1_0 x1.vals.length v1_1) := ((c1_2).cell (p := ⟨w.heap.size, 1, none⟩) (by show w.heap.size < _; omega)).trans K2.out
  have c0_2 : Below w.heap.size w w2 := (c0_1.trans (hb2.mono (by omega)))
  go_wp2_with fail
  refine (szAtom_c _ x1 (1048576 - (RelationS_sz x0 : Nat)) _ ((A1.out.below c0_2 (Nat.le_refl _)).more c0_2.size) W1.out (by omega) (by omega)).mono ?_
  rw [e2]
  rintro e w3 ⟨rfl, hb3⟩
  have z3 : w2.heap.size ≤ w3.heap.size := hb3.size
  clear f5 f6
  go_wp2_with fail
  have c1_3 : Below (w.alloc (.cells #[.int .i64 x1.rel, .slice v1_0 x1.vals.length v1_1] 27)).heap.size (w.alloc (.cells #[.int .i64 x1.rel, .slice v1_0 x1.vals.length v1_1] 27)) w3 := (c1_2.trans (hb3.mono (by omega)))
  have f7 : w3.cell? ⟨w.heap.size, 0, none⟩ = some (.int .i64 x1.rel) := ((c1_3).cell (p := ⟨w.heap.size, 0, none⟩) (by show w.heap.size < _; omega)).trans K1.out
  have gf7 := Aft.cell (B := w3.heap.size) (by omega) f7
  clear f7
  have f8 : w3.cell? ⟨w.heap.size, 1, none⟩ = some (.slice v1_0 x1.vals.length v1_1) := ((c1_3).cell (p := ⟨w.heap.size, 1, none⟩) (by show w.heap.size < _; omega)).trans K2.out
  have gf8 := Aft.cell (B := w3.heap.size) (by omega) f8
  clear f8
  refine wp_region_plan (C := fun w' => ∃ u : Aft w3.heap.size w3, w' = u.now) (.still 0 (.move true 1 (.still 2 (.move true 3 (.move true 4 (.still 5 .done) .none) .none)) .none)) (by kernel_rfl) (by kernel_rfl) (by kernel_rfl) (fun _ => ⟨⟨_, (Below.refl _ _).drew⟩, rfl⟩) ?_
  have hb4 : Below w3.heap.size w3 w3.drew := (Below.refl _ _).drew
  have z4 : w3.drew.heap.size = w3.heap.size := rfl
  have c0_4 : Below w.heap.size w w3.drew := ((c0_2.trans (hb3.mono (by omega))).trans (hb4.mono (by omega)))
  refine plan_look _ rfl rfl ?_
  go_big_quiet_step (fail)
  refine wpQuiet_nil ?_
  refine plan_call _ 11 _ _ _ _ _ rfl _ Tryd.func11 (by kernel_rfl) (by kernel_rfl) ?_ True.intro
  show Calls Tryd.prog 11 #[v0] _ _
  refine (toRelationS_c _ x0 _ ((A0.out.below c0_4 (Nat.le_refl _)).more c0_4.size) S0).mono ?_
  rintro e w5 ⟨u9, rfl, ou9, hb5⟩
  have z5 : w3.drew.heap.size ≤ w5.heap.size := hb5.size
  have c3_5 : Below w3.heap.size w3 w5 := (hb4.trans (hb5.mono (by omega)))
  refine ⟨_, rfl, fun _ => ⟨⟨_, c3_5⟩, rfl⟩, ?_⟩
  refine plan_put ?_ (by simp only [Act.put, List.setIfInBounds_toArray, List.set_cons_succ, List.set_cons_zero]; rfl)
  have c0_5 : Below w.heap.size w w5 := (c0_4.trans (hb5.mono (by omega)))
  refine plan_look _ rfl rfl ?_
  go_big_quiet_step (fail)
  refine wpQuiet_nil ?_
  refine plan_call _ 12 _ _ _ _ _ rfl _ Tryd.func12 (by kernel_rfl) (by kernel_rfl) ?_ True.intro
  show Calls Tryd.prog 12 #[.agg #[.int .i64 x1.rel, .slice v1_0 x1.vals.length v1_1]] _ _
  refine (toAtom_c _ x1 _ ((A1.out.below c0_5 (Nat.le_refl _)).more c0_5.size) S1).mono ?_
  rintro e w6 ⟨u10, rfl, ou10, hb6⟩
  have z6 : w5.heap.size ≤ w6.heap.size := hb6.size
  obtain ⟨y11_0, y11_1, rfl⟩ := Atom_form (ou10.at_ (Nat.le_refl _))
  have c3_6 : Below w3.heap.size w3 w6 := (c3_5.trans (hb6.mono (by omega)))
  refine ⟨_, rfl, fun _ => ⟨⟨_, c3_6⟩, rfl⟩, ?_⟩
  refine plan_put ?_ (by simp only [Act.put, List.setIfInBounds_toArray, List.set_cons_succ, List.set_cons_zero]; rfl)
  have c5_6 : Below w5.heap.size w5 w6 := hb6
  refine plan_call _ 10 _ _ _ _ _ rfl _ Tryd.func10 (by kernel_rfl) (by kernel_rfl) ?_ True.intro
  show Calls Tryd.prog 10 #[u9, .agg #[.int .i64 x1.rel, .slice y11_0 x1.vals.length y11_1]] _ _
  refine (specFormatAtom_c _ x0 _ x1 _ ((ou9.below c5_6 (Nat.le_refl _)).at_ (by omega)) W0.out S0 ((ou10.below (Below.refl w6.heap.size w6) (Nat.le_refl _)).at_ (Nat.le_refl _)) W1.out S1).mono ?_
  rintro e w7 ⟨rfl, hb7⟩
  have z7 : w6.heap.size ≤ w7.heap.size := hb7.size
  have c3_7 : Below w3.heap.size w3 w7 := (c3_6.trans (hb7.mono (by omega)))
  refine ⟨_, rfl, fun _ => ⟨⟨_, c3_7⟩, rfl⟩, ?_⟩
  refine plan_put ?_ (by simp only [Act.put, List.setIfInBounds_toArray, List.set_cons_succ, List.set_cons_zero]; rfl)
  refine plan_look _ rfl rfl ?_
  go_big_quiet_step (fail)
  refine wpQuiet_nil ?_
  refine plan_done ?_
  clear gf7 gf8
  have c0_7 : Below w.heap.size w w7 := ((c0_5.trans (hb6.mono (by omega))).trans (hb7.mono (by omega)))
  go_wp2_with fail
  refine (toRelationS_c _ x0 _ ((A0.out.below c0_7 (Nat.le_refl _)).more c0_7.size) S0).mono ?_
  rintro e w8 ⟨u13, rfl, ou13, hb8⟩
  have z8 : w7.heap.size ≤ w8.heap.size := hb8.size
  have c1_8 : Below (w.alloc (.cells #[.int .i64 x1.rel, .slice v1_0 x1.vals.length v1_1] 27)).heap.size (w.alloc (.cells #[.int .i64 x1.rel, .slice v1_0 x1.vals.length v1_1] 27)) w8 := (((((c1_3.trans (hb4.mono (by omega))).trans (hb5.mono (by omega))).trans (hb6.mono (by omega))).trans (hb7.mono (by omega))).trans (hb8.mono (by omega)))
  have f14 : w8.cell? ⟨w.heap.size, 0, none⟩ = some (.int .i64 x1.rel) := ((c1_8).cell (p := ⟨w.heap.size, 0, none⟩) (by show w.heap.size < _; omega)).trans K1.out
  have f15 : w8.cell? ⟨w.heap.size, 1, none⟩ = some (.slice v1_0 x1.vals.length v1_1) := ((c1_8).cell (p := ⟨w.heap.size, 1, none⟩) (by show w.heap.size < _; omega)).trans K2.out
  have c0_8 : Below w.heap.size w w8 := (c0_7.trans (hb8.mono (by omega)))
  go_wp2_with fail
  refine (toAtom_c _ x1 _ ((A1.out.below c0_8 (Nat.le_refl _)).more c0_8.size) S1).mono ?_
  rintro e w9 ⟨u16, rfl, ou16, hb9⟩
  have z9 : w8.heap.size ≤ w9.heap.size := hb9.size
  obtain ⟨y17_0, y17_1, rfl⟩ := Atom_form (ou16.at_ (Nat.le_refl _))
  have hb10 : Below w9.heap.size w9 (w9.alloc (.cells #[.int .i64 x1.rel, .slice y17_0 x1.vals.length y17_1] 33)) := below_more (Below.refl _ _) _
  have z10 : w9.heap.size + 1 ≤ (w9.alloc (.cells #[.int .i64 x1.rel, .slice y17_0 x1.vals.length y17_1] 33)).heap.size := by simp
  have K18 := Lib.hid (show (w9.alloc (.cells #[.int .i64 x1.rel, .slice y17_0 x1.vals.length y17_1] 33)).cell? ⟨w9.heap.size, 0, none⟩ = some (.int .i64 x1.rel) by simp [go_sem])
  have K19 := Lib.hid (show (w9.alloc (.cells #[.int .i64 x1.rel, .slice y17_0 x1.vals.length y17_1] 33)).cell? ⟨w9.heap.size, 1, none⟩ = some (.slice y17_0 x1.vals.length y17_1) by simp [go_sem])
  clear f14 f15
  have f20 : (w9.alloc (.cells #[.int .i64 x1.rel, .slice y17_0 x1.vals.length y17_1] 33)).cell? ⟨w9.heap.size, 0, none⟩ = some (.int .i64 x1.rel) := K18.out
  have f21 : (w9.alloc (.cells #[.int .i64 x1.rel, .slice y17_0 x1.vals.length y17_1] 33)).cell? ⟨w9.heap.size, 1, none⟩ = some (.slice y17_0 x1.vals.length y17_1) := K19.out
  have c8_10 : Below w8.heap.size w8 (w9.alloc (.cells #[.int .i64 x1.rel, .slice y17_0 x1.vals.length y17_1] 33)) := (hb9.trans (hb10.mono (by omega)))
  have c9_10 : Below w9.heap.size w9 (w9.alloc (.cells #[.int .i64 x1.rel, .slice y17_0 x1.vals.length y17_1] 33)) := hb10
  have c0_10 : Below w.heap.size w (w9.alloc (.cells #[.int .i64 x1.rel, .slice y17_0 x1.vals.length y17_1] 33)) := ((c0_8.trans (hb9.mono (by omega))).trans (hb10.mono (by omega)))
  go_wp2_with fail
  refine (implFormatAtom_c _ x0 _ x1 _ ((ou13.below c8_10 (Nat.le_refl _)).at_ (by omega)) W0.out S0 ((ou16.below c9_10 (Nat.le_refl _)).at_ (by omega)) W1.out S1 (ht.below c0_10)).mono ?_
  rintro e w11 ⟨rfl, hb11⟩
  have z11 : (w9.alloc (.cells #[.int .i64 x1.rel, .slice y17_0 x1.vals.length y17_1] 33)).heap.size ≤ w11.heap.size := hb11.size
  clear f20 f21
  have c0_11 : Below w.heap.size w w11 := (c0_10.trans (hb11.mono (by omega)))
  go_wp2_with fail
  refine (toRelationS_c _ x0 _ ((A0.out.below c0_11 (Nat.le_refl _)).more c0_11.size) S0).mono ?_
  rintro e w12 ⟨u23, rfl, ou23, hb12⟩
  have z12 : w11.heap.size ≤ w12.heap.size := hb12.size
  have c8_12 : Below w8.heap.size w8 w12 := ((c8_10.trans (hb11.mono (by omega))).trans (hb12.mono (by omega)))
  go_wp2_with fail
  refine (eqRelationS_c _ _ x0 _ ((ou13.below c8_12 (Nat.le_refl _)).at_ (by omega)) ((ou23.below (Below.refl w12.heap.size w12) (Nat.le_refl _)).at_ (Nat.le_refl _))).mono ?_
  rintro e w13 ⟨rfl, hb13⟩
  have z13 : w12.heap.size ≤ w13.heap.size := hb13.size
  go_wp2_with fail
  have c10_13 : Below (w9.alloc (.cells #[.int .i64 x1.rel, .slice y17_0 x1.vals.length y17_1] 33)).heap.size (w9.alloc (.cells #[.int .i64 x1.rel, .slice y17_0 x1.vals.length y17_1] 33)) w13 := ((hb11.trans (hb12.mono (by omega))).trans (hb13.mono (by omega)))
  have f24 : w13.cell? ⟨w9.heap.size, 0, none⟩ = some (.int .i64 x1.rel) := ((c10_13).cell (p := ⟨w9.heap.size, 0, none⟩) (by show w9.heap.size < _; omega)).trans K18.out
  have gf24 := Aft.cell (B := w13.heap.size) (by omega) f24
  clear f24
  have f25 : w13.cell? ⟨w9.heap.size, 1, none⟩ = some (.slice y17_0 x1.vals.length y17_1) := ((c10_13).cell (p := ⟨w9.heap.size, 1, none⟩) (by show w9.heap.size < _; omega)).trans K19.out
  have gf25 := Aft.cell (B := w13.heap.size) (by omega) f25
  clear f25
  have c1_13 : Below (w.alloc (.cells #[.int .i64 x1.rel, .slice v1_0 x1.vals.length v1_1] 27)).heap.size (w.alloc (.cells #[.int .i64 x1.rel, .slice v1_0 x1.vals.length v1_1] 27)) w13 := (((((c1_8.trans (hb9.mono (by omega))).trans (hb10.mono (by omega))).trans (hb11.mono (by omega))).trans (hb12.mono (by omega))).trans (hb13.mono (by omega)))
  have f26 : w13.cell? ⟨w.heap.size, 0, none⟩ = some (.int .i64 x1.rel) := ((c1_13).cell (p := ⟨w.heap.size, 0, none⟩) (by show w.heap.size < _; omega)).trans K1.out
  have gf26 := Aft.cell (B := w13.heap.size) (by omega) f26
  clear f26
  have f27 : w13.cell? ⟨w.heap.size, 1, none⟩ = some (.slice v1_0 x1.vals.length v1_1) := ((c1_13).cell (p := ⟨w.heap.size, 1, none⟩) (by show w.heap.size < _; omega)).trans K2.out
  have gf27 := Aft.cell (B := w13.heap.size) (by omega) f27
  clear f27
  refine wp_region_plan (C := fun w' => ∃ u : Aft w13.heap.size w13, w' = u.now) (.still 0 (.still 1 (.move true 2 (.move true 3 (.still 4 .done) .none) .none))) (by kernel_rfl) (by kernel_rfl) (by kernel_rfl) (fun _ => ⟨⟨_, (Below.refl _ _).drew⟩, rfl⟩) ?_
  have hb14 : Below w13.heap.size w13 w13.drew := (Below.refl _ _).drew
  have z14 : w13.drew.heap.size = w13.heap.size := rfl
  have c0_14 : Below w.heap.size w w13.drew := (((c0_11.trans (hb12.mono (by omega))).trans (hb13.mono (by omega))).trans (hb14.mono (by omega)))
  refine plan_look _ rfl rfl ?_
  go_big_quiet_step (fail)
  refine wpQuiet_nil ?_
  refine plan_look _ rfl rfl ?_
  go_big_quiet_step (fail)
  refine wpQuiet_nil ?_
  refine plan_call _ 12 _ _ _ _ _ rfl _ Tryd.func12 (by kernel_rfl) (by kernel_rfl) ?_ True.intro
  show Calls Tryd.prog 12 #[.agg #[.int .i64 x1.rel, .slice v1_0 x1.vals.length v1_1]] _ _
  refine (toAtom_c _ x1 _ ((A1.out.below c0_14 (Nat.le_refl _)).more c0_14.size) S1).mono ?_
  rintro e w15 ⟨u28, rfl, ou28, hb15⟩
  have z15 : w13.drew.heap.size ≤ w15.heap.size := hb15.size
  obtain ⟨y29_0, y29_1, rfl⟩ := Atom_form (ou28.at_ (Nat.le_refl _))
  have c13_15 : Below w13.heap.size w13 w15 := (hb14.trans (hb15.mono (by omega)))
  refine ⟨_, rfl, fun _ => ⟨⟨_, c13_15⟩, rfl⟩, ?_⟩
  refine plan_put ?_ (by simp only [Act.put, List.setIfInBounds_toArray, List.set_cons_succ, List.set_cons_zero]; rfl)
  have c9_15 : Below w9.heap.size w9 w15 := (((((c9_10.trans (hb11.mono (by omega))).trans (hb12.mono (by omega))).trans (hb13.mono (by omega))).trans (hb14.mono (by omega))).trans (hb15.mono (by omega)))
  refine plan_call _ 15 _ _ _ _ _ rfl _ Tryd.func15 (by kernel_rfl) (by kernel_rfl) ?_ True.intro
  show Calls Tryd.prog 15 #[.agg #[.int .i64 x1.rel, .slice y17_0 x1.vals.length y17_1], .agg #[.int .i64 x1.rel, .slice y29_0 x1.vals.length y29_1]] _ _
  refine (eqAtom_c _ _ x1 _ ((ou16.below c9_15 (Nat.le_refl _)).at_ (by omega)) ((ou28.below (Below.refl w15.heap.size w15) (Nat.le_refl _)).at_ (Nat.le_refl _))).mono ?_
  rintro e w16 ⟨rfl, hb16⟩
  have z16 : w15.heap.size ≤ w16.heap.size := hb16.size
  have c13_16 : Below w13.heap.size w13 w16 := (c13_15.trans (hb16.mono (by omega)))
  refine ⟨_, rfl, fun _ => ⟨⟨_, c13_16⟩, rfl⟩, ?_⟩
  refine plan_put ?_ (by simp only [Act.put, List.setIfInBounds_toArray, List.set_cons_succ, List.set_cons_zero]; rfl)
  refine plan_look _ rfl rfl ?_
  go_big_quiet_step (fail)
  refine wpQuiet_nil ?_
  refine plan_done ?_
  clear gf24 gf25 gf26 gf27
  have c0_16 : Below w.heap.size w w16 := ((c0_14.trans (hb15.mono (by omega))).trans (hb16.mono (by omega)))
  go_wp2
  go_ret
  exact ⟨rfl, c0_16⟩

theorem ty : ∀ t ∈ Tryd.f4.params.toList, Tryd.prog.readableRec t = true ∧ t < Tryd.prog.types.size := by
  rw [Tryd.params4]; intro t ht
  simp only [List.mem_cons, List.not_mem_nil, or_false] at ht
  rcases ht with rfl | rfl <;> exact ⟨by kernel_rfl, of_decide_eq_true (by kernel_rfl)⟩
noncomputable def laidWorld (os : Os) : World :=
  setVar (setVar (setVar (World.holding Tryd.prog os ⟨#[], #[], []⟩) 2 (aggCells Rows.laid_math_bits_deBruijn32tab)) 3 (aggCells Rows.laid_math_bits_deBruijn64tab)) 0 (aggCells Rows.laid_internal_strconv_uint64pow10)
theorem laid_met (os : Os) : laidMet Tryd.prog Rows.fnExactFormatAtomRow.laid ((laidWorld os).forCall (fun _ _ => 0) ⟨#[], #[.slice none 0 0, .agg #[.int .i64 0, .slice none 0 0]], []⟩).memory :=
  laidMet_of_run' 100 (by kernel_rfl) (by kernel_rfl)
theorem reads (os : Os) {H : Type} (enc : TypeId × Value → H) : ∃ places, DataW.whole enc Tryd.prog ((laidWorld os).forCall (fun _ _ => 0) ⟨#[], #[.slice none 0 0, .agg #[.int .i64 0, .slice none 0 0]], []⟩).memory Tryd.f4.params.toList Rows.fnExactFormatAtomSpec.vars false (#[.slice none 0 0, .agg #[.int .i64 0, .slice none 0 0]] : Array Value).toList 8 = some ([.nil, .agg [.lit (.int .i64 0), .nil]], [], places) :=
  ⟨[], by kernel_rfl⟩
set_option maxRecDepth 100000 in
theorem lifted (os : Os) (started : os.Started) (H : Type) (enc : TypeId × Value → H) (F : Stop.Interp) :
    ReturnsInHanded {} Tryd.checked os 4 .any ((OpenSpec.ofChange Rows.fnExactFormatAtomSpec).preRow enc Tryd.prog Tryd.f4 Rows.fnExactFormatAtomRow.domain false Rows.fnExactFormatAtomRow.laid) (((OpenSpec.ofChange Rows.fnExactFormatAtomSpec).at F).post enc Tryd.prog Tryd.f4 false true false false) := by
  obtain ⟨places, hx⟩ := reads os enc
  refine returnsInHanded_of_row (C := Tryd.checked) (s := OpenSpec.ofChange Rows.fnExactFormatAtomSpec) ownFact started (by kernel_rfl) Tryd.func4
    (witness_row_at (enc := enc) (C := Tryd.checked) false (laidWorld os) #[.slice none 0 0, .agg #[.int .i64 0, .slice none 0 0]] rfl (by kernel_rfl) (by kernel_rfl) (by kernel_rfl)
      (OpenSpec.preRow_of_cond 8 hx (by kernel_rfl) (fun k hk => by cases hk) (by kernel_rfl) (laid_met os))) ?_
  intro W base args ds gs before hval0 hW _ _ _ hL hSh _
  have hval : ∀ (j : Nat) t v, Tryd.f4.params[j]? = some t → args[j]? = some v → Value.okWide Tryd.prog W .any base t v := hval0
  have hW' := hW
  obtain ⟨p, q, hA0, hV, _, hfz, hnd⟩ := hW
  have hA : DataW.TrodAll enc Tryd.prog W 0 (fun _ => true) true Tryd.f4.params.toList args.toList ds p := hA0
  rw [Tryd.params4] at hA hval
  obtain ⟨v0, vs0, d0, ds0, p0, q0, hargs, rfl, _, h0, r0⟩ := trodAll_cons hA
  obtain ⟨v1, vs1, d1, ds1, p1, q1, rfl, rfl, _, h1, r1⟩ := trodAll_cons r0
  obtain ⟨rfl, rfl, _⟩ := trodAll_nil r1
  obtain rfl : args = #[v0, v1] := by cases args; simp_all
  obtain ⟨rfl, _⟩ := trodVars_none hV
  obtain ⟨x0, hx0, hwx0⟩ := open_RelationS (hval 0 _ v0 rfl rfl) h0 (DataW.TrodAll.lt (trodAll_mk1 h0))
  obtain ⟨x1, hx1, hwx1⟩ := open_Atom (hval 1 _ v1 rfl rfl) h1 (DataW.TrodAll.lt (trodAll_mk1 h1))
  have hL1 : laidMet Tryd.prog Rows.fnExactFormatAtomRow.laid W := hL
  refine (walk v0 x0 v1 x1 W hx0 hwx0 hx1 hwx1 (tab_of_laid (laidMet.tail (laidMet.tail hL1)))).mono fun e W' ⟨he, hb⟩ => ?_
  subst he
  exact ⟨_, rfl, law_post laidFact ty Tryd.underlying4 (by kernel_rfl) rfl hW' rfl hb⟩
theorem said : Rows.FnExactFormatAtomSaid :=
  OpenClaim.holds_of_cond 4 Tryd.f4 rfl rfl rfl rfl rfl rfl rfl ⟨rfl, rfl, rfl, rfl, rfl⟩ rfl rfl rfl rfl rfl (by kernel_rfl) Tryd.func4 (by kernel_rfl)
    (of_decide_eq_true (by kernel_rfl)) (by unfold Func.isWrapper; first | (rw [if_pos (by decide +kernel)]; kernel_rfl) | (rw [if_neg (by decide +kernel)]; exact ⟨rfl, rfl⟩))
    (fun os started H enc _ F => by rw [OpenClaim.pre_eq_preRow]; exact lifted os started H enc F)
theorem plain (f : FuncId) (fn : Func) (hf : Tryd.pinned.checked.prog.funcNamed "loop.example/g01919/laws.FnExactFormatAtom" = some f) (hfn : Tryd.pinned.checked.prog.funcs[f]? = some fn) :
    false = Tryd.pinned.checked.prog.looks [] ∧ ∀ (j : Nat) t, fn.params[j]? = some t → Tryd.pinned.checked.prog.wantsStandIn t = false := by
  obtain rfl : f = 4 := Option.some.inj ((show Tryd.prog.funcNamed "loop.example/g01919/laws.FnExactFormatAtom" = some 4 by kernel_rfl).symm.trans hf) |>.symm
  obtain rfl : fn = Tryd.f4 := (Option.some.inj (Tryd.func4.symm.trans hfn)).symm
  refine ⟨by kernel_rfl, fun j t ht => ?_⟩
  rw [Tryd.params4] at ht
  have ht2 := Array.mem_of_getElem? ht
  simp only [List.mem_toArray, List.mem_cons, List.not_mem_nil, or_false] at ht2
  rcases ht2 with rfl | rfl
  · exact (show Tryd.prog.wantsStandIn 24 = false by kernel_rfl)
  · exact (show Tryd.prog.wantsStandIn 27 = false by kernel_rfl)
theorem holds : Rows.FnExactFormatAtomCardSaid :=
  Claim7.holds_tied_plain_at .later [] _ _ _ _ said (fun _ h => by cases h) (by kernel_rfl) (fun _ h => by cases h) fnExactFormatAtom_row_tie rfl ⟨rfl, rfl⟩ (by kernel_rfl) rfl plain (by kernel_rfl)
end lawFnExactFormatAtom

end Go.Proofs.YtmecdjincmkofaaDoor
