/-
  FnExactEquivalenceClasses: for every argument the translated law returns true, and each argument reads afterwards as it read before. Conditions: none beyond the given row's own.
-/
import Derived.Test.YtalijnfbopcmeaaPlan
import Derived.Test.YtalijnfbopcmeaaLift
import Derived.Test.YtalijnfbopcmeaaUfC
import Derived.Test.YtalijnfbopcmeaaSSC
import Derived.Test.YtalijnfbopcmeaaUfCS
import Derived.Test.YtalijnfbopcmeaaUfCC
namespace Go.Proofs.Ytalijnfbopcmeaa
open Go.RowKit Go.ChangeShapes Go.WideShapes Go.ChangeAt Go.ChangeMaps

namespace lawFnExactEquivalenceClasses

set_option maxRecDepth 100000 in
set_option maxHeartbeats 1600000 in
theorem walk (v0 : Value) (x0 : List Int) (w : World) (h0 : UnionFind_at w w.heap.size v0 x0) (hw0 : UnionFind_wf x0) :
    Calls Try.prog 10 #[v0] w fun e w' => e = .returned (.bool true) ∧ Below w.heap.size w w' := by
  obtain ⟨v0_0, v0_1, rfl⟩ := UnionFind_form h0
  have A0 := Lib.hid h0
  have W0 := Lib.hid hw0
  clear h0 hw0
  by_cases hz1 : ((UnionFind_sz x0 : Nat) : Int) ≤ 1048576
  rotate_left
  · skip
    have e1 := szLeft_no hz1
    have hb1 : Below w.heap.size w (w.alloc (.cells #[.slice v0_0 x0.length v0_1] 46)) := below_more (Below.refl _ _) _
    have z1 : w.heap.size + 1 ≤ (w.alloc (.cells #[.slice v0_0 x0.length v0_1] 46)).heap.size := by simp
    have K1 := Lib.hid (show (w.alloc (.cells #[.slice v0_0 x0.length v0_1] 46)).cell? ⟨w.heap.size, 0, none⟩ = some (.slice v0_0 x0.length v0_1) by simp [go_sem])
    go_enter Try.func10, Try.ntmps10
    have f2 : (w.alloc (.cells #[.slice v0_0 x0.length v0_1] 46)).cell? ⟨w.heap.size, 0, none⟩ = some (.slice v0_0 x0.length v0_1) := K1.out
    have c0_1 : Below w.heap.size w (w.alloc (.cells #[.slice v0_0 x0.length v0_1] 46)) := hb1
    go_wp2_with fail
    refine (szUnionFind_c _ x0 (1048576) _ ((A0.out.below c0_1 (Nat.le_refl _)).more c0_1.size) W0.out (by omega) (by omega)).mono ?_
    rw [e1]
    rintro e w2 ⟨rfl, hb2⟩
    have z2 : (w.alloc (.cells #[.slice v0_0 x0.length v0_1] 46)).heap.size ≤ w2.heap.size := hb2.size
    clear f2
    have c0_2 : Below w.heap.size w w2 := (c0_1.trans (hb2.mono (by omega)))
    go_wp2
    go_ret
    exact ⟨rfl, c0_2⟩
  have e1 := szLeft_yes hz1
  have S0 : UnionFind_sz x0 ≤ 1048576 := by omega
  have N0 := UnionFind_cnt_le x0
  have hb1 : Below w.heap.size w (w.alloc (.cells #[.slice v0_0 x0.length v0_1] 46)) := below_more (Below.refl _ _) _
  have z1 : w.heap.size + 1 ≤ (w.alloc (.cells #[.slice v0_0 x0.length v0_1] 46)).heap.size := by simp
  have K1 := Lib.hid (show (w.alloc (.cells #[.slice v0_0 x0.length v0_1] 46)).cell? ⟨w.heap.size, 0, none⟩ = some (.slice v0_0 x0.length v0_1) by simp [go_sem])
  go_enter Try.func10, Try.ntmps10
  have f3 : (w.alloc (.cells #[.slice v0_0 x0.length v0_1] 46)).cell? ⟨w.heap.size, 0, none⟩ = some (.slice v0_0 x0.length v0_1) := K1.out
  have c0_1 : Below w.heap.size w (w.alloc (.cells #[.slice v0_0 x0.length v0_1] 46)) := hb1
  go_wp2_with fail
  refine (szUnionFind_c _ x0 (1048576) _ ((A0.out.below c0_1 (Nat.le_refl _)).more c0_1.size) W0.out (by omega) (by omega)).mono ?_
  rw [e1]
  rintro e w2 ⟨rfl, hb2⟩
  have z2 : (w.alloc (.cells #[.slice v0_0 x0.length v0_1] 46)).heap.size ≤ w2.heap.size := hb2.size
  clear f3
  have c1_2 : Below (w.alloc (.cells #[.slice v0_0 x0.length v0_1] 46)).heap.size (w.alloc (.cells #[.slice v0_0 x0.length v0_1] 46)) w2 := hb2
  have f4 : w2.cell? ⟨w.heap.size, 0, none⟩ = some (.slice v0_0 x0.length v0_1) := ((c1_2).cell (p := ⟨w.heap.size, 0, none⟩) (by show w.heap.size < _; omega)).trans K1.out
  have c0_2 : Below w.heap.size w w2 := (c0_1.trans (hb2.mono (by omega)))
  go_wp2_with fail
  refine (toUnionFind_c _ x0 _ ((A0.out.below c0_2 (Nat.le_refl _)).more c0_2.size) S0).mono ?_
  rintro e w3 ⟨u5, rfl, ou5, hb3⟩
  have z3 : w2.heap.size ≤ w3.heap.size := hb3.size
  obtain ⟨y6_0, y6_1, rfl⟩ := UnionFind_form (ou5.at_ (Nat.le_refl _))
  go_wp2_with fail
  refine (specEquivalenceClasses_c _ x0 _ ((ou5.below (Below.refl w3.heap.size w3) (Nat.le_refl _)).at_ (Nat.le_refl _)) W0.out S0).mono ?_
  rintro e w4 ⟨r7_0, rfl, p7_0, hb4⟩
  have z4 : w3.heap.size ≤ w4.heap.size := hb4.size
  clear f4
  have c1_4 : Below (w.alloc (.cells #[.slice v0_0 x0.length v0_1] 46)).heap.size (w.alloc (.cells #[.slice v0_0 x0.length v0_1] 46)) w4 := ((c1_2.trans (hb3.mono (by omega))).trans (hb4.mono (by omega)))
  have f8 : w4.cell? ⟨w.heap.size, 0, none⟩ = some (.slice v0_0 x0.length v0_1) := ((c1_4).cell (p := ⟨w.heap.size, 0, none⟩) (by show w.heap.size < _; omega)).trans K1.out
  have c0_4 : Below w.heap.size w w4 := ((c0_2.trans (hb3.mono (by omega))).trans (hb4.mono (by omega)))
  go_wp2_with fail
  refine (toUnionFind_c _ x0 _ ((A0.out.below c0_4 (Nat.le_refl _)).more c0_4.size) S0).mono ?_
  rintro e w5 ⟨u9, rfl, ou9, hb5⟩
  have z5 : w4.heap.size ≤ w5.heap.size := hb5.size
  obtain ⟨y10_0, y10_1, rfl⟩ := UnionFind_form (ou9.at_ (Nat.le_refl _))
  have hb6 : Below w5.heap.size w5 (w5.alloc (.cells #[.slice y10_0 x0.length y10_1] 26)) := below_more (Below.refl _ _) _
  have z6 : w5.heap.size + 1 ≤ (w5.alloc (.cells #[.slice y10_0 x0.length y10_1] 26)).heap.size := by simp
  have K11 := Lib.hid (show (w5.alloc (.cells #[.slice y10_0 x0.length y10_1] 26)).cell? ⟨w5.heap.size, 0, none⟩ = some (.slice y10_0 x0.length y10_1) by simp [go_sem])
  clear f8
  have f12 : (w5.alloc (.cells #[.slice y10_0 x0.length y10_1] 26)).cell? ⟨w5.heap.size, 0, none⟩ = some (.slice y10_0 x0.length y10_1) := K11.out
  have c5_6 : Below w5.heap.size w5 (w5.alloc (.cells #[.slice y10_0 x0.length y10_1] 26)) := hb6
  go_wp2_with fail
  refine (implEquivalenceClasses_c _ x0 _ ((ou9.below c5_6 (Nat.le_refl _)).at_ (by omega)) W0.out S0).mono ?_
  rintro e w7 ⟨r13_0, rfl, p13_0, q13_0, hb7⟩
  have z7 : (w5.alloc (.cells #[.slice y10_0 x0.length y10_1] 26)).heap.size ≤ w7.heap.size := hb7.size
  have NC13_0 := IntSS_cnt_le (EquivalenceClasses_r0 x0)
  clear f12
  have c4_7 : Below w4.heap.size w4 w7 := ((hb5.trans (hb6.mono (by omega))).trans (hb7.mono (by omega)))
  go_wp2_with fail
  refine (eqIntSS_c _ _ (EquivalenceClasses_r0 x0) _ ((p13_0.below (Below.refl w7.heap.size w7) (Nat.le_refl _)).at_ (Nat.le_refl _)) ((p7_0.below c4_7 (Nat.le_refl _)).more c4_7.size)).mono ?_
  rintro e w8 ⟨rfl, hb8⟩
  have z8 : w7.heap.size ≤ w8.heap.size := hb8.size
  go_wp2_with fail
  have c6_8 : Below (w5.alloc (.cells #[.slice y10_0 x0.length y10_1] 26)).heap.size (w5.alloc (.cells #[.slice y10_0 x0.length y10_1] 26)) w8 := (hb7.trans (hb8.mono (by omega)))
  have f14 : w8.cell? ⟨w5.heap.size, 0, none⟩ = some (.slice y10_0 x0.length y10_1) := ((c6_8).cell (p := ⟨w5.heap.size, 0, none⟩) (by show w5.heap.size < _; omega)).trans K11.out
  have gf14 := Aft.cell (B := w8.heap.size) (by omega) f14
  clear f14
  have c1_8 : Below (w.alloc (.cells #[.slice v0_0 x0.length v0_1] 46)).heap.size (w.alloc (.cells #[.slice v0_0 x0.length v0_1] 46)) w8 := ((((c1_4.trans (hb5.mono (by omega))).trans (hb6.mono (by omega))).trans (hb7.mono (by omega))).trans (hb8.mono (by omega)))
  have f15 : w8.cell? ⟨w.heap.size, 0, none⟩ = some (.slice v0_0 x0.length v0_1) := ((c1_8).cell (p := ⟨w.heap.size, 0, none⟩) (by show w.heap.size < _; omega)).trans K1.out
  have gf15 := Aft.cell (B := w8.heap.size) (by omega) f15
  clear f15
  refine wp_region_plan (C := fun w' => ∃ u : Aft w8.heap.size w8, w' = u.now) (.still 0 (.still 1 (.move true 2 (.move true 3 (.still 4 .done) .none) .none))) (by kernel_rfl) (by kernel_rfl) (by kernel_rfl) (fun _ => ⟨⟨_, (Below.refl _ _).drew⟩, rfl⟩) ?_
  have hb9 : Below w8.heap.size w8 w8.drew := (Below.refl _ _).drew
  have z9 : w8.drew.heap.size = w8.heap.size := rfl
  have c0_9 : Below w.heap.size w w8.drew := (((((c0_4.trans (hb5.mono (by omega))).trans (hb6.mono (by omega))).trans (hb7.mono (by omega))).trans (hb8.mono (by omega))).trans (hb9.mono (by omega)))
  refine plan_look _ rfl rfl ?_
  go_big_quiet_step (fail)
  refine wpQuiet_nil ?_
  refine plan_look _ rfl rfl ?_
  go_big_quiet_step (fail)
  refine wpQuiet_nil ?_
  refine plan_call _ 36 _ _ _ _ _ rfl _ Try.func36 (by kernel_rfl) (by kernel_rfl) ?_ True.intro
  show Calls Try.prog 36 #[.agg #[.slice v0_0 x0.length v0_1]] _ _
  refine (toUnionFind_c _ x0 _ ((A0.out.below c0_9 (Nat.le_refl _)).more c0_9.size) S0).mono ?_
  rintro e w10 ⟨u16, rfl, ou16, hb10⟩
  have z10 : w8.drew.heap.size ≤ w10.heap.size := hb10.size
  obtain ⟨y17_0, y17_1, rfl⟩ := UnionFind_form (ou16.at_ (Nat.le_refl _))
  have c8_10 : Below w8.heap.size w8 w10 := (hb9.trans (hb10.mono (by omega)))
  refine ⟨_, rfl, fun _ => ⟨⟨_, c8_10⟩, rfl⟩, ?_⟩
  refine plan_put ?_ (by simp only [Act.put, List.setIfInBounds_toArray, List.set_cons_succ, List.set_cons_zero]; rfl)
  have c5_10 : Below w5.heap.size w5 w10 := ((((c5_6.trans (hb7.mono (by omega))).trans (hb8.mono (by omega))).trans (hb9.mono (by omega))).trans (hb10.mono (by omega)))
  refine plan_call _ 32 _ _ _ _ _ rfl _ Try.func32 (by kernel_rfl) (by kernel_rfl) ?_ True.intro
  show Calls Try.prog 32 #[.agg #[.slice y10_0 x0.length y10_1], .agg #[.slice y17_0 x0.length y17_1]] _ _
  refine (eqUnionFind_c _ _ x0 _ ((ou9.below c5_10 (Nat.le_refl _)).at_ (by omega)) ((ou16.below (Below.refl w10.heap.size w10) (Nat.le_refl _)).at_ (Nat.le_refl _))).mono ?_
  rintro e w11 ⟨rfl, hb11⟩
  have z11 : w10.heap.size ≤ w11.heap.size := hb11.size
  have c8_11 : Below w8.heap.size w8 w11 := (c8_10.trans (hb11.mono (by omega)))
  refine ⟨_, rfl, fun _ => ⟨⟨_, c8_11⟩, rfl⟩, ?_⟩
  refine plan_put ?_ (by simp only [Act.put, List.setIfInBounds_toArray, List.set_cons_succ, List.set_cons_zero]; rfl)
  refine plan_look _ rfl rfl ?_
  go_big_quiet_step (fail)
  refine wpQuiet_nil ?_
  refine plan_done ?_
  clear gf14 gf15
  have c6_11 : Below (w5.alloc (.cells #[.slice y10_0 x0.length y10_1] 26)).heap.size (w5.alloc (.cells #[.slice y10_0 x0.length y10_1] 26)) w11 := (((c6_8.trans (hb9.mono (by omega))).trans (hb10.mono (by omega))).trans (hb11.mono (by omega)))
  have f18 : w11.cell? ⟨w5.heap.size, 0, none⟩ = some (.slice y10_0 x0.length y10_1) := ((c6_11).cell (p := ⟨w5.heap.size, 0, none⟩) (by show w5.heap.size < _; omega)).trans K11.out
  have c5_11 : Below w5.heap.size w5 w11 := (c5_10.trans (hb11.mono (by omega)))
  have c7_11 : Below w7.heap.size w7 w11 := (((hb8.trans (hb9.mono (by omega))).trans (hb10.mono (by omega))).trans (hb11.mono (by omega)))
  go_wp2_with fail
  refine (markUnionFind_c _ _ _ x0 (1) _ (ou9.below c5_11 (Nat.le_refl _)) S0 (by omega) (by omega)).mono ?_
  rintro e w12 ⟨rfl, om12, hb12⟩
  have om12_g0 := (p13_0.below c7_11 (Nat.le_refl _)).chg hb12 (by omega)
  have z12 : w11.heap.size ≤ w12.heap.size := hb12.size
  clear f18
  have K19 := Lib.hid ((hb12.mid_cell (b := w5.heap.size) (o := 0) (by omega) (by omega)).trans (((c6_11).cell (p := ⟨w5.heap.size, 0, none⟩) (by show w5.heap.size < _; omega)).trans K11.out))
  have c4_12 : Below w4.heap.size w4 w12 := (((((c4_7.trans (hb8.mono (by omega))).trans (hb9.mono (by omega))).trans (hb10.mono (by omega))).trans (hb11.mono (by omega))).trans (hb12.mid_below (by omega) (by omega)))
  go_wp2_with fail
  refine (eqIntSS_c _ _ (EquivalenceClasses_r0 x0) _ ((om12_g0.below (Below.refl w12.heap.size w12) (by omega)).at_ (by omega)) ((p7_0.below c4_12 (Nat.le_refl _)).more c4_12.size)).mono ?_
  rintro e w13 ⟨rfl, hb13⟩
  have z13 : w12.heap.size ≤ w13.heap.size := hb13.size
  have c12_13 : Below w12.heap.size w12 w13 := hb13
  go_wp2_with fail
  refine (markIntSS_c _ _ _ (EquivalenceClasses_r0 x0) (1) _ (om12_g0.below c12_13 (by omega)) q13_0 (by omega) (by omega)).mono ?_
  rintro e w14 ⟨rfl, om14, hb14⟩
  have om14_tu9 := (om12.below c12_13 (by omega)).chg hb14 (by omega)
  have z14 : w13.heap.size ≤ w14.heap.size := hb14.size
  have K20 := Lib.hid ((hb14.mid_cell (b := w5.heap.size) (o := 0) (by omega) (by omega)).trans (((c12_13).cell (p := ⟨w5.heap.size, 0, none⟩) (by show w5.heap.size < _; omega)).trans K19.out))
  go_wp2_with fail
  refine (heldIntSS_c _ (EquivalenceClasses_r0 x0) (1) _ ((om14.below (Below.refl w14.heap.size w14) (by omega)).at_ (by omega)) q13_0 (by omega) (by omega)).mono ?_
  rintro e w15 ⟨rfl, hb15⟩
  have z15 : w14.heap.size ≤ w15.heap.size := hb15.size
  have c1_15 : Below (w.alloc (.cells #[.slice v0_0 x0.length v0_1] 46)).heap.size (w.alloc (.cells #[.slice v0_0 x0.length v0_1] 46)) w15 := (((((((c1_8.trans (hb9.mono (by omega))).trans (hb10.mono (by omega))).trans (hb11.mono (by omega))).trans (hb12.mid_below (by omega) (by omega))).trans (hb13.mono (by omega))).trans (hb14.mid_below (by omega) (by omega))).trans (hb15.mono (by omega)))
  have f21 : w15.cell? ⟨w.heap.size, 0, none⟩ = some (.slice v0_0 x0.length v0_1) := ((c1_15).cell (p := ⟨w.heap.size, 0, none⟩) (by show w.heap.size < _; omega)).trans K1.out
  have c0_15 : Below w.heap.size w w15 := ((((((c0_9.trans (hb10.mono (by omega))).trans (hb11.mono (by omega))).trans (hb12.mid_below (by omega) (by omega))).trans (hb13.mono (by omega))).trans (hb14.mid_below (by omega) (by omega))).trans (hb15.mono (by omega)))
  go_wp2_with fail
  refine (toUnionFind_c _ x0 _ ((A0.out.below c0_15 (Nat.le_refl _)).more c0_15.size) S0).mono ?_
  rintro e w16 ⟨u22, rfl, ou22, hb16⟩
  have z16 : w15.heap.size ≤ w16.heap.size := hb16.size
  obtain ⟨y23_0, y23_1, rfl⟩ := UnionFind_form (ou22.at_ (Nat.le_refl _))
  go_wp2_with fail
  refine (implEquivalenceClasses_c _ x0 _ ((ou22.below (Below.refl w16.heap.size w16) (Nat.le_refl _)).at_ (Nat.le_refl _)) W0.out S0).mono ?_
  rintro e w17 ⟨r24_0, rfl, p24_0, q24_0, hb17⟩
  have z17 : w16.heap.size ≤ w17.heap.size := hb17.size
  have NC24_0 := IntSS_cnt_le (EquivalenceClasses_r0 x0)
  clear f21
  have c4_17 : Below w4.heap.size w4 w17 := (((((c4_12.trans (hb13.mono (by omega))).trans (hb14.mid_below (by omega) (by omega))).trans (hb15.mono (by omega))).trans (hb16.mono (by omega))).trans (hb17.mono (by omega)))
  go_wp2_with fail
  refine (eqIntSS_c _ _ (EquivalenceClasses_r0 x0) _ ((p24_0.below (Below.refl w17.heap.size w17) (Nat.le_refl _)).at_ (Nat.le_refl _)) ((p7_0.below c4_17 (Nat.le_refl _)).more c4_17.size)).mono ?_
  rintro e w18 ⟨rfl, hb18⟩
  have z18 : w17.heap.size ≤ w18.heap.size := hb18.size
  have c14_18 : Below w14.heap.size w14 w18 := (((hb15.trans (hb16.mono (by omega))).trans (hb17.mono (by omega))).trans (hb18.mono (by omega)))
  go_wp2_with fail
  refine (heldIntSS_c _ (EquivalenceClasses_r0 x0) (1) _ ((om14.below c14_18 (by omega)).at_ (by omega)) q24_0 (by omega) (by omega)).mono ?_
  rintro e w19 ⟨rfl, hb19⟩
  have z19 : w18.heap.size ≤ w19.heap.size := hb19.size
  have c0_19 : Below w.heap.size w w19 := ((((c0_15.trans (hb16.mono (by omega))).trans (hb17.mono (by omega))).trans (hb18.mono (by omega))).trans (hb19.mono (by omega)))
  go_wp2
  go_ret
  exact ⟨rfl, c0_19⟩

theorem ty : ∀ t ∈ Try.f10.params.toList, Try.prog.readableRec t = true ∧ t < Try.prog.types.size := by
  rw [Try.params10]; intro t ht
  simp only [List.mem_cons, List.not_mem_nil, or_false] at ht
  subst ht; exact ⟨by kernel_rfl, of_decide_eq_true (by kernel_rfl)⟩
set_option maxRecDepth 100000 in
theorem lifted (os : Os) (started : os.Started) (H : Type) (enc : TypeId × Value → H) :
    ReturnsInHanded {} Try.checked os 10 .any (Rows.fnExactEquivalenceClassesSpec.pre6 enc Try.prog Try.f10 Rows.fnExactEquivalenceClassesRow.domain false) (Rows.fnExactEquivalenceClassesSpec.post enc Try.prog Try.f10 false true false false) := by
  refine returnsInHanded_of_change (C := Try.checked) ownFact started (by kernel_rfl) Try.func10
    (ChangeSpec.witness6 (enc := enc) (C := Try.checked) false ⟨#[], #[.agg #[.slice none 0 0]], []⟩ 8 (by kernel_rfl) (by kernel_rfl) (by kernel_rfl) (by kernel_rfl)) ?_
  intro W base args ds gs before hval0 hW hcnd _
  have hval : ∀ (j : Nat) t v, Try.f10.params[j]? = some t → args[j]? = some v → Value.okWide Try.prog W .any base t v := hval0
  have hW' := hW
  obtain ⟨p, q, hA0, hV, _, hfz, hnd⟩ := hW
  have hA : DataW.TrodAll enc Try.prog W 0 (fun _ => true) true Try.f10.params.toList args.toList ds p := hA0
  rw [Try.params10] at hA hval
  obtain ⟨v0, vs0, d0, ds0, p0, q0, hargs, rfl, _, h0, r0⟩ := trodAll_cons hA
  obtain ⟨rfl, rfl, _⟩ := trodAll_nil r0
  obtain rfl : args = #[v0] := by cases args; simp_all
  obtain ⟨rfl, _⟩ := trodVars_none hV
  obtain ⟨x0, hx0, hwx0⟩ := open_UnionFind (hval 0 _ v0 rfl rfl) h0 (DataW.TrodAll.lt (trodAll_mk1 h0))
  refine (walk v0 x0 W hx0 hwx0).mono fun e W' ⟨he, hb⟩ => ?_
  subst he
  exact ⟨_, rfl, law_post laidFact ty Try.underlying4 (by kernel_rfl) rfl hW' rfl hb⟩
theorem holds : Rows.FnExactEquivalenceClassesSaid :=
  OpenClaim.holds_of_wide 10 Try.f10 rfl rfl rfl rfl rfl rfl rfl ⟨rfl, rfl, rfl, rfl, rfl⟩ rfl rfl rfl rfl rfl (by kernel_rfl) Try.func10 (by kernel_rfl)
    (of_decide_eq_true (by kernel_rfl)) (by unfold Func.isWrapper; first | (rw [if_pos (by decide +kernel)]; kernel_rfl) | (rw [if_neg (by decide +kernel)]; exact ⟨rfl, rfl⟩))
    (fun os started H enc _ => lifted os started H enc)
end lawFnExactEquivalenceClasses

end Go.Proofs.Ytalijnfbopcmeaa
