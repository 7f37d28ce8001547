/-
  FnExactPositionGraph: for every argument the translated law returns true, and each argument reads afterwards as it read before. Conditions: none beyond the given row's own.
-/
import Derived.Test.YtakflmaeclneiaaGreatPlan
import Derived.Test.YtakflmaeclneiaaGreatEdgeC
import Derived.Test.YtakflmaeclneiaaGreatDepSC
import Derived.Test.YtakflmaeclneiaaGreatRelsC
import Derived.Test.YtakflmaeclneiaaGreatGraphS
import Derived.Test.YtakflmaeclneiaaGreatGraphI
import Derived.Test.YtakflmaeclneiaaGreatLift
namespace Go.Proofs.YtakflmaeclneiaaGreat
open Go.RowKit Go.ChangeShapes Go.WideShapes Go.ChangeAt Go.ChangeMaps

namespace lawFnExactPositionGraph

set_option maxRecDepth 100000 in
set_option maxHeartbeats 1600000 in
theorem walk (v0 : Value) (x0 : List Rel) (v1 : Value) (x1 : List Dep) (w : World) (h0 : RelationS_at w w.heap.size v0 x0) (hw0 : RelationS_wf x0) (h1 : DependencyS_at w w.heap.size v1 x1) (hw1 : DependencyS_wf x1) :
    Calls Tryz.prog 3 #[v0, v1] w fun e w' => e = .returned (.bool true) ∧ Below w.heap.size w w' := by
  have A0 := Lib.hid h0
  have W0 := Lib.hid hw0
  clear h0 hw0
  have A1 := Lib.hid h1
  have W1 := Lib.hid hw1
  clear h1 hw1
  by_cases hz1 : ((RelationS_sz x0 : Nat) : Int) ≤ 1048576
  rotate_left
  · skip
    have e1 := szLeft_no hz1
    go_enter Tryz.func3, Tryz.ntmps3
    go_wp2_with fail
    refine (szRelationS_c _ x0 (1048576) _ ((A0.out.below (Below.refl w.heap.size w) (Nat.le_refl _)).more (Below.refl w.heap.size w).size) W0.out (by omega) (by omega)).mono ?_
    rw [e1]
    rintro e w1 ⟨rfl, hb1⟩
    have z1 : w.heap.size ≤ w1.heap.size := hb1.size
    have c0_1 : Below w.heap.size w w1 := hb1
    go_wp2
    go_ret
    exact ⟨rfl, c0_1⟩
  by_cases hz2 : ((DependencyS_sz x1 : Nat) : Int) ≤ 1048576 - (RelationS_sz x0 : Nat)
  rotate_left
  · skip
    have e1 := szLeft_yes hz1
    have e2 := szLeft_no hz2
    go_enter Tryz.func3, Tryz.ntmps3
    go_wp2_with fail
    refine (szRelationS_c _ x0 (1048576) _ ((A0.out.below (Below.refl w.heap.size w) (Nat.le_refl _)).more (Below.refl w.heap.size w).size) W0.out (by omega) (by omega)).mono ?_
    rw [e1]
    rintro e w1 ⟨rfl, hb1⟩
    have z1 : w.heap.size ≤ w1.heap.size := hb1.size
    have c0_1 : Below w.heap.size w w1 := hb1
    go_wp2_with fail
    refine (szDependencyS_c _ x1 (1048576 - (RelationS_sz x0 : Nat)) _ ((A1.out.below c0_1 (Nat.le_refl _)).more c0_1.size) W1.out (by omega) (by omega)).mono ?_
    rw [e2]
    rintro e w2 ⟨rfl, hb2⟩
    have z2 : w1.heap.size ≤ w2.heap.size := hb2.size
    have c0_2 : Below w.heap.size w w2 := (c0_1.trans (hb2.mono (by omega)))
    go_wp2
    go_ret
    exact ⟨rfl, c0_2⟩
  have e1 := szLeft_yes hz1
  have S0 : RelationS_sz x0 ≤ 1048576 := by omega
  have N0 := RelationS_cnt_le x0
  have e2 := szLeft_yes hz2
  have S1 : DependencyS_sz x1 ≤ 1048576 := by omega
  have N1 := DependencyS_cnt_le x1
  go_enter Tryz.func3, Tryz.ntmps3
  go_wp2_with fail
  refine (szRelationS_c _ x0 (1048576) _ ((A0.out.below (Below.refl w.heap.size w) (Nat.le_refl _)).more (Below.refl w.heap.size w).size) W0.out (by omega) (by omega)).mono ?_
  rw [e1]
  rintro e w1 ⟨rfl, hb1⟩
  have z1 : w.heap.size ≤ w1.heap.size := hb1.size
  have c0_1 : Below w.heap.size w w1 := hb1
  go_wp2_with fail
  refine (szDependencyS_c _ x1 (1048576 - (RelationS_sz x0 : Nat)) _ ((A1.out.below c0_1 (Nat.le_refl _)).more c0_1.size) W1.out (by omega) (by omega)).mono ?_
  rw [e2]
  rintro e w2 ⟨rfl, hb2⟩
  have z2 : w1.heap.size ≤ w2.heap.size := hb2.size
  have c0_2 : Below w.heap.size w w2 := (c0_1.trans (hb2.mono (by omega)))
  go_wp2_with fail
  refine (toRelationS_c _ x0 _ ((A0.out.below c0_2 (Nat.le_refl _)).more c0_2.size) S0).mono ?_
  rintro e w3 ⟨u1, rfl, ou1, hb3⟩
  have z3 : w2.heap.size ≤ w3.heap.size := hb3.size
  have c0_3 : Below w.heap.size w w3 := (c0_2.trans (hb3.mono (by omega)))
  go_wp2_with fail
  refine (toDependencyS_c _ x1 _ ((A1.out.below c0_3 (Nat.le_refl _)).more c0_3.size) S1).mono ?_
  rintro e w4 ⟨u2, rfl, ou2, hb4⟩
  have z4 : w3.heap.size ≤ w4.heap.size := hb4.size
  have c3_4 : Below w3.heap.size w3 w4 := hb4
  go_wp2_with fail
  refine (specPositionGraph_c _ x0 _ x1 _ ((ou1.below c3_4 (Nat.le_refl _)).at_ (by omega)) W0.out S0 ((ou2.below (Below.refl w4.heap.size w4) (Nat.le_refl _)).at_ (Nat.le_refl _)) W1.out S1).mono ?_
  rintro e w5 ⟨r3_0, rfl, p3_0, hb5⟩
  have z5 : w4.heap.size ≤ w5.heap.size := hb5.size
  have c0_5 : Below w.heap.size w w5 := ((c0_3.trans (hb4.mono (by omega))).trans (hb5.mono (by omega)))
  go_wp2_with fail
  refine (toRelationS_c _ x0 _ ((A0.out.below c0_5 (Nat.le_refl _)).more c0_5.size) S0).mono ?_
  rintro e w6 ⟨u4, rfl, ou4, hb6⟩
  have z6 : w5.heap.size ≤ w6.heap.size := hb6.size
  have c0_6 : Below w.heap.size w w6 := (c0_5.trans (hb6.mono (by omega)))
  go_wp2_with fail
  refine (toDependencyS_c _ x1 _ ((A1.out.below c0_6 (Nat.le_refl _)).more c0_6.size) S1).mono ?_
  rintro e w7 ⟨u5, rfl, ou5, hb7⟩
  have z7 : w6.heap.size ≤ w7.heap.size := hb7.size
  have c6_7 : Below w6.heap.size w6 w7 := hb7
  go_wp2_with fail
  refine (implPositionGraph_c _ x0 _ x1 _ ((ou4.below c6_7 (Nat.le_refl _)).at_ (by omega)) W0.out S0 ((ou5.below (Below.refl w7.heap.size w7) (Nat.le_refl _)).at_ (Nat.le_refl _)) W1.out S1).mono ?_
  rintro e w8 ⟨r6_0, rfl, p6_0, q6_0, hb8⟩
  have z8 : w7.heap.size ≤ w8.heap.size := hb8.size
  have NC6_0 := PositionEdgeS_cnt_le (PositionGraph_r0 x0 x1)
  have c5_8 : Below w5.heap.size w5 w8 := ((hb6.trans (hb7.mono (by omega))).trans (hb8.mono (by omega)))
  go_wp2_with fail
  refine (eqPositionEdgeS_c _ _ (PositionGraph_r0 x0 x1) _ ((p6_0.below (Below.refl w8.heap.size w8) (Nat.le_refl _)).at_ (Nat.le_refl _)) ((p3_0.below c5_8 (Nat.le_refl _)).more c5_8.size)).mono ?_
  rintro e w9 ⟨rfl, hb9⟩
  have z9 : w8.heap.size ≤ w9.heap.size := hb9.size
  have c0_9 : Below w.heap.size w w9 := (((c0_6.trans (hb7.mono (by omega))).trans (hb8.mono (by omega))).trans (hb9.mono (by omega)))
  go_wp2_with fail
  refine (toRelationS_c _ x0 _ ((A0.out.below c0_9 (Nat.le_refl _)).more c0_9.size) S0).mono ?_
  rintro e w10 ⟨u7, rfl, ou7, hb10⟩
  have z10 : w9.heap.size ≤ w10.heap.size := hb10.size
  have c6_10 : Below w6.heap.size w6 w10 := (((c6_7.trans (hb8.mono (by omega))).trans (hb9.mono (by omega))).trans (hb10.mono (by omega)))
  go_wp2_with fail
  refine (eqRelationS_c _ _ x0 _ ((ou4.below c6_10 (Nat.le_refl _)).at_ (by omega)) ((ou7.below (Below.refl w10.heap.size w10) (Nat.le_refl _)).at_ (Nat.le_refl _))).mono ?_
  rintro e w11 ⟨rfl, hb11⟩
  have z11 : w10.heap.size ≤ w11.heap.size := hb11.size
  have c0_11 : Below w.heap.size w w11 := ((c0_9.trans (hb10.mono (by omega))).trans (hb11.mono (by omega)))
  go_wp2_with fail
  refine (toDependencyS_c _ x1 _ ((A1.out.below c0_11 (Nat.le_refl _)).more c0_11.size) S1).mono ?_
  rintro e w12 ⟨u8, rfl, ou8, hb12⟩
  have z12 : w11.heap.size ≤ w12.heap.size := hb12.size
  have c7_12 : Below w7.heap.size w7 w12 := ((((hb8.trans (hb9.mono (by omega))).trans (hb10.mono (by omega))).trans (hb11.mono (by omega))).trans (hb12.mono (by omega)))
  go_wp2_with fail
  refine (eqDependencyS_c _ _ x1 _ ((ou5.below c7_12 (Nat.le_refl _)).at_ (by omega)) ((ou8.below (Below.refl w12.heap.size w12) (Nat.le_refl _)).at_ (Nat.le_refl _))).mono ?_
  rintro e w13 ⟨rfl, hb13⟩
  have z13 : w12.heap.size ≤ w13.heap.size := hb13.size
  have c6_13 : Below w6.heap.size w6 w13 := (((c6_10.trans (hb11.mono (by omega))).trans (hb12.mono (by omega))).trans (hb13.mono (by omega)))
  have c7_13 : Below w7.heap.size w7 w13 := (c7_12.trans (hb13.mono (by omega)))
  have c8_13 : Below w8.heap.size w8 w13 := ((((hb9.trans (hb10.mono (by omega))).trans (hb11.mono (by omega))).trans (hb12.mono (by omega))).trans (hb13.mono (by omega)))
  go_wp2_with fail
  refine (markRelationS_c _ _ _ x0 (1) _ (ou4.below c6_13 (Nat.le_refl _)) S0 (by omega) (by omega)).mono ?_
  rintro e w14 ⟨rfl, om14, hb14⟩
  have om14_tu5 := (ou5.below c7_13 (Nat.le_refl _)).chg hb14 (by omega)
  have om14_g0 := (p6_0.below c8_13 (Nat.le_refl _)).chg hb14 (by omega)
  have z14 : w13.heap.size ≤ w14.heap.size := hb14.size
  go_wp2_with fail
  refine (markDependencyS_c _ _ _ x1 (1 + RelationS_cnt x0) _ (om14_tu5.below (Below.refl w14.heap.size w14) (by omega)) S1 (by omega) (by omega)).mono ?_
  rintro e w15 ⟨rfl, om15, hb15⟩
  have om15_tu4 := (om14.below (Below.refl w14.heap.size w14) (by omega)).chg hb15 (by omega)
  have om15_g0 := (om14_g0.below (Below.refl w14.heap.size w14) (by omega)).chg hb15 (by omega)
  have z15 : w14.heap.size ≤ w15.heap.size := hb15.size
  have c5_15 : Below w5.heap.size w5 w15 := (((((((c5_8.trans (hb9.mono (by omega))).trans (hb10.mono (by omega))).trans (hb11.mono (by omega))).trans (hb12.mono (by omega))).trans (hb13.mono (by omega))).trans (hb14.mid_below (by omega) (by omega))).trans (hb15.mid_below (by omega) (by omega)))
  go_wp2_with fail
  refine (eqPositionEdgeS_c _ _ (PositionGraph_r0 x0 x1) _ ((om15_g0.below (Below.refl w15.heap.size w15) (by omega)).at_ (by omega)) ((p3_0.below c5_15 (Nat.le_refl _)).more c5_15.size)).mono ?_
  rintro e w16 ⟨rfl, hb16⟩
  have z16 : w15.heap.size ≤ w16.heap.size := hb16.size
  have c15_16 : Below w15.heap.size w15 w16 := hb16
  go_wp2_with fail
  refine (markPositionEdgeS_c _ _ _ (PositionGraph_r0 x0 x1) (1) _ (om15_g0.below c15_16 (by omega)) q6_0 (by omega) (by omega)).mono ?_
  rintro e w17 ⟨rfl, om17, hb17⟩
  have om17_tu4 := (om15_tu4.below c15_16 (by omega)).chg hb17 (by omega)
  have om17_tu5 := (om15.below c15_16 (by omega)).chg hb17 (by omega)
  have z17 : w16.heap.size ≤ w17.heap.size := hb17.size
  go_wp2_with fail
  refine (heldPositionEdgeS_c _ (PositionGraph_r0 x0 x1) (1) _ ((om17.below (Below.refl w17.heap.size w17) (by omega)).at_ (by omega)) q6_0 (by omega) (by omega)).mono ?_
  rintro e w18 ⟨rfl, hb18⟩
  have z18 : w17.heap.size ≤ w18.heap.size := hb18.size
  have c0_18 : Below w.heap.size w w18 := (((((((c0_11.trans (hb12.mono (by omega))).trans (hb13.mono (by omega))).trans (hb14.mid_below (by omega) (by omega))).trans (hb15.mid_below (by omega) (by omega))).trans (hb16.mono (by omega))).trans (hb17.mid_below (by omega) (by omega))).trans (hb18.mono (by omega)))
  go_wp2_with fail
  refine (toRelationS_c _ x0 _ ((A0.out.below c0_18 (Nat.le_refl _)).more c0_18.size) S0).mono ?_
  rintro e w19 ⟨u9, rfl, ou9, hb19⟩
  have z19 : w18.heap.size ≤ w19.heap.size := hb19.size
  have c0_19 : Below w.heap.size w w19 := (c0_18.trans (hb19.mono (by omega)))
  go_wp2_with fail
  refine (toDependencyS_c _ x1 _ ((A1.out.below c0_19 (Nat.le_refl _)).more c0_19.size) S1).mono ?_
  rintro e w20 ⟨u10, rfl, ou10, hb20⟩
  have z20 : w19.heap.size ≤ w20.heap.size := hb20.size
  have c19_20 : Below w19.heap.size w19 w20 := hb20
  go_wp2_with fail
  refine (implPositionGraph_c _ x0 _ x1 _ ((ou9.below c19_20 (Nat.le_refl _)).at_ (by omega)) W0.out S0 ((ou10.below (Below.refl w20.heap.size w20) (Nat.le_refl _)).at_ (Nat.le_refl _)) W1.out S1).mono ?_
  rintro e w21 ⟨r11_0, rfl, p11_0, q11_0, hb21⟩
  have z21 : w20.heap.size ≤ w21.heap.size := hb21.size
  have NC11_0 := PositionEdgeS_cnt_le (PositionGraph_r0 x0 x1)
  have c5_21 : Below w5.heap.size w5 w21 := ((((((c5_15.trans (hb16.mono (by omega))).trans (hb17.mid_below (by omega) (by omega))).trans (hb18.mono (by omega))).trans (hb19.mono (by omega))).trans (hb20.mono (by omega))).trans (hb21.mono (by omega)))
  go_wp2_with fail
  refine (eqPositionEdgeS_c _ _ (PositionGraph_r0 x0 x1) _ ((p11_0.below (Below.refl w21.heap.size w21) (Nat.le_refl _)).at_ (Nat.le_refl _)) ((p3_0.below c5_21 (Nat.le_refl _)).more c5_21.size)).mono ?_
  rintro e w22 ⟨rfl, hb22⟩
  have z22 : w21.heap.size ≤ w22.heap.size := hb22.size
  have c17_22 : Below w17.heap.size w17 w22 := ((((hb18.trans (hb19.mono (by omega))).trans (hb20.mono (by omega))).trans (hb21.mono (by omega))).trans (hb22.mono (by omega)))
  go_wp2_with fail
  refine (heldPositionEdgeS_c _ (PositionGraph_r0 x0 x1) (1) _ ((om17.below c17_22 (by omega)).at_ (by omega)) q11_0 (by omega) (by omega)).mono ?_
  rintro e w23 ⟨rfl, hb23⟩
  have z23 : w22.heap.size ≤ w23.heap.size := hb23.size
  have c0_23 : Below w.heap.size w w23 := ((((c0_19.trans (hb20.mono (by omega))).trans (hb21.mono (by omega))).trans (hb22.mono (by omega))).trans (hb23.mono (by omega)))
  go_wp2
  go_ret
  exact ⟨rfl, c0_23⟩

theorem ty : ∀ t ∈ Tryz.f3.params.toList, Tryz.prog.readableRec t = true ∧ t < Tryz.prog.types.size := by
  rw [Tryz.params3]; intro t ht
  simp only [List.mem_cons, List.not_mem_nil, or_false] at ht
  rcases ht with rfl | rfl <;> exact ⟨by kernel_rfl, of_decide_eq_true (by kernel_rfl)⟩
set_option maxRecDepth 100000 in
theorem lifted (os : Os) (started : os.Started) (H : Type) (enc : TypeId × Value → H) :
    ReturnsInHanded {} Tryz.checked os 3 .any (Rows.fnExactPositionGraphSpec.pre6 enc Tryz.prog Tryz.f3 Rows.fnExactPositionGraphRow.domain false) (Rows.fnExactPositionGraphSpec.post enc Tryz.prog Tryz.f3 false true false false) := by
  refine returnsInHanded_of_change (C := Tryz.checked) ownFact started (by kernel_rfl) Tryz.func3
    (ChangeSpec.witness6 (enc := enc) (C := Tryz.checked) false ⟨#[], #[.slice none 0 0, .slice none 0 0], []⟩ 8 (by kernel_rfl) (by kernel_rfl) (by kernel_rfl) (by kernel_rfl)) ?_
  intro W base args ds gs before hval0 hW hcnd _
  have hval : ∀ (j : Nat) t v, Tryz.f3.params[j]? = some t → args[j]? = some v → Value.okWide Tryz.prog W .any base t v := hval0
  have hW' := hW
  obtain ⟨p, q, hA0, hV, _, hfz, hnd⟩ := hW
  have hA : DataW.TrodAll enc Tryz.prog W 0 (fun _ => true) true Tryz.f3.params.toList args.toList ds p := hA0
  rw [Tryz.params3] at hA hval
  obtain ⟨v0, vs0, d0, ds0, p0, q0, hargs, rfl, _, h0, r0⟩ := trodAll_cons hA
  obtain ⟨v1, vs1, d1, ds1, p1, q1, rfl, rfl, _, h1, r1⟩ := trodAll_cons r0
  obtain ⟨rfl, rfl, _⟩ := trodAll_nil r1
  obtain rfl : args = #[v0, v1] := by cases args; simp_all
  obtain ⟨rfl, _⟩ := trodVars_none hV
  obtain ⟨x0, hx0, hwx0⟩ := open_RelationS (hval 0 _ v0 rfl rfl) h0 (DataW.TrodAll.lt (trodAll_mk1 h0))
  obtain ⟨x1, hx1, hwx1⟩ := open_DependencyS (hval 1 _ v1 rfl rfl) h1 (DataW.TrodAll.lt (trodAll_mk1 h1))
  refine (walk v0 x0 v1 x1 W hx0 hwx0 hx1 hwx1).mono fun e W' ⟨he, hb⟩ => ?_
  subst he
  exact ⟨_, rfl, law_post laidFact ty Tryz.underlying4 (by kernel_rfl) rfl hW' rfl hb⟩
theorem holds : Rows.FnExactPositionGraphSaid :=
  OpenClaim.holds_of_wide 3 Tryz.f3 rfl rfl rfl rfl rfl rfl rfl ⟨rfl, rfl, rfl, rfl, rfl⟩ rfl rfl rfl rfl rfl (by kernel_rfl) Tryz.func3 (by kernel_rfl)
    (of_decide_eq_true (by kernel_rfl)) (by unfold Func.isWrapper; first | (rw [if_pos (by decide +kernel)]; kernel_rfl) | (rw [if_neg (by decide +kernel)]; exact ⟨rfl, rfl⟩))
    (fun os started H enc _ => lifted os started H enc)
end lawFnExactPositionGraph

end Go.Proofs.YtakflmaeclneiaaGreat
