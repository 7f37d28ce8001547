/-
  FnExactFormatDependencies: for every argument the translated law returns true, and each argument reads afterwards as it read before. Conditions: none beyond the given row's own.
-/
import Derived.Test.YtmecdjincmkofaaGreatDoorPlan
import Derived.Test.YtmecdjincmkofaaGreatDoorRelsC
import Derived.Test.YtmecdjincmkofaaGreatDoorDepSC
import Derived.Test.YtmecdjincmkofaaGreatDoorLift
import Derived.Test.YtmecdjincmkofaaGreatDoorLaid
import Derived.Test.YtmecdjincmkofaaGreatDoorParDSS
import Derived.Test.YtmecdjincmkofaaGreatDoorFmtTI
namespace Go.Proofs.YtmecdjincmkofaaGreatDoor
open Go.RowKit Go.ChangeShapes Go.WideShapes Go.ChangeAt Go.ChangeMaps

namespace lawFnExactFormatDependencies

set_option maxRecDepth 100000 in
set_option maxHeartbeats 1600000 in
theorem walk (v0 : Value) (x0 : List Rel) (v1 : Value) (x1 : List Dep) (w : World) (h0 : RelationS_at w w.heap.size v0 x0) (hw0 : RelationS_wf x0) (h1 : DependencyS_at w w.heap.size v1 x1) (hw1 : DependencyS_wf x1) (ht : Tab w) :
    Calls Tryz.prog 7 #[v0, v1] w fun e w' => e = .returned (.bool true) ∧ Below w.heap.size w w' := by
  have A0 := Lib.hid h0
  have W0 := Lib.hid hw0
  clear h0 hw0
  have A1 := Lib.hid h1
  have W1 := Lib.hid hw1
  clear h1 hw1
  by_cases hz1 : ((RelationS_sz x0 : Nat) : Int) ≤ 1048576
  rotate_left
  · skip
    have e1 := szLeft_no hz1
    go_enter Tryz.func7, Tryz.ntmps7
    go_wp2_with fail
    refine (szRelationS_c _ x0 (1048576) _ ((A0.out.below (Below.refl w.heap.size w) (Nat.le_refl _)).more (Below.refl w.heap.size w).size) W0.out (by omega) (by omega)).mono ?_
    rw [e1]
    rintro e w1 ⟨rfl, hb1⟩
    have z1 : w.heap.size ≤ w1.heap.size := hb1.size
    have c0_1 : Below w.heap.size w w1 := hb1
    go_wp2
    go_ret
    exact ⟨rfl, c0_1⟩
  by_cases hz2 : ((DependencyS_sz x1 : Nat) : Int) ≤ 1048576 - (RelationS_sz x0 : Nat)
  rotate_left
  · skip
    have e1 := szLeft_yes hz1
    have e2 := szLeft_no hz2
    go_enter Tryz.func7, Tryz.ntmps7
    go_wp2_with fail
    refine (szRelationS_c _ x0 (1048576) _ ((A0.out.below (Below.refl w.heap.size w) (Nat.le_refl _)).more (Below.refl w.heap.size w).size) W0.out (by omega) (by omega)).mono ?_
    rw [e1]
    rintro e w1 ⟨rfl, hb1⟩
    have z1 : w.heap.size ≤ w1.heap.size := hb1.size
    have c0_1 : Below w.heap.size w w1 := hb1
    go_wp2_with fail
    refine (szDependencyS_c _ x1 (1048576 - (RelationS_sz x0 : Nat)) _ ((A1.out.below c0_1 (Nat.le_refl _)).more c0_1.size) W1.out (by omega) (by omega)).mono ?_
    rw [e2]
    rintro e w2 ⟨rfl, hb2⟩
    have z2 : w1.heap.size ≤ w2.heap.size := hb2.size
    have c0_2 : Below w.heap.size w w2 := (c0_1.trans (hb2.mono (by omega)))
    go_wp2
    go_ret
    exact ⟨rfl, c0_2⟩
  have e1 := szLeft_yes hz1
  have S0 : RelationS_sz x0 ≤ 1048576 := by omega
  have N0 := RelationS_cnt_le x0
  have e2 := szLeft_yes hz2
  have S1 : DependencyS_sz x1 ≤ 1048576 := by omega
  have N1 := DependencyS_cnt_le x1
  go_enter Tryz.func7, Tryz.ntmps7
  go_wp2_with fail
  refine (szRelationS_c _ x0 (1048576) _ ((A0.out.below (Below.refl w.heap.size w) (Nat.le_refl _)).more (Below.refl w.heap.size w).size) W0.out (by omega) (by omega)).mono ?_
  rw [e1]
  rintro e w1 ⟨rfl, hb1⟩
  have z1 : w.heap.size ≤ w1.heap.size := hb1.size
  have c0_1 : Below w.heap.size w w1 := hb1
  go_wp2_with fail
  refine (szDependencyS_c _ x1 (1048576 - (RelationS_sz x0 : Nat)) _ ((A1.out.below c0_1 (Nat.le_refl _)).more c0_1.size) W1.out (by omega) (by omega)).mono ?_
  rw [e2]
  rintro e w2 ⟨rfl, hb2⟩
  have z2 : w1.heap.size ≤ w2.heap.size := hb2.size
  have c0_2 : Below w.heap.size w w2 := (c0_1.trans (hb2.mono (by omega)))
  go_wp2_with fail
  refine (toRelationS_c _ x0 _ ((A0.out.below c0_2 (Nat.le_refl _)).more c0_2.size) S0).mono ?_
  rintro e w3 ⟨u1, rfl, ou1, hb3⟩
  have z3 : w2.heap.size ≤ w3.heap.size := hb3.size
  have c0_3 : Below w.heap.size w w3 := (c0_2.trans (hb3.mono (by omega)))
  go_wp2_with fail
  refine (toDependencyS_c _ x1 _ ((A1.out.below c0_3 (Nat.le_refl _)).more c0_3.size) S1).mono ?_
  rintro e w4 ⟨u2, rfl, ou2, hb4⟩
  have z4 : w3.heap.size ≤ w4.heap.size := hb4.size
  have c3_4 : Below w3.heap.size w3 w4 := hb4
  go_wp2_with fail
  refine (specFormatDependencies_c _ x0 _ x1 _ ((ou1.below c3_4 (Nat.le_refl _)).at_ (by omega)) W0.out S0 ((ou2.below (Below.refl w4.heap.size w4) (Nat.le_refl _)).at_ (Nat.le_refl _)) W1.out S1).mono ?_
  rintro e w5 ⟨rfl, hb5⟩
  have z5 : w4.heap.size ≤ w5.heap.size := hb5.size
  have c0_5 : Below w.heap.size w w5 := ((c0_3.trans (hb4.mono (by omega))).trans (hb5.mono (by omega)))
  go_wp2_with fail
  refine (toRelationS_c _ x0 _ ((A0.out.below c0_5 (Nat.le_refl _)).more c0_5.size) S0).mono ?_
  rintro e w6 ⟨u4, rfl, ou4, hb6⟩
  have z6 : w5.heap.size ≤ w6.heap.size := hb6.size
  have c0_6 : Below w.heap.size w w6 := (c0_5.trans (hb6.mono (by omega)))
  go_wp2_with fail
  refine (toDependencyS_c _ x1 _ ((A1.out.below c0_6 (Nat.le_refl _)).more c0_6.size) S1).mono ?_
  rintro e w7 ⟨u5, rfl, ou5, hb7⟩
  have z7 : w6.heap.size ≤ w7.heap.size := hb7.size
  have c6_7 : Below w6.heap.size w6 w7 := hb7
  have c0_7 : Below w.heap.size w w7 := (c0_6.trans (hb7.mono (by omega)))
  go_wp2_with fail
  refine (implFormatDependencies_c _ x0 _ x1 _ ((ou4.below c6_7 (Nat.le_refl _)).at_ (by omega)) W0.out S0 ((ou5.below (Below.refl w7.heap.size w7) (Nat.le_refl _)).at_ (Nat.le_refl _)) W1.out S1 (ht.below c0_7)).mono ?_
  rintro e w8 ⟨rfl, hb8⟩
  have z8 : w7.heap.size ≤ w8.heap.size := hb8.size
  have c0_8 : Below w.heap.size w w8 := (c0_7.trans (hb8.mono (by omega)))
  go_wp2_with fail
  refine (toRelationS_c _ x0 _ ((A0.out.below c0_8 (Nat.le_refl _)).more c0_8.size) S0).mono ?_
  rintro e w9 ⟨u7, rfl, ou7, hb9⟩
  have z9 : w8.heap.size ≤ w9.heap.size := hb9.size
  have c6_9 : Below w6.heap.size w6 w9 := ((c6_7.trans (hb8.mono (by omega))).trans (hb9.mono (by omega)))
  go_wp2_with fail
  refine (eqRelationS_c _ _ x0 _ ((ou4.below c6_9 (Nat.le_refl _)).at_ (by omega)) ((ou7.below (Below.refl w9.heap.size w9) (Nat.le_refl _)).at_ (Nat.le_refl _))).mono ?_
  rintro e w10 ⟨rfl, hb10⟩
  have z10 : w9.heap.size ≤ w10.heap.size := hb10.size
  have c0_10 : Below w.heap.size w w10 := ((c0_8.trans (hb9.mono (by omega))).trans (hb10.mono (by omega)))
  go_wp2_with fail
  refine (toDependencyS_c _ x1 _ ((A1.out.below c0_10 (Nat.le_refl _)).more c0_10.size) S1).mono ?_
  rintro e w11 ⟨u8, rfl, ou8, hb11⟩
  have z11 : w10.heap.size ≤ w11.heap.size := hb11.size
  have c7_11 : Below w7.heap.size w7 w11 := (((hb8.trans (hb9.mono (by omega))).trans (hb10.mono (by omega))).trans (hb11.mono (by omega)))
  go_wp2_with fail
  refine (eqDependencyS_c _ _ x1 _ ((ou5.below c7_11 (Nat.le_refl _)).at_ (by omega)) ((ou8.below (Below.refl w11.heap.size w11) (Nat.le_refl _)).at_ (Nat.le_refl _))).mono ?_
  rintro e w12 ⟨rfl, hb12⟩
  have z12 : w11.heap.size ≤ w12.heap.size := hb12.size
  have c0_12 : Below w.heap.size w w12 := ((c0_10.trans (hb11.mono (by omega))).trans (hb12.mono (by omega)))
  go_wp2
  go_ret
  exact ⟨rfl, c0_12⟩

theorem ty : ∀ t ∈ Tryz.f7.params.toList, Tryz.prog.readableRec t = true ∧ t < Tryz.prog.types.size := by
  rw [Tryz.params7]; intro t ht
  simp only [List.mem_cons, List.not_mem_nil, or_false] at ht
  rcases ht with rfl | rfl <;> exact ⟨by kernel_rfl, of_decide_eq_true (by kernel_rfl)⟩
noncomputable def laidWorld (os : Os) : World :=
  setVar (setVar (setVar (World.holding Tryz.prog os ⟨#[], #[], []⟩) 6 (aggCells Rows.laid_math_bits_deBruijn32tab)) 7 (aggCells Rows.laid_math_bits_deBruijn64tab)) 5 (aggCells Rows.laid_internal_strconv_uint64pow10)
theorem laid_met (os : Os) : laidMet Tryz.prog Rows.fnExactFormatDependenciesRow.laid ((laidWorld os).forCall (fun _ _ => 0) ⟨#[], #[.slice none 0 0, .slice none 0 0], []⟩).memory :=
  laidMet_of_run' 100 (by kernel_rfl) (by kernel_rfl)
theorem reads (os : Os) {H : Type} (enc : TypeId × Value → H) : ∃ places, DataW.whole enc Tryz.prog ((laidWorld os).forCall (fun _ _ => 0) ⟨#[], #[.slice none 0 0, .slice none 0 0], []⟩).memory Tryz.f7.params.toList Rows.fnExactFormatDependenciesSpec.vars false (#[.slice none 0 0, .slice none 0 0] : Array Value).toList 8 = some ([.nil, .nil], [], places) :=
  ⟨[], by kernel_rfl⟩
set_option maxRecDepth 100000 in
theorem lifted (os : Os) (started : os.Started) (H : Type) (enc : TypeId × Value → H) (F : Stop.Interp) :
    ReturnsInHanded {} Tryz.checked os 7 .any ((OpenSpec.ofChange Rows.fnExactFormatDependenciesSpec).preRow enc Tryz.prog Tryz.f7 Rows.fnExactFormatDependenciesRow.domain false Rows.fnExactFormatDependenciesRow.laid) (((OpenSpec.ofChange Rows.fnExactFormatDependenciesSpec).at F).post enc Tryz.prog Tryz.f7 false true false false) := by
  obtain ⟨places, hx⟩ := reads os enc
  refine returnsInHanded_of_row (C := Tryz.checked) (s := OpenSpec.ofChange Rows.fnExactFormatDependenciesSpec) ownFact started (by kernel_rfl) Tryz.func7
    (witness_row_at (enc := enc) (C := Tryz.checked) false (laidWorld os) #[.slice none 0 0, .slice none 0 0] rfl (by kernel_rfl) (by kernel_rfl) (by kernel_rfl)
      (OpenSpec.preRow_of_cond 8 hx (by kernel_rfl) (fun k hk => by cases hk) (by kernel_rfl) (laid_met os))) ?_
  intro W base args ds gs before hval0 hW _ _ _ hL hSh _
  have hval : ∀ (j : Nat) t v, Tryz.f7.params[j]? = some t → args[j]? = some v → Value.okWide Tryz.prog W .any base t v := hval0
  have hW' := hW
  obtain ⟨p, q, hA0, hV, _, hfz, hnd⟩ := hW
  have hA : DataW.TrodAll enc Tryz.prog W 0 (fun _ => true) true Tryz.f7.params.toList args.toList ds p := hA0
  rw [Tryz.params7] at hA hval
  obtain ⟨v0, vs0, d0, ds0, p0, q0, hargs, rfl, _, h0, r0⟩ := trodAll_cons hA
  obtain ⟨v1, vs1, d1, ds1, p1, q1, rfl, rfl, _, h1, r1⟩ := trodAll_cons r0
  obtain ⟨rfl, rfl, _⟩ := trodAll_nil r1
  obtain rfl : args = #[v0, v1] := by cases args; simp_all
  obtain ⟨rfl, _⟩ := trodVars_none hV
  obtain ⟨x0, hx0, hwx0⟩ := open_RelationS (hval 0 _ v0 rfl rfl) h0 (DataW.TrodAll.lt (trodAll_mk1 h0))
  obtain ⟨x1, hx1, hwx1⟩ := open_DependencyS (hval 1 _ v1 rfl rfl) h1 (DataW.TrodAll.lt (trodAll_mk1 h1))
  have hL1 : laidMet Tryz.prog Rows.fnExactFormatDependenciesRow.laid W := hL
  refine (walk v0 x0 v1 x1 W hx0 hwx0 hx1 hwx1 (tab_of_laid (laidMet.tail (laidMet.tail hL1)))).mono fun e W' ⟨he, hb⟩ => ?_
  subst he
  exact ⟨_, rfl, law_post laidFact ty Tryz.underlying4 (by kernel_rfl) rfl hW' rfl hb⟩
theorem closed1 : (Rows.fnExactFormatDependenciesRow.inPlace == Tryz.pinned.checked.prog.inPlace 7) = true := by kernel_rfl
theorem closed2 : (Rows.fnExactFormatDependenciesRow.unfollowed == Tryz.pinned.checked.prog.unfollowed 7) = true := by kernel_rfl
theorem closed3 : (Rows.fnExactFormatDependenciesRow.recurses == Tryz.pinned.checked.prog.recurses 7) = true := by kernel_rfl
theorem closed4 : (Rows.fnExactFormatDependenciesRow.named == Tryz.pinned.checked.prog.varsNamed 7) = true := by kernel_rfl
theorem closed : joinedFacts Tryz.pinned.checked.prog 7 Tryz.f7 (OpenSpec.ofChange Rows.fnExactFormatDependenciesSpec).bare Rows.fnExactFormatDependenciesRow = true := by
  unfold joinedFacts
  rw [closed1, closed2, closed3, closed4]
  kernel_rfl
theorem said : Rows.FnExactFormatDependenciesSaid :=
  OpenClaim.holds_of_cond 7 Tryz.f7 rfl rfl rfl rfl rfl rfl rfl ⟨rfl, rfl, rfl, rfl, rfl⟩ rfl rfl rfl rfl rfl (by kernel_rfl) Tryz.func7 closed
    (of_decide_eq_true (by kernel_rfl)) (by unfold Func.isWrapper; first | (rw [if_pos (by decide +kernel)]; kernel_rfl) | (rw [if_neg (by decide +kernel)]; exact ⟨rfl, rfl⟩))
    (fun os started H enc _ F => by rw [OpenClaim.pre_eq_preRow]; exact lifted os started H enc F)
theorem plain (f : FuncId) (fn : Func) (hf : Tryz.pinned.checked.prog.funcNamed "loop.example/g01919/laws.FnExactFormatDependencies" = some f) (hfn : Tryz.pinned.checked.prog.funcs[f]? = some fn) :
    true = Tryz.pinned.checked.prog.looks [] ∧ ∀ (j : Nat) t, fn.params[j]? = some t → Tryz.pinned.checked.prog.wantsStandIn t = false := by
  obtain rfl : f = 7 := Option.some.inj ((show Tryz.prog.funcNamed "loop.example/g01919/laws.FnExactFormatDependencies" = some 7 by kernel_rfl).symm.trans hf) |>.symm
  obtain rfl : fn = Tryz.f7 := (Option.some.inj (Tryz.func7.symm.trans hfn)).symm
  refine ⟨by kernel_rfl, fun j t ht => ?_⟩
  rw [Tryz.params7] at ht
  have ht2 := Array.mem_of_getElem? ht
  simp only [List.mem_toArray, List.mem_cons, List.not_mem_nil, or_false] at ht2
  rcases ht2 with rfl | rfl
  · exact (show Tryz.prog.wantsStandIn 65 = false by kernel_rfl)
  · exact (show Tryz.prog.wantsStandIn 74 = false by kernel_rfl)
theorem holds : Rows.FnExactFormatDependenciesCardSaid :=
  Claim7.holds_tied_plain_at .later [] _ _ _ _ said (fun _ h => by cases h) (by kernel_rfl) (fun _ h => by cases h) fnExactFormatDependencies_row_tie rfl ⟨rfl, rfl⟩ (by kernel_rfl) rfl plain (by kernel_rfl)
end lawFnExactFormatDependencies

end Go.Proofs.YtmecdjincmkofaaGreatDoor
