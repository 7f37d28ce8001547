/-
  FnExactParseDependencies: for every argument the translated law returns true, and each argument reads afterwards as it read before. Conditions: none beyond the given row's own.
-/
import Derived.Test.YtmecdjincmkofaaGreatDoorPlan
import Derived.Test.YtmecdjincmkofaaGreatDoorRelsC
import Derived.Test.YtmecdjincmkofaaGreatDoorFmtF
import Derived.Test.YtmecdjincmkofaaGreatDoorDepSC
import Derived.Test.YtmecdjincmkofaaGreatDoorLift
import Derived.Test.YtmecdjincmkofaaGreatDoorLaid
import Derived.Test.YtmecdjincmkofaaGreatDoorParDSS
import Derived.Test.YtmecdjincmkofaaGreatDoorDepsVI
namespace Go.Proofs.YtmecdjincmkofaaGreatDoor
open Go.RowKit Go.ChangeShapes Go.WideShapes Go.ChangeAt Go.ChangeMaps

namespace lawFnExactParseDependencies

set_option maxRecDepth 100000 in
set_option maxHeartbeats 1600000 in
theorem walk (v0 : Value) (x0 : List Rel) (s1 : ByteArray) (hs1 : s1.size ≤ maxLen) (w : World) (h0 : RelationS_at w w.heap.size v0 x0) (hw0 : RelationS_wf x0) (ht : Tab w) (hv : ErrVars w) (hm : MaxL w) :
    Calls Tryz.prog 8 #[v0, .string s1] w fun e w' => e = .returned (.bool true) ∧ Below w.heap.size w w' := by
  unfold maxLen at hs1
  have A0 := Lib.hid h0
  have W0 := Lib.hid hw0
  clear h0 hw0
  by_cases hlong1 : 1048576 < s1.size
  · skip
    go_enter Tryz.func8, Tryz.ntmps8
    go_wp2
    go_ret
    exact ⟨rfl, Below.refl _ _⟩
  by_cases hz1 : ((RelationS_sz x0 : Nat) : Int) ≤ 1048576
  rotate_left
  · skip
    have e1 := szLeft_no hz1
    go_enter Tryz.func8, Tryz.ntmps8
    go_wp2_with fail
    refine (szRelationS_c _ x0 (1048576) _ ((A0.out.below (Below.refl w.heap.size w) (Nat.le_refl _)).more (Below.refl w.heap.size w).size) W0.out (by omega) (by omega)).mono ?_
    rw [e1]
    rintro e w1 ⟨rfl, hb1⟩
    have z1 : w.heap.size ≤ w1.heap.size := hb1.size
    have c0_1 : Below w.heap.size w w1 := hb1
    go_wp2
    go_ret
    exact ⟨rfl, c0_1⟩
  have e1 := szLeft_yes hz1
  have S0 : RelationS_sz x0 ≤ 1048576 := by omega
  have N0 := RelationS_cnt_le x0
  have hl1 : s1.size ≤ 1048576 := by omega
  go_enter Tryz.func8, Tryz.ntmps8
  go_wp2_with fail
  refine (szRelationS_c _ x0 (1048576) _ ((A0.out.below (Below.refl w.heap.size w) (Nat.le_refl _)).more (Below.refl w.heap.size w).size) W0.out (by omega) (by omega)).mono ?_
  rw [e1]
  rintro e w1 ⟨rfl, hb1⟩
  have z1 : w.heap.size ≤ w1.heap.size := hb1.size
  have c0_1 : Below w.heap.size w w1 := hb1
  go_wp2_with fail
  refine (toRelationS_c _ x0 _ ((A0.out.below c0_1 (Nat.le_refl _)).more c0_1.size) S0).mono ?_
  rintro e w2 ⟨u1, rfl, ou1, hb2⟩
  have z2 : w1.heap.size ≤ w2.heap.size := hb2.size
  go_wp2_with fail
  refine (specParseDependencies_c _ x0 s1 _ ((ou1.below (Below.refl w2.heap.size w2) (Nat.le_refl _)).at_ (Nat.le_refl _)) W0.out S0 hl1).mono ?_
  rintro e w3 ⟨r2_0, rfl, p2_0, hb3⟩
  have z3 : w2.heap.size ≤ w3.heap.size := hb3.size
  have c0_3 : Below w.heap.size w w3 := ((c0_1.trans (hb2.mono (by omega))).trans (hb3.mono (by omega)))
  go_wp2_with fail
  refine (toRelationS_c _ x0 _ ((A0.out.below c0_3 (Nat.le_refl _)).more c0_3.size) S0).mono ?_
  rintro e w4 ⟨u3, rfl, ou3, hb4⟩
  have z4 : w3.heap.size ≤ w4.heap.size := hb4.size
  have c0_4 : Below w.heap.size w w4 := (c0_3.trans (hb4.mono (by omega)))
  go_wp2_with fail
  refine (implParseDependencies_c _ x0 s1 _ ((ou3.below (Below.refl w4.heap.size w4) (Nat.le_refl _)).at_ (Nat.le_refl _)) W0.out S0 hl1 (ht.below c0_4) (hv.below c0_4) (hm.below c0_4)).mono ?_
  rintro e w5 ⟨r4_0, rfl, p4_0, q4_0, hb5⟩
  have z5 : w4.heap.size ≤ w5.heap.size := hb5.size
  have NC4_0 := DependencyS_cnt_le (ParseDependencies_r0 x0 s1)
  have c3_5 : Below w3.heap.size w3 w5 := (hb4.trans (hb5.mono (by omega)))
  go_wp2_with fail
  refine (eqDependencyS_c _ _ (ParseDependencies_r0 x0 s1) _ ((p4_0.below (Below.refl w5.heap.size w5) (Nat.le_refl _)).at_ (Nat.le_refl _)) ((p2_0.below c3_5 (Nat.le_refl _)).more c3_5.size)).mono ?_
  rintro e w6 ⟨rfl, hb6⟩
  have z6 : w5.heap.size ≤ w6.heap.size := hb6.size
  have c0_6 : Below w.heap.size w w6 := ((c0_4.trans (hb5.mono (by omega))).trans (hb6.mono (by omega)))
  go_wp2_with fail
  refine (toRelationS_c _ x0 _ ((A0.out.below c0_6 (Nat.le_refl _)).more c0_6.size) S0).mono ?_
  rintro e w7 ⟨u5, rfl, ou5, hb7⟩
  have z7 : w6.heap.size ≤ w7.heap.size := hb7.size
  have c4_7 : Below w4.heap.size w4 w7 := ((hb5.trans (hb6.mono (by omega))).trans (hb7.mono (by omega)))
  go_wp2_with fail
  refine (eqRelationS_c _ _ x0 _ ((ou3.below c4_7 (Nat.le_refl _)).at_ (by omega)) ((ou5.below (Below.refl w7.heap.size w7) (Nat.le_refl _)).at_ (Nat.le_refl _))).mono ?_
  rintro e w8 ⟨rfl, hb8⟩
  have z8 : w7.heap.size ≤ w8.heap.size := hb8.size
  have c4_8 : Below w4.heap.size w4 w8 := (c4_7.trans (hb8.mono (by omega)))
  have c5_8 : Below w5.heap.size w5 w8 := ((hb6.trans (hb7.mono (by omega))).trans (hb8.mono (by omega)))
  go_wp2_with fail
  refine (markRelationS_c _ _ _ x0 (1) _ (ou3.below c4_8 (Nat.le_refl _)) S0 (by omega) (by omega)).mono ?_
  rintro e w9 ⟨rfl, om9, hb9⟩
  have om9_g0 := (p4_0.below c5_8 (Nat.le_refl _)).chg hb9 (by omega)
  have z9 : w8.heap.size ≤ w9.heap.size := hb9.size
  have c3_9 : Below w3.heap.size w3 w9 := ((((c3_5.trans (hb6.mono (by omega))).trans (hb7.mono (by omega))).trans (hb8.mono (by omega))).trans (hb9.mid_below (by omega) (by omega)))
  go_wp2_with fail
  refine (eqDependencyS_c _ _ (ParseDependencies_r0 x0 s1) _ ((om9_g0.below (Below.refl w9.heap.size w9) (by omega)).at_ (by omega)) ((p2_0.below c3_9 (Nat.le_refl _)).more c3_9.size)).mono ?_
  rintro e w10 ⟨rfl, hb10⟩
  have z10 : w9.heap.size ≤ w10.heap.size := hb10.size
  have c9_10 : Below w9.heap.size w9 w10 := hb10
  go_wp2_with fail
  refine (markDependencyS_c _ _ _ (ParseDependencies_r0 x0 s1) (1) _ (om9_g0.below c9_10 (by omega)) q4_0 (by omega) (by omega)).mono ?_
  rintro e w11 ⟨rfl, om11, hb11⟩
  have om11_tu3 := (om9.below c9_10 (by omega)).chg hb11 (by omega)
  have z11 : w10.heap.size ≤ w11.heap.size := hb11.size
  go_wp2_with fail
  refine (heldDependencyS_c _ (ParseDependencies_r0 x0 s1) (1) _ ((om11.below (Below.refl w11.heap.size w11) (by omega)).at_ (by omega)) q4_0 (by omega) (by omega)).mono ?_
  rintro e w12 ⟨rfl, hb12⟩
  have z12 : w11.heap.size ≤ w12.heap.size := hb12.size
  have c0_12 : Below w.heap.size w w12 := ((((((c0_6.trans (hb7.mono (by omega))).trans (hb8.mono (by omega))).trans (hb9.mid_below (by omega) (by omega))).trans (hb10.mono (by omega))).trans (hb11.mid_below (by omega) (by omega))).trans (hb12.mono (by omega)))
  go_wp2_with fail
  refine (toRelationS_c _ x0 _ ((A0.out.below c0_12 (Nat.le_refl _)).more c0_12.size) S0).mono ?_
  rintro e w13 ⟨u6, rfl, ou6, hb13⟩
  have z13 : w12.heap.size ≤ w13.heap.size := hb13.size
  have c0_13 : Below w.heap.size w w13 := (c0_12.trans (hb13.mono (by omega)))
  go_wp2_with fail
  refine (implParseDependencies_c _ x0 s1 _ ((ou6.below (Below.refl w13.heap.size w13) (Nat.le_refl _)).at_ (Nat.le_refl _)) W0.out S0 hl1 (ht.below c0_13) (hv.below c0_13) (hm.below c0_13)).mono ?_
  rintro e w14 ⟨r7_0, rfl, p7_0, q7_0, hb14⟩
  have z14 : w13.heap.size ≤ w14.heap.size := hb14.size
  have NC7_0 := DependencyS_cnt_le (ParseDependencies_r0 x0 s1)
  have c3_14 : Below w3.heap.size w3 w14 := (((((c3_9.trans (hb10.mono (by omega))).trans (hb11.mid_below (by omega) (by omega))).trans (hb12.mono (by omega))).trans (hb13.mono (by omega))).trans (hb14.mono (by omega)))
  go_wp2_with fail
  refine (eqDependencyS_c _ _ (ParseDependencies_r0 x0 s1) _ ((p7_0.below (Below.refl w14.heap.size w14) (Nat.le_refl _)).at_ (Nat.le_refl _)) ((p2_0.below c3_14 (Nat.le_refl _)).more c3_14.size)).mono ?_
  rintro e w15 ⟨rfl, hb15⟩
  have z15 : w14.heap.size ≤ w15.heap.size := hb15.size
  have c11_15 : Below w11.heap.size w11 w15 := (((hb12.trans (hb13.mono (by omega))).trans (hb14.mono (by omega))).trans (hb15.mono (by omega)))
  go_wp2_with fail
  refine (heldDependencyS_c _ (ParseDependencies_r0 x0 s1) (1) _ ((om11.below c11_15 (by omega)).at_ (by omega)) q7_0 (by omega) (by omega)).mono ?_
  rintro e w16 ⟨rfl, hb16⟩
  have z16 : w15.heap.size ≤ w16.heap.size := hb16.size
  have c0_16 : Below w.heap.size w w16 := (((c0_13.trans (hb14.mono (by omega))).trans (hb15.mono (by omega))).trans (hb16.mono (by omega)))
  go_wp2
  go_ret
  exact ⟨rfl, c0_16⟩

theorem ty : ∀ t ∈ Tryz.f8.params.toList, Tryz.prog.readableRec t = true ∧ t < Tryz.prog.types.size := by
  rw [Tryz.params8]; intro t ht
  simp only [List.mem_cons, List.not_mem_nil, or_false] at ht
  rcases ht with rfl | rfl <;> exact ⟨by kernel_rfl, of_decide_eq_true (by kernel_rfl)⟩
noncomputable def laidWorld (os : Os) : World :=
  setVar (setVar (setVar (setVar (setVar (setVar (setVar (World.holding Tryz.prog os ⟨#[.cells #[sentText Rows.laid_strconv_ErrRange] 288, .cells #[sentText Rows.laid_strconv_ErrSyntax] 288], #[], []⟩) 6 (aggCells Rows.laid_math_bits_deBruijn32tab)) 7 (aggCells Rows.laid_math_bits_deBruijn64tab)) 5 (aggCells Rows.laid_internal_strconv_uint64pow10)) 2 (aggCells Rows.laid_unicode_utf8_acceptRanges)) 4 #[.iface 286 (.pointer (some ⟨low + 0, 0, none⟩))]) 3 #[.iface 286 (.pointer (some ⟨low + 1, 0, none⟩))]) 1 (aggCells Rows.laid_unicode_utf8_first)
theorem laid_met (os : Os) : laidMet Tryz.prog Rows.fnExactParseDependenciesRow.laid ((laidWorld os).forCall (fun _ _ => 0) ⟨#[], #[.slice none 0 0, .string ⟨#[]⟩], []⟩).memory :=
  laidMet_of_run' 100 (by kernel_rfl) (by kernel_rfl)
theorem reads (os : Os) {H : Type} (enc : TypeId × Value → H) : ∃ places, DataW.whole enc Tryz.prog ((laidWorld os).forCall (fun _ _ => 0) ⟨#[], #[.slice none 0 0, .string ⟨#[]⟩], []⟩).memory Tryz.f8.params.toList Rows.fnExactParseDependenciesSpec.vars false (#[.slice none 0 0, .string ⟨#[]⟩] : Array Value).toList 8 = some ([.nil, .lit (.string [])], [], places) :=
  ⟨[], by kernel_rfl⟩
set_option maxRecDepth 100000 in
theorem lifted (os : Os) (started : os.Started) (H : Type) (enc : TypeId × Value → H) (F : Stop.Interp) :
    ReturnsInHanded {} Tryz.checked os 8 .any ((OpenSpec.ofChange Rows.fnExactParseDependenciesSpec).preRow enc Tryz.prog Tryz.f8 Rows.fnExactParseDependenciesRow.domain false Rows.fnExactParseDependenciesRow.laid) (((OpenSpec.ofChange Rows.fnExactParseDependenciesSpec).at F).post enc Tryz.prog Tryz.f8 false true false false) := by
  obtain ⟨places, hx⟩ := reads os enc
  refine returnsInHanded_of_row (C := Tryz.checked) (s := OpenSpec.ofChange Rows.fnExactParseDependenciesSpec) ownFact started (by kernel_rfl) Tryz.func8
    (witness_row_at (enc := enc) (C := Tryz.checked) false (laidWorld os) #[.slice none 0 0, .string ⟨#[]⟩] rfl (by kernel_rfl) (by kernel_rfl) (by kernel_rfl)
      (OpenSpec.preRow_of_cond 8 hx (by kernel_rfl) (fun k hk => by cases hk) (by kernel_rfl) (laid_met os))) ?_
  intro W base args ds gs before hval0 hW _ _ _ hL hSh _
  have hval : ∀ (j : Nat) t v, Tryz.f8.params[j]? = some t → args[j]? = some v → Value.okWide Tryz.prog W .any base t v := hval0
  have hW' := hW
  obtain ⟨p, q, hA0, hV, _, hfz, hnd⟩ := hW
  have hA : DataW.TrodAll enc Tryz.prog W 0 (fun _ => true) true Tryz.f8.params.toList args.toList ds p := hA0
  rw [Tryz.params8] at hA hval
  obtain ⟨v0, vs0, d0, ds0, p0, q0, hargs, rfl, _, h0, r0⟩ := trodAll_cons hA
  obtain ⟨v1, vs1, d1, ds1, p1, q1, rfl, rfl, _, h1, r1⟩ := trodAll_cons r0
  obtain ⟨rfl, rfl, _⟩ := trodAll_nil r1
  obtain rfl : args = #[v0, v1] := by cases args; simp_all
  obtain ⟨rfl, _⟩ := trodVars_none hV
  obtain ⟨x0, hx0, hwx0⟩ := open_RelationS (hval 0 _ v0 rfl rfl) h0 (DataW.TrodAll.lt (trodAll_mk1 h0))
  obtain ⟨a1, rfl, _, _, wa1⟩ := open_string Tryz.underlying9 (hval 1 9 v1 rfl rfl) h1
  have hL1 : laidMet Tryz.prog Rows.fnExactParseDependenciesRow.laid W := hL
  refine (walk v0 x0 a1 wa1 W hx0 hwx0 (tab_of_laid (laidMet.tail (laidMet.tail hL1))) (errVars_of_laid (laidMet.tail (laidMet.tail (laidMet.tail (laidMet.tail hL1))))) (maxL_of_shape hSh)).mono fun e W' ⟨he, hb⟩ => ?_
  subst he
  exact ⟨_, rfl, law_post laidFact ty Tryz.underlying4 (by kernel_rfl) rfl hW' rfl hb⟩
theorem closed1 : (Rows.fnExactParseDependenciesRow.inPlace == Tryz.pinned.checked.prog.inPlace 8) = true := by kernel_rfl
theorem closed2 : (Rows.fnExactParseDependenciesRow.unfollowed == Tryz.pinned.checked.prog.unfollowed 8) = true := by kernel_rfl
theorem closed3 : (Rows.fnExactParseDependenciesRow.recurses == Tryz.pinned.checked.prog.recurses 8) = true := by kernel_rfl
theorem closed4 : (Rows.fnExactParseDependenciesRow.named == Tryz.pinned.checked.prog.varsNamed 8) = true := by kernel_rfl
theorem closed : joinedFacts Tryz.pinned.checked.prog 8 Tryz.f8 (OpenSpec.ofChange Rows.fnExactParseDependenciesSpec).bare Rows.fnExactParseDependenciesRow = true := by
  unfold joinedFacts
  rw [closed1, closed2, closed3, closed4]
  kernel_rfl
theorem said : Rows.FnExactParseDependenciesSaid :=
  OpenClaim.holds_of_cond 8 Tryz.f8 rfl rfl rfl rfl rfl rfl rfl ⟨rfl, rfl, rfl, rfl, rfl⟩ rfl rfl rfl rfl rfl (by kernel_rfl) Tryz.func8 closed
    (of_decide_eq_true (by kernel_rfl)) (by unfold Func.isWrapper; first | (rw [if_pos (by decide +kernel)]; kernel_rfl) | (rw [if_neg (by decide +kernel)]; exact ⟨rfl, rfl⟩))
    (fun os started H enc _ F => by rw [OpenClaim.pre_eq_preRow]; exact lifted os started H enc F)
theorem plain (f : FuncId) (fn : Func) (hf : Tryz.pinned.checked.prog.funcNamed "loop.example/g01919/laws.FnExactParseDependencies" = some f) (hfn : Tryz.pinned.checked.prog.funcs[f]? = some fn) :
    true = Tryz.pinned.checked.prog.looks [] ∧ ∀ (j : Nat) t, fn.params[j]? = some t → Tryz.pinned.checked.prog.wantsStandIn t = false := by
  obtain rfl : f = 8 := Option.some.inj ((show Tryz.prog.funcNamed "loop.example/g01919/laws.FnExactParseDependencies" = some 8 by kernel_rfl).symm.trans hf) |>.symm
  obtain rfl : fn = Tryz.f8 := (Option.some.inj (Tryz.func8.symm.trans hfn)).symm
  refine ⟨by kernel_rfl, fun j t ht => ?_⟩
  rw [Tryz.params8] at ht
  have ht2 := Array.mem_of_getElem? ht
  simp only [List.mem_toArray, List.mem_cons, List.not_mem_nil, or_false] at ht2
  rcases ht2 with rfl | rfl
  · exact (show Tryz.prog.wantsStandIn 65 = false by kernel_rfl)
  · exact (show Tryz.prog.wantsStandIn 9 = false by kernel_rfl)
theorem holds : Rows.FnExactParseDependenciesCardSaid :=
  Claim7.holds_tied_plain_at .later [] _ _ _ _ said (fun _ h => by cases h) (by kernel_rfl) (fun _ h => by cases h) fnExactParseDependencies_row_tie rfl ⟨rfl, rfl⟩ (by kernel_rfl) rfl plain (by kernel_rfl)
end lawFnExactParseDependencies

end Go.Proofs.YtmecdjincmkofaaGreatDoor
