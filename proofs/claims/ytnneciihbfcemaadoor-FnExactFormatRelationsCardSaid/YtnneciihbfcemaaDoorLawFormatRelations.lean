/-
  FnExactFormatRelations: for every argument the translated law returns true, and each argument reads afterwards as it read before. Conditions: none beyond the given row's own.
-/
import Derived.Test.YtnneciihbfcemaaDoorBase
import Derived.Test.YtnneciihbfcemaaDoorLift
import Derived.Test.YtnneciihbfcemaaDoorLaid
import Derived.Test.YtnneciihbfcemaaDoorRelsF
import Derived.Test.YtnneciihbfcemaaDoorRelsG
import Derived.Test.YtnneciihbfcemaaDoorFmtRS
import Derived.Test.YtnneciihbfcemaaDoorFmtRI2
namespace Go.Proofs.YtnneciihbfcemaaDoor
open Go.RowKit Go.ChangeShapes Go.WideShapes Go.ChangeAt Go.ChangeMaps

namespace lawFnExactFormatRelations
set_option maxRecDepth 100000 in
set_option maxHeartbeats 800000 in
theorem walk (v : Value) (l : List Rel) (w : World) (hl : RelsAt w w.heap.size v l ∧ RelsWf l) (ht : Tab w) :
    Calls Tryd.prog 3 #[v] w fun e w' => e = .returned (.bool true) ∧ Below w.heap.size w w' := by
  obtain ⟨hl, hw⟩ := hl
  have hsz := szRelationS_any v l 1048576 w hl hw (by omega) (by omega)
  by_cases hbig : (l.length : Int) + (relsLen l : Nat) ≤ 1048576
  · rw [szLeft_yes hbig] at hsz
    have HL := Lib.hid hl
    have hn : l.length ≤ 1048576 := by omega
    clear hl
    go_enter Tryd.func3, Tryd.ntmps3
    go_wp2_with fail
    refine hsz.mono ?_
    rintro e w1 ⟨rfl, hb1⟩
    clear hsz
    have hz1 := hb1.size
    go_wp2_with fail
    refine (toRelationS_any v l _ ((HL.out.below hb1 (Nat.le_refl _)).more hz1) hn).mono ?_
    rintro e w2 ⟨v1, rfl, ho1, hb2⟩
    have hB2 := hb1.trans (hb2.mono hz1)
    have hz2 := hB2.size
    go_wp2_with fail
    refine (specFormatRelations_any v1 l _ ho1.at_).mono ?_
    rintro e w3 ⟨rfl, hb3⟩
    have hB3 := hB2.trans (hb3.mono hz2)
    have hz3 := hB3.size
    go_wp2_with fail
    refine (toRelationS_any v l _ ((HL.out.below hB3 (Nat.le_refl _)).more hz3) hn).mono ?_
    rintro e w4 ⟨v2, rfl, ho2, hb4⟩
    have hB4 := hB3.trans (hb4.mono hz3)
    have hz4 := hB4.size
    go_wp2_with fail
    refine (implFormatRelations_any v2 l _ ho2.at_ (ht.below hB4)).mono ?_
    rintro e w5 ⟨rfl, hb5⟩
    have hB5 := hB4.trans (hb5.mono hz4)
    have hz5 := hB5.size
    go_wp2_with fail
    refine (toRelationS_any v l _ ((HL.out.below hB5 (Nat.le_refl _)).more hz5) hn).mono ?_
    rintro e w6 ⟨v3, rfl, ho3, hb6⟩
    have hB6 := hB5.trans (hb6.mono hz5)
    have hz6 := hB6.size
    have hE := eqRelationS_any v2 v3 l l w6 ((ho2.at_.below (hb5.trans (hb6.mono hb5.size)) (Nat.le_refl _)).more (hb5.trans (hb6.mono hb5.size)).size) ho3.at_
    rw [decide_eq_true rfl] at hE
    go_wp2_with fail
    refine hE.mono ?_
    rintro e w7 ⟨rfl, hb7⟩
    go_wp2
    go_ret
    exact ⟨rfl, hB6.trans (hb7.mono hz6)⟩
  · rw [szLeft_no hbig] at hsz
    go_enter Tryd.func3, Tryd.ntmps3
    go_wp2_with fail
    refine hsz.mono ?_
    rintro e w1 ⟨rfl, hb⟩
    clear hsz
    go_wp2
    go_ret
    exact ⟨rfl, hb⟩

theorem ty : ∀ t ∈ Tryd.f3.params.toList, Tryd.prog.readableRec t = true ∧ t < Tryd.prog.types.size := by
  rw [Tryd.params3]; intro t ht
  simp only [List.mem_cons, List.not_mem_nil, or_false] at ht
  subst ht; exact ⟨by kernel_rfl, of_decide_eq_true (by kernel_rfl)⟩
noncomputable def laidWorld (os : Os) : World :=
  setVar (setVar (setVar (World.holding Tryd.prog os ⟨#[], #[], []⟩) 6 (aggCells Rows.laid_math_bits_deBruijn32tab)) 7 (aggCells Rows.laid_math_bits_deBruijn64tab)) 5 (aggCells Rows.laid_internal_strconv_uint64pow10)
theorem laid_met (os : Os) : laidMet Tryd.prog Rows.fnExactFormatRelationsRow.laid ((laidWorld os).forCall (fun _ _ => 0) ⟨#[], #[.slice none 0 0], []⟩).memory :=
  laidMet_of_run' 100 (by kernel_rfl) (by kernel_rfl)
theorem reads (os : Os) {H : Type} (enc : TypeId × Value → H) : ∃ places, DataW.whole enc Tryd.prog ((laidWorld os).forCall (fun _ _ => 0) ⟨#[], #[.slice none 0 0], []⟩).memory Tryd.f3.params.toList Rows.fnExactFormatRelationsSpec.vars false (#[.slice none 0 0] : Array Value).toList 8 = some ([.nil], [], places) :=
  ⟨[], by kernel_rfl⟩
set_option maxRecDepth 100000 in
theorem lifted (os : Os) (started : os.Started) (H : Type) (enc : TypeId × Value → H) (F : Stop.Interp) :
    ReturnsInHanded {} Tryd.checked os 3 .any ((OpenSpec.ofChange Rows.fnExactFormatRelationsSpec).preRow enc Tryd.prog Tryd.f3 Rows.fnExactFormatRelationsRow.domain false Rows.fnExactFormatRelationsRow.laid) (((OpenSpec.ofChange Rows.fnExactFormatRelationsSpec).at F).post enc Tryd.prog Tryd.f3 false true false false) := by
  obtain ⟨places, hx⟩ := reads os enc
  refine returnsInHanded_of_row (C := Tryd.checked) (s := OpenSpec.ofChange Rows.fnExactFormatRelationsSpec) ownFact started (by kernel_rfl) Tryd.func3
    (witness_row_at (enc := enc) (C := Tryd.checked) false (laidWorld os) #[.slice none 0 0] rfl (by kernel_rfl) (by kernel_rfl) (by kernel_rfl)
      (OpenSpec.preRow_of_cond 8 hx (by kernel_rfl) (fun k hk => by cases hk) (by kernel_rfl) (laid_met os))) ?_
  intro W base args ds gs before hval0 hW _ _ _ hL _ _
  have hval : ∀ (j : Nat) t v, Tryd.f3.params[j]? = some t → args[j]? = some v → Value.okWide Tryd.prog W .any base t v := hval0
  have hW' := hW
  obtain ⟨p, q, hA0, hV, _, hfz, hnd⟩ := hW
  have hA : DataW.TrodAll enc Tryd.prog W 0 (fun _ => true) true Tryd.f3.params.toList args.toList ds p := hA0
  rw [Tryd.params3] at hA hval
  obtain ⟨v0, vs0, d0, ds0, p0, q0, hargs, rfl, _, h0, r0⟩ := trodAll_cons hA
  obtain ⟨rfl, rfl, _⟩ := trodAll_nil r0
  obtain rfl : args = #[v0] := by cases args; simp_all
  obtain ⟨rfl, _⟩ := trodVars_none hV
  obtain ⟨l0, hl0⟩ := open_rels (hval 0 _ v0 rfl rfl) h0 (DataW.TrodAll.lt (trodAll_mk1 h0))
  have hL1 : laidMet Tryd.prog Rows.fnExactFormatRelationsRow.laid W := hL
  refine (walk v0 l0 W hl0 (tab_of_laid (laidMet.tail (laidMet.tail hL1)))).mono fun e W' ⟨he, hb⟩ => ?_
  subst he
  exact ⟨_, rfl, law_post laidFact ty Tryd.underlying4 (by kernel_rfl) rfl hW' rfl hb⟩
theorem said : Rows.FnExactFormatRelationsSaid :=
  OpenClaim.holds_of_cond 3 Tryd.f3 rfl rfl rfl rfl rfl rfl rfl ⟨rfl, rfl, rfl, rfl, rfl⟩ rfl rfl rfl rfl rfl (by kernel_rfl) Tryd.func3 (by kernel_rfl)
    (of_decide_eq_true (by kernel_rfl)) (by unfold Func.isWrapper; first | (rw [if_pos (by decide +kernel)]; kernel_rfl) | (rw [if_neg (by decide +kernel)]; exact ⟨rfl, rfl⟩))
    (fun os started H enc _ F => by rw [OpenClaim.pre_eq_preRow]; exact lifted os started H enc F)
theorem plain (f : FuncId) (fn : Func) (hf : Tryd.pinned.checked.prog.funcNamed "loop.example/g01919/laws.FnExactFormatRelations" = some f) (hfn : Tryd.pinned.checked.prog.funcs[f]? = some fn) :
    true = Tryd.pinned.checked.prog.looks [] ∧ ∀ (j : Nat) t, fn.params[j]? = some t → Tryd.pinned.checked.prog.wantsStandIn t = false := by
  obtain rfl : f = 3 := Option.some.inj ((show Tryd.prog.funcNamed "loop.example/g01919/laws.FnExactFormatRelations" = some 3 by kernel_rfl).symm.trans hf) |>.symm
  obtain rfl : fn = Tryd.f3 := (Option.some.inj (Tryd.func3.symm.trans hfn)).symm
  refine ⟨by kernel_rfl, fun j t ht => ?_⟩
  rw [Tryd.params3] at ht
  have ht2 := Array.mem_of_getElem? ht
  simp only [List.mem_toArray, List.mem_cons, List.not_mem_nil, or_false] at ht2
  subst ht2
  exact (show Tryd.prog.wantsStandIn 22 = false by kernel_rfl)
theorem holds : Rows.FnExactFormatRelationsCardSaid :=
  Claim7.holds_tied_plain_at .later [] _ _ _ _ said (fun _ h => by cases h) (by kernel_rfl) (fun _ h => by cases h) fnExactFormatRelations_row_tie rfl ⟨rfl, rfl⟩ (by kernel_rfl) rfl plain (by kernel_rfl)
end lawFnExactFormatRelations

end Go.Proofs.YtnneciihbfcemaaDoor
