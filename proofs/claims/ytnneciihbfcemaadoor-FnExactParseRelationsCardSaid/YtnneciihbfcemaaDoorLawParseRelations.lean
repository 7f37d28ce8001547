/-
  FnExactParseRelations: for every argument the translated law returns true, and each argument reads afterwards as it read before. Conditions: none beyond the given row's own.
-/
import Derived.Test.YtnneciihbfcemaaDoorBase
import Derived.Test.YtnneciihbfcemaaDoorLaid
import Derived.Test.YtnneciihbfcemaaDoorMaxL
import Derived.Test.YtnneciihbfcemaaDoorParR
import Derived.Test.YtnneciihbfcemaaDoorParRS
import Derived.Test.YtnneciihbfcemaaDoorParRI2
import Derived.Test.YtnneciihbfcemaaDoorRelsG
import Derived.Test.YtnneciihbfcemaaDoorMarkRF
import Derived.Test.YtnneciihbfcemaaDoorHeldRF
namespace Go.Proofs.YtnneciihbfcemaaDoor
open Go.RowKit Go.ChangeShapes Go.WideShapes Go.ChangeAt Go.ChangeMaps

namespace lawFnExactParseRelations
theorem parsePair_len (s : List UInt8) : (parsePair s).1.length ≤ 6 := by
  by_cases h : s = []
  · unfold parsePair; rw [if_pos h]; simp
  · cases hp : parseRels s with
    | none => rw [parsePair_none h hp]; simp
    | some l => rw [parsePair_some h hp]; exact validRels_len l ((parse_iff s h l).1 hp).1
set_option maxRecDepth 100000 in
set_option maxHeartbeats 1600000 in
theorem walk (s : ByteArray) (hs : s.size ≤ maxLen) (w : World) (ht : Tab w) (hv : ErrVars w) (hm : MaxL w) :
    Calls Tryd.prog 4 #[.string s] w fun e w' => e = .returned (.bool true) ∧ Below w.heap.size w w' := by
  unfold maxLen at hs
  by_cases hbig : 1048576 < s.size
  · go_enter Tryd.func4, Tryd.ntmps4
    go_wp2
    go_ret
    exact ⟨rfl, Below.refl _ _⟩
  have hs' : s.size ≤ 1048576 := by omega
  have hlen := parsePair_len s.data.toList
  have hS := specParseRelations_any s w hs'
  have hI := fun w ht hv hm => implParseRelations_any s w hs' ht hv hm
  unfold GivesParse at hS hI
  generalize (parsePair s.data.toList).1 = l at *
  generalize (parsePair s.data.toList).2 = b at *
  go_enter Tryd.func4, Tryd.ntmps4
  go_wp2_with fail
  refine hS.mono ?_
  rintro e w1 ⟨v0, rfl, ho0, hb1⟩
  clear hS
  have hz1 := hb1.size
  go_wp2_with fail
  refine (hI _ (ht.below hb1) (hv.below hb1) (hm.below hb1)).mono ?_
  rintro e w2 ⟨v1, rfl, ho1, hb2⟩
  have hz2 := hb2.size
  have hE := eqRelationS_any v1 v0 l l w2 ho1.at_ ((ho0.at_.below hb2 (Nat.le_refl _)).more hz2)
  rw [decide_eq_true rfl] at hE
  cases b
  all_goals
    go_wp2_with fail
    refine hE.mono ?_
    rintro e w3 ⟨rfl, hb3⟩
    have hz3 := hb3.size
    have hM := markRelationS_any w1.heap.size v1 l 1 w3 (ho1.below hb3 (Nat.le_refl _)) (by omega) (by omega) (by omega) (by omega)
    go_wp2_with fail
    refine hM.mono ?_
    rintro e w4 ⟨rfl, ho4, hb4⟩
    have hz4 := hb4.size
    have hH := heldRelationS_any v1 l.length 1 w4 ho4.at_ (by omega) (by omega) (by omega)
    go_wp2_with fail
    refine hH.mono ?_
    rintro e w5 ⟨rfl, hb5⟩
    have hz5 := hb5.size
    have hB14 : Below w1.heap.size w1 w4 := (hb2.trans (hb3.mono hz2)).trans hb4
    have hB15 : Below w1.heap.size w1 w5 := hB14.trans (hb5.mono (by omega))
    have hBw5 : Below w.heap.size w w5 := hb1.trans (hB15.mono hz1)
    go_wp2_with fail
    refine (hI _ (ht.below hBw5) (hv.below hBw5) (hm.below hBw5)).mono ?_
    rintro e w6 ⟨v2, rfl, ho6, hb6⟩
    have hz6 := hb6.size
    have hB16 : Below w1.heap.size w1 w6 := hB15.trans (hb6.mono (by omega))
    have hE2 := eqRelationS_any v2 v0 l l w6 ho6.at_ ((ho0.at_.below hB16 (Nat.le_refl _)).more (by omega))
    rw [decide_eq_true rfl] at hE2
    go_wp2_with fail
    refine hE2.mono ?_
    rintro e w7 ⟨rfl, hb7⟩
    have hz7 := hb7.size
    have ho7 := ho4.below ((hb5.trans (hb6.mono hz5)).trans (hb7.mono (by omega))) (Nat.le_refl _)
    have hH2 := heldRelationS_any v1 l.length 1 w7 ho7.at_ (by omega) (by omega) (by omega)
    go_wp2_with fail
    refine hH2.mono ?_
    rintro e w8 ⟨rfl, hb8⟩
    go_wp2
    go_ret
    exact ⟨rfl, ((hBw5.trans (hb6.mono (by omega))).trans (hb7.mono (by omega))).trans (hb8.mono (by omega))⟩

theorem ty : ∀ t ∈ Tryd.f4.params.toList, Tryd.prog.readableRec t = true ∧ t < Tryd.prog.types.size := by
  rw [Tryd.params4]; intro t ht
  simp only [List.mem_cons, List.not_mem_nil, or_false] at ht
  subst ht; exact ⟨by kernel_rfl, of_decide_eq_true (by kernel_rfl)⟩
noncomputable def laidWorld (os : Os) : World :=
  setVar (setVar (setVar (setVar (setVar (setVar (setVar (World.holding Tryd.prog os ⟨#[.cells #[sentText Rows.laid_strconv_ErrRange] 114, .cells #[sentText Rows.laid_strconv_ErrSyntax] 114], #[], []⟩) 6 (aggCells Rows.laid_math_bits_deBruijn32tab)) 7 (aggCells Rows.laid_math_bits_deBruijn64tab)) 5 (aggCells Rows.laid_internal_strconv_uint64pow10)) 2 (aggCells Rows.laid_unicode_utf8_acceptRanges)) 4 #[.iface 112 (.pointer (some ⟨low + 0, 0, none⟩))]) 3 #[.iface 112 (.pointer (some ⟨low + 1, 0, none⟩))]) 1 (aggCells Rows.laid_unicode_utf8_first)
theorem laid_met (os : Os) : laidMet Tryd.prog Rows.fnExactParseRelationsRow.laid ((laidWorld os).forCall (fun _ _ => 0) ⟨#[], #[.string ⟨#[]⟩], []⟩).memory :=
  laidMet_of_run' 100 (by kernel_rfl) (by kernel_rfl)
theorem reads (os : Os) {H : Type} (enc : TypeId × Value → H) : ∃ places, DataW.whole enc Tryd.prog ((laidWorld os).forCall (fun _ _ => 0) ⟨#[], #[.string ⟨#[]⟩], []⟩).memory Tryd.f4.params.toList Rows.fnExactParseRelationsSpec.vars false (#[.string ⟨#[]⟩] : Array Value).toList 8 = some ([.lit (.string [])], [], places) :=
  ⟨[], by kernel_rfl⟩
set_option maxRecDepth 100000 in
theorem lifted (os : Os) (started : os.Started) (H : Type) (enc : TypeId × Value → H) (F : Stop.Interp) :
    ReturnsInHanded {} Tryd.checked os 4 .any ((OpenSpec.ofChange Rows.fnExactParseRelationsSpec).preRow enc Tryd.prog Tryd.f4 Rows.fnExactParseRelationsRow.domain false Rows.fnExactParseRelationsRow.laid) (((OpenSpec.ofChange Rows.fnExactParseRelationsSpec).at F).post enc Tryd.prog Tryd.f4 false true false false) := by
  obtain ⟨places, hx⟩ := reads os enc
  refine returnsInHanded_of_row (C := Tryd.checked) (s := OpenSpec.ofChange Rows.fnExactParseRelationsSpec) ownFact started (by kernel_rfl) Tryd.func4
    (witness_row_at (enc := enc) (C := Tryd.checked) false (laidWorld os) #[.string ⟨#[]⟩] rfl (by kernel_rfl) (by kernel_rfl) (by kernel_rfl)
      (OpenSpec.preRow_of_cond 8 hx (by kernel_rfl) (fun k hk => by cases hk) (by kernel_rfl) (laid_met os))) ?_
  intro W base args ds gs before hval0 hW _ _ _ hL hSh _
  have hval : ∀ (j : Nat) t v, Tryd.f4.params[j]? = some t → args[j]? = some v → Value.okWide Tryd.prog W .any base t v := hval0
  have hW' := hW
  obtain ⟨p, q, hA0, hV, _, hfz, hnd⟩ := hW
  have hA : DataW.TrodAll enc Tryd.prog W 0 (fun _ => true) true Tryd.f4.params.toList args.toList ds p := hA0
  rw [Tryd.params4] at hA hval
  obtain ⟨v0, vs0, d0, ds0, p0, q0, hargs, rfl, _, h0, r0⟩ := trodAll_cons hA
  obtain ⟨rfl, rfl, _⟩ := trodAll_nil r0
  obtain rfl : args = #[v0] := by cases args; simp_all
  obtain ⟨rfl, _⟩ := trodVars_none hV
  obtain ⟨a0, rfl, _, _, wa0⟩ := open_string Tryd.underlying9 (hval 0 9 v0 rfl rfl) h0
  have hL1 : laidMet Tryd.prog Rows.fnExactParseRelationsRow.laid W := hL
  refine (walk a0 wa0 W (tab_of_laid (laidMet.tail (laidMet.tail hL1))) (errVars_of_laid (laidMet.tail (laidMet.tail (laidMet.tail (laidMet.tail hL1))))) (maxL_of_shape hSh)).mono fun e W' ⟨he, hb⟩ => ?_
  subst he
  exact ⟨_, rfl, law_post laidFact ty Tryd.underlying4 (by kernel_rfl) rfl hW' rfl hb⟩
theorem said : Rows.FnExactParseRelationsSaid :=
  OpenClaim.holds_of_cond 4 Tryd.f4 rfl rfl rfl rfl rfl rfl rfl ⟨rfl, rfl, rfl, rfl, rfl⟩ rfl rfl rfl rfl rfl (by kernel_rfl) Tryd.func4 (by kernel_rfl)
    (of_decide_eq_true (by kernel_rfl)) (by unfold Func.isWrapper; first | (rw [if_pos (by decide +kernel)]; kernel_rfl) | (rw [if_neg (by decide +kernel)]; exact ⟨rfl, rfl⟩))
    (fun os started H enc _ F => by rw [OpenClaim.pre_eq_preRow]; exact lifted os started H enc F)
theorem plain (f : FuncId) (fn : Func) (hf : Tryd.pinned.checked.prog.funcNamed "loop.example/g01919/laws.FnExactParseRelations" = some f) (hfn : Tryd.pinned.checked.prog.funcs[f]? = some fn) :
    true = Tryd.pinned.checked.prog.looks [] ∧ ∀ (j : Nat) t, fn.params[j]? = some t → Tryd.pinned.checked.prog.wantsStandIn t = false := by
  obtain rfl : f = 4 := Option.some.inj ((show Tryd.prog.funcNamed "loop.example/g01919/laws.FnExactParseRelations" = some 4 by kernel_rfl).symm.trans hf) |>.symm
  obtain rfl : fn = Tryd.f4 := (Option.some.inj (Tryd.func4.symm.trans hfn)).symm
  refine ⟨by kernel_rfl, fun j t ht => ?_⟩
  rw [Tryd.params4] at ht
  have ht2 := Array.mem_of_getElem? ht
  simp only [List.mem_toArray, List.mem_cons, List.not_mem_nil, or_false] at ht2
  subst ht2
  exact (show Tryd.prog.wantsStandIn 9 = false by kernel_rfl)
theorem holds : Rows.FnExactParseRelationsCardSaid :=
  Claim7.holds_tied_plain_at .later [] _ _ _ _ said (fun _ h => by cases h) (by kernel_rfl) (fun _ h => by cases h) fnExactParseRelations_row_tie rfl ⟨rfl, rfl⟩ (by kernel_rfl) rfl plain (by kernel_rfl)
end lawFnExactParseRelations

end Go.Proofs.YtnneciihbfcemaaDoor
