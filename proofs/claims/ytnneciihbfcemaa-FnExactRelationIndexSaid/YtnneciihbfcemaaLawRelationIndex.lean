/-
  FnExactRelationIndex: for every argument the translated law returns true, and each argument reads afterwards as it read before. Conditions: none beyond the given row's own.
-/
import Derived.Test.YtnneciihbfcemaaBase
import Derived.Test.YtnneciihbfcemaaLift
import Derived.Test.YtnneciihbfcemaaRelsF
import Derived.Test.YtnneciihbfcemaaRelsG
import Derived.Test.YtnneciihbfcemaaRelsI
namespace Go.Proofs.Ytnneciihbfcemaa
open Go.RowKit Go.ChangeShapes Go.WideShapes Go.ChangeAt Go.ChangeMaps

namespace lawFnExactRelationIndex
set_option maxRecDepth 100000 in
set_option maxHeartbeats 800000 in
theorem walk (v : Value) (l : List Rel) (w : World) (hl : RelsAt w w.heap.size v l ∧ RelsWf l) (s : ByteArray) (hs : s.size ≤ maxLen) :
    Calls Try.prog 5 #[v, .string s] w fun e w' => e = .returned (.bool true) ∧ Below w.heap.size w w' := by
  obtain ⟨hl, hw⟩ := hl
  unfold maxLen at hs
  by_cases hlong : 1048576 < s.size
  · go_enter Try.func5, Try.ntmps5
    go_wp2
    go_ret
    exact ⟨rfl, Below.refl _ _⟩
  have hsz := szRelationS_any v l 1048576 w hl hw (by omega) (by omega)
  by_cases hbig : (l.length : Int) + (relsLen l : Nat) ≤ 1048576
  · rw [szLeft_yes hbig] at hsz
    have HL := Lib.hid hl
    have hn : l.length ≤ 1048576 := by omega
    clear hl
    go_enter Try.func5, Try.ntmps5
    go_wp2_with fail
    refine hsz.mono ?_
    rintro e w1 ⟨rfl, hb1⟩
    clear hsz
    have hz1 := hb1.size
    go_wp2_with fail
    refine (toRelationS_any v l _ ((HL.out.below hb1 (Nat.le_refl _)).more hz1) hn).mono ?_
    rintro e w2 ⟨v1, rfl, ho1, hb2⟩
    have hB2 := hb1.trans (hb2.mono hz1)
    have hz2 := hB2.size
    go_wp2_with fail
    refine (specRelationIndex_any v1 l s _ ho1.at_).mono ?_
    rintro e w' ⟨rfl, rfl⟩
    go_wp2_with fail
    refine (toRelationS_any v l _ ((HL.out.below hB2 (Nat.le_refl _)).more hz2) hn).mono ?_
    rintro e w4 ⟨v2, rfl, ho2, hb4⟩
    have hB4 := hB2.trans (hb4.mono hz2)
    have hz4 := hB4.size
    go_wp2_with fail
    refine (implRelationIndex_any v2 l s _ ho2.at_).mono ?_
    rintro e w5 ⟨rfl, hb5⟩
    have hB5 := hB4.trans (hb5.mono hz4)
    have hz5 := hB5.size
    go_wp2_with fail
    refine (toRelationS_any v l _ ((HL.out.below hB5 (Nat.le_refl _)).more hz5) hn).mono ?_
    rintro e w6 ⟨v3, rfl, ho3, hb6⟩
    have hB6 := hB5.trans (hb6.mono hz5)
    have hz6 := hB6.size
    have hE := eqRelationS_any v2 v3 l l w6 ((ho2.at_.below (hb5.trans (hb6.mono hb5.size)) (Nat.le_refl _)).more (hb5.trans (hb6.mono hb5.size)).size) ho3.at_
    rw [decide_eq_true rfl] at hE
    go_wp2_with fail
    refine hE.mono ?_
    rintro e w7 ⟨rfl, hb7⟩
    go_wp2
    go_ret
    exact ⟨rfl, hB6.trans (hb7.mono hz6)⟩
  · rw [szLeft_no hbig] at hsz
    go_enter Try.func5, Try.ntmps5
    go_wp2_with fail
    refine hsz.mono ?_
    rintro e w1 ⟨rfl, hb⟩
    clear hsz
    go_wp2
    go_ret
    exact ⟨rfl, hb⟩

theorem ty : ∀ t ∈ Try.f5.params.toList, Try.prog.readableRec t = true ∧ t < Try.prog.types.size := by
  rw [Try.params5]; intro t ht
  simp only [List.mem_cons, List.not_mem_nil, or_false] at ht
  rcases ht with rfl | rfl <;> exact ⟨by kernel_rfl, of_decide_eq_true (by kernel_rfl)⟩
set_option maxRecDepth 100000 in
theorem lifted (os : Os) (started : os.Started) (H : Type) (enc : TypeId × Value → H) :
    ReturnsInHanded {} Try.checked os 5 .any (Rows.fnExactRelationIndexSpec.pre6 enc Try.prog Try.f5 Rows.fnExactRelationIndexRow.domain false) (Rows.fnExactRelationIndexSpec.post enc Try.prog Try.f5 false true false false) := by
  refine returnsInHanded_of_change (C := Try.checked) ownFact started (by kernel_rfl) Try.func5
    (ChangeSpec.witness6 (enc := enc) (C := Try.checked) false ⟨#[], #[.slice none 0 0, .string ⟨#[]⟩], []⟩ 8 (by kernel_rfl) (by kernel_rfl) (by kernel_rfl) (by kernel_rfl)) ?_
  intro W base args ds gs before hval0 hW hcnd _
  have hval : ∀ (j : Nat) t v, Try.f5.params[j]? = some t → args[j]? = some v → Value.okWide Try.prog W .any base t v := hval0
  have hW' := hW
  obtain ⟨p, q, hA0, hV, _, hfz, hnd⟩ := hW
  have hA : DataW.TrodAll enc Try.prog W 0 (fun _ => true) true Try.f5.params.toList args.toList ds p := hA0
  rw [Try.params5] at hA hval
  obtain ⟨v0, vs0, d0, ds0, p0, q0, hargs, rfl, _, h0, r0⟩ := trodAll_cons hA
  obtain ⟨v1, vs1, d1, ds1, p1, q1, rfl, rfl, _, h1, r1⟩ := trodAll_cons r0
  obtain ⟨rfl, rfl, _⟩ := trodAll_nil r1
  obtain rfl : args = #[v0, v1] := by cases args; simp_all
  obtain ⟨rfl, _⟩ := trodVars_none hV
  obtain ⟨l0, hl0⟩ := open_rels (hval 0 _ v0 rfl rfl) h0 (DataW.TrodAll.lt (trodAll_mk1 h0))
  obtain ⟨a1, rfl, _, _, wa1⟩ := open_string Try.underlying9 (hval 1 9 v1 rfl rfl) h1
  refine (walk v0 l0 W hl0 a1 wa1).mono fun e W' ⟨he, hb⟩ => ?_
  subst he
  exact ⟨_, rfl, law_post laidFact ty Try.underlying4 (by kernel_rfl) rfl hW' rfl hb⟩
theorem holds : Rows.FnExactRelationIndexSaid :=
  OpenClaim.holds_of_wide 5 Try.f5 rfl rfl rfl rfl rfl rfl rfl ⟨rfl, rfl, rfl, rfl, rfl⟩ rfl rfl rfl rfl rfl (by kernel_rfl) Try.func5 (by kernel_rfl)
    (of_decide_eq_true (by kernel_rfl)) (by unfold Func.isWrapper; first | (rw [if_pos (by decide +kernel)]; kernel_rfl) | (rw [if_neg (by decide +kernel)]; exact ⟨rfl, rfl⟩))
    (fun os started H enc _ => lifted os started H enc)
end lawFnExactRelationIndex

end Go.Proofs.Ytnneciihbfcemaa
