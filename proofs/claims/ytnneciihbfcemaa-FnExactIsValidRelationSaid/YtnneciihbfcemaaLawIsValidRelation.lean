/-
  FnExactIsValidRelation: for every argument the translated law returns true, and each argument reads afterwards as it read before. Conditions: none beyond the given row's own.
-/
import Derived.Test.YtnneciihbfcemaaBase
import Derived.Test.YtnneciihbfcemaaLift
import Derived.Test.YtnneciihbfcemaaRelF
namespace Go.Proofs.Ytnneciihbfcemaa
open Go.RowKit Go.ChangeShapes Go.WideShapes Go.ChangeAt Go.ChangeMaps

namespace lawFnExactIsValidRelation
set_option maxRecDepth 100000 in
set_option maxHeartbeats 800000 in
theorem walk (s : ByteArray) (a : Int) (b : Bool) (hs : s.size ≤ maxLen) (w : World) :
    Calls Try.prog 3 #[.agg #[.string s, .int .i64 a, .bool b]] w fun e w' => e = .returned (.bool true) ∧ Below w.heap.size w w' := by
  have hsz := szRelation_any s a b 1048576
  by_cases hbig : (s.size : Int) ≤ 1048576
  · have e1 : szLeft 1048576 s.size = 1048576 - s.size := if_pos hbig
    rw [e1] at hsz
    clear e1
    go_enter Try.func3, Try.ntmps3
    go_wp2_with fail
    refine (hsz _ hs (by omega) (by omega)).mono ?_
    rintro e w1 ⟨rfl, hb⟩
    have hc := (bcell hb).1
    clear hsz
    go_wp2_with (first | (go_at_call 8; refine (toRelation_any _ _ _ _).mono ?_; rintro e w' ⟨rfl, hb'⟩; replace hb := hb.trans (hb'.mono hb.size); clear hb'; replace hc := (bcell hb).1) | (go_at_call 7; refine (specIsValidRelation_any _ _ _ _).mono ?_; rintro e w' ⟨rfl, hb'⟩; replace hb := hb.trans (hb'.mono hb.size); clear hb'; replace hc := (bcell hb).1) | (go_at_call 9; refine (implIsValidRelation_any _ _ _ _).mono ?_; rintro e w' ⟨rfl, hb'⟩; replace hb := hb.trans (hb'.mono hb.size); clear hb'; replace hc := (bcell hb).1))
    go_ret
    exact ⟨rfl, ((Below.refl _ _).alloc (Nat.le_refl _) _).trans (hb.mono (by simp))⟩
  · have e1 : szLeft 1048576 s.size = -1 := if_neg hbig
    rw [e1] at hsz
    clear e1
    go_enter Try.func3, Try.ntmps3
    go_wp2_with fail
    refine (hsz _ hs (by omega) (by omega)).mono ?_
    rintro e w1 ⟨rfl, hb⟩
    clear hsz
    go_wp2
    go_ret
    exact ⟨rfl, ((Below.refl _ _).alloc (Nat.le_refl _) _).trans (hb.mono (by simp))⟩

theorem ty : ∀ t ∈ Try.f3.params.toList, Try.prog.readableRec t = true ∧ t < Try.prog.types.size := by
  rw [Try.params3]; intro t ht
  simp only [List.mem_cons, List.not_mem_nil, or_false] at ht
  subst ht; exact ⟨by kernel_rfl, of_decide_eq_true (by kernel_rfl)⟩
set_option maxRecDepth 100000 in
theorem lifted (os : Os) (started : os.Started) (H : Type) (enc : TypeId × Value → H) :
    ReturnsInHanded {} Try.checked os 3 .any (Rows.fnExactIsValidRelationSpec.pre6 enc Try.prog Try.f3 Rows.fnExactIsValidRelationRow.domain false) (Rows.fnExactIsValidRelationSpec.post enc Try.prog Try.f3 false true false false) := by
  refine returnsInHanded_of_change (C := Try.checked) ownFact started (by kernel_rfl) Try.func3
    (ChangeSpec.witness6 (enc := enc) (C := Try.checked) false ⟨#[], #[.agg #[.string ⟨#[]⟩, .int .i64 0, .bool false]], []⟩ 8 (by kernel_rfl) (by kernel_rfl) (by kernel_rfl) (by kernel_rfl)) ?_
  intro W base args ds gs before hval0 hW hcnd _
  have hval : ∀ (j : Nat) t v, Try.f3.params[j]? = some t → args[j]? = some v → Value.okWide Try.prog W .any base t v := hval0
  have hW' := hW
  obtain ⟨p, q, hA0, hV, _, hfz, hnd⟩ := hW
  have hA : DataW.TrodAll enc Try.prog W 0 (fun _ => true) true Try.f3.params.toList args.toList ds p := hA0
  rw [Try.params3] at hA hval
  obtain ⟨v0, vs0, d0, ds0, p0, q0, hargs, rfl, _, h0, r0⟩ := trodAll_cons hA
  obtain ⟨rfl, rfl, _⟩ := trodAll_nil r0
  obtain rfl : args = #[v0] := by cases args; simp_all
  obtain ⟨rfl, _⟩ := trodVars_none hV
  obtain ⟨s0, n0, b0, rfl, hs0, _⟩ := open_rel (hval 0 _ v0 rfl rfl) h0
  refine (walk s0 n0 b0 hs0 W).mono fun e W' ⟨he, hb⟩ => ?_
  subst he
  exact ⟨_, rfl, law_post laidFact ty Try.underlying4 (by kernel_rfl) rfl hW' rfl hb⟩
theorem holds : Rows.FnExactIsValidRelationSaid :=
  OpenClaim.holds_of_wide 3 Try.f3 rfl rfl rfl rfl rfl rfl rfl ⟨rfl, rfl, rfl, rfl, rfl⟩ rfl rfl rfl rfl rfl (by kernel_rfl) Try.func3 (by kernel_rfl)
    (of_decide_eq_true (by kernel_rfl)) (by unfold Func.isWrapper; first | (rw [if_pos (by decide +kernel)]; kernel_rfl) | (rw [if_neg (by decide +kernel)]; exact ⟨rfl, rfl⟩))
    (fun os started H enc _ => lifted os started H enc)
end lawFnExactIsValidRelation

end Go.Proofs.Ytnneciihbfcemaa
