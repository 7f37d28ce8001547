/-
  FnExactIsReachable: for every argument the translated law returns true, and each argument reads afterwards as it read before. Conditions: none beyond the given row's own.
-/
import Derived.Test.YtakflmaeclneiaaPlan
import Derived.Test.YtakflmaeclneiaaLift
import Derived.Test.YtakflmaeclneiaaEdgeC
import Derived.Test.YtakflmaeclneiaaReachS
import Derived.Test.YtakflmaeclneiaaReachI
namespace Go.Proofs.Ytakflmaeclneiaa
open Go.RowKit Go.ChangeShapes Go.WideShapes Go.ChangeAt Go.ChangeMaps

namespace lawFnExactIsReachable

set_option maxRecDepth 100000 in
set_option maxHeartbeats 1600000 in
theorem walk (n0 : Int) (hn0 : -9223372036854775808 ≤ n0 ∧ n0 ≤ 9223372036854775807) (v1 : Value) (x1 : List Edg) (n2 : Int) (hn2 : -9223372036854775808 ≤ n2 ∧ n2 ≤ 9223372036854775807) (n3 : Int) (hn3 : -9223372036854775808 ≤ n3 ∧ n3 ≤ 9223372036854775807) (w : World) (h1 : PositionEdgeS_at w w.heap.size v1 x1) (hw1 : PositionEdgeS_wf x1) :
    Calls Try.prog 5 #[.int .i64 n0, v1, .int .i64 n2, .int .i64 n3] w fun e w' => e = .returned (.bool true) ∧ Below w.heap.size w w' := by
  have A1 := Lib.hid h1
  have W1 := Lib.hid hw1
  clear h1 hw1
  by_cases hz1 : ((PositionEdgeS_sz x1 : Nat) : Int) ≤ 1048576
  rotate_left
  · skip
    have e1 := szLeft_no hz1
    go_enter Try.func5, Try.ntmps5
    go_wp2_with fail
    refine (szPositionEdgeS_c _ x1 (1048576) _ ((A1.out.below (Below.refl w.heap.size w) (Nat.le_refl _)).more (Below.refl w.heap.size w).size) W1.out (by omega) (by omega)).mono ?_
    rw [e1]
    rintro e w1 ⟨rfl, hb1⟩
    have z1 : w.heap.size ≤ w1.heap.size := hb1.size
    have c0_1 : Below w.heap.size w w1 := hb1
    go_wp2
    go_ret
    exact ⟨rfl, c0_1⟩
  have e1 := szLeft_yes hz1
  have S1 : PositionEdgeS_sz x1 ≤ 1048576 := by omega
  have N1 := PositionEdgeS_cnt_le x1
  go_enter Try.func5, Try.ntmps5
  go_wp2_with fail
  refine (szPositionEdgeS_c _ x1 (1048576) _ ((A1.out.below (Below.refl w.heap.size w) (Nat.le_refl _)).more (Below.refl w.heap.size w).size) W1.out (by omega) (by omega)).mono ?_
  rw [e1]
  rintro e w1 ⟨rfl, hb1⟩
  have z1 : w.heap.size ≤ w1.heap.size := hb1.size
  have c0_1 : Below w.heap.size w w1 := hb1
  go_wp2_with fail
  refine (toPositionEdgeS_c _ x1 _ ((A1.out.below c0_1 (Nat.le_refl _)).more c0_1.size) S1).mono ?_
  rintro e w2 ⟨u1, rfl, ou1, hb2⟩
  have z2 : w1.heap.size ≤ w2.heap.size := hb2.size
  go_wp2_with fail
  refine (specIsReachable_c n0 _ x1 n2 n3 _ hn0 ((ou1.below (Below.refl w2.heap.size w2) (Nat.le_refl _)).at_ (Nat.le_refl _)) W1.out S1 hn2 hn3).mono ?_
  rintro e w3 ⟨rfl, hb3⟩
  have z3 : w2.heap.size ≤ w3.heap.size := hb3.size
  have c0_3 : Below w.heap.size w w3 := ((c0_1.trans (hb2.mono (by omega))).trans (hb3.mono (by omega)))
  go_wp2_with fail
  refine (toPositionEdgeS_c _ x1 _ ((A1.out.below c0_3 (Nat.le_refl _)).more c0_3.size) S1).mono ?_
  rintro e w4 ⟨u3, rfl, ou3, hb4⟩
  have z4 : w3.heap.size ≤ w4.heap.size := hb4.size
  go_wp2_with fail
  refine (implIsReachable_c n0 _ x1 n2 n3 _ hn0 ((ou3.below (Below.refl w4.heap.size w4) (Nat.le_refl _)).at_ (Nat.le_refl _)) W1.out S1 hn2 hn3).mono ?_
  rintro e w5 ⟨rfl, hb5⟩
  have z5 : w4.heap.size ≤ w5.heap.size := hb5.size
  have c0_5 : Below w.heap.size w w5 := ((c0_3.trans (hb4.mono (by omega))).trans (hb5.mono (by omega)))
  go_wp2_with fail
  refine (toPositionEdgeS_c _ x1 _ ((A1.out.below c0_5 (Nat.le_refl _)).more c0_5.size) S1).mono ?_
  rintro e w6 ⟨u5, rfl, ou5, hb6⟩
  have z6 : w5.heap.size ≤ w6.heap.size := hb6.size
  have c4_6 : Below w4.heap.size w4 w6 := (hb5.trans (hb6.mono (by omega)))
  go_wp2_with fail
  refine (eqPositionEdgeS_c _ _ x1 _ ((ou3.below c4_6 (Nat.le_refl _)).at_ (by omega)) ((ou5.below (Below.refl w6.heap.size w6) (Nat.le_refl _)).at_ (Nat.le_refl _))).mono ?_
  rintro e w7 ⟨rfl, hb7⟩
  have z7 : w6.heap.size ≤ w7.heap.size := hb7.size
  have c0_7 : Below w.heap.size w w7 := ((c0_5.trans (hb6.mono (by omega))).trans (hb7.mono (by omega)))
  go_wp2
  go_ret
  exact ⟨rfl, c0_7⟩

theorem ty : ∀ t ∈ Try.f5.params.toList, Try.prog.readableRec t = true ∧ t < Try.prog.types.size := by
  rw [Try.params5]; intro t ht
  simp only [List.mem_cons, List.not_mem_nil, or_false] at ht
  rcases ht with rfl | rfl | rfl | rfl <;> exact ⟨by kernel_rfl, of_decide_eq_true (by kernel_rfl)⟩
set_option maxRecDepth 100000 in
theorem lifted (os : Os) (started : os.Started) (H : Type) (enc : TypeId × Value → H) :
    ReturnsInHanded {} Try.checked os 5 .any (Rows.fnExactIsReachableSpec.pre6 enc Try.prog Try.f5 Rows.fnExactIsReachableRow.domain false) (Rows.fnExactIsReachableSpec.post enc Try.prog Try.f5 false true false false) := by
  refine returnsInHanded_of_change (C := Try.checked) ownFact started (by kernel_rfl) Try.func5
    (ChangeSpec.witness6 (enc := enc) (C := Try.checked) false ⟨#[], #[.int .i64 0, .slice none 0 0, .int .i64 0, .int .i64 0], []⟩ 8 (by kernel_rfl) (by kernel_rfl) (by kernel_rfl) (by kernel_rfl)) ?_
  intro W base args ds gs before hval0 hW hcnd _
  have hval : ∀ (j : Nat) t v, Try.f5.params[j]? = some t → args[j]? = some v → Value.okWide Try.prog W .any base t v := hval0
  have hW' := hW
  obtain ⟨p, q, hA0, hV, _, hfz, hnd⟩ := hW
  have hA : DataW.TrodAll enc Try.prog W 0 (fun _ => true) true Try.f5.params.toList args.toList ds p := hA0
  rw [Try.params5] at hA hval
  obtain ⟨v0, vs0, d0, ds0, p0, q0, hargs, rfl, _, h0, r0⟩ := trodAll_cons hA
  obtain ⟨v1, vs1, d1, ds1, p1, q1, rfl, rfl, _, h1, r1⟩ := trodAll_cons r0
  obtain ⟨v2, vs2, d2, ds2, p2, q2, rfl, rfl, _, h2, r2⟩ := trodAll_cons r1
  obtain ⟨v3, vs3, d3, ds3, p3, q3, rfl, rfl, _, h3, r3⟩ := trodAll_cons r2
  obtain ⟨rfl, rfl, _⟩ := trodAll_nil r3
  obtain rfl : args = #[v0, v1, v2, v3] := by cases args; simp_all
  obtain ⟨rfl, _⟩ := trodVars_none hV
  obtain ⟨a0, rfl, _, _, wa0⟩ := open_int Try.underlying3 (hval 0 3 v0 rfl rfl) h0
  obtain ⟨x1, hx1, hwx1⟩ := open_PositionEdgeS (hval 1 _ v1 rfl rfl) h1 (DataW.TrodAll.lt (trodAll_mk1 h1))
  obtain ⟨a2, rfl, _, _, wa2⟩ := open_int Try.underlying3 (hval 2 3 v2 rfl rfl) h2
  obtain ⟨a3, rfl, _, _, wa3⟩ := open_int Try.underlying3 (hval 3 3 v3 rfl rfl) h3
  refine (walk a0 ⟨i64_ge wa0, i64_le wa0⟩ v1 x1 a2 ⟨i64_ge wa2, i64_le wa2⟩ a3 ⟨i64_ge wa3, i64_le wa3⟩ W hx1 hwx1).mono fun e W' ⟨he, hb⟩ => ?_
  subst he
  exact ⟨_, rfl, law_post laidFact ty Try.underlying4 (by kernel_rfl) rfl hW' rfl hb⟩
theorem holds : Rows.FnExactIsReachableSaid :=
  OpenClaim.holds_of_wide 5 Try.f5 rfl rfl rfl rfl rfl rfl rfl ⟨rfl, rfl, rfl, rfl, rfl⟩ rfl rfl rfl rfl rfl (by kernel_rfl) Try.func5 (by kernel_rfl)
    (of_decide_eq_true (by kernel_rfl)) (by unfold Func.isWrapper; first | (rw [if_pos (by decide +kernel)]; kernel_rfl) | (rw [if_neg (by decide +kernel)]; exact ⟨rfl, rfl⟩))
    (fun os started H enc _ => lifted os started H enc)
end lawFnExactIsReachable

end Go.Proofs.Ytakflmaeclneiaa
