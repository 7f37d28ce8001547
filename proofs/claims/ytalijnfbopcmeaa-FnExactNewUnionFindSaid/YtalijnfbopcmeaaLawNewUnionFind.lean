/-
  FnExactNewUnionFind: for every argument the translated law returns true, and each argument reads afterwards as it read before. Conditions: none beyond the given row's own.
-/
import Derived.Test.YtalijnfbopcmeaaPlan
import Derived.Test.YtalijnfbopcmeaaLift
import Derived.Test.YtalijnfbopcmeaaUfC
import Derived.Test.YtalijnfbopcmeaaUfN
import Derived.Test.YtalijnfbopcmeaaUfNI
namespace Go.Proofs.Ytalijnfbopcmeaa
open Go.RowKit Go.ChangeShapes Go.WideShapes Go.ChangeAt Go.ChangeMaps

namespace lawFnExactNewUnionFind

set_option maxRecDepth 100000 in
set_option maxHeartbeats 1600000 in
theorem walk (n0 : Int) (hn0 : -9223372036854775808 ≤ n0 ∧ n0 ≤ 9223372036854775807) (w : World) :
    Calls Try.prog 5 #[.int .i64 n0] w fun e w' => e = .returned (.bool true) ∧ Below w.heap.size w w' := by
  go_enter Try.func5, Try.ntmps5
  go_wp2_with fail
  refine (specNewUnionFind_c n0 _ hn0).mono ?_
  rintro e w1 ⟨r1_0, rfl, p1_0, hb1⟩
  have z1 : w.heap.size ≤ w1.heap.size := hb1.size
  obtain ⟨y2_0, y2_1, rfl⟩ := UnionFind_form p1_0
  have hb2 : Below w1.heap.size w1 (w1.alloc (.cells #[.slice y2_0 (NewUnionFind_r0 n0).length y2_1] 26)) := below_more (Below.refl _ _) _
  have z2 : w1.heap.size + 1 ≤ (w1.alloc (.cells #[.slice y2_0 (NewUnionFind_r0 n0).length y2_1] 26)).heap.size := by simp
  have K3 := Lib.hid (show (w1.alloc (.cells #[.slice y2_0 (NewUnionFind_r0 n0).length y2_1] 26)).cell? ⟨w1.heap.size, 0, none⟩ = some (.slice y2_0 (NewUnionFind_r0 n0).length y2_1) by simp [go_sem])
  go_wp2_with fail
  refine (implNewUnionFind_c n0 _ hn0).mono ?_
  rintro e w3 ⟨r4_0, rfl, p4_0, q4_0, hb3⟩
  have z3 : (w1.alloc (.cells #[.slice y2_0 (NewUnionFind_r0 n0).length y2_1] 26)).heap.size ≤ w3.heap.size := hb3.size
  have NC4_0 := UnionFind_cnt_le (NewUnionFind_r0 n0)
  obtain ⟨y5_0, y5_1, rfl⟩ := UnionFind_form (p4_0.at_ (Nat.le_refl _))
  have hb4 : Below w3.heap.size w3 (w3.alloc (.cells #[.slice y5_0 (NewUnionFind_r0 n0).length y5_1] 26)) := below_more (Below.refl _ _) _
  have z4 : w3.heap.size + 1 ≤ (w3.alloc (.cells #[.slice y5_0 (NewUnionFind_r0 n0).length y5_1] 26)).heap.size := by simp
  have K6 := Lib.hid (show (w3.alloc (.cells #[.slice y5_0 (NewUnionFind_r0 n0).length y5_1] 26)).cell? ⟨w3.heap.size, 0, none⟩ = some (.slice y5_0 (NewUnionFind_r0 n0).length y5_1) by simp [go_sem])
  have f7 : (w3.alloc (.cells #[.slice y5_0 (NewUnionFind_r0 n0).length y5_1] 26)).cell? ⟨w3.heap.size, 0, none⟩ = some (.slice y5_0 (NewUnionFind_r0 n0).length y5_1) := K6.out
  have c2_4 : Below (w1.alloc (.cells #[.slice y2_0 (NewUnionFind_r0 n0).length y2_1] 26)).heap.size (w1.alloc (.cells #[.slice y2_0 (NewUnionFind_r0 n0).length y2_1] 26)) (w3.alloc (.cells #[.slice y5_0 (NewUnionFind_r0 n0).length y5_1] 26)) := (hb3.trans (hb4.mono (by omega)))
  have f8 : (w3.alloc (.cells #[.slice y5_0 (NewUnionFind_r0 n0).length y5_1] 26)).cell? ⟨w1.heap.size, 0, none⟩ = some (.slice y2_0 (NewUnionFind_r0 n0).length y2_1) := ((c2_4).cell (p := ⟨w1.heap.size, 0, none⟩) (by show w1.heap.size < _; omega)).trans K3.out
  have c3_4 : Below w3.heap.size w3 (w3.alloc (.cells #[.slice y5_0 (NewUnionFind_r0 n0).length y5_1] 26)) := hb4
  have c1_4 : Below w1.heap.size w1 (w3.alloc (.cells #[.slice y5_0 (NewUnionFind_r0 n0).length y5_1] 26)) := ((hb2.trans (hb3.mono (by omega))).trans (hb4.mono (by omega)))
  go_wp2_with fail
  refine (eqUnionFind_c _ _ (NewUnionFind_r0 n0) _ ((p4_0.below c3_4 (Nat.le_refl _)).at_ (by omega)) ((p1_0.below c1_4 (Nat.le_refl _)).more c1_4.size)).mono ?_
  rintro e w5 ⟨rfl, hb5⟩
  have z5 : (w3.alloc (.cells #[.slice y5_0 (NewUnionFind_r0 n0).length y5_1] 26)).heap.size ≤ w5.heap.size := hb5.size
  clear f7 f8
  have c4_5 : Below (w3.alloc (.cells #[.slice y5_0 (NewUnionFind_r0 n0).length y5_1] 26)).heap.size (w3.alloc (.cells #[.slice y5_0 (NewUnionFind_r0 n0).length y5_1] 26)) w5 := hb5
  have f9 : w5.cell? ⟨w3.heap.size, 0, none⟩ = some (.slice y5_0 (NewUnionFind_r0 n0).length y5_1) := ((c4_5).cell (p := ⟨w3.heap.size, 0, none⟩) (by show w3.heap.size < _; omega)).trans K6.out
  have c3_5 : Below w3.heap.size w3 w5 := (c3_4.trans (hb5.mono (by omega)))
  go_wp2_with fail
  refine (markUnionFind_c _ _ _ (NewUnionFind_r0 n0) (1) _ (p4_0.below c3_5 (Nat.le_refl _)) q4_0 (by omega) (by omega)).mono ?_
  rintro e w6 ⟨rfl, om6, hb6⟩
  have z6 : w5.heap.size ≤ w6.heap.size := hb6.size
  clear f9
  have K10 := Lib.hid ((hb6.mid_cell (b := w3.heap.size) (o := 0) (by omega) (by omega)).trans (((c4_5).cell (p := ⟨w3.heap.size, 0, none⟩) (by show w3.heap.size < _; omega)).trans K6.out))
  have f11 : w6.cell? ⟨w3.heap.size, 0, none⟩ = some (.slice y5_0 (NewUnionFind_r0 n0).length y5_1) := K10.out
  go_wp2_with fail
  refine (heldUnionFind_c _ (NewUnionFind_r0 n0) (1) _ ((om6.below (Below.refl w6.heap.size w6) (by omega)).at_ (by omega)) q4_0 (by omega) (by omega)).mono ?_
  rintro e w7 ⟨rfl, hb7⟩
  have z7 : w6.heap.size ≤ w7.heap.size := hb7.size
  clear f11
  go_wp2_with fail
  refine (implNewUnionFind_c n0 _ hn0).mono ?_
  rintro e w8 ⟨r12_0, rfl, p12_0, q12_0, hb8⟩
  have z8 : w7.heap.size ≤ w8.heap.size := hb8.size
  have NC12_0 := UnionFind_cnt_le (NewUnionFind_r0 n0)
  obtain ⟨y13_0, y13_1, rfl⟩ := UnionFind_form (p12_0.at_ (Nat.le_refl _))
  have hb9 : Below w8.heap.size w8 (w8.alloc (.cells #[.slice y13_0 (NewUnionFind_r0 n0).length y13_1] 26)) := below_more (Below.refl _ _) _
  have z9 : w8.heap.size + 1 ≤ (w8.alloc (.cells #[.slice y13_0 (NewUnionFind_r0 n0).length y13_1] 26)).heap.size := by simp
  have K14 := Lib.hid (show (w8.alloc (.cells #[.slice y13_0 (NewUnionFind_r0 n0).length y13_1] 26)).cell? ⟨w8.heap.size, 0, none⟩ = some (.slice y13_0 (NewUnionFind_r0 n0).length y13_1) by simp [go_sem])
  have f15 : (w8.alloc (.cells #[.slice y13_0 (NewUnionFind_r0 n0).length y13_1] 26)).cell? ⟨w8.heap.size, 0, none⟩ = some (.slice y13_0 (NewUnionFind_r0 n0).length y13_1) := K14.out
  have c2_9 : Below (w1.alloc (.cells #[.slice y2_0 (NewUnionFind_r0 n0).length y2_1] 26)).heap.size (w1.alloc (.cells #[.slice y2_0 (NewUnionFind_r0 n0).length y2_1] 26)) (w8.alloc (.cells #[.slice y13_0 (NewUnionFind_r0 n0).length y13_1] 26)) := (((((c2_4.trans (hb5.mono (by omega))).trans (hb6.mid_below (by omega) (by omega))).trans (hb7.mono (by omega))).trans (hb8.mono (by omega))).trans (hb9.mono (by omega)))
  have f16 : (w8.alloc (.cells #[.slice y13_0 (NewUnionFind_r0 n0).length y13_1] 26)).cell? ⟨w1.heap.size, 0, none⟩ = some (.slice y2_0 (NewUnionFind_r0 n0).length y2_1) := ((c2_9).cell (p := ⟨w1.heap.size, 0, none⟩) (by show w1.heap.size < _; omega)).trans K3.out
  have c8_9 : Below w8.heap.size w8 (w8.alloc (.cells #[.slice y13_0 (NewUnionFind_r0 n0).length y13_1] 26)) := hb9
  have c1_9 : Below w1.heap.size w1 (w8.alloc (.cells #[.slice y13_0 (NewUnionFind_r0 n0).length y13_1] 26)) := (((((c1_4.trans (hb5.mono (by omega))).trans (hb6.mid_below (by omega) (by omega))).trans (hb7.mono (by omega))).trans (hb8.mono (by omega))).trans (hb9.mono (by omega)))
  go_wp2_with fail
  refine (eqUnionFind_c _ _ (NewUnionFind_r0 n0) _ ((p12_0.below c8_9 (Nat.le_refl _)).at_ (by omega)) ((p1_0.below c1_9 (Nat.le_refl _)).more c1_9.size)).mono ?_
  rintro e w10 ⟨rfl, hb10⟩
  have z10 : (w8.alloc (.cells #[.slice y13_0 (NewUnionFind_r0 n0).length y13_1] 26)).heap.size ≤ w10.heap.size := hb10.size
  clear f15 f16
  have c6_10 : Below w6.heap.size w6 w10 := (((hb7.trans (hb8.mono (by omega))).trans (hb9.mono (by omega))).trans (hb10.mono (by omega)))
  have f17 : w10.cell? ⟨w3.heap.size, 0, none⟩ = some (.slice y5_0 (NewUnionFind_r0 n0).length y5_1) := ((c6_10).cell (p := ⟨w3.heap.size, 0, none⟩) (by show w3.heap.size < _; omega)).trans K10.out
  go_wp2_with fail
  refine (heldUnionFind_c _ (NewUnionFind_r0 n0) (1) _ ((om6.below c6_10 (by omega)).at_ (by omega)) q12_0 (by omega) (by omega)).mono ?_
  rintro e w11 ⟨rfl, hb11⟩
  have z11 : w10.heap.size ≤ w11.heap.size := hb11.size
  clear f17
  have c0_11 : Below w.heap.size w w11 := ((((((((((hb1.trans (hb2.mono (by omega))).trans (hb3.mono (by omega))).trans (hb4.mono (by omega))).trans (hb5.mono (by omega))).trans (hb6.mid_below (by omega) (by omega))).trans (hb7.mono (by omega))).trans (hb8.mono (by omega))).trans (hb9.mono (by omega))).trans (hb10.mono (by omega))).trans (hb11.mono (by omega)))
  go_wp2
  go_ret
  exact ⟨rfl, c0_11⟩

theorem ty : ∀ t ∈ Try.f5.params.toList, Try.prog.readableRec t = true ∧ t < Try.prog.types.size := by
  rw [Try.params5]; intro t ht
  simp only [List.mem_cons, List.not_mem_nil, or_false] at ht
  subst ht; exact ⟨by kernel_rfl, of_decide_eq_true (by kernel_rfl)⟩
set_option maxRecDepth 100000 in
theorem lifted (os : Os) (started : os.Started) (H : Type) (enc : TypeId × Value → H) :
    ReturnsInHanded {} Try.checked os 5 .any (Rows.fnExactNewUnionFindSpec.pre6 enc Try.prog Try.f5 Rows.fnExactNewUnionFindRow.domain false) (Rows.fnExactNewUnionFindSpec.post enc Try.prog Try.f5 false true false false) := by
  refine returnsInHanded_of_change (C := Try.checked) ownFact started (by kernel_rfl) Try.func5
    (ChangeSpec.witness6 (enc := enc) (C := Try.checked) false ⟨#[], #[.int .i64 0], []⟩ 8 (by kernel_rfl) (by kernel_rfl) (by kernel_rfl) (by kernel_rfl)) ?_
  intro W base args ds gs before hval0 hW hcnd _
  have hval : ∀ (j : Nat) t v, Try.f5.params[j]? = some t → args[j]? = some v → Value.okWide Try.prog W .any base t v := hval0
  have hW' := hW
  obtain ⟨p, q, hA0, hV, _, hfz, hnd⟩ := hW
  have hA : DataW.TrodAll enc Try.prog W 0 (fun _ => true) true Try.f5.params.toList args.toList ds p := hA0
  rw [Try.params5] at hA hval
  obtain ⟨v0, vs0, d0, ds0, p0, q0, hargs, rfl, _, h0, r0⟩ := trodAll_cons hA
  obtain ⟨rfl, rfl, _⟩ := trodAll_nil r0
  obtain rfl : args = #[v0] := by cases args; simp_all
  obtain ⟨rfl, _⟩ := trodVars_none hV
  obtain ⟨a0, rfl, _, _, wa0⟩ := open_int Try.underlying3 (hval 0 3 v0 rfl rfl) h0
  refine (walk a0 ⟨i64_ge wa0, i64_le wa0⟩ W).mono fun e W' ⟨he, hb⟩ => ?_
  subst he
  exact ⟨_, rfl, law_post laidFact ty Try.underlying4 (by kernel_rfl) rfl hW' rfl hb⟩
theorem holds : Rows.FnExactNewUnionFindSaid :=
  OpenClaim.holds_of_wide 5 Try.f5 rfl rfl rfl rfl rfl rfl rfl ⟨rfl, rfl, rfl, rfl, rfl⟩ rfl rfl rfl rfl rfl (by kernel_rfl) Try.func5 (by kernel_rfl)
    (of_decide_eq_true (by kernel_rfl)) (by unfold Func.isWrapper; first | (rw [if_pos (by decide +kernel)]; kernel_rfl) | (rw [if_neg (by decide +kernel)]; exact ⟨rfl, rfl⟩))
    (fun os started H enc _ => lifted os started H enc)
end lawFnExactNewUnionFind

end Go.Proofs.Ytalijnfbopcmeaa
