/-
  FnExactIsGround: for every argument the translated law returns true, and each argument reads afterwards as it read before. Conditions: none beyond the given row's own.
-/
import Derived.Test.YtobdijcnfmgidaaPlan
import Derived.Test.YtobdijcnfmgidaaLift
import Derived.Test.YtobdijcnfmgidaaNulInI
import Derived.Test.YtobdijcnfmgidaaGroS
import Derived.Test.YtobdijcnfmgidaaInstC
namespace Go.Proofs.Ytobdijcnfmgidaa
open Go.RowKit Go.ChangeShapes Go.WideShapes Go.ChangeAt Go.ChangeMaps

namespace lawFnExactIsGround

set_option maxRecDepth 100000 in
set_option maxHeartbeats 1600000 in
theorem walk (v0 : Value) (x0 : Inst) (w : World) (h0 : Instance_at w w.heap.size v0 x0) (hw0 : Instance_wf x0) :
    Calls Try.prog 5 #[v0] w fun e w' => e = .returned (.bool true) ∧ Below w.heap.size w w' := by
  obtain ⟨v0_0, v0_1, v0_2, v0_3, rfl⟩ := Instance_form h0
  have A0 := Lib.hid h0
  have W0 := Lib.hid hw0
  clear h0 hw0
  by_cases hz1 : ((Instance_sz x0 : Nat) : Int) ≤ 1048576
  rotate_left
  · skip
    have e1 := szLeft_no hz1
    have hb1 : Below w.heap.size w (w.alloc (.cells #[.slice v0_0 x0.rels.length v0_1, .slice v0_2 x0.facts.length v0_3] 60)) := below_more (Below.refl _ _) _
    have z1 : w.heap.size + 1 ≤ (w.alloc (.cells #[.slice v0_0 x0.rels.length v0_1, .slice v0_2 x0.facts.length v0_3] 60)).heap.size := by simp
    have K1 := Lib.hid (show (w.alloc (.cells #[.slice v0_0 x0.rels.length v0_1, .slice v0_2 x0.facts.length v0_3] 60)).cell? ⟨w.heap.size, 0, none⟩ = some (.slice v0_0 x0.rels.length v0_1) by simp [go_sem])
    have K2 := Lib.hid (show (w.alloc (.cells #[.slice v0_0 x0.rels.length v0_1, .slice v0_2 x0.facts.length v0_3] 60)).cell? ⟨w.heap.size, 1, none⟩ = some (.slice v0_2 x0.facts.length v0_3) by simp [go_sem])
    go_enter Try.func5, Try.ntmps5
    have f3 : (w.alloc (.cells #[.slice v0_0 x0.rels.length v0_1, .slice v0_2 x0.facts.length v0_3] 60)).cell? ⟨w.heap.size, 0, none⟩ = some (.slice v0_0 x0.rels.length v0_1) := K1.out
    have f4 : (w.alloc (.cells #[.slice v0_0 x0.rels.length v0_1, .slice v0_2 x0.facts.length v0_3] 60)).cell? ⟨w.heap.size, 1, none⟩ = some (.slice v0_2 x0.facts.length v0_3) := K2.out
    have c0_1 : Below w.heap.size w (w.alloc (.cells #[.slice v0_0 x0.rels.length v0_1, .slice v0_2 x0.facts.length v0_3] 60)) := hb1
    go_wp2_with fail
    refine (szInstance_c _ x0 (1048576) _ ((A0.out.below c0_1 (Nat.le_refl _)).more c0_1.size) W0.out (by omega) (by omega)).mono ?_
    rw [e1]
    rintro e w2 ⟨rfl, hb2⟩
    have z2 : (w.alloc (.cells #[.slice v0_0 x0.rels.length v0_1, .slice v0_2 x0.facts.length v0_3] 60)).heap.size ≤ w2.heap.size := hb2.size
    clear f3 f4
    have c0_2 : Below w.heap.size w w2 := (c0_1.trans (hb2.mono (by omega)))
    go_wp2
    go_ret
    exact ⟨rfl, c0_2⟩
  have e1 := szLeft_yes hz1
  have S0 : Instance_sz x0 ≤ 1048576 := by omega
  have N0 := Instance_cnt_le x0
  have hb1 : Below w.heap.size w (w.alloc (.cells #[.slice v0_0 x0.rels.length v0_1, .slice v0_2 x0.facts.length v0_3] 60)) := below_more (Below.refl _ _) _
  have z1 : w.heap.size + 1 ≤ (w.alloc (.cells #[.slice v0_0 x0.rels.length v0_1, .slice v0_2 x0.facts.length v0_3] 60)).heap.size := by simp
  have K1 := Lib.hid (show (w.alloc (.cells #[.slice v0_0 x0.rels.length v0_1, .slice v0_2 x0.facts.length v0_3] 60)).cell? ⟨w.heap.size, 0, none⟩ = some (.slice v0_0 x0.rels.length v0_1) by simp [go_sem])
  have K2 := Lib.hid (show (w.alloc (.cells #[.slice v0_0 x0.rels.length v0_1, .slice v0_2 x0.facts.length v0_3] 60)).cell? ⟨w.heap.size, 1, none⟩ = some (.slice v0_2 x0.facts.length v0_3) by simp [go_sem])
  go_enter Try.func5, Try.ntmps5
  have f5 : (w.alloc (.cells #[.slice v0_0 x0.rels.length v0_1, .slice v0_2 x0.facts.length v0_3] 60)).cell? ⟨w.heap.size, 0, none⟩ = some (.slice v0_0 x0.rels.length v0_1) := K1.out
  have f6 : (w.alloc (.cells #[.slice v0_0 x0.rels.length v0_1, .slice v0_2 x0.facts.length v0_3] 60)).cell? ⟨w.heap.size, 1, none⟩ = some (.slice v0_2 x0.facts.length v0_3) := K2.out
  have c0_1 : Below w.heap.size w (w.alloc (.cells #[.slice v0_0 x0.rels.length v0_1, .slice v0_2 x0.facts.length v0_3] 60)) := hb1
  go_wp2_with fail
  refine (szInstance_c _ x0 (1048576) _ ((A0.out.below c0_1 (Nat.le_refl _)).more c0_1.size) W0.out (by omega) (by omega)).mono ?_
  rw [e1]
  rintro e w2 ⟨rfl, hb2⟩
  have z2 : (w.alloc (.cells #[.slice v0_0 x0.rels.length v0_1, .slice v0_2 x0.facts.length v0_3] 60)).heap.size ≤ w2.heap.size := hb2.size
  clear f5 f6
  have c1_2 : Below (w.alloc (.cells #[.slice v0_0 x0.rels.length v0_1, .slice v0_2 x0.facts.length v0_3] 60)).heap.size (w.alloc (.cells #[.slice v0_0 x0.rels.length v0_1, .slice v0_2 x0.facts.length v0_3] 60)) w2 := hb2
  have f7 : w2.cell? ⟨w.heap.size, 0, none⟩ = some (.slice v0_0 x0.rels.length v0_1) := ((c1_2).cell (p := ⟨w.heap.size, 0, none⟩) (by show w.heap.size < _; omega)).trans K1.out
  have f8 : w2.cell? ⟨w.heap.size, 1, none⟩ = some (.slice v0_2 x0.facts.length v0_3) := ((c1_2).cell (p := ⟨w.heap.size, 1, none⟩) (by show w.heap.size < _; omega)).trans K2.out
  have c0_2 : Below w.heap.size w w2 := (c0_1.trans (hb2.mono (by omega)))
  go_wp2_with fail
  refine (toInstance_c _ x0 _ ((A0.out.below c0_2 (Nat.le_refl _)).more c0_2.size) S0).mono ?_
  rintro e w3 ⟨u9, rfl, ou9, hb3⟩
  have z3 : w2.heap.size ≤ w3.heap.size := hb3.size
  obtain ⟨y10_0, y10_1, y10_2, y10_3, rfl⟩ := Instance_form (ou9.at_ (Nat.le_refl _))
  go_wp2_with fail
  refine (specIsGround_c _ x0 _ ((ou9.below (Below.refl w3.heap.size w3) (Nat.le_refl _)).at_ (Nat.le_refl _)) W0.out S0).mono ?_
  rintro e w4 ⟨rfl, hb4⟩
  have z4 : w3.heap.size ≤ w4.heap.size := hb4.size
  clear f7 f8
  have c1_4 : Below (w.alloc (.cells #[.slice v0_0 x0.rels.length v0_1, .slice v0_2 x0.facts.length v0_3] 60)).heap.size (w.alloc (.cells #[.slice v0_0 x0.rels.length v0_1, .slice v0_2 x0.facts.length v0_3] 60)) w4 := ((c1_2.trans (hb3.mono (by omega))).trans (hb4.mono (by omega)))
  have f12 : w4.cell? ⟨w.heap.size, 0, none⟩ = some (.slice v0_0 x0.rels.length v0_1) := ((c1_4).cell (p := ⟨w.heap.size, 0, none⟩) (by show w.heap.size < _; omega)).trans K1.out
  have f13 : w4.cell? ⟨w.heap.size, 1, none⟩ = some (.slice v0_2 x0.facts.length v0_3) := ((c1_4).cell (p := ⟨w.heap.size, 1, none⟩) (by show w.heap.size < _; omega)).trans K2.out
  have c0_4 : Below w.heap.size w w4 := ((c0_2.trans (hb3.mono (by omega))).trans (hb4.mono (by omega)))
  go_wp2_with fail
  refine (toInstance_c _ x0 _ ((A0.out.below c0_4 (Nat.le_refl _)).more c0_4.size) S0).mono ?_
  rintro e w5 ⟨u14, rfl, ou14, hb5⟩
  have z5 : w4.heap.size ≤ w5.heap.size := hb5.size
  obtain ⟨y15_0, y15_1, y15_2, y15_3, rfl⟩ := Instance_form (ou14.at_ (Nat.le_refl _))
  have hb6 : Below w5.heap.size w5 (w5.alloc (.cells #[.slice y15_0 x0.rels.length y15_1, .slice y15_2 x0.facts.length y15_3] 27)) := below_more (Below.refl _ _) _
  have z6 : w5.heap.size + 1 ≤ (w5.alloc (.cells #[.slice y15_0 x0.rels.length y15_1, .slice y15_2 x0.facts.length y15_3] 27)).heap.size := by simp
  have K16 := Lib.hid (show (w5.alloc (.cells #[.slice y15_0 x0.rels.length y15_1, .slice y15_2 x0.facts.length y15_3] 27)).cell? ⟨w5.heap.size, 0, none⟩ = some (.slice y15_0 x0.rels.length y15_1) by simp [go_sem])
  have K17 := Lib.hid (show (w5.alloc (.cells #[.slice y15_0 x0.rels.length y15_1, .slice y15_2 x0.facts.length y15_3] 27)).cell? ⟨w5.heap.size, 1, none⟩ = some (.slice y15_2 x0.facts.length y15_3) by simp [go_sem])
  clear f12 f13
  have f18 : (w5.alloc (.cells #[.slice y15_0 x0.rels.length y15_1, .slice y15_2 x0.facts.length y15_3] 27)).cell? ⟨w5.heap.size, 0, none⟩ = some (.slice y15_0 x0.rels.length y15_1) := K16.out
  have f19 : (w5.alloc (.cells #[.slice y15_0 x0.rels.length y15_1, .slice y15_2 x0.facts.length y15_3] 27)).cell? ⟨w5.heap.size, 1, none⟩ = some (.slice y15_2 x0.facts.length y15_3) := K17.out
  have c5_6 : Below w5.heap.size w5 (w5.alloc (.cells #[.slice y15_0 x0.rels.length y15_1, .slice y15_2 x0.facts.length y15_3] 27)) := hb6
  go_wp2_with fail
  refine (implIsGround_c _ x0 _ ((ou14.below c5_6 (Nat.le_refl _)).at_ (by omega)) W0.out S0).mono ?_
  rintro e w7 ⟨rfl, hb7⟩
  have z7 : (w5.alloc (.cells #[.slice y15_0 x0.rels.length y15_1, .slice y15_2 x0.facts.length y15_3] 27)).heap.size ≤ w7.heap.size := hb7.size
  clear f18 f19
  go_wp2_with fail
  have c6_7 : Below (w5.alloc (.cells #[.slice y15_0 x0.rels.length y15_1, .slice y15_2 x0.facts.length y15_3] 27)).heap.size (w5.alloc (.cells #[.slice y15_0 x0.rels.length y15_1, .slice y15_2 x0.facts.length y15_3] 27)) w7 := hb7
  have f21 : w7.cell? ⟨w5.heap.size, 0, none⟩ = some (.slice y15_0 x0.rels.length y15_1) := ((c6_7).cell (p := ⟨w5.heap.size, 0, none⟩) (by show w5.heap.size < _; omega)).trans K16.out
  have gf21 := Aft.cell (B := w7.heap.size) (by omega) f21
  clear f21
  have f22 : w7.cell? ⟨w5.heap.size, 1, none⟩ = some (.slice y15_2 x0.facts.length y15_3) := ((c6_7).cell (p := ⟨w5.heap.size, 1, none⟩) (by show w5.heap.size < _; omega)).trans K17.out
  have gf22 := Aft.cell (B := w7.heap.size) (by omega) f22
  clear f22
  have c1_7 : Below (w.alloc (.cells #[.slice v0_0 x0.rels.length v0_1, .slice v0_2 x0.facts.length v0_3] 60)).heap.size (w.alloc (.cells #[.slice v0_0 x0.rels.length v0_1, .slice v0_2 x0.facts.length v0_3] 60)) w7 := (((c1_4.trans (hb5.mono (by omega))).trans (hb6.mono (by omega))).trans (hb7.mono (by omega)))
  have f23 : w7.cell? ⟨w.heap.size, 0, none⟩ = some (.slice v0_0 x0.rels.length v0_1) := ((c1_7).cell (p := ⟨w.heap.size, 0, none⟩) (by show w.heap.size < _; omega)).trans K1.out
  have gf23 := Aft.cell (B := w7.heap.size) (by omega) f23
  clear f23
  have f24 : w7.cell? ⟨w.heap.size, 1, none⟩ = some (.slice v0_2 x0.facts.length v0_3) := ((c1_7).cell (p := ⟨w.heap.size, 1, none⟩) (by show w.heap.size < _; omega)).trans K2.out
  have gf24 := Aft.cell (B := w7.heap.size) (by omega) f24
  clear f24
  refine wp_region_plan (C := fun w' => ∃ u : Aft w7.heap.size w7, w' = u.now) (.still 0 (.still 1 (.move true 2 (.move true 3 (.still 4 .done) .none) .none))) (by kernel_rfl) (by kernel_rfl) (by kernel_rfl) (fun _ => ⟨⟨_, (Below.refl _ _).drew⟩, rfl⟩) ?_
  have hb8 : Below w7.heap.size w7 w7.drew := (Below.refl _ _).drew
  have z8 : w7.drew.heap.size = w7.heap.size := rfl
  have c0_8 : Below w.heap.size w w7.drew := ((((c0_4.trans (hb5.mono (by omega))).trans (hb6.mono (by omega))).trans (hb7.mono (by omega))).trans (hb8.mono (by omega)))
  refine plan_look _ rfl rfl ?_
  go_big_quiet_step (fail)
  refine wpQuiet_nil ?_
  refine plan_look _ rfl rfl ?_
  go_big_quiet_step (fail)
  refine wpQuiet_nil ?_
  refine plan_call _ 32 _ _ _ _ _ rfl _ Try.func32 (by kernel_rfl) (by kernel_rfl) ?_ True.intro
  show Calls Try.prog 32 #[.agg #[.slice v0_0 x0.rels.length v0_1, .slice v0_2 x0.facts.length v0_3]] _ _
  refine (toInstance_c _ x0 _ ((A0.out.below c0_8 (Nat.le_refl _)).more c0_8.size) S0).mono ?_
  rintro e w9 ⟨u25, rfl, ou25, hb9⟩
  have z9 : w7.drew.heap.size ≤ w9.heap.size := hb9.size
  obtain ⟨y26_0, y26_1, y26_2, y26_3, rfl⟩ := Instance_form (ou25.at_ (Nat.le_refl _))
  have c7_9 : Below w7.heap.size w7 w9 := (hb8.trans (hb9.mono (by omega)))
  refine ⟨_, rfl, fun _ => ⟨⟨_, c7_9⟩, rfl⟩, ?_⟩
  refine plan_put ?_ (by simp only [Act.put, List.setIfInBounds_toArray, List.set_cons_succ, List.set_cons_zero]; rfl)
  have c5_9 : Below w5.heap.size w5 w9 := (((c5_6.trans (hb7.mono (by omega))).trans (hb8.mono (by omega))).trans (hb9.mono (by omega)))
  refine plan_call _ 33 _ _ _ _ _ rfl _ Try.func33 (by kernel_rfl) (by kernel_rfl) ?_ True.intro
  show Calls Try.prog 33 #[.agg #[.slice y15_0 x0.rels.length y15_1, .slice y15_2 x0.facts.length y15_3], .agg #[.slice y26_0 x0.rels.length y26_1, .slice y26_2 x0.facts.length y26_3]] _ _
  refine (eqInstance_c _ _ x0 _ ((ou14.below c5_9 (Nat.le_refl _)).at_ (by omega)) ((ou25.below (Below.refl w9.heap.size w9) (Nat.le_refl _)).at_ (Nat.le_refl _))).mono ?_
  rintro e w10 ⟨rfl, hb10⟩
  have z10 : w9.heap.size ≤ w10.heap.size := hb10.size
  have c7_10 : Below w7.heap.size w7 w10 := (c7_9.trans (hb10.mono (by omega)))
  refine ⟨_, rfl, fun _ => ⟨⟨_, c7_10⟩, rfl⟩, ?_⟩
  refine plan_put ?_ (by simp only [Act.put, List.setIfInBounds_toArray, List.set_cons_succ, List.set_cons_zero]; rfl)
  refine plan_look _ rfl rfl ?_
  go_big_quiet_step (fail)
  refine wpQuiet_nil ?_
  refine plan_done ?_
  clear gf21 gf22 gf23 gf24
  have c0_10 : Below w.heap.size w w10 := ((c0_8.trans (hb9.mono (by omega))).trans (hb10.mono (by omega)))
  go_wp2
  go_ret
  exact ⟨rfl, c0_10⟩

theorem ty : ∀ t ∈ Try.f5.params.toList, Try.prog.readableRec t = true ∧ t < Try.prog.types.size := by
  rw [Try.params5]; intro t ht
  simp only [List.mem_cons, List.not_mem_nil, or_false] at ht
  subst ht; exact ⟨by kernel_rfl, of_decide_eq_true (by kernel_rfl)⟩
set_option maxRecDepth 100000 in
theorem lifted (os : Os) (started : os.Started) (H : Type) (enc : TypeId × Value → H) :
    ReturnsInHanded {} Try.checked os 5 .any (Rows.fnExactIsGroundSpec.pre6 enc Try.prog Try.f5 Rows.fnExactIsGroundRow.domain false) (Rows.fnExactIsGroundSpec.post enc Try.prog Try.f5 false true false false) := by
  refine returnsInHanded_of_change (C := Try.checked) ownFact started (by kernel_rfl) Try.func5
    (ChangeSpec.witness6 (enc := enc) (C := Try.checked) false ⟨#[], #[.agg #[.slice none 0 0, .slice none 0 0]], []⟩ 8 (by kernel_rfl) (by kernel_rfl) (by kernel_rfl) (by kernel_rfl)) ?_
  intro W base args ds gs before hval0 hW hcnd _
  have hval : ∀ (j : Nat) t v, Try.f5.params[j]? = some t → args[j]? = some v → Value.okWide Try.prog W .any base t v := hval0
  have hW' := hW
  obtain ⟨p, q, hA0, hV, _, hfz, hnd⟩ := hW
  have hA : DataW.TrodAll enc Try.prog W 0 (fun _ => true) true Try.f5.params.toList args.toList ds p := hA0
  rw [Try.params5] at hA hval
  obtain ⟨v0, vs0, d0, ds0, p0, q0, hargs, rfl, _, h0, r0⟩ := trodAll_cons hA
  obtain ⟨rfl, rfl, _⟩ := trodAll_nil r0
  obtain rfl : args = #[v0] := by cases args; simp_all
  obtain ⟨rfl, _⟩ := trodVars_none hV
  obtain ⟨x0, hx0, hwx0⟩ := open_Instance (hval 0 _ v0 rfl rfl) h0 (DataW.TrodAll.lt (trodAll_mk1 h0))
  refine (walk v0 x0 W hx0 hwx0).mono fun e W' ⟨he, hb⟩ => ?_
  subst he
  exact ⟨_, rfl, law_post laidFact ty Try.underlying4 (by kernel_rfl) rfl hW' rfl hb⟩
theorem holds : Rows.FnExactIsGroundSaid :=
  OpenClaim.holds_of_wide 5 Try.f5 rfl rfl rfl rfl rfl rfl rfl ⟨rfl, rfl, rfl, rfl, rfl⟩ rfl rfl rfl rfl rfl (by kernel_rfl) Try.func5 (by kernel_rfl)
    (of_decide_eq_true (by kernel_rfl)) (by unfold Func.isWrapper; first | (rw [if_pos (by decide +kernel)]; kernel_rfl) | (rw [if_neg (by decide +kernel)]; exact ⟨rfl, rfl⟩))
    (fun os started H enc _ => lifted os started H enc)
end lawFnExactIsGround

end Go.Proofs.Ytobdijcnfmgidaa
