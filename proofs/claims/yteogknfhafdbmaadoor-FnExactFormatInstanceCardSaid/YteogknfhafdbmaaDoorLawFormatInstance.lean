/-
  FnExactFormatInstance: for every argument the translated law returns true, and each argument reads afterwards as it read before. Conditions: none beyond the given row's own.
-/
import Derived.Test.YteogknfhafdbmaaDoorPlan
import Derived.Test.YteogknfhafdbmaaDoorLift
import Derived.Test.YteogknfhafdbmaaDoorLaid
import Derived.Test.YteogknfhafdbmaaDoorInstC
import Derived.Test.YteogknfhafdbmaaDoorFmtInstS
import Derived.Test.YteogknfhafdbmaaDoorFmtInI
namespace Go.Proofs.YteogknfhafdbmaaDoor
open Go.RowKit Go.ChangeShapes Go.WideShapes Go.ChangeAt Go.ChangeMaps

namespace lawFnExactFormatInstance

set_option maxRecDepth 100000 in
set_option maxHeartbeats 1600000 in
theorem walk (v0 : Value) (x0 : Inst) (w : World) (h0 : Instance_at w w.heap.size v0 x0) (hw0 : Instance_wf x0) (ht : Tab w) :
    Calls Tryd.prog 4 #[v0] w fun e w' => e = .returned (.bool true) ∧ Below w.heap.size w w' := by
  obtain ⟨v0_0, v0_1, v0_2, v0_3, rfl⟩ := Instance_form h0
  have A0 := Lib.hid h0
  have W0 := Lib.hid hw0
  clear h0 hw0
  by_cases hz1 : ((Instance_sz x0 : Nat) : Int) ≤ 1048576
  rotate_left
  · skip
    have e1 := szLeft_no hz1
    have hb1 : Below w.heap.size w (w.alloc (.cells #[.slice v0_0 x0.rels.length v0_1, .slice v0_2 x0.facts.length v0_3] 38)) := below_more (Below.refl _ _) _
    have z1 : w.heap.size + 1 ≤ (w.alloc (.cells #[.slice v0_0 x0.rels.length v0_1, .slice v0_2 x0.facts.length v0_3] 38)).heap.size := by simp
    have K1 := Lib.hid (show (w.alloc (.cells #[.slice v0_0 x0.rels.length v0_1, .slice v0_2 x0.facts.length v0_3] 38)).cell? ⟨w.heap.size, 0, none⟩ = some (.slice v0_0 x0.rels.length v0_1) by simp [go_sem])
    have K2 := Lib.hid (show (w.alloc (.cells #[.slice v0_0 x0.rels.length v0_1, .slice v0_2 x0.facts.length v0_3] 38)).cell? ⟨w.heap.size, 1, none⟩ = some (.slice v0_2 x0.facts.length v0_3) by simp [go_sem])
    go_enter Tryd.func4, Tryd.ntmps4
    have f3 : (w.alloc (.cells #[.slice v0_0 x0.rels.length v0_1, .slice v0_2 x0.facts.length v0_3] 38)).cell? ⟨w.heap.size, 0, none⟩ = some (.slice v0_0 x0.rels.length v0_1) := K1.out
    have f4 : (w.alloc (.cells #[.slice v0_0 x0.rels.length v0_1, .slice v0_2 x0.facts.length v0_3] 38)).cell? ⟨w.heap.size, 1, none⟩ = some (.slice v0_2 x0.facts.length v0_3) := K2.out
    have c0_1 : Below w.heap.size w (w.alloc (.cells #[.slice v0_0 x0.rels.length v0_1, .slice v0_2 x0.facts.length v0_3] 38)) := hb1
    go_wp2_with fail
    refine (szInstance_c _ x0 (1048576) _ ((A0.out.below c0_1 (Nat.le_refl _)).more c0_1.size) W0.out (by omega) (by omega)).mono ?_
    rw [e1]
    rintro e w2 ⟨rfl, hb2⟩
    have z2 : (w.alloc (.cells #[.slice v0_0 x0.rels.length v0_1, .slice v0_2 x0.facts.length v0_3] 38)).heap.size ≤ w2.heap.size := hb2.size
    clear f3 f4
    have c0_2 : Below w.heap.size w w2 := (c0_1.trans (hb2.mono (by omega)))
    go_wp2
    go_ret
    exact ⟨rfl, c0_2⟩
  have e1 := szLeft_yes hz1
  have S0 : Instance_sz x0 ≤ 1048576 := by omega
  have N0 := Instance_cnt_le x0
  have hb1 : Below w.heap.size w (w.alloc (.cells #[.slice v0_0 x0.rels.length v0_1, .slice v0_2 x0.facts.length v0_3] 38)) := below_more (Below.refl _ _) _
  have z1 : w.heap.size + 1 ≤ (w.alloc (.cells #[.slice v0_0 x0.rels.length v0_1, .slice v0_2 x0.facts.length v0_3] 38)).heap.size := by simp
  have K1 := Lib.hid (show (w.alloc (.cells #[.slice v0_0 x0.rels.length v0_1, .slice v0_2 x0.facts.length v0_3] 38)).cell? ⟨w.heap.size, 0, none⟩ = some (.slice v0_0 x0.rels.length v0_1) by simp [go_sem])
  have K2 := Lib.hid (show (w.alloc (.cells #[.slice v0_0 x0.rels.length v0_1, .slice v0_2 x0.facts.length v0_3] 38)).cell? ⟨w.heap.size, 1, none⟩ = some (.slice v0_2 x0.facts.length v0_3) by simp [go_sem])
  go_enter Tryd.func4, Tryd.ntmps4
  have f5 : (w.alloc (.cells #[.slice v0_0 x0.rels.length v0_1, .slice v0_2 x0.facts.length v0_3] 38)).cell? ⟨w.heap.size, 0, none⟩ = some (.slice v0_0 x0.rels.length v0_1) := K1.out
  have f6 : (w.alloc (.cells #[.slice v0_0 x0.rels.length v0_1, .slice v0_2 x0.facts.length v0_3] 38)).cell? ⟨w.heap.size, 1, none⟩ = some (.slice v0_2 x0.facts.length v0_3) := K2.out
  have c0_1 : Below w.heap.size w (w.alloc (.cells #[.slice v0_0 x0.rels.length v0_1, .slice v0_2 x0.facts.length v0_3] 38)) := hb1
  go_wp2_with fail
  refine (szInstance_c _ x0 (1048576) _ ((A0.out.below c0_1 (Nat.le_refl _)).more c0_1.size) W0.out (by omega) (by omega)).mono ?_
  rw [e1]
  rintro e w2 ⟨rfl, hb2⟩
  have z2 : (w.alloc (.cells #[.slice v0_0 x0.rels.length v0_1, .slice v0_2 x0.facts.length v0_3] 38)).heap.size ≤ w2.heap.size := hb2.size
  clear f5 f6
  have c1_2 : Below (w.alloc (.cells #[.slice v0_0 x0.rels.length v0_1, .slice v0_2 x0.facts.length v0_3] 38)).heap.size (w.alloc (.cells #[.slice v0_0 x0.rels.length v0_1, .slice v0_2 x0.facts.length v0_3] 38)) w2 := hb2
  have f7 : w2.cell? ⟨w.heap.size, 0, none⟩ = some (.slice v0_0 x0.rels.length v0_1) := ((c1_2).cell (p := ⟨w.heap.size, 0, none⟩) (by show w.heap.size < _; omega)).trans K1.out
  have f8 : w2.cell? ⟨w.heap.size, 1, none⟩ = some (.slice v0_2 x0.facts.length v0_3) := ((c1_2).cell (p := ⟨w.heap.size, 1, none⟩) (by show w.heap.size < _; omega)).trans K2.out
  have c0_2 : Below w.heap.size w w2 := (c0_1.trans (hb2.mono (by omega)))
  go_wp2_with fail
  refine (toInstance_c _ x0 _ ((A0.out.below c0_2 (Nat.le_refl _)).more c0_2.size) S0).mono ?_
  rintro e w3 ⟨u9, rfl, ou9, hb3⟩
  have z3 : w2.heap.size ≤ w3.heap.size := hb3.size
  obtain ⟨y10_0, y10_1, y10_2, y10_3, rfl⟩ := Instance_form (ou9.at_ (Nat.le_refl _))
  go_wp2_with fail
  refine (specFormatInstance_c _ x0 _ ((ou9.below (Below.refl w3.heap.size w3) (Nat.le_refl _)).at_ (Nat.le_refl _)) W0.out S0).mono ?_
  rintro e w4 ⟨rfl, hb4⟩
  have z4 : w3.heap.size ≤ w4.heap.size := hb4.size
  clear f7 f8
  have c1_4 : Below (w.alloc (.cells #[.slice v0_0 x0.rels.length v0_1, .slice v0_2 x0.facts.length v0_3] 38)).heap.size (w.alloc (.cells #[.slice v0_0 x0.rels.length v0_1, .slice v0_2 x0.facts.length v0_3] 38)) w4 := ((c1_2.trans (hb3.mono (by omega))).trans (hb4.mono (by omega)))
  have f12 : w4.cell? ⟨w.heap.size, 0, none⟩ = some (.slice v0_0 x0.rels.length v0_1) := ((c1_4).cell (p := ⟨w.heap.size, 0, none⟩) (by show w.heap.size < _; omega)).trans K1.out
  have f13 : w4.cell? ⟨w.heap.size, 1, none⟩ = some (.slice v0_2 x0.facts.length v0_3) := ((c1_4).cell (p := ⟨w.heap.size, 1, none⟩) (by show w.heap.size < _; omega)).trans K2.out
  have c0_4 : Below w.heap.size w w4 := ((c0_2.trans (hb3.mono (by omega))).trans (hb4.mono (by omega)))
  go_wp2_with fail
  refine (toInstance_c _ x0 _ ((A0.out.below c0_4 (Nat.le_refl _)).more c0_4.size) S0).mono ?_
  rintro e w5 ⟨u14, rfl, ou14, hb5⟩
  have z5 : w4.heap.size ≤ w5.heap.size := hb5.size
  obtain ⟨y15_0, y15_1, y15_2, y15_3, rfl⟩ := Instance_form (ou14.at_ (Nat.le_refl _))
  have hb6 : Below w5.heap.size w5 (w5.alloc (.cells #[.slice y15_0 x0.rels.length y15_1, .slice y15_2 x0.facts.length y15_3] 43)) := below_more (Below.refl _ _) _
  have z6 : w5.heap.size + 1 ≤ (w5.alloc (.cells #[.slice y15_0 x0.rels.length y15_1, .slice y15_2 x0.facts.length y15_3] 43)).heap.size := by simp
  have K16 := Lib.hid (show (w5.alloc (.cells #[.slice y15_0 x0.rels.length y15_1, .slice y15_2 x0.facts.length y15_3] 43)).cell? ⟨w5.heap.size, 0, none⟩ = some (.slice y15_0 x0.rels.length y15_1) by simp [go_sem])
  have K17 := Lib.hid (show (w5.alloc (.cells #[.slice y15_0 x0.rels.length y15_1, .slice y15_2 x0.facts.length y15_3] 43)).cell? ⟨w5.heap.size, 1, none⟩ = some (.slice y15_2 x0.facts.length y15_3) by simp [go_sem])
  clear f12 f13
  have f18 : (w5.alloc (.cells #[.slice y15_0 x0.rels.length y15_1, .slice y15_2 x0.facts.length y15_3] 43)).cell? ⟨w5.heap.size, 0, none⟩ = some (.slice y15_0 x0.rels.length y15_1) := K16.out
  have f19 : (w5.alloc (.cells #[.slice y15_0 x0.rels.length y15_1, .slice y15_2 x0.facts.length y15_3] 43)).cell? ⟨w5.heap.size, 1, none⟩ = some (.slice y15_2 x0.facts.length y15_3) := K17.out
  have c5_6 : Below w5.heap.size w5 (w5.alloc (.cells #[.slice y15_0 x0.rels.length y15_1, .slice y15_2 x0.facts.length y15_3] 43)) := hb6
  have c0_6 : Below w.heap.size w (w5.alloc (.cells #[.slice y15_0 x0.rels.length y15_1, .slice y15_2 x0.facts.length y15_3] 43)) := ((c0_4.trans (hb5.mono (by omega))).trans (hb6.mono (by omega)))
  go_wp2_with fail
  refine (implFormatInstance_c _ x0 _ ((ou14.below c5_6 (Nat.le_refl _)).at_ (by omega)) W0.out S0 (ht.below c0_6)).mono ?_
  rintro e w7 ⟨rfl, hb7⟩
  have z7 : (w5.alloc (.cells #[.slice y15_0 x0.rels.length y15_1, .slice y15_2 x0.facts.length y15_3] 43)).heap.size ≤ w7.heap.size := hb7.size
  clear f18 f19
  go_wp2_with fail
  have c6_7 : Below (w5.alloc (.cells #[.slice y15_0 x0.rels.length y15_1, .slice y15_2 x0.facts.length y15_3] 43)).heap.size (w5.alloc (.cells #[.slice y15_0 x0.rels.length y15_1, .slice y15_2 x0.facts.length y15_3] 43)) w7 := hb7
  have f21 : w7.cell? ⟨w5.heap.size, 0, none⟩ = some (.slice y15_0 x0.rels.length y15_1) := ((c6_7).cell (p := ⟨w5.heap.size, 0, none⟩) (by show w5.heap.size < _; omega)).trans K16.out
  have gf21 := Aft.cell (B := w7.heap.size) (by omega) f21
  clear f21
  have f22 : w7.cell? ⟨w5.heap.size, 1, none⟩ = some (.slice y15_2 x0.facts.length y15_3) := ((c6_7).cell (p := ⟨w5.heap.size, 1, none⟩) (by show w5.heap.size < _; omega)).trans K17.out
  have gf22 := Aft.cell (B := w7.heap.size) (by omega) f22
  clear f22
  have c1_7 : Below (w.alloc (.cells #[.slice v0_0 x0.rels.length v0_1, .slice v0_2 x0.facts.length v0_3] 38)).heap.size (w.alloc (.cells #[.slice v0_0 x0.rels.length v0_1, .slice v0_2 x0.facts.length v0_3] 38)) w7 := (((c1_4.trans (hb5.mono (by omega))).trans (hb6.mono (by omega))).trans (hb7.mono (by omega)))
  have f23 : w7.cell? ⟨w.heap.size, 0, none⟩ = some (.slice v0_0 x0.rels.length v0_1) := ((c1_7).cell (p := ⟨w.heap.size, 0, none⟩) (by show w.heap.size < _; omega)).trans K1.out
  have gf23 := Aft.cell (B := w7.heap.size) (by omega) f23
  clear f23
  have f24 : w7.cell? ⟨w.heap.size, 1, none⟩ = some (.slice v0_2 x0.facts.length v0_3) := ((c1_7).cell (p := ⟨w.heap.size, 1, none⟩) (by show w.heap.size < _; omega)).trans K2.out
  have gf24 := Aft.cell (B := w7.heap.size) (by omega) f24
  clear f24
  refine wp_region_plan (C := fun w' => ∃ u : Aft w7.heap.size w7, w' = u.now) (.still 0 (.still 1 (.move true 2 (.move true 3 (.still 4 .done) .none) .none))) (by kernel_rfl) (by kernel_rfl) (by kernel_rfl) (fun _ => ⟨⟨_, (Below.refl _ _).drew⟩, rfl⟩) ?_
  have hb8 : Below w7.heap.size w7 w7.drew := (Below.refl _ _).drew
  have z8 : w7.drew.heap.size = w7.heap.size := rfl
  have c0_8 : Below w.heap.size w w7.drew := ((c0_6.trans (hb7.mono (by omega))).trans (hb8.mono (by omega)))
  refine plan_look _ rfl rfl ?_
  go_big_quiet_step (fail)
  refine wpQuiet_nil ?_
  refine plan_look _ rfl rfl ?_
  go_big_quiet_step (fail)
  refine wpQuiet_nil ?_
  refine plan_call _ 15 _ _ _ _ _ rfl _ Tryd.func15 (by kernel_rfl) (by kernel_rfl) ?_ True.intro
  show Calls Tryd.prog 15 #[.agg #[.slice v0_0 x0.rels.length v0_1, .slice v0_2 x0.facts.length v0_3]] _ _
  refine (toInstance_c _ x0 _ ((A0.out.below c0_8 (Nat.le_refl _)).more c0_8.size) S0).mono ?_
  rintro e w9 ⟨u25, rfl, ou25, hb9⟩
  have z9 : w7.drew.heap.size ≤ w9.heap.size := hb9.size
  obtain ⟨y26_0, y26_1, y26_2, y26_3, rfl⟩ := Instance_form (ou25.at_ (Nat.le_refl _))
  have c7_9 : Below w7.heap.size w7 w9 := (hb8.trans (hb9.mono (by omega)))
  refine ⟨_, rfl, fun _ => ⟨⟨_, c7_9⟩, rfl⟩, ?_⟩
  refine plan_put ?_ (by simp only [Act.put, List.setIfInBounds_toArray, List.set_cons_succ, List.set_cons_zero]; rfl)
  have c5_9 : Below w5.heap.size w5 w9 := (((c5_6.trans (hb7.mono (by omega))).trans (hb8.mono (by omega))).trans (hb9.mono (by omega)))
  refine plan_call _ 17 _ _ _ _ _ rfl _ Tryd.func17 (by kernel_rfl) (by kernel_rfl) ?_ True.intro
  show Calls Tryd.prog 17 #[.agg #[.slice y15_0 x0.rels.length y15_1, .slice y15_2 x0.facts.length y15_3], .agg #[.slice y26_0 x0.rels.length y26_1, .slice y26_2 x0.facts.length y26_3]] _ _
  refine (eqInstance_c _ _ x0 _ ((ou14.below c5_9 (Nat.le_refl _)).at_ (by omega)) ((ou25.below (Below.refl w9.heap.size w9) (Nat.le_refl _)).at_ (Nat.le_refl _))).mono ?_
  rintro e w10 ⟨rfl, hb10⟩
  have z10 : w9.heap.size ≤ w10.heap.size := hb10.size
  have c7_10 : Below w7.heap.size w7 w10 := (c7_9.trans (hb10.mono (by omega)))
  refine ⟨_, rfl, fun _ => ⟨⟨_, c7_10⟩, rfl⟩, ?_⟩
  refine plan_put ?_ (by simp only [Act.put, List.setIfInBounds_toArray, List.set_cons_succ, List.set_cons_zero]; rfl)
  refine plan_look _ rfl rfl ?_
  go_big_quiet_step (fail)
  refine wpQuiet_nil ?_
  refine plan_done ?_
  clear gf21 gf22 gf23 gf24
  have c0_10 : Below w.heap.size w w10 := ((c0_8.trans (hb9.mono (by omega))).trans (hb10.mono (by omega)))
  go_wp2
  go_ret
  exact ⟨rfl, c0_10⟩

theorem ty : ∀ t ∈ Tryd.f4.params.toList, Tryd.prog.readableRec t = true ∧ t < Tryd.prog.types.size := by
  rw [Tryd.params4]; intro t ht
  simp only [List.mem_cons, List.not_mem_nil, or_false] at ht
  subst ht; exact ⟨by kernel_rfl, of_decide_eq_true (by kernel_rfl)⟩
noncomputable def laidWorld (os : Os) : World :=
  setVar (setVar (setVar (World.holding Tryd.prog os ⟨#[], #[], []⟩) 2 (aggCells Rows.laid_math_bits_deBruijn32tab)) 3 (aggCells Rows.laid_math_bits_deBruijn64tab)) 1 (aggCells Rows.laid_internal_strconv_uint64pow10)
theorem laid_met (os : Os) : laidMet Tryd.prog Rows.fnExactFormatInstanceRow.laid ((laidWorld os).forCall (fun _ _ => 0) ⟨#[], #[.agg #[.slice none 0 0, .slice none 0 0]], []⟩).memory :=
  laidMet_of_run' 100 (by kernel_rfl) (by kernel_rfl)
theorem reads (os : Os) {H : Type} (enc : TypeId × Value → H) : ∃ places, DataW.whole enc Tryd.prog ((laidWorld os).forCall (fun _ _ => 0) ⟨#[], #[.agg #[.slice none 0 0, .slice none 0 0]], []⟩).memory Tryd.f4.params.toList Rows.fnExactFormatInstanceSpec.vars false (#[.agg #[.slice none 0 0, .slice none 0 0]] : Array Value).toList 8 = some ([.agg [.nil, .nil]], [], places) :=
  ⟨[], by kernel_rfl⟩
set_option maxRecDepth 100000 in
theorem lifted (os : Os) (started : os.Started) (H : Type) (enc : TypeId × Value → H) (F : Stop.Interp) :
    ReturnsInHanded {} Tryd.checked os 4 .any ((OpenSpec.ofChange Rows.fnExactFormatInstanceSpec).preRow enc Tryd.prog Tryd.f4 Rows.fnExactFormatInstanceRow.domain false Rows.fnExactFormatInstanceRow.laid) (((OpenSpec.ofChange Rows.fnExactFormatInstanceSpec).at F).post enc Tryd.prog Tryd.f4 false true false false) := by
  obtain ⟨places, hx⟩ := reads os enc
  refine returnsInHanded_of_row (C := Tryd.checked) (s := OpenSpec.ofChange Rows.fnExactFormatInstanceSpec) ownFact started (by kernel_rfl) Tryd.func4
    (witness_row_at (enc := enc) (C := Tryd.checked) false (laidWorld os) #[.agg #[.slice none 0 0, .slice none 0 0]] rfl (by kernel_rfl) (by kernel_rfl) (by kernel_rfl)
      (OpenSpec.preRow_of_cond 8 hx (by kernel_rfl) (fun k hk => by cases hk) (by kernel_rfl) (laid_met os))) ?_
  intro W base args ds gs before hval0 hW _ _ _ hL hSh _
  have hval : ∀ (j : Nat) t v, Tryd.f4.params[j]? = some t → args[j]? = some v → Value.okWide Tryd.prog W .any base t v := hval0
  have hW' := hW
  obtain ⟨p, q, hA0, hV, _, hfz, hnd⟩ := hW
  have hA : DataW.TrodAll enc Tryd.prog W 0 (fun _ => true) true Tryd.f4.params.toList args.toList ds p := hA0
  rw [Tryd.params4] at hA hval
  obtain ⟨v0, vs0, d0, ds0, p0, q0, hargs, rfl, _, h0, r0⟩ := trodAll_cons hA
  obtain ⟨rfl, rfl, _⟩ := trodAll_nil r0
  obtain rfl : args = #[v0] := by cases args; simp_all
  obtain ⟨rfl, _⟩ := trodVars_none hV
  obtain ⟨x0, hx0, hwx0⟩ := open_Instance (hval 0 _ v0 rfl rfl) h0 (DataW.TrodAll.lt (trodAll_mk1 h0))
  have hL1 : laidMet Tryd.prog Rows.fnExactFormatInstanceRow.laid W := hL
  refine (walk v0 x0 W hx0 hwx0 (tab_of_laid (laidMet.tail (laidMet.tail hL1)))).mono fun e W' ⟨he, hb⟩ => ?_
  subst he
  exact ⟨_, rfl, law_post laidFact ty Tryd.underlying4 (by kernel_rfl) rfl hW' rfl hb⟩
theorem said : Rows.FnExactFormatInstanceSaid :=
  OpenClaim.holds_of_cond 4 Tryd.f4 rfl rfl rfl rfl rfl rfl rfl ⟨rfl, rfl, rfl, rfl, rfl⟩ rfl rfl rfl rfl rfl (by kernel_rfl) Tryd.func4 (by kernel_rfl)
    (of_decide_eq_true (by kernel_rfl)) (by unfold Func.isWrapper; first | (rw [if_pos (by decide +kernel)]; kernel_rfl) | (rw [if_neg (by decide +kernel)]; exact ⟨rfl, rfl⟩))
    (fun os started H enc _ F => by rw [OpenClaim.pre_eq_preRow]; exact lifted os started H enc F)
theorem plain (f : FuncId) (fn : Func) (hf : Tryd.pinned.checked.prog.funcNamed "loop.example/g01919/laws.FnExactFormatInstance" = some f) (hfn : Tryd.pinned.checked.prog.funcs[f]? = some fn) :
    false = Tryd.pinned.checked.prog.looks [] ∧ ∀ (j : Nat) t, fn.params[j]? = some t → Tryd.pinned.checked.prog.wantsStandIn t = false := by
  obtain rfl : f = 4 := Option.some.inj ((show Tryd.prog.funcNamed "loop.example/g01919/laws.FnExactFormatInstance" = some 4 by kernel_rfl).symm.trans hf) |>.symm
  obtain rfl : fn = Tryd.f4 := (Option.some.inj (Tryd.func4.symm.trans hfn)).symm
  refine ⟨by kernel_rfl, fun j t ht => ?_⟩
  rw [Tryd.params4] at ht
  have ht2 := Array.mem_of_getElem? ht
  simp only [List.mem_toArray, List.mem_cons, List.not_mem_nil, or_false] at ht2
  subst ht2
  exact (show Tryd.prog.wantsStandIn 38 = false by kernel_rfl)
theorem holds : Rows.FnExactFormatInstanceCardSaid :=
  Claim7.holds_tied_plain_at .later [] _ _ _ _ said (fun _ h => by cases h) (by kernel_rfl) (fun _ h => by cases h) fnExactFormatInstance_row_tie rfl ⟨rfl, rfl⟩ (by kernel_rfl) rfl plain (by kernel_rfl)
end lawFnExactFormatInstance

end Go.Proofs.YteogknfhafdbmaaDoor
