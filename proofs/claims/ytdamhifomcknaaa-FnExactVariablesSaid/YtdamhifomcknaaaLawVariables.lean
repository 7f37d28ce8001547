/-
  FnExactVariables: for every argument the translated law returns true, and each argument reads afterwards as it read before. Conditions: none beyond the given row's own.
-/
import Derived.Test.YtdamhifomcknaaaPlan
import Derived.Test.YtdamhifomcknaaaFactC
import Derived.Test.YtdamhifomcknaaaAtomSC
import Derived.Test.YtdamhifomcknaaaAtomV
import Derived.Test.YtdamhifomcknaaaVarsI
import Derived.Test.YtdamhifomcknaaaLift
namespace Go.Proofs.Ytdamhifomcknaaa
open Go.RowKit Go.ChangeShapes Go.WideShapes Go.ChangeAt Go.ChangeMaps

namespace lawFnExactVariables

set_option maxRecDepth 100000 in
set_option maxHeartbeats 1600000 in
theorem walk (v0 : Value) (x0 : List Atm) (w : World) (h0 : AtomS_at w w.heap.size v0 x0) (hw0 : AtomS_wf x0) :
    Calls Try.prog 6 #[v0] w fun e w' => e = .returned (.bool true) ∧ Below w.heap.size w w' := by
  have A0 := Lib.hid h0
  have W0 := Lib.hid hw0
  clear h0 hw0
  by_cases hz1 : ((AtomS_sz x0 : Nat) : Int) ≤ 1048576
  rotate_left
  · skip
    have e1 := szLeft_no hz1
    go_enter Try.func6, Try.ntmps6
    go_wp2_with fail
    refine (szAtomS_c _ x0 (1048576) _ ((A0.out.below (Below.refl w.heap.size w) (Nat.le_refl _)).more (Below.refl w.heap.size w).size) W0.out (by omega) (by omega)).mono ?_
    rw [e1]
    rintro e w1 ⟨rfl, hb1⟩
    have z1 : w.heap.size ≤ w1.heap.size := hb1.size
    have c0_1 : Below w.heap.size w w1 := hb1
    go_wp2
    go_ret
    exact ⟨rfl, c0_1⟩
  have e1 := szLeft_yes hz1
  have S0 : AtomS_sz x0 ≤ 1048576 := by omega
  have N0 := AtomS_cnt_le x0
  go_enter Try.func6, Try.ntmps6
  go_wp2_with fail
  refine (szAtomS_c _ x0 (1048576) _ ((A0.out.below (Below.refl w.heap.size w) (Nat.le_refl _)).more (Below.refl w.heap.size w).size) W0.out (by omega) (by omega)).mono ?_
  rw [e1]
  rintro e w1 ⟨rfl, hb1⟩
  have z1 : w.heap.size ≤ w1.heap.size := hb1.size
  have c0_1 : Below w.heap.size w w1 := hb1
  go_wp2_with fail
  refine (toAtomS_c _ x0 _ ((A0.out.below c0_1 (Nat.le_refl _)).more c0_1.size) S0).mono ?_
  rintro e w2 ⟨u1, rfl, ou1, hb2⟩
  have z2 : w1.heap.size ≤ w2.heap.size := hb2.size
  go_wp2_with fail
  refine (specVariables_c _ x0 _ ((ou1.below (Below.refl w2.heap.size w2) (Nat.le_refl _)).at_ (Nat.le_refl _)) W0.out S0).mono ?_
  rintro e w3 ⟨r2_0, rfl, p2_0, hb3⟩
  have z3 : w2.heap.size ≤ w3.heap.size := hb3.size
  have c0_3 : Below w.heap.size w w3 := ((c0_1.trans (hb2.mono (by omega))).trans (hb3.mono (by omega)))
  go_wp2_with fail
  refine (toAtomS_c _ x0 _ ((A0.out.below c0_3 (Nat.le_refl _)).more c0_3.size) S0).mono ?_
  rintro e w4 ⟨u3, rfl, ou3, hb4⟩
  have z4 : w3.heap.size ≤ w4.heap.size := hb4.size
  go_wp2_with fail
  refine (implVariables_c _ x0 _ ((ou3.below (Below.refl w4.heap.size w4) (Nat.le_refl _)).at_ (Nat.le_refl _)) W0.out S0).mono ?_
  rintro e w5 ⟨r4_0, rfl, p4_0, q4_0, hb5⟩
  have z5 : w4.heap.size ≤ w5.heap.size := hb5.size
  have NC4_0 := IntS_cnt_le (Variables_r0 x0)
  have c3_5 : Below w3.heap.size w3 w5 := (hb4.trans (hb5.mono (by omega)))
  go_wp2_with fail
  refine (eqIntS_c _ _ (Variables_r0 x0) _ ((p4_0.below (Below.refl w5.heap.size w5) (Nat.le_refl _)).at_ (Nat.le_refl _)) ((p2_0.below c3_5 (Nat.le_refl _)).more c3_5.size)).mono ?_
  rintro e w6 ⟨rfl, hb6⟩
  have z6 : w5.heap.size ≤ w6.heap.size := hb6.size
  have c0_6 : Below w.heap.size w w6 := (((c0_3.trans (hb4.mono (by omega))).trans (hb5.mono (by omega))).trans (hb6.mono (by omega)))
  go_wp2_with fail
  refine (toAtomS_c _ x0 _ ((A0.out.below c0_6 (Nat.le_refl _)).more c0_6.size) S0).mono ?_
  rintro e w7 ⟨u5, rfl, ou5, hb7⟩
  have z7 : w6.heap.size ≤ w7.heap.size := hb7.size
  have c4_7 : Below w4.heap.size w4 w7 := ((hb5.trans (hb6.mono (by omega))).trans (hb7.mono (by omega)))
  go_wp2_with fail
  refine (eqAtomS_c _ _ x0 _ ((ou3.below c4_7 (Nat.le_refl _)).at_ (by omega)) ((ou5.below (Below.refl w7.heap.size w7) (Nat.le_refl _)).at_ (Nat.le_refl _))).mono ?_
  rintro e w8 ⟨rfl, hb8⟩
  have z8 : w7.heap.size ≤ w8.heap.size := hb8.size
  have c4_8 : Below w4.heap.size w4 w8 := (c4_7.trans (hb8.mono (by omega)))
  have c5_8 : Below w5.heap.size w5 w8 := ((hb6.trans (hb7.mono (by omega))).trans (hb8.mono (by omega)))
  go_wp2_with fail
  refine (markAtomS_c _ _ _ x0 (1) _ (ou3.below c4_8 (Nat.le_refl _)) S0 (by omega) (by omega)).mono ?_
  rintro e w9 ⟨rfl, om9, hb9⟩
  have om9_g0 := (p4_0.below c5_8 (Nat.le_refl _)).chg hb9 (by omega)
  have z9 : w8.heap.size ≤ w9.heap.size := hb9.size
  have c3_9 : Below w3.heap.size w3 w9 := ((((c3_5.trans (hb6.mono (by omega))).trans (hb7.mono (by omega))).trans (hb8.mono (by omega))).trans (hb9.mid_below (by omega) (by omega)))
  go_wp2_with fail
  refine (eqIntS_c _ _ (Variables_r0 x0) _ ((om9_g0.below (Below.refl w9.heap.size w9) (by omega)).at_ (by omega)) ((p2_0.below c3_9 (Nat.le_refl _)).more c3_9.size)).mono ?_
  rintro e w10 ⟨rfl, hb10⟩
  have z10 : w9.heap.size ≤ w10.heap.size := hb10.size
  have c9_10 : Below w9.heap.size w9 w10 := hb10
  go_wp2_with fail
  refine (markIntS_c _ _ _ (Variables_r0 x0) (1) _ (om9_g0.below c9_10 (by omega)) q4_0 (by omega) (by omega)).mono ?_
  rintro e w11 ⟨rfl, om11, hb11⟩
  have om11_tu3 := (om9.below c9_10 (by omega)).chg hb11 (by omega)
  have z11 : w10.heap.size ≤ w11.heap.size := hb11.size
  go_wp2_with fail
  refine (heldIntS_c _ (Variables_r0 x0) (1) _ ((om11.below (Below.refl w11.heap.size w11) (by omega)).at_ (by omega)) q4_0 (by omega) (by omega)).mono ?_
  rintro e w12 ⟨rfl, hb12⟩
  have z12 : w11.heap.size ≤ w12.heap.size := hb12.size
  have c0_12 : Below w.heap.size w w12 := ((((((c0_6.trans (hb7.mono (by omega))).trans (hb8.mono (by omega))).trans (hb9.mid_below (by omega) (by omega))).trans (hb10.mono (by omega))).trans (hb11.mid_below (by omega) (by omega))).trans (hb12.mono (by omega)))
  go_wp2_with fail
  refine (toAtomS_c _ x0 _ ((A0.out.below c0_12 (Nat.le_refl _)).more c0_12.size) S0).mono ?_
  rintro e w13 ⟨u6, rfl, ou6, hb13⟩
  have z13 : w12.heap.size ≤ w13.heap.size := hb13.size
  go_wp2_with fail
  refine (implVariables_c _ x0 _ ((ou6.below (Below.refl w13.heap.size w13) (Nat.le_refl _)).at_ (Nat.le_refl _)) W0.out S0).mono ?_
  rintro e w14 ⟨r7_0, rfl, p7_0, q7_0, hb14⟩
  have z14 : w13.heap.size ≤ w14.heap.size := hb14.size
  have NC7_0 := IntS_cnt_le (Variables_r0 x0)
  have c3_14 : Below w3.heap.size w3 w14 := (((((c3_9.trans (hb10.mono (by omega))).trans (hb11.mid_below (by omega) (by omega))).trans (hb12.mono (by omega))).trans (hb13.mono (by omega))).trans (hb14.mono (by omega)))
  go_wp2_with fail
  refine (eqIntS_c _ _ (Variables_r0 x0) _ ((p7_0.below (Below.refl w14.heap.size w14) (Nat.le_refl _)).at_ (Nat.le_refl _)) ((p2_0.below c3_14 (Nat.le_refl _)).more c3_14.size)).mono ?_
  rintro e w15 ⟨rfl, hb15⟩
  have z15 : w14.heap.size ≤ w15.heap.size := hb15.size
  have c11_15 : Below w11.heap.size w11 w15 := (((hb12.trans (hb13.mono (by omega))).trans (hb14.mono (by omega))).trans (hb15.mono (by omega)))
  go_wp2_with fail
  refine (heldIntS_c _ (Variables_r0 x0) (1) _ ((om11.below c11_15 (by omega)).at_ (by omega)) q7_0 (by omega) (by omega)).mono ?_
  rintro e w16 ⟨rfl, hb16⟩
  have z16 : w15.heap.size ≤ w16.heap.size := hb16.size
  have c0_16 : Below w.heap.size w w16 := ((((c0_12.trans (hb13.mono (by omega))).trans (hb14.mono (by omega))).trans (hb15.mono (by omega))).trans (hb16.mono (by omega)))
  go_wp2
  go_ret
  exact ⟨rfl, c0_16⟩

theorem ty : ∀ t ∈ Try.f6.params.toList, Try.prog.readableRec t = true ∧ t < Try.prog.types.size := by
  rw [Try.params6]; intro t ht
  simp only [List.mem_cons, List.not_mem_nil, or_false] at ht
  subst ht; exact ⟨by kernel_rfl, of_decide_eq_true (by kernel_rfl)⟩
set_option maxRecDepth 100000 in
theorem lifted (os : Os) (started : os.Started) (H : Type) (enc : TypeId × Value → H) :
    ReturnsInHanded {} Try.checked os 6 .any (Rows.fnExactVariablesSpec.pre6 enc Try.prog Try.f6 Rows.fnExactVariablesRow.domain false) (Rows.fnExactVariablesSpec.post enc Try.prog Try.f6 false true false false) := by
  refine returnsInHanded_of_change (C := Try.checked) ownFact started (by kernel_rfl) Try.func6
    (ChangeSpec.witness6 (enc := enc) (C := Try.checked) false ⟨#[], #[.slice none 0 0], []⟩ 8 (by kernel_rfl) (by kernel_rfl) (by kernel_rfl) (by kernel_rfl)) ?_
  intro W base args ds gs before hval0 hW hcnd _
  have hval : ∀ (j : Nat) t v, Try.f6.params[j]? = some t → args[j]? = some v → Value.okWide Try.prog W .any base t v := hval0
  have hW' := hW
  obtain ⟨p, q, hA0, hV, _, hfz, hnd⟩ := hW
  have hA : DataW.TrodAll enc Try.prog W 0 (fun _ => true) true Try.f6.params.toList args.toList ds p := hA0
  rw [Try.params6] at hA hval
  obtain ⟨v0, vs0, d0, ds0, p0, q0, hargs, rfl, _, h0, r0⟩ := trodAll_cons hA
  obtain ⟨rfl, rfl, _⟩ := trodAll_nil r0
  obtain rfl : args = #[v0] := by cases args; simp_all
  obtain ⟨rfl, _⟩ := trodVars_none hV
  obtain ⟨x0, hx0, hwx0⟩ := open_AtomS (hval 0 _ v0 rfl rfl) h0 (DataW.TrodAll.lt (trodAll_mk1 h0))
  refine (walk v0 x0 W hx0 hwx0).mono fun e W' ⟨he, hb⟩ => ?_
  subst he
  exact ⟨_, rfl, law_post laidFact ty Try.underlying4 (by kernel_rfl) rfl hW' rfl hb⟩
theorem holds : Rows.FnExactVariablesSaid :=
  OpenClaim.holds_of_wide 6 Try.f6 rfl rfl rfl rfl rfl rfl rfl ⟨rfl, rfl, rfl, rfl, rfl⟩ rfl rfl rfl rfl rfl (by kernel_rfl) Try.func6 (by kernel_rfl)
    (of_decide_eq_true (by kernel_rfl)) (by unfold Func.isWrapper; first | (rw [if_pos (by decide +kernel)]; kernel_rfl) | (rw [if_neg (by decide +kernel)]; exact ⟨rfl, rfl⟩))
    (fun os started H enc _ => lifted os started H enc)
end lawFnExactVariables

end Go.Proofs.Ytdamhifomcknaaa
