/-
  FnExactParseInstance: for every argument the translated law returns true, and each argument reads afterwards as it read before. Conditions: none beyond the given row's own.
-/
import Derived.Test.YteogknfhafdbmaaGreatDoorPlan
import Derived.Test.YteogknfhafdbmaaGreatDoorAft
import Derived.Test.YteogknfhafdbmaaGreatDoorInstC
import Derived.Test.YteogknfhafdbmaaGreatDoorParInstS
import Derived.Test.YteogknfhafdbmaaGreatDoorParInI
import Derived.Test.YteogknfhafdbmaaGreatDoorLaid
namespace Go.Proofs.YteogknfhafdbmaaGreatDoor
open Go.RowKit Go.ChangeShapes Go.WideShapes Go.ChangeAt Go.ChangeMaps

namespace lawFnExactParseInstance

set_option maxRecDepth 100000 in
set_option maxHeartbeats 1600000 in
theorem walk (s0 : ByteArray) (hs0 : s0.size ≤ maxLen) (w : World) (ht : Tab w) (hv : ErrVars w) (hm : MaxL w) :
    Calls Tryz.prog 4 #[.string s0] w fun e w' => e = .returned (.bool true) ∧ Below w.heap.size w w' := by
  unfold maxLen at hs0
  by_cases hlong0 : 1048576 < s0.size
  · skip
    go_enter Tryz.func4, Tryz.ntmps4
    go_wp2
    go_ret
    exact ⟨rfl, Below.refl _ _⟩
  have hl0 : s0.size ≤ 1048576 := by omega
  go_enter Tryz.func4, Tryz.ntmps4
  go_wp2_with fail
  refine (specParseInstance_c s0 _ hl0).mono ?_
  rintro e w1 ⟨r1_0, rfl, p1_0, hb1⟩
  have z1 : w.heap.size ≤ w1.heap.size := hb1.size
  obtain ⟨y2_0, y2_1, y2_2, y2_3, rfl⟩ := Instance_form p1_0
  have hb2 : Below w1.heap.size w1 (w1.alloc (.cells #[.slice y2_0 (ParseInstance_r0 s0).rels.length y2_1, .slice y2_2 (ParseInstance_r0 s0).facts.length y2_3] 38)) := below_more (Below.refl _ _) _
  have z2 : w1.heap.size + 1 ≤ (w1.alloc (.cells #[.slice y2_0 (ParseInstance_r0 s0).rels.length y2_1, .slice y2_2 (ParseInstance_r0 s0).facts.length y2_3] 38)).heap.size := by simp
  have K3 := Lib.hid (show (w1.alloc (.cells #[.slice y2_0 (ParseInstance_r0 s0).rels.length y2_1, .slice y2_2 (ParseInstance_r0 s0).facts.length y2_3] 38)).cell? ⟨w1.heap.size, 0, none⟩ = some (.slice y2_0 (ParseInstance_r0 s0).rels.length y2_1) by simp [go_sem])
  have K4 := Lib.hid (show (w1.alloc (.cells #[.slice y2_0 (ParseInstance_r0 s0).rels.length y2_1, .slice y2_2 (ParseInstance_r0 s0).facts.length y2_3] 38)).cell? ⟨w1.heap.size, 1, none⟩ = some (.slice y2_2 (ParseInstance_r0 s0).facts.length y2_3) by simp [go_sem])
  have c0_2 : Below w.heap.size w (w1.alloc (.cells #[.slice y2_0 (ParseInstance_r0 s0).rels.length y2_1, .slice y2_2 (ParseInstance_r0 s0).facts.length y2_3] 38)) := (hb1.trans (hb2.mono (by omega)))
  go_wp2_with fail
  refine (implParseInstance_c s0 _ hl0 (ht.below c0_2) (hv.below c0_2) (hm.below c0_2)).mono ?_
  rintro e w3 ⟨r5_0, rfl, p5_0, q5_0, hb3⟩
  have z3 : (w1.alloc (.cells #[.slice y2_0 (ParseInstance_r0 s0).rels.length y2_1, .slice y2_2 (ParseInstance_r0 s0).facts.length y2_3] 38)).heap.size ≤ w3.heap.size := hb3.size
  have NC5_0 := Instance_cnt_le (ParseInstance_r0 s0)
  obtain ⟨y6_0, y6_1, y6_2, y6_3, rfl⟩ := Instance_form (p5_0.at_ (Nat.le_refl _))
  have hb4 : Below w3.heap.size w3 (w3.alloc (.cells #[.slice y6_0 (ParseInstance_r0 s0).rels.length y6_1, .slice y6_2 (ParseInstance_r0 s0).facts.length y6_3] 38)) := below_more (Below.refl _ _) _
  have z4 : w3.heap.size + 1 ≤ (w3.alloc (.cells #[.slice y6_0 (ParseInstance_r0 s0).rels.length y6_1, .slice y6_2 (ParseInstance_r0 s0).facts.length y6_3] 38)).heap.size := by simp
  have K7 := Lib.hid (show (w3.alloc (.cells #[.slice y6_0 (ParseInstance_r0 s0).rels.length y6_1, .slice y6_2 (ParseInstance_r0 s0).facts.length y6_3] 38)).cell? ⟨w3.heap.size, 0, none⟩ = some (.slice y6_0 (ParseInstance_r0 s0).rels.length y6_1) by simp [go_sem])
  have K8 := Lib.hid (show (w3.alloc (.cells #[.slice y6_0 (ParseInstance_r0 s0).rels.length y6_1, .slice y6_2 (ParseInstance_r0 s0).facts.length y6_3] 38)).cell? ⟨w3.heap.size, 1, none⟩ = some (.slice y6_2 (ParseInstance_r0 s0).facts.length y6_3) by simp [go_sem])
  have f9 : (w3.alloc (.cells #[.slice y6_0 (ParseInstance_r0 s0).rels.length y6_1, .slice y6_2 (ParseInstance_r0 s0).facts.length y6_3] 38)).cell? ⟨w3.heap.size, 0, none⟩ = some (.slice y6_0 (ParseInstance_r0 s0).rels.length y6_1) := K7.out
  have f10 : (w3.alloc (.cells #[.slice y6_0 (ParseInstance_r0 s0).rels.length y6_1, .slice y6_2 (ParseInstance_r0 s0).facts.length y6_3] 38)).cell? ⟨w3.heap.size, 1, none⟩ = some (.slice y6_2 (ParseInstance_r0 s0).facts.length y6_3) := K8.out
  have c2_4 : Below (w1.alloc (.cells #[.slice y2_0 (ParseInstance_r0 s0).rels.length y2_1, .slice y2_2 (ParseInstance_r0 s0).facts.length y2_3] 38)).heap.size (w1.alloc (.cells #[.slice y2_0 (ParseInstance_r0 s0).rels.length y2_1, .slice y2_2 (ParseInstance_r0 s0).facts.length y2_3] 38)) (w3.alloc (.cells #[.slice y6_0 (ParseInstance_r0 s0).rels.length y6_1, .slice y6_2 (ParseInstance_r0 s0).facts.length y6_3] 38)) := (hb3.trans (hb4.mono (by omega)))
  have f11 : (w3.alloc (.cells #[.slice y6_0 (ParseInstance_r0 s0).rels.length y6_1, .slice y6_2 (ParseInstance_r0 s0).facts.length y6_3] 38)).cell? ⟨w1.heap.size, 0, none⟩ = some (.slice y2_0 (ParseInstance_r0 s0).rels.length y2_1) := ((c2_4).cell (p := ⟨w1.heap.size, 0, none⟩) (by show w1.heap.size < _; omega)).trans K3.out
  have f12 : (w3.alloc (.cells #[.slice y6_0 (ParseInstance_r0 s0).rels.length y6_1, .slice y6_2 (ParseInstance_r0 s0).facts.length y6_3] 38)).cell? ⟨w1.heap.size, 1, none⟩ = some (.slice y2_2 (ParseInstance_r0 s0).facts.length y2_3) := ((c2_4).cell (p := ⟨w1.heap.size, 1, none⟩) (by show w1.heap.size < _; omega)).trans K4.out
  have c3_4 : Below w3.heap.size w3 (w3.alloc (.cells #[.slice y6_0 (ParseInstance_r0 s0).rels.length y6_1, .slice y6_2 (ParseInstance_r0 s0).facts.length y6_3] 38)) := hb4
  have c1_4 : Below w1.heap.size w1 (w3.alloc (.cells #[.slice y6_0 (ParseInstance_r0 s0).rels.length y6_1, .slice y6_2 (ParseInstance_r0 s0).facts.length y6_3] 38)) := ((hb2.trans (hb3.mono (by omega))).trans (hb4.mono (by omega)))
  go_wp2_with fail
  refine (eqInstance_c _ _ (ParseInstance_r0 s0) _ ((p5_0.below c3_4 (Nat.le_refl _)).at_ (by omega)) ((p1_0.below c1_4 (Nat.le_refl _)).more c1_4.size)).mono ?_
  rintro e w5 ⟨rfl, hb5⟩
  have z5 : (w3.alloc (.cells #[.slice y6_0 (ParseInstance_r0 s0).rels.length y6_1, .slice y6_2 (ParseInstance_r0 s0).facts.length y6_3] 38)).heap.size ≤ w5.heap.size := hb5.size
  clear f9 f10 f11 f12
  have c4_5 : Below (w3.alloc (.cells #[.slice y6_0 (ParseInstance_r0 s0).rels.length y6_1, .slice y6_2 (ParseInstance_r0 s0).facts.length y6_3] 38)).heap.size (w3.alloc (.cells #[.slice y6_0 (ParseInstance_r0 s0).rels.length y6_1, .slice y6_2 (ParseInstance_r0 s0).facts.length y6_3] 38)) w5 := hb5
  have f13 : w5.cell? ⟨w3.heap.size, 0, none⟩ = some (.slice y6_0 (ParseInstance_r0 s0).rels.length y6_1) := ((c4_5).cell (p := ⟨w3.heap.size, 0, none⟩) (by show w3.heap.size < _; omega)).trans K7.out
  have f14 : w5.cell? ⟨w3.heap.size, 1, none⟩ = some (.slice y6_2 (ParseInstance_r0 s0).facts.length y6_3) := ((c4_5).cell (p := ⟨w3.heap.size, 1, none⟩) (by show w3.heap.size < _; omega)).trans K8.out
  have c3_5 : Below w3.heap.size w3 w5 := (c3_4.trans (hb5.mono (by omega)))
  go_wp2_with fail
  refine (markInstance_c _ _ _ (ParseInstance_r0 s0) (1) _ (p5_0.below c3_5 (Nat.le_refl _)) q5_0 (by omega) (by omega)).mono ?_
  rintro e w6 ⟨rfl, om6, hb6⟩
  have z6 : w5.heap.size ≤ w6.heap.size := hb6.size
  clear f13 f14
  have K15 := Lib.hid ((hb6.mid_cell (b := w3.heap.size) (o := 0) (by omega) (by omega)).trans (((c4_5).cell (p := ⟨w3.heap.size, 0, none⟩) (by show w3.heap.size < _; omega)).trans K7.out))
  have K16 := Lib.hid ((hb6.mid_cell (b := w3.heap.size) (o := 1) (by omega) (by omega)).trans (((c4_5).cell (p := ⟨w3.heap.size, 1, none⟩) (by show w3.heap.size < _; omega)).trans K8.out))
  have f17 : w6.cell? ⟨w3.heap.size, 0, none⟩ = some (.slice y6_0 (ParseInstance_r0 s0).rels.length y6_1) := K15.out
  have f18 : w6.cell? ⟨w3.heap.size, 1, none⟩ = some (.slice y6_2 (ParseInstance_r0 s0).facts.length y6_3) := K16.out
  go_wp2_with fail
  refine (heldInstance_c _ (ParseInstance_r0 s0) (1) _ ((om6.below (Below.refl w6.heap.size w6) (by omega)).at_ (by omega)) q5_0 (by omega) (by omega)).mono ?_
  rintro e w7 ⟨rfl, hb7⟩
  have z7 : w6.heap.size ≤ w7.heap.size := hb7.size
  clear f17 f18
  have c0_7 : Below w.heap.size w w7 := (((((c0_2.trans (hb3.mono (by omega))).trans (hb4.mono (by omega))).trans (hb5.mono (by omega))).trans (hb6.mid_below (by omega) (by omega))).trans (hb7.mono (by omega)))
  go_wp2_with fail
  refine (implParseInstance_c s0 _ hl0 (ht.below c0_7) (hv.below c0_7) (hm.below c0_7)).mono ?_
  rintro e w8 ⟨r19_0, rfl, p19_0, q19_0, hb8⟩
  have z8 : w7.heap.size ≤ w8.heap.size := hb8.size
  have NC19_0 := Instance_cnt_le (ParseInstance_r0 s0)
  obtain ⟨y20_0, y20_1, y20_2, y20_3, rfl⟩ := Instance_form (p19_0.at_ (Nat.le_refl _))
  have hb9 : Below w8.heap.size w8 (w8.alloc (.cells #[.slice y20_0 (ParseInstance_r0 s0).rels.length y20_1, .slice y20_2 (ParseInstance_r0 s0).facts.length y20_3] 38)) := below_more (Below.refl _ _) _
  have z9 : w8.heap.size + 1 ≤ (w8.alloc (.cells #[.slice y20_0 (ParseInstance_r0 s0).rels.length y20_1, .slice y20_2 (ParseInstance_r0 s0).facts.length y20_3] 38)).heap.size := by simp
  have K21 := Lib.hid (show (w8.alloc (.cells #[.slice y20_0 (ParseInstance_r0 s0).rels.length y20_1, .slice y20_2 (ParseInstance_r0 s0).facts.length y20_3] 38)).cell? ⟨w8.heap.size, 0, none⟩ = some (.slice y20_0 (ParseInstance_r0 s0).rels.length y20_1) by simp [go_sem])
  have K22 := Lib.hid (show (w8.alloc (.cells #[.slice y20_0 (ParseInstance_r0 s0).rels.length y20_1, .slice y20_2 (ParseInstance_r0 s0).facts.length y20_3] 38)).cell? ⟨w8.heap.size, 1, none⟩ = some (.slice y20_2 (ParseInstance_r0 s0).facts.length y20_3) by simp [go_sem])
  have f23 : (w8.alloc (.cells #[.slice y20_0 (ParseInstance_r0 s0).rels.length y20_1, .slice y20_2 (ParseInstance_r0 s0).facts.length y20_3] 38)).cell? ⟨w8.heap.size, 0, none⟩ = some (.slice y20_0 (ParseInstance_r0 s0).rels.length y20_1) := K21.out
  have f24 : (w8.alloc (.cells #[.slice y20_0 (ParseInstance_r0 s0).rels.length y20_1, .slice y20_2 (ParseInstance_r0 s0).facts.length y20_3] 38)).cell? ⟨w8.heap.size, 1, none⟩ = some (.slice y20_2 (ParseInstance_r0 s0).facts.length y20_3) := K22.out
  have c2_9 : Below (w1.alloc (.cells #[.slice y2_0 (ParseInstance_r0 s0).rels.length y2_1, .slice y2_2 (ParseInstance_r0 s0).facts.length y2_3] 38)).heap.size (w1.alloc (.cells #[.slice y2_0 (ParseInstance_r0 s0).rels.length y2_1, .slice y2_2 (ParseInstance_r0 s0).facts.length y2_3] 38)) (w8.alloc (.cells #[.slice y20_0 (ParseInstance_r0 s0).rels.length y20_1, .slice y20_2 (ParseInstance_r0 s0).facts.length y20_3] 38)) := (((((c2_4.trans (hb5.mono (by omega))).trans (hb6.mid_below (by omega) (by omega))).trans (hb7.mono (by omega))).trans (hb8.mono (by omega))).trans (hb9.mono (by omega)))
  have f25 : (w8.alloc (.cells #[.slice y20_0 (ParseInstance_r0 s0).rels.length y20_1, .slice y20_2 (ParseInstance_r0 s0).facts.length y20_3] 38)).cell? ⟨w1.heap.size, 0, none⟩ = some (.slice y2_0 (ParseInstance_r0 s0).rels.length y2_1) := ((c2_9).cell (p := ⟨w1.heap.size, 0, none⟩) (by show w1.heap.size < _; omega)).trans K3.out
  have f26 : (w8.alloc (.cells #[.slice y20_0 (ParseInstance_r0 s0).rels.length y20_1, .slice y20_2 (ParseInstance_r0 s0).facts.length y20_3] 38)).cell? ⟨w1.heap.size, 1, none⟩ = some (.slice y2_2 (ParseInstance_r0 s0).facts.length y2_3) := ((c2_9).cell (p := ⟨w1.heap.size, 1, none⟩) (by show w1.heap.size < _; omega)).trans K4.out
  have c8_9 : Below w8.heap.size w8 (w8.alloc (.cells #[.slice y20_0 (ParseInstance_r0 s0).rels.length y20_1, .slice y20_2 (ParseInstance_r0 s0).facts.length y20_3] 38)) := hb9
  have c1_9 : Below w1.heap.size w1 (w8.alloc (.cells #[.slice y20_0 (ParseInstance_r0 s0).rels.length y20_1, .slice y20_2 (ParseInstance_r0 s0).facts.length y20_3] 38)) := (((((c1_4.trans (hb5.mono (by omega))).trans (hb6.mid_below (by omega) (by omega))).trans (hb7.mono (by omega))).trans (hb8.mono (by omega))).trans (hb9.mono (by omega)))
  go_wp2_with fail
  refine (eqInstance_c _ _ (ParseInstance_r0 s0) _ ((p19_0.below c8_9 (Nat.le_refl _)).at_ (by omega)) ((p1_0.below c1_9 (Nat.le_refl _)).more c1_9.size)).mono ?_
  rintro e w10 ⟨rfl, hb10⟩
  have z10 : (w8.alloc (.cells #[.slice y20_0 (ParseInstance_r0 s0).rels.length y20_1, .slice y20_2 (ParseInstance_r0 s0).facts.length y20_3] 38)).heap.size ≤ w10.heap.size := hb10.size
  clear f23 f24 f25 f26
  have c6_10 : Below w6.heap.size w6 w10 := (((hb7.trans (hb8.mono (by omega))).trans (hb9.mono (by omega))).trans (hb10.mono (by omega)))
  have f27 : w10.cell? ⟨w3.heap.size, 0, none⟩ = some (.slice y6_0 (ParseInstance_r0 s0).rels.length y6_1) := ((c6_10).cell (p := ⟨w3.heap.size, 0, none⟩) (by show w3.heap.size < _; omega)).trans K15.out
  have f28 : w10.cell? ⟨w3.heap.size, 1, none⟩ = some (.slice y6_2 (ParseInstance_r0 s0).facts.length y6_3) := ((c6_10).cell (p := ⟨w3.heap.size, 1, none⟩) (by show w3.heap.size < _; omega)).trans K16.out
  go_wp2_with fail
  refine (heldInstance_c _ (ParseInstance_r0 s0) (1) _ ((om6.below c6_10 (by omega)).at_ (by omega)) q19_0 (by omega) (by omega)).mono ?_
  rintro e w11 ⟨rfl, hb11⟩
  have z11 : w10.heap.size ≤ w11.heap.size := hb11.size
  clear f27 f28
  have c0_11 : Below w.heap.size w w11 := ((((c0_7.trans (hb8.mono (by omega))).trans (hb9.mono (by omega))).trans (hb10.mono (by omega))).trans (hb11.mono (by omega)))
  go_wp2
  go_ret
  exact ⟨rfl, c0_11⟩

theorem ty : ∀ t ∈ Tryz.f4.params.toList, Tryz.prog.readableRec t = true ∧ t < Tryz.prog.types.size := by
  rw [Tryz.params4]; intro t ht
  simp only [List.mem_cons, List.not_mem_nil, or_false] at ht
  subst ht; exact ⟨by kernel_rfl, of_decide_eq_true (by kernel_rfl)⟩
noncomputable def laidWorld (os : Os) : World :=
  setVar (setVar (setVar (setVar (setVar (setVar (setVar (World.holding Tryz.prog os ⟨#[.cells #[sentText Rows.laid_strconv_ErrRange] 133, .cells #[sentText Rows.laid_strconv_ErrSyntax] 133], #[], []⟩) 6 (aggCells Rows.laid_math_bits_deBruijn32tab)) 7 (aggCells Rows.laid_math_bits_deBruijn64tab)) 5 (aggCells Rows.laid_internal_strconv_uint64pow10)) 2 (aggCells Rows.laid_unicode_utf8_acceptRanges)) 4 #[.iface 131 (.pointer (some ⟨low + 0, 0, none⟩))]) 3 #[.iface 131 (.pointer (some ⟨low + 1, 0, none⟩))]) 1 (aggCells Rows.laid_unicode_utf8_first)
theorem laid_met (os : Os) : laidMet Tryz.prog Rows.fnExactParseInstanceRow.laid ((laidWorld os).forCall (fun _ _ => 0) ⟨#[], #[.string ⟨#[]⟩], []⟩).memory :=
  laidMet_of_run' 100 (by kernel_rfl) (by kernel_rfl)
theorem reads (os : Os) {H : Type} (enc : TypeId × Value → H) : ∃ places, DataW.whole enc Tryz.prog ((laidWorld os).forCall (fun _ _ => 0) ⟨#[], #[.string ⟨#[]⟩], []⟩).memory Tryz.f4.params.toList Rows.fnExactParseInstanceSpec.vars false (#[.string ⟨#[]⟩] : Array Value).toList 8 = some ([.lit (.string [])], [], places) :=
  ⟨[], by kernel_rfl⟩
set_option maxRecDepth 100000 in
theorem lifted (os : Os) (started : os.Started) (H : Type) (enc : TypeId × Value → H) (F : Stop.Interp) :
    ReturnsInHanded {} Tryz.checked os 4 .any ((OpenSpec.ofChange Rows.fnExactParseInstanceSpec).preRow enc Tryz.prog Tryz.f4 Rows.fnExactParseInstanceRow.domain false Rows.fnExactParseInstanceRow.laid) (((OpenSpec.ofChange Rows.fnExactParseInstanceSpec).at F).post enc Tryz.prog Tryz.f4 false true false false) := by
  obtain ⟨places, hx⟩ := reads os enc
  refine returnsInHanded_of_row (C := Tryz.checked) (s := OpenSpec.ofChange Rows.fnExactParseInstanceSpec) ownFact started (by kernel_rfl) Tryz.func4
    (witness_row_at (enc := enc) (C := Tryz.checked) false (laidWorld os) #[.string ⟨#[]⟩] rfl (by kernel_rfl) (by kernel_rfl) (by kernel_rfl)
      (OpenSpec.preRow_of_cond 8 hx (by kernel_rfl) (fun k hk => by cases hk) (by kernel_rfl) (laid_met os))) ?_
  intro W base args ds gs before hval0 hW _ _ _ hL hSh _
  have hval : ∀ (j : Nat) t v, Tryz.f4.params[j]? = some t → args[j]? = some v → Value.okWide Tryz.prog W .any base t v := hval0
  have hW' := hW
  obtain ⟨p, q, hA0, hV, _, hfz, hnd⟩ := hW
  have hA : DataW.TrodAll enc Tryz.prog W 0 (fun _ => true) true Tryz.f4.params.toList args.toList ds p := hA0
  rw [Tryz.params4] at hA hval
  obtain ⟨v0, vs0, d0, ds0, p0, q0, hargs, rfl, _, h0, r0⟩ := trodAll_cons hA
  obtain ⟨rfl, rfl, _⟩ := trodAll_nil r0
  obtain rfl : args = #[v0] := by cases args; simp_all
  obtain ⟨rfl, _⟩ := trodVars_none hV
  obtain ⟨a0, rfl, _, _, wa0⟩ := open_string Tryz.underlying9 (hval 0 9 v0 rfl rfl) h0
  have hL1 : laidMet Tryz.prog Rows.fnExactParseInstanceRow.laid W := hL
  refine (walk a0 wa0 W (tab_of_laid (laidMet.tail (laidMet.tail hL1))) (errVars_of_laid (laidMet.tail (laidMet.tail (laidMet.tail (laidMet.tail hL1))))) (maxL_of_shape hSh)).mono fun e W' ⟨he, hb⟩ => ?_
  subst he
  exact ⟨_, rfl, law_post laidFact ty Tryz.underlying4 (by kernel_rfl) rfl hW' rfl hb⟩
theorem said : Rows.FnExactParseInstanceSaid :=
  OpenClaim.holds_of_cond 4 Tryz.f4 rfl rfl rfl rfl rfl rfl rfl ⟨rfl, rfl, rfl, rfl, rfl⟩ rfl rfl rfl rfl rfl (by kernel_rfl) Tryz.func4 (by kernel_rfl)
    (of_decide_eq_true (by kernel_rfl)) (by unfold Func.isWrapper; first | (rw [if_pos (by decide +kernel)]; kernel_rfl) | (rw [if_neg (by decide +kernel)]; exact ⟨rfl, rfl⟩))
    (fun os started H enc _ F => by rw [OpenClaim.pre_eq_preRow]; exact lifted os started H enc F)
theorem plain (f : FuncId) (fn : Func) (hf : Tryz.pinned.checked.prog.funcNamed "loop.example/g01919/laws.FnExactParseInstance" = some f) (hfn : Tryz.pinned.checked.prog.funcs[f]? = some fn) :
    true = Tryz.pinned.checked.prog.looks [] ∧ ∀ (j : Nat) t, fn.params[j]? = some t → Tryz.pinned.checked.prog.wantsStandIn t = false := by
  obtain rfl : f = 4 := Option.some.inj ((show Tryz.prog.funcNamed "loop.example/g01919/laws.FnExactParseInstance" = some 4 by kernel_rfl).symm.trans hf) |>.symm
  obtain rfl : fn = Tryz.f4 := (Option.some.inj (Tryz.func4.symm.trans hfn)).symm
  refine ⟨by kernel_rfl, fun j t ht => ?_⟩
  rw [Tryz.params4] at ht
  have ht2 := Array.mem_of_getElem? ht
  simp only [List.mem_toArray, List.mem_cons, List.not_mem_nil, or_false] at ht2
  subst ht2
  exact (show Tryz.prog.wantsStandIn 9 = false by kernel_rfl)
theorem holds : Rows.FnExactParseInstanceCardSaid :=
  Claim7.holds_tied_plain_at .later [] _ _ _ _ said (fun _ h => by cases h) (by kernel_rfl) (fun _ h => by cases h) fnExactParseInstance_row_tie rfl ⟨rfl, rfl⟩ (by kernel_rfl) rfl plain (by kernel_rfl)
end lawFnExactParseInstance

end Go.Proofs.YteogknfhafdbmaaGreatDoor
