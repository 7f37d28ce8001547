/-
  Walks and plain lemmas for the laws of this seat: what single Go functions return, for every argument.
-/
import Derived.Test.YtobdijcnfmgidaaAft
import Derived.Test.YtobdijcnfmgidaaTyInst
import Derived.Test.YtobdijcnfmgidaaMInst
import Derived.Test.YtobdijcnfmgidaaGroundM
import Derived.Test.YtobdijcnfmgidaaInstP
import Derived.Test.YtobdijcnfmgidaaInstN
import Derived.Test.YtobdijcnfmgidaaInstV
namespace Go.Proofs.Ytobdijcnfmgidaa
open Go.RowKit

set_option maxHeartbeats 3200000 in
set_option maxRecDepth 100000 in
theorem specGround_any (v : Value) (x : Inst) (w : World) (h : Instance_at w w.heap.size v x) (hw : Instance_wf x) (hn : Instance_sz x ≤ 1048576) :
    Calls Try.prog 13 #[v] w fun e w' => e = .returned (.bool (groundM x)) ∧ Below w.heap.size w w' := by
  have HX := Lib.hid h
  obtain ⟨P, c, Q, d1, rfl⟩ := Instance_form h
  clear h
  obtain ⟨E, hEq⟩ : ∃ E, E = w.alloc (.cells #[.slice P x.rels.length c, .slice Q x.facts.length d1] 27) := ⟨_, rfl⟩
  have hE : Below w.heap.size w E := by rw [hEq]; exact below_more (Below.refl _ _) _
  have hzE : w.heap.size < E.heap.size := by rw [hEq]; simp
  have X0 := Lib.hid (show E.cell? ⟨w.heap.size, 0, none⟩ = some (.slice P x.rels.length c) by rw [hEq]; simp [go_sem])
  have X1 := Lib.hid (show E.cell? ⟨w.heap.size, 1, none⟩ = some (.slice Q x.facts.length d1) by rw [hEq]; simp [go_sem])
  have HE := Lib.hid hE
  have hvi := specIsValidInstance_any (.agg #[.slice P x.rels.length c, .slice Q x.facts.length d1]) x E ((HX.out.below hE (Nat.le_refl _)).more hE.size) hw hn
  rw [hEq] at hvi
  clear hE
  cases k1 : instOk x with
  | false =>
    have HG := Lib.hid (groundM_off k1)
    rw [k1] at hvi
    clear k1
    go_enter Try.func13, Try.ntmps13
    go_wp2_with fail
    refine hvi.mono ?_
    rintro e w1 ⟨rfl, hb1⟩
    rw [← hEq] at hb1
    have HZ := Lib.hid (HE.out.trans (hb1.mono HE.out.size))
    go_wp2
    go_ret
    exact ⟨ret_bool HG.out.symm, HZ.out⟩
  | true =>
    have HG := Lib.hid (groundM_on k1)
    rw [k1] at hvi
    clear k1
    go_enter Try.func13, Try.ntmps13
    go_wp2_with fail
    refine hvi.mono ?_
    rintro e w1 ⟨rfl, hb1⟩
    rw [← hEq] at hb1
    have hw1 := HE.out.trans (hb1.mono HE.out.size)
    have x0 := (hb1.cell (p := ⟨w.heap.size, 0, none⟩) hzE).trans X0.out
    have x1 := (hb1.cell (p := ⟨w.heap.size, 1, none⟩) hzE).trans X1.out
    have hnl := specNullsOfInstance_any (.agg #[.slice P x.rels.length c, .slice Q x.facts.length d1]) x w1 ((HX.out.below hw1 (Nat.le_refl _)).more hw1.size) hw
    have HW1 := Lib.hid hw1
    clear hvi hEq hb1 hw1
    go_wp2_with fail
    refine hnl.mono ?_
    rintro e w2 ⟨u, rfl, hO, hb2⟩
    obtain ⟨P2, c2, rfl, -, -, -⟩ := id hO.at_
    have HZ := Lib.hid (HW1.out.trans (hb2.mono HW1.out.size))
    clear hO hb2 hnl x0 x1
    generalize (nullsI x.facts).length = N at *
    go_wp2
    go_ret
    exact ⟨ret_bool (by rw [HG.out]; first | rfl | (by_cases h0 : N = 0 <;> simp [h0])), HZ.out⟩
theorem specIsGround_c (v : Value) (x : Inst) (w : World) (h : Instance_at w w.heap.size v x) (hw : Instance_wf x) (hn : Instance_sz x ≤ 1048576) :
    Calls Try.prog 13 #[v] w fun e w' => e = .returned (.bool (groundM x)) ∧ Below w.heap.size w w' := specGround_any v x w h hw hn

set_option maxHeartbeats 1600000 in
set_option maxRecDepth 100000 in
theorem specIsSubset_any (v u : Value) (x y : Inst) (w : World) (h : Instance_at w w.heap.size v x) (h' : Instance_at w w.heap.size u y) :
    Calls Try.prog 17 #[v, u] w fun e w' => e = .returned (.bool (subInst x y)) ∧ Below w.heap.size w w' := by
  obtain ⟨P, c, Q, d, rfl⟩ := Instance_form h
  obtain ⟨P', c', Q', d', rfl⟩ := Instance_form h'
  have HY := Lib.hid h'
  obtain ⟨V1, V2, hv, hR, hF⟩ := h
  simp only [Value.agg.injEq, Array.mk.injEq, List.cons.injEq, and_true] at hv
  obtain ⟨rfl, rfl⟩ := hv
  obtain ⟨_, _, hv2, hd1, hd2⟩ := hF.form
  injection hv2 with e1 _ e2
  subst e1 e2
  unfold maxLen at hd2
  have HF := Lib.hid hF
  clear hR hF h'
  have hE : Below w.heap.size w ((w.alloc (.cells #[.slice P x.rels.length c, .slice Q x.facts.length d] 27)).alloc (.cells #[.slice P' y.rels.length c', .slice Q' y.facts.length d'] 27)) := below_more (below_more (Below.refl _ _) _) _
  have HE := Lib.hid (show w.heap.size + 2 = ((w.alloc (.cells #[.slice P x.rels.length c, .slice Q x.facts.length d] 27)).alloc (.cells #[.slice P' y.rels.length c', .slice Q' y.facts.length d'] 27)).heap.size by simp)
  have K1 := Lib.hid (show ((w.alloc (.cells #[.slice P x.rels.length c, .slice Q x.facts.length d] 27)).alloc (.cells #[.slice P' y.rels.length c', .slice Q' y.facts.length d'] 27)).cell? ⟨w.heap.size, 1, none⟩ = some (.slice Q x.facts.length d) by simp [go_sem])
  have L0 := Lib.hid (show ((w.alloc (.cells #[.slice P x.rels.length c, .slice Q x.facts.length d] 27)).alloc (.cells #[.slice P' y.rels.length c', .slice Q' y.facts.length d'] 27)).cell? ⟨w.heap.size + 1, 0, none⟩ = some (.slice P' y.rels.length c') by simp [go_sem])
  have L1 := Lib.hid (show ((w.alloc (.cells #[.slice P x.rels.length c, .slice Q x.facts.length d] 27)).alloc (.cells #[.slice P' y.rels.length c', .slice Q' y.facts.length d'] 27)).cell? ⟨w.heap.size + 1, 1, none⟩ = some (.slice Q' y.facts.length d') by simp [go_sem])
  go_enter Try.func17, Try.ntmps17
  go_wp2
  go_loopw [5] (fun i wr => ∃ k : Nat, k ≤ x.facts.length ∧ i = .int .i64 k ∧ Hid (SubTo x.facts y.facts k) ∧ Below ((w.alloc (.cells #[.slice P x.rels.length c, .slice Q x.facts.length d] 27)).alloc (.cells #[.slice P' y.rels.length c', .slice Q' y.facts.length d'] 27)).heap.size ((w.alloc (.cells #[.slice P x.rels.length c, .slice Q x.facts.length d] 27)).alloc (.cells #[.slice P' y.rels.length c', .slice Q' y.facts.length d'] 27)) wr) (fun i _ => x.facts.length - (intOf i).toNat)
  case atStart => exact ⟨0, by omega, rfl, Lib.hid (SubTo.zero _ _), Below.refl _ _⟩
  case round =>
    obtain ⟨k, hk, rfl, HT, hW⟩ := hrel
    have hWw := hE.trans (hW.mono hE.size)
    have hzz : w.heap.size + 1 < wr.heap.size := by have h1 := hW.size; have h2 := HE.out; omega
    have f1 := (hW.cell (p := ⟨w.heap.size, 1, none⟩) (by show w.heap.size < _; have := HE.out; omega)).trans K1.out
    have g0 := (hW.cell (p := ⟨w.heap.size + 1, 0, none⟩) (by show w.heap.size + 1 < _; have := HE.out; omega)).trans L0.out
    have g1 := (hW.cell (p := ⟨w.heap.size + 1, 1, none⟩) (by show w.heap.size + 1 < _; have := HE.out; omega)).trans L1.out
    by_cases hlt : k < x.facts.length
    · obtain ⟨b, off, V, rfl, hb, c0, c1, hV⟩ := FactS_at.elem HF.out k hlt
      have HVa := Lib.hid hV
      have G1 := Aft.cell (B := wr.heap.size) (w := wr) (show w.heap.size < _ by omega) f1
      have G2 := Aft.cell (B := wr.heap.size) (w := wr) (show w.heap.size + 1 < _ by omega) g0
      have G3 := Aft.cell (B := wr.heap.size) (w := wr) (show w.heap.size + 1 < _ by omega) g1
      have C0 := Aft.cell (B := wr.heap.size) (w := wr) (show b < _ by omega) ((hWw.cell (p := ⟨b, off + k * 2, none⟩) hb).trans c0)
      have C1 := Aft.cell (B := wr.heap.size) (w := wr) (show b < _ by omega) ((hWw.cell (p := ⟨b, off + k * 2 + 1, none⟩) hb).trans c1)
      have hcon := fun (u : Aft wr.heap.size wr) => specL5Place_any (.agg #[.slice P' y.rels.length c', .slice Q' y.facts.length d']) (.agg #[.int .i64 x.facts[k].rel, V]) y x.facts[k] u.now (HY.out.later (hWw.trans (u.is.mono hWw.size))) ⟨V, rfl, SliceAt.aft HVa.out hWw u⟩
      clear c0 c1 g0 g1 hV
      by_cases hp : 0 ≤ placeF x.facts[k] y.facts
      · have HN := Lib.hid (HT.out.next hlt hp)
        generalize placeF x.facts[k] y.facts = q at *
        have hd : decide (q < 0) = false := decide_eq_false (by omega)
        clear hp
        go_wp2
        clear f1
        refine wp_region_aft (Below.refl wr.heap.size wr) (by kernel_rfl) (by kernel_rfl) ?_
        repeat (go_big_quiet_step (((go_at_call 50; exact calls_aft (Nat.le_refl _) (hcon _)))))
        refine wpQuiet_nil ?_
        refine aft_end ?_
        intro w1 hh
        go_wp2
        go_roundw
        case rel => exact ⟨k + 1, by omega, by go_num, HN, hW.trans (hh.mono hW.size)⟩
        case measure => simp [intOf]; omega
      · have HV := Lib.hid (subInst_no k hlt hp)
        generalize placeF x.facts[k] y.facts = q at *
        have hd : decide (q < 0) = true := decide_eq_true (by omega)
        clear hp
        go_wp2
        clear f1
        refine wp_region_aft (Below.refl wr.heap.size wr) (by kernel_rfl) (by kernel_rfl) ?_
        repeat (go_big_quiet_step (((go_at_call 50; exact calls_aft (Nat.le_refl _) (hcon _)))))
        refine wpQuiet_nil ?_
        refine aft_end ?_
        intro w1 hh
        go_wp2
        go_ret
        exact ⟨ret_bool HV.out.symm, hWw.trans (hh.mono hWw.size)⟩
    · obtain rfl : k = x.facts.length := by omega
      have HV := Lib.hid (subInst_yes HT.out)
      go_wp2
      go_ret
      exact ⟨ret_bool HV.out.symm, hWw⟩
theorem specIsSubset_c (v : Value) (x : Inst) (u : Value) (y : Inst) (w : World) (h : Instance_at w w.heap.size v x) (_ : Instance_wf x) (_ : Instance_sz x ≤ 1048576) (h' : Instance_at w w.heap.size u y) (_ : Instance_wf y) (_ : Instance_sz y ≤ 1048576) :
    Calls Try.prog 17 #[v, u] w fun e w' => e = .returned (.bool (subInst x y)) ∧ Below w.heap.size w w' := specIsSubset_any v u x y w h h'

end Go.Proofs.Ytobdijcnfmgidaa
