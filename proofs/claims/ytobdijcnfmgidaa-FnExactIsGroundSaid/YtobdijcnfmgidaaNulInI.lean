/-
  Walks and plain lemmas for the laws of this seat: what single Go functions return, for every argument.
-/
import Derived.Test.YtobdijcnfmgidaaTyInst
import Derived.Test.YtobdijcnfmgidaaMInst
import Derived.Test.YtobdijcnfmgidaaGroundM
import Derived.Test.YtobdijcnfmgidaaValInI
import Derived.Test.YtobdijcnfmgidaaNullsI
import Derived.Test.YtobdijcnfmgidaaInstN
namespace Go.Proofs.Ytobdijcnfmgidaa
open Go.RowKit

theorem valsLen_mem {l : List Fct} (k : Nat) (h : k < l.length) : l[k].vals.length ≤ valsLen l := by
  have h1 := valsLen_take l k h
  have h2 := valsLen_le l (k + 1)
  omega
set_option maxHeartbeats 3200000 in
set_option maxRecDepth 100000 in
theorem implNullsOfInstance_any (v : Value) (x : Inst) (w : World) (h : Instance_at w w.heap.size v x) (hw : Instance_wf x) (hn : Instance_sz x ≤ 1048576) :
    Calls Try.prog 9 #[v] w fun e w' => ∃ u, e = .returned u ∧ OwnInts w.heap.size u (nullsI x.facts) w' ∧ Below w.heap.size w w' := by
  obtain ⟨P, c, Q, d, rfl⟩ := Instance_form h
  obtain ⟨V1, V2, hv, hR, hF⟩ := h
  simp only [Value.agg.injEq, Array.mk.injEq, List.cons.injEq, and_true] at hv
  obtain ⟨rfl, rfl⟩ := hv
  obtain ⟨_, _, hv2, hd1, hd2⟩ := hF.form
  injection hv2 with e1 _ e2
  subst e1 e2
  unfold maxLen at hd2
  have HF := Lib.hid hF
  clear hR hF
  have HSZ := Lib.hid (show valsLen x.facts ≤ 1048576 by unfold Instance_sz FactS_sz at hn; omega)
  have HCS := Lib.hid (compact_all x.facts)
  clear hn
  obtain ⟨E, hEq⟩ : ∃ E, E = (w.alloc (.cells #[.slice P x.rels.length c, .slice Q x.facts.length d] 27)) := ⟨_, rfl⟩
  have hE : Below w.heap.size w E := by rw [hEq]; exact below_more (Below.refl _ _) _
  have HE := Lib.hid (show w.heap.size + 1 = E.heap.size by rw [hEq]; simp)
  go_enter Try.func9, Try.ntmps9
  go_wp2
  rw [← hEq]
  clear hEq
  go_loopw [3, 9] (fun o i wr => ∃ k : Nat, k ≤ x.facts.length ∧ i = .int .i64 k ∧ OwnInts E.heap.size o (numsAll (x.facts.take k)) wr ∧ Below E.heap.size E wr) (fun _ i _ => x.facts.length - (intOf i).toNat)
  case atStart => exact ⟨0, by omega, rfl, by simpa [numsAll] using OwnInts.nil E E.heap.size, Below.refl _ _⟩
  case round =>
    obtain ⟨k, hk, rfl, hO, hW⟩ := hrel
    have hz := hW.size
    have hWw : Below w.heap.size w wr := hE.trans (hW.mono hE.size)
    have hl : (numsAll (x.facts.take k)).length ≤ 1048576 := by have h1 := numsAll_len (x.facts.take k); have h2 := valsLen_le x.facts k; have h3 := HSZ.out; omega
    by_cases hlt : k < x.facts.length
    · obtain ⟨b, off, V, rfl, hb, c0, c1, hV⟩ := FactS_at.elem HF.out k hlt
      obtain ⟨PV, cV, rfl, -⟩ := id hV
      replace c0 := (hWw.cell (p := ⟨b, off + k * 2, none⟩) hb).trans c0
      replace c1 := (hWw.cell (p := ⟨b, off + k * 2 + 1, none⟩) hb).trans c1
      have hsz := valsLen_mem k hlt
      have hcon := fun (W : World) (hb : Below wr.heap.size wr W) => implNullsOfFact_any x.facts[k].rel (.slice PV x.facts[k].vals.length cV) x.facts[k].vals W ((hV.later hWw).later hb) (hw.2 k hlt).2 (by have := HSZ.out; omega)
      have HN := Lib.hid (numsAll_take x.facts k hlt)
      have hnl := nullsOf_le x.facts[k].vals
      have hnl2 : (nullsOf x.facts[k].vals).length ≤ 1048576 := by have := HSZ.out; omega
      have HO := Lib.hid hO
      clear hV hO hsz hnl
      go_wp2_with fail
      refine (hcon _ (below_more (Below.refl _ _) _)).mono ?_
      rintro e w1 ⟨u, rfl, hU, hb1⟩
      have hz0 : wr.heap.size + 1 ≤ w1.heap.size := by have := hb1.size; simpa using this
      have hb3 : Below wr.heap.size wr w1 := (below_more (Below.refl _ _) _).trans (hb1.mono (by simp))
      obtain ⟨Pn, cn, rfl, -, hcn, -, hAn⟩ := id hU.at_
      have HAn := Lib.hid hAn
      have HU := Lib.hid hU
      have HO1 := Lib.hid (HO.out.below hb3 (Nat.le_refl _))
      have hzE : E.heap.size ≤ w1.heap.size := by omega
      clear hU hcon c0 c1 hb1 hAn hcn
      generalize nullsOf x.facts[k].vals = L at *
      generalize numsAll (x.facts.take k) = S at *
      go_wp2_with (at_builtin; refine ints_apps (r := L) HO1.out rfl _ _ rfl rfl Pn L.length cn rfl rfl HU.out.at_ HAn.out (by omega) hzE ?_; intro v5 w5 hO5 hB5 _ _)
      go_roundw
      case rel => exact ⟨k + 1, by omega, by go_num, by rw [HN.out]; exact hO5, (hW.trans (hb3.mono hz)).trans hB5⟩
      case measure => simp [intOf]; omega
    · obtain rfl : k = x.facts.length := by omega
      rw [List.take_of_length_le (Nat.le_refl _)] at hO hl
      have hs := sortInts_any _ _ _ wr hO hz hl
      clear hO
      go_wp2_with fail
      refine hs.mono ?_
      rintro e w2 ⟨rfl, hO2, hb2⟩
      have hc := compactInts_any _ _ _ w2 hO2 (by rw [List.length_mergeSort]; exact hl)
      rw [HCS.out] at hc
      clear hO2 hs
      go_wp2_with fail
      refine hc.mono ?_
      rintro e w3 ⟨u, rfl, hO3, hb3⟩
      go_wp2
      go_ret
      exact ⟨_, rfl, hO3.mono (by have := HE.out; omega), hE.trans (((hW.trans hb2).trans hb3).mono hE.size)⟩
theorem implNullsOfInstance_c (v : Value) (x : Inst) (w : World) (h : Instance_at w w.heap.size v x) (hw : Instance_wf x) (hn : Instance_sz x ≤ 1048576) :
    Calls Try.prog 9 #[v] w fun e w' => ∃ u, e = .returned u ∧ IntS_own w.heap.size w'.heap.size u (NullsOfInstance_r0 x) w' ∧ IntS_sz (NullsOfInstance_r0 x) ≤ 1048576 ∧ Below w.heap.size w w' := by
  have hl := (asc_nullsI x.facts).len
  refine (implNullsOfInstance_any v x w h hw hn).mono fun _ w' ⟨u, he, ho, hb⟩ => ⟨u, he, IntsO.of ho, by unfold IntS_sz NullsOfInstance_r0; omega, hb⟩

set_option maxHeartbeats 3200000 in
set_option maxRecDepth 100000 in
theorem implGround_any (v : Value) (x : Inst) (w : World) (h : Instance_at w w.heap.size v x) (hw : Instance_wf x) (hn : Instance_sz x ≤ 1048576) :
    Calls Try.prog 12 #[v] w fun e w' => e = .returned (.bool (groundM x)) ∧ Below w.heap.size w w' := by
  have HX := Lib.hid h
  obtain ⟨P, c, Q, d1, rfl⟩ := Instance_form h
  clear h
  obtain ⟨E, hEq⟩ : ∃ E, E = w.alloc (.cells #[.slice P x.rels.length c, .slice Q x.facts.length d1] 27) := ⟨_, rfl⟩
  have hE : Below w.heap.size w E := by rw [hEq]; exact below_more (Below.refl _ _) _
  have hzE : w.heap.size < E.heap.size := by rw [hEq]; simp
  have X0 := Lib.hid (show E.cell? ⟨w.heap.size, 0, none⟩ = some (.slice P x.rels.length c) by rw [hEq]; simp [go_sem])
  have X1 := Lib.hid (show E.cell? ⟨w.heap.size, 1, none⟩ = some (.slice Q x.facts.length d1) by rw [hEq]; simp [go_sem])
  have HE := Lib.hid hE
  have hvi := implIsValidInstance_at x _ rfl (.agg #[.slice P x.rels.length c, .slice Q x.facts.length d1]) E ((HX.out.below hE (Nat.le_refl _)).more hE.size) hw
  rw [hEq] at hvi
  clear hE
  cases k1 : instOk x with
  | false =>
    have HG := Lib.hid (groundM_off k1)
    rw [k1] at hvi
    clear k1
    go_enter Try.func12, Try.ntmps12
    go_wp2_with fail
    refine hvi.mono ?_
    rintro e w1 ⟨rfl, hb1⟩
    rw [← hEq] at hb1
    have HZ := Lib.hid (HE.out.trans (hb1.mono HE.out.size))
    go_wp2
    go_ret
    exact ⟨ret_bool HG.out.symm, HZ.out⟩
  | true =>
    have HG := Lib.hid (groundM_on k1)
    rw [k1] at hvi
    clear k1
    go_enter Try.func12, Try.ntmps12
    go_wp2_with fail
    refine hvi.mono ?_
    rintro e w1 ⟨rfl, hb1⟩
    rw [← hEq] at hb1
    have hw1 := HE.out.trans (hb1.mono HE.out.size)
    have x0 := (hb1.cell (p := ⟨w.heap.size, 0, none⟩) hzE).trans X0.out
    have x1 := (hb1.cell (p := ⟨w.heap.size, 1, none⟩) hzE).trans X1.out
    have hnl := implNullsOfInstance_any (.agg #[.slice P x.rels.length c, .slice Q x.facts.length d1]) x w1 ((HX.out.below hw1 (Nat.le_refl _)).more hw1.size) hw hn
    have HW1 := Lib.hid hw1
    clear hvi hEq hb1 hw1
    go_wp2_with fail
    refine hnl.mono ?_
    rintro e w2 ⟨u, rfl, hO, hb2⟩
    obtain ⟨P2, c2, rfl, -, -, -⟩ := id hO.at_
    have HZ := Lib.hid (HW1.out.trans (hb2.mono HW1.out.size))
    clear hO hb2 hnl x0 x1
    generalize (nullsI x.facts).length = N at *
    go_wp2
    go_ret
    exact ⟨ret_bool (by rw [HG.out]; first | rfl | (by_cases h0 : N = 0 <;> simp [h0])), HZ.out⟩
theorem implIsGround_c (v : Value) (x : Inst) (w : World) (h : Instance_at w w.heap.size v x) (hw : Instance_wf x) (hn : Instance_sz x ≤ 1048576) :
    Calls Try.prog 12 #[v] w fun e w' => e = .returned (.bool (groundM x)) ∧ Below w.heap.size w w' := implGround_any v x w h hw hn

end Go.Proofs.Ytobdijcnfmgidaa
