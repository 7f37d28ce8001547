/-
  Walks and plain lemmas for the laws of this seat: what single Go functions return, for every argument.
-/
import Derived.Test.YtchlelkhpahakaaTyInst
import Derived.Test.YtchlelkhpahakaaMInst
import Derived.Test.YtchlelkhpahakaaValInI
import Derived.Test.YtchlelkhpahakaaConI
import Derived.Test.YtchlelkhpahakaaDelF
import Derived.Test.YtchlelkhpahakaaInstD
namespace Go.Proofs.Ytchlelkhpahakaa
open Go.RowKit

set_option maxHeartbeats 800000 in
theorem tells_delFact (b D : Nat) (f : Fct) (P : Option Addr) (c : Nat) (l : List Fct) : TellsF 72 #[.pointer (some ⟨b, 0, none⟩)] (BoxF b D f (.slice P f.vals.length c)) (sameP f) l := by
  intro W x U hG _ hU
  obtain ⟨Q, d, rfl, -⟩ := id hU
  have HU := Lib.hid hU
  obtain ⟨h1, h2, h3, h4, h5⟩ := hG
  have hE : Below W.heap.size W (W.alloc (.cells #[.int .i64 x.rel, .slice Q x.vals.length d] 31)) := below_more (Below.refl _ _) _
  have hc := implSameFacts_at x f (sameP f x) rfl (.agg #[.int .i64 x.rel, .slice Q x.vals.length d]) (.agg #[.int .i64 f.rel, .slice P f.vals.length c]) (W.alloc (.cells #[.int .i64 x.rel, .slice Q x.vals.length d] 31)) ⟨_, rfl, (HU.out.below hE (Nat.le_refl _)).more hE.size⟩ ⟨_, rfl, (h5.below hE h2).more (Nat.le_trans h2 hE.size)⟩
  have m0 := (hE.cell (p := ⟨b, 0, none⟩) (Nat.lt_of_lt_of_le h1 h2)).trans h3
  have m1 := (hE.cell (p := ⟨b, 1, none⟩) (Nat.lt_of_lt_of_le h1 h2)).trans h4
  have hlt : b < W.heap.size := Nat.lt_of_lt_of_le h1 h2
  clear hU h3 h4 h5
  show Calls Try.prog 72 #[.agg #[.int .i64 x.rel, .slice Q x.vals.length d], .pointer (some ⟨b, 0, none⟩)] W _
  go_enter Try.func72, Try.ntmps72
  go_wp2_with (go_at_call 73; refine hc.mono ?_; rintro e w1 ⟨rfl, hb1⟩)
  go_ret
  exact ⟨rfl, hE.trans (hb1.mono hE.size)⟩
def GivesDelF (x : Inst) (f : Fct) (w : World) (e : Ending) (w' : World) : Prop := ∃ u, e = .returned (.tuple #[u, .bool (hasInst x f)]) ∧ Instance_own w.heap.size w'.heap.size u (delInst x f) w' ∧ Below w.heap.size w w'
set_option maxHeartbeats 3200000 in
set_option maxRecDepth 100000 in
theorem implDeleteFact_any (v u : Value) (x : Inst) (f : Fct) (w : World) (h : Instance_at w w.heap.size v x) (hw : Instance_wf x) (hn : Instance_sz x ≤ 1048576) (h' : Fact_at w w.heap.size u f) :
    Calls Try.prog 31 #[v, u] w (GivesDelF x f w) := by
  obtain ⟨P, c, Q, d, rfl⟩ := Instance_form h
  obtain ⟨P', c', rfl⟩ := Fact_form h'
  have HX := Lib.hid h
  have HY := Lib.hid h'
  have HI := Lib.hid (show IntS_at w w.heap.size (.slice P' f.vals.length c') f.vals by
    obtain ⟨V, hv, hI⟩ := h'
    simp only [Value.agg.injEq, Array.mk.injEq, List.cons.injEq, and_true, true_and] at hv
    subst hv; exact hI)
  clear h h'
  have hfl : x.facts.length ≤ 1048576 := by unfold Instance_sz FactS_sz at hn; omega
  obtain ⟨E, hEq⟩ : ∃ E, E = (((w.alloc (.cells #[.slice P x.rels.length c, .slice Q x.facts.length d] 43)).alloc (.cells #[.int .i64 f.rel, .slice P' f.vals.length c'] 31)).alloc (.cells #[.slice none 0 0, .slice none 0 0] 43)) := ⟨_, rfl⟩
  have hE : Below w.heap.size w E := by rw [hEq]; exact below_more (below_more (below_more (Below.refl _ _) _) _) _
  have HE := Lib.hid (show w.heap.size + 3 = E.heap.size by rw [hEq]; simp)
  have K0 := Lib.hid (show E.cell? ⟨w.heap.size, 0, none⟩ = some (.slice P x.rels.length c) by rw [hEq]; simp [go_sem])
  have K1 := Lib.hid (show E.cell? ⟨w.heap.size, 1, none⟩ = some (.slice Q x.facts.length d) by rw [hEq]; simp [go_sem])
  have L0 := Lib.hid (show E.cell? ⟨w.heap.size + 1, 0, none⟩ = some (.int .i64 f.rel) by rw [hEq]; simp [go_sem])
  have L1 := Lib.hid (show E.cell? ⟨w.heap.size + 1, 1, none⟩ = some (.slice P' f.vals.length c') by rw [hEq]; simp [go_sem])
  have R0 := Lib.hid (show E.cell? ⟨w.heap.size + 1 + 1, 0, none⟩ = some (.slice none 0 0) by rw [hEq]; simp [go_sem])
  have R1 := Lib.hid (show E.cell? ⟨w.heap.size + 1 + 1, 1, none⟩ = some (.slice none 0 0) by rw [hEq]; simp [go_sem])
  have RZ := fun o => Lib.hid (show E.frozen? ⟨w.heap.size + 1 + 1, o, none⟩ = false by rw [hEq]; simp [go_sem])
  have hcf := fun (q : Bool) (hq : hasInst x f = q) => implContainsFact_at x f q hq (.agg #[.slice P x.rels.length c, .slice Q x.facts.length d]) (.agg #[.int .i64 f.rel, .slice P' f.vals.length c']) E ((HX.out.below hE (Nat.le_refl _)).more hE.size) hw ((HY.out.below hE (Nat.le_refl _)).more hE.size)
  rw [hEq] at hcf
  cases ho : hasInst x f with
  | false =>
    have HV := Lib.hid (del_no ho)
    have HQ := Lib.hid ho
    replace hcf := hcf false ho
    clear ho
    go_enter Try.func31, Try.ntmps31
    go_wp2_with fail
    refine hcf.mono ?_
    rintro e w1 ⟨rfl, hb1⟩
    rw [← hEq] at hb1
    have hW1 := hE.trans (hb1.mono hE.size)
    have f0 := (hb1.cell (p := ⟨w.heap.size, 0, none⟩) (by show w.heap.size < _; have := HE.out; omega)).trans K0.out
    have f1 := (hb1.cell (p := ⟨w.heap.size, 1, none⟩) (by show w.heap.size < _; have := HE.out; omega)).trans K1.out
    have HB1 := Lib.hid hb1
    have hcp := implCopyInstance_any (.agg #[.slice P x.rels.length c, .slice Q x.facts.length d]) x w1 ((HX.out.below hW1 (Nat.le_refl _)).more hW1.size) hn
    have hz1 : w.heap.size + 3 ≤ w1.heap.size := by have h1 := hb1.size; have h2 := HE.out; omega
    clear hcf hEq hb1 hW1
    go_wp2_with fail
    refine hcp.mono ?_
    rintro e w2 ⟨P2, c2, g, Vs, rfl, hR2, hO2, hb2⟩
    have hEW := HB1.out.trans (hb2.mono HB1.out.size)
    have r0 := (hEW.cell (p := ⟨w.heap.size + 1 + 1, 0, none⟩) (by show w.heap.size + 1 + 1 < _; have := HE.out; omega)).trans R0.out
    have r1 := (hEW.cell (p := ⟨w.heap.size + 1 + 1, 1, none⟩) (by show w.heap.size + 1 + 1 < _; have := HE.out; omega)).trans R1.out
    have rz := fun o => (hEW.frozen (p := ⟨w.heap.size + 1 + 1, o, none⟩) (by show w.heap.size + 1 + 1 < _; have := HE.out; omega)).trans (RZ o).out
    have HR2 := Lib.hid hR2
    have HO2 := Lib.hid hO2
    have HW2 := Lib.hid (hE.trans (hEW.mono hE.size))
    have HST : ∀ u1 u2, Hid (Chg (fun k => k = w.heap.size + 1 + 1) w2 ((w2.setCell ⟨w.heap.size + 1 + 1, 0, none⟩ u1).setCell ⟨w.heap.size + 1 + 1, 1, none⟩ u2)) := fun u1 u2 => Lib.hid (((Chg.refl (fun k => k = w.heap.size + 1 + 1) w2).setCell (p := ⟨w.heap.size + 1 + 1, 0, none⟩) rfl _).setCell (p := ⟨w.heap.size + 1 + 1, 1, none⟩) rfl _)
    clear hcp f0 f1 hR2 hO2 hb2 hEW
    go_wp2
    have hf := (HST (.slice P2 x.rels.length c2) (.slice (some ⟨g, 0, none⟩) x.facts.length x.facts.length)).out
    refine bodyPost_ret (v := .tuple #[.agg #[.slice P2 x.rels.length c2, .slice (some ⟨g, 0, none⟩) x.facts.length x.facts.length], .bool false]) (by simp [results, Try.results31, go_sem, r0, r1]) rfl ⟨_, by rw [HQ.out], ?_, ?_⟩
    · rw [HV.out]
      refine ⟨_, _, rfl, (HR2.out.chgS hf (fun k hk => by omega)).mono (by omega) ?_, ⟨Vs, (HO2.out.chgS hf (fun k hk => by omega)).mono (by omega) ?_⟩⟩
      · exact hf.size
      · exact hf.size
    · exact HW2.out.trans (hf.below (fun k hk => by omega) HW2.out.size)
  | true =>
    have HV := Lib.hid (del_keep ho)
    have HQ := Lib.hid ho
    replace hcf := hcf true ho
    clear ho
    go_enter Try.func31, Try.ntmps31
    go_wp2_with fail
    refine hcf.mono ?_
    rintro e w1 ⟨rfl, hb1⟩
    rw [← hEq] at hb1
    have hW1 := hE.trans (hb1.mono hE.size)
    have f0 := (hb1.cell (p := ⟨w.heap.size, 0, none⟩) (by show w.heap.size < _; have := HE.out; omega)).trans K0.out
    have f1 := (hb1.cell (p := ⟨w.heap.size, 1, none⟩) (by show w.heap.size < _; have := HE.out; omega)).trans K1.out
    have HB1 := Lib.hid hb1
    have hcp := implCopyInstance_any (.agg #[.slice P x.rels.length c, .slice Q x.facts.length d]) x w1 ((HX.out.below hW1 (Nat.le_refl _)).more hW1.size) hn
    have hz1 : w.heap.size + 3 ≤ w1.heap.size := by have h1 := hb1.size; have h2 := HE.out; omega
    have HBX := Lib.hid (show BoxF (w.heap.size + 1) w1.heap.size f (.slice P' f.vals.length c') w1 from ⟨by omega, Nat.le_refl _, (hb1.cell (p := ⟨w.heap.size + 1, 0, none⟩) (by show w.heap.size + 1 < _; have := HE.out; omega)).trans L0.out, (hb1.cell (p := ⟨w.heap.size + 1, 1, none⟩) (by show w.heap.size + 1 < _; have := HE.out; omega)).trans L1.out, HI.out.later hW1⟩)
    clear hcf hEq hb1 hW1
    go_wp2_with fail
    refine hcp.mono ?_
    rintro e w2 ⟨P2, c2, g, Vs, rfl, hR2, hO2, hb2⟩
    have hz2 := hb2.size
    have hg1 : w1.heap.size ≤ g := (World.ownsRow.lt hO2.row g rfl).1
    have hg2 : g < w2.heap.size := hO2.ins g rfl
    obtain ⟨W3, hW3⟩ : ∃ W3, W3 = w2.alloc (.cells #[.slice P2 x.rels.length c2, .slice (some ⟨g, 0, none⟩) x.facts.length x.facts.length] 43) := ⟨_, rfl⟩
    have hb3 : Below w2.heap.size w2 W3 := by rw [hW3]; exact below_more (Below.refl _ _) _
    have hz3 : w2.heap.size < W3.heap.size := by rw [hW3]; simp
    have HY0 := Lib.hid (show W3.cell? ⟨w2.heap.size, 0, none⟩ = some (.slice P2 x.rels.length c2) by rw [hW3]; simp [go_sem])
    have y1 : W3.cell? ⟨w2.heap.size, 1, none⟩ = some (.slice (some ⟨g, 0, none⟩) x.facts.length x.facts.length) := by rw [hW3]; simp [go_sem]
    have HYZ := fun o => Lib.hid (show W3.frozen? ⟨w2.heap.size, o, none⟩ = false by rw [hW3]; simp [go_sem])
    have HR3 := Lib.hid (hR2.below hb3 (Nat.le_refl _))
    have HO3 := Lib.hid (hO2.below hb3 (Nat.le_refl _))
    have HB2 := Lib.hid hb2
    have HB3 := Lib.hid hb3
    have hdf := implDelF_any 72 #[.pointer (some ⟨w.heap.size + 1, 0, none⟩)] (enters_of Try.func72 (by kernel_rfl) rfl) (BoxF (w.heap.size + 1) w1.heap.size f (.slice P' f.vals.length c')) (fun _ _ h hb => h.later hb) (sameP f) x.facts w1.heap.size w2.heap.size g Vs W3 ((HBX.out.below hb2 (Nat.le_refl _)).below hb3 hz2) (tells_delFact _ _ _ _ _ _) hfl hb3.size (fun W o u h => h.store hg1 o u) HO3.out
    clear hcp f0 f1 hR2 hO2 hb2 hb3
    go_wp2_with fail
    rw [← hW3]
    refine hdf.mono ?_
    rintro e w4 ⟨Us, rfl, hO4, hC4⟩
    have hR4 := rels_keep HR3.out HO3.out rfl hC4
    have hz4 := hC4.size
    have y0 := (hC4.cell (b := w2.heap.size) (o := 0) hz3 (by show ¬ (w2.heap.size = g); omega)).trans HY0.out
    have y1' := (hC4.cell (b := w2.heap.size) (o := 1) hz3 (by show ¬ (w2.heap.size = g); omega)).trans y1
    have yz := fun o => (hC4.frozen (b := w2.heap.size) (o := o) hz3 (by show ¬ (w2.heap.size = g); omega)).trans (HYZ o).out
    have hEW : Below E.heap.size E w4 := HB1.out.trans (((HB2.out.trans (HB3.out.mono hz2)).trans (hC4.below (fun k hk => by show w1.heap.size ≤ k; omega) (by omega))).mono HB1.out.size)
    have r0 := (hEW.cell (p := ⟨w.heap.size + 1 + 1, 0, none⟩) (by show w.heap.size + 1 + 1 < _; have := HE.out; omega)).trans R0.out
    have r1 := (hEW.cell (p := ⟨w.heap.size + 1 + 1, 1, none⟩) (by show w.heap.size + 1 + 1 < _; have := HE.out; omega)).trans R1.out
    have rz := fun o => (hEW.frozen (p := ⟨w.heap.size + 1 + 1, o, none⟩) (by show w.heap.size + 1 + 1 < _; have := HE.out; omega)).trans (RZ o).out
    have HR4 := Lib.hid hR4
    have HO4 := Lib.hid hO4
    have HW4 := Lib.hid (hE.trans (hEW.mono hE.size))
    have hYR : ¬ (w2.heap.size = w.heap.size + 1 + 1) := by omega
    clear hdf hC4 hR4 hO4 hEW y1 hW3
    generalize keepN (sameP f) x.facts = L at *
    have HST : ∀ u1 u2 u3, Hid (Chg (fun k => w2.heap.size ≤ k ∨ k = w.heap.size + 1 + 1) w4 (((w4.setCell ⟨w2.heap.size, 1, none⟩ u1).setCell ⟨w.heap.size + 1 + 1, 0, none⟩ u2).setCell ⟨w.heap.size + 1 + 1, 1, none⟩ u3)) := fun u1 u2 u3 => Lib.hid ((((Chg.refl _ w4).setCell (p := ⟨w2.heap.size, 1, none⟩) (.inl (Nat.le_refl _)) _).setCell (p := ⟨w.heap.size + 1 + 1, 0, none⟩) (.inr rfl) _).setCell (p := ⟨w.heap.size + 1 + 1, 1, none⟩) (.inr rfl) _)
    go_wp2
    have hf := (HST (.slice (some ⟨g, 0, none⟩) L.length x.facts.length) (.slice P2 x.rels.length c2) (.slice (some ⟨g, 0, none⟩) L.length x.facts.length)).out
    refine bodyPost_ret (v := .tuple #[.agg #[.slice P2 x.rels.length c2, .slice (some ⟨g, 0, none⟩) L.length x.facts.length], .bool true]) (by simp [results, Try.results31, go_sem, r0, r1]) rfl ⟨_, by rw [HQ.out], ?_, ?_⟩
    · rw [HV.out]
      refine ⟨_, _, rfl, (HR4.out.chgS hf (fun k hk => by omega)).mono (by omega) ?_, ⟨Us, (HO4.out.chgS hf (fun k hk => by omega)).mono (by omega) ?_⟩⟩
      · have := hf.size; omega
      · have := hf.size; omega
    · exact HW4.out.trans (hf.below (fun k hk => by omega) HW4.out.size)
theorem del_sz (x : Inst) (f : Fct) : Instance_sz (delInst x f) ≤ Instance_sz x := by
  cases h : hasInst x f with
  | false => rw [del_no h]; exact Nat.le_refl _
  | true =>
    rw [del_keep h]
    unfold Instance_sz FactS_sz keepN
    have h1 := valsLen_filter (fun g => !sameP f g) x.facts
    have h2 := List.length_filter_le (fun g => !sameP f g) x.facts
    simp only; omega
theorem implDeleteFact_c (v : Value) (x : Inst) (u : Value) (y : Fct) (w : World) (h : Instance_at w w.heap.size v x) (hw : Instance_wf x) (hn : Instance_sz x ≤ 1048576) (h' : Fact_at w w.heap.size u y) (_ : Fact_wf y) (_ : Fact_sz y ≤ 1048576) :
    Calls Try.prog 31 #[v, u] w fun e w' => ∃ r0, e = .returned (.tuple #[r0, .bool (DeleteFact_ok x y)]) ∧ Instance_own w.heap.size w'.heap.size r0 (DeleteFact_r0 x y) w' ∧ Instance_sz (DeleteFact_r0 x y) ≤ 1048576 ∧ Below w.heap.size w w' :=
  (implDeleteFact_any v u x y w h hw hn h').mono fun _ _ ⟨r, he, ho, hb⟩ => ⟨r, he, ho, Nat.le_trans (del_sz x y) hn, hb⟩

end Go.Proofs.Ytchlelkhpahakaa
