/-
  Walks and plain lemmas for the laws of this seat: what single Go functions return, for every argument.
-/
import Derived.Test.YtobdijcnfmgidaaAft
import Derived.Test.YtobdijcnfmgidaaTyInst
import Derived.Test.YtobdijcnfmgidaaCopI
import Derived.Test.YtobdijcnfmgidaaMInst
import Derived.Test.YtobdijcnfmgidaaGroundM
import Derived.Test.YtobdijcnfmgidaaDelF
import Derived.Test.YtobdijcnfmgidaaValInI
namespace Go.Proofs.Ytobdijcnfmgidaa
open Go.RowKit

/-- an instance and a Bool in boxes, which a function value has captured; all of it below block D -/
def BoxR (b0 b1 D : Nat) (l : List Rel) (V : Value) (s : Bool) (W : World) : Prop := (b0 < D ∧ b1 < D ∧ D ≤ W.heap.size) ∧ W.cell? ⟨b0, 0, none⟩ = some V ∧ W.cell? ⟨b1, 0, none⟩ = some (.bool s) ∧ RelsAt W D V l
theorem BoxR.below {b0 b1 D D' : Nat} {l : List Rel} {V : Value} {s : Bool} {W W' : World} (h : BoxR b0 b1 D l V s W) (hb : Below D' W W') (hD : D ≤ D') : BoxR b0 b1 D l V s W' := by
  obtain ⟨⟨h1, h2, h3⟩, h4, h5, h6⟩ := h
  exact ⟨⟨h1, h2, Nat.le_trans h3 hb.size⟩, (hb.cell (p := ⟨b0, 0, none⟩) (Nat.lt_of_lt_of_le h1 hD)).trans h4, (hb.cell (p := ⟨b1, 0, none⟩) (Nat.lt_of_lt_of_le h2 hD)).trans h5, h6.below hb hD⟩
theorem BoxR.later {b0 b1 D : Nat} {l : List Rel} {V : Value} {s : Bool} {W W' : World} (h : BoxR b0 b1 D l V s W) (hb : Below W.heap.size W W') : BoxR b0 b1 D l V s W' := h.below hb h.1.2.2
theorem BoxR.store {b0 b1 D q : Nat} {l : List Rel} {V : Value} {s : Bool} {W : World} (h : BoxR b0 b1 D l V s W) (hq : D ≤ q) (o : Nat) (u : Value) : BoxR b0 b1 D l V s (W.setCell ⟨q, o, none⟩ u) :=
  h.below ((Below.refl D W).setCell (p := ⟨q, o, none⟩) hq u) (Nat.le_refl _)
set_option maxHeartbeats 800000 in
theorem tells_restrict (b0 b1 D : Nat) (rels : List Rel) (P : Option Addr) (c : Nat) (s : Bool) (l : List Fct) (hin : ∀ f ∈ l, 0 ≤ f.rel ∧ f.rel < rels.length) : TellsF 39 #[.pointer (some ⟨b0, 0, none⟩), .pointer (some ⟨b1, 0, none⟩)] (BoxR b0 b1 D rels (.slice P rels.length c) s) (fun f => !srcP rels s f) l := by
  intro W x U hG hx hU
  obtain ⟨⟨h1, h2, h3⟩, h4, h5, h6⟩ := hG
  obtain ⟨Q, d, rfl, -⟩ := id hU
  have hxi := hin x hx
  obtain ⟨k, hkr⟩ : ∃ k : Nat, x.rel = (k : Int) := ⟨x.rel.toNat, by omega⟩
  have hk : k < rels.length := by omega
  obtain ⟨_, _, hv6, h7, h8, -⟩ := id h6
  injection hv6 with e1 _ e2
  subst e1 e2
  unfold maxLen at h8
  obtain ⟨b, off, rfl, hb, -, -, c2⟩ := RelsAt.elem h6 k hk
  have HV := Lib.hid (show (rels[k].source != s) = (!srcP rels s x) by unfold srcP; rw [relSrc_at hk hkr]; rfl)
  obtain ⟨E, hEq⟩ : ∃ E, E = W.alloc (.cells #[.int .i64 (k : Int), .slice Q x.vals.length d] 44) := ⟨_, rfl⟩
  have hE : Below W.heap.size W E := by rw [hEq]; exact below_more (Below.refl _ _) _
  have hEz : W.heap.size < E.heap.size := by rw [hEq]; simp
  have F0 := Aft.cell (B := E.heap.size) (w := E) (b := W.heap.size) (o := 0) (x := some (.int .i64 (k : Int))) hEz (by rw [hEq]; simp [go_sem])
  have G0 := Aft.cell (B := E.heap.size) (w := E) (show b0 < _ by omega) ((hE.cell (p := ⟨b0, 0, none⟩) (by show b0 < _; omega)).trans h4)
  have G1 := Aft.cell (B := E.heap.size) (w := E) (show b1 < _ by omega) ((hE.cell (p := ⟨b1, 0, none⟩) (by show b1 < _; omega)).trans h5)
  have C2 := Aft.cell (B := E.heap.size) (w := E) (show b < _ by omega) ((hE.cell (p := ⟨b, off + k * 3 + 2, none⟩) (by show b < _; omega)).trans c2)
  show Calls Try.prog 39 #[.agg #[.int .i64 x.rel, .slice Q x.vals.length d], .pointer (some ⟨b0, 0, none⟩), .pointer (some ⟨b1, 0, none⟩)] W _
  rw [hkr]
  clear hkr hU h4 h5 c2 hxi hx hin
  generalize rels[k].source = so at *
  go_enter Try.func39, Try.ntmps39
  go_wp2
  rw [← hEq]
  clear hEq
  refine wp_region_aft (Below.refl E.heap.size E) (by kernel_rfl) (by kernel_rfl) ?_
  repeat (go_big_quiet_step (fail))
  refine wpQuiet_nil ?_
  refine aft_end ?_
  intro w3 hh
  go_wp2
  go_ret
  exact ⟨ret_bool HV.out, hE.trans (hh.mono hE.size)⟩
theorem restrict_sz (x : Inst) (b : Bool) : Instance_sz (Restrict_r0 x b) ≤ Instance_sz x := by
  unfold Restrict_r0 restrictI
  split
  · unfold Instance_sz FactS_sz
    have h1 := valsLen_filter (srcP x.rels b) x.facts
    have h2 := List.length_filter_le (srcP x.rels b) x.facts
    simp only; omega
  · unfold Instance_sz FactS_sz RelationS_sz; simp [valsLen, relsLen]
set_option maxHeartbeats 3200000 in
set_option maxRecDepth 100000 in
theorem implRestrict_any (v : Value) (x : Inst) (src : Bool) (w : World) (h : Instance_at w w.heap.size v x) (hw : Instance_wf x) (hn : Instance_sz x ≤ 1048576) :
    Calls Try.prog 8 #[v, .bool src] w fun e w' => ∃ u, e = .returned u ∧ Instance_own w.heap.size w'.heap.size u (Restrict_r0 x src) w' ∧ Below w.heap.size w w' := by
  obtain ⟨P, c, Q, d, rfl⟩ := Instance_form h
  have HX := Lib.hid h
  have HR := Lib.hid (show RelsAt w w.heap.size (.slice P x.rels.length c) x.rels by
    obtain ⟨V1, V2, hv, hR, hF⟩ := h
    simp only [Value.agg.injEq, Array.mk.injEq, List.cons.injEq, and_true] at hv
    obtain ⟨rfl, rfl⟩ := hv
    exact hR)
  clear h
  obtain ⟨E, hEq⟩ : ∃ E, E = (((w.alloc (.cells #[.slice P x.rels.length c, .slice Q x.facts.length d] 27)).alloc (.cells #[.bool src] 4)).alloc (.cells #[.slice none 0 0, .slice none 0 0] 27)) := ⟨_, rfl⟩
  have hE : Below w.heap.size w E := by rw [hEq]; exact below_more (below_more (below_more (Below.refl _ _) _) _) _
  have HE := Lib.hid (show w.heap.size + 3 = E.heap.size by rw [hEq]; simp)
  have K0 := Lib.hid (show E.cell? ⟨w.heap.size, 0, none⟩ = some (.slice P x.rels.length c) by rw [hEq]; simp [go_sem])
  have K1 := Lib.hid (show E.cell? ⟨w.heap.size, 1, none⟩ = some (.slice Q x.facts.length d) by rw [hEq]; simp [go_sem])
  have KB := Lib.hid (show E.cell? ⟨w.heap.size + 1, 0, none⟩ = some (.bool src) by rw [hEq]; simp [go_sem])
  have R0 := Lib.hid (show E.cell? ⟨w.heap.size + 1 + 1, 0, none⟩ = some (.slice none 0 0) by rw [hEq]; simp [go_sem])
  have R1 := Lib.hid (show E.cell? ⟨w.heap.size + 1 + 1, 1, none⟩ = some (.slice none 0 0) by rw [hEq]; simp [go_sem])
  have RZ := fun o => Lib.hid (show E.frozen? ⟨w.heap.size + 1 + 1, o, none⟩ = false by rw [hEq]; simp [go_sem])
  have hiv := fun (q : Bool) (hq : instOk x = q) => implIsValidInstance_at x q hq (.agg #[.slice P x.rels.length c, .slice Q x.facts.length d]) E ((HX.out.below hE (Nat.le_refl _)).more hE.size) hw
  rw [hEq] at hiv
  cases ho : instOk x with
  | false =>
    have HV := Lib.hid (show Restrict_r0 x src = ⟨[], []⟩ by unfold Restrict_r0 restrictI; rw [ho]; rfl)
    replace hiv := hiv false ho
    clear ho
    go_enter Try.func8, Try.ntmps8
    go_wp2_with fail
    refine hiv.mono ?_
    rintro e w1 ⟨rfl, hb1⟩
    rw [← hEq] at hb1
    have r0 := (hb1.cell (p := ⟨w.heap.size + 1 + 1, 0, none⟩) (by show w.heap.size + 1 + 1 < _; have := HE.out; omega)).trans R0.out
    have r1 := (hb1.cell (p := ⟨w.heap.size + 1 + 1, 1, none⟩) (by show w.heap.size + 1 + 1 < _; have := HE.out; omega)).trans R1.out
    have rz := fun o => (hb1.frozen (p := ⟨w.heap.size + 1 + 1, o, none⟩) (by show w.heap.size + 1 + 1 < _; have := HE.out; omega)).trans (RZ o).out
    have HW := Lib.hid (hE.trans (hb1.mono hE.size))
    clear hiv hEq hb1
    go_wp2
    refine bodyPost_ret (v := .agg #[.slice none 0 0, .slice none 0 0]) (by simp [results, Try.results8, go_sem, r0, r1]) rfl ⟨_, rfl, ?_, ?_⟩
    · rw [HV.out]
      exact ⟨_, _, rfl, ⟨OwnRels.nil _ _, fun g hg => by cases hg⟩, ⟨[], ⟨rfl, World.ownsRow_nil _ _ _ _, (fun g hg => by cases hg), (fun i h => by simp at h), List.Pairwise.nil⟩⟩⟩
    · exact (HW.out.setCell (p := ⟨w.heap.size + 1 + 1, 0, none⟩) (by show w.heap.size ≤ w.heap.size + 1 + 1; omega) _).setCell (p := ⟨w.heap.size + 1 + 1, 1, none⟩) (by show w.heap.size ≤ w.heap.size + 1 + 1; omega) _
  | true =>
    have HV := Lib.hid (restrict_keep src ho)
    have HIN := Lib.hid (fun f (hf : f ∈ x.facts) => (factOk_parts (instOk_fact ho f hf)).2.1)
    have h30 := (instOk_parts ho).2.2
    replace hiv := hiv true ho
    clear ho
    go_enter Try.func8, Try.ntmps8
    go_wp2_with fail
    refine hiv.mono ?_
    rintro e w1 ⟨rfl, hb1⟩
    rw [← hEq] at hb1
    have hW1 := hE.trans (hb1.mono hE.size)
    have f0 := (hb1.cell (p := ⟨w.heap.size, 0, none⟩) (by show w.heap.size < _; have := HE.out; omega)).trans K0.out
    have f1 := (hb1.cell (p := ⟨w.heap.size, 1, none⟩) (by show w.heap.size < _; have := HE.out; omega)).trans K1.out
    have HB1 := Lib.hid hb1
    have HW1 := Lib.hid hW1
    have hcp := implCopyInstance_any (.agg #[.slice P x.rels.length c, .slice Q x.facts.length d]) x w1 ((HX.out.below hW1 (Nat.le_refl _)).more hW1.size) hn
    have hz1 : w.heap.size + 3 ≤ w1.heap.size := by have h1 := hb1.size; have h2 := HE.out; omega
    have HBX := Lib.hid (show BoxR w.heap.size (w.heap.size + 1) w1.heap.size x.rels (.slice P x.rels.length c) src w1 from ⟨⟨by omega, by omega, Nat.le_refl _⟩, f0, (hb1.cell (p := ⟨w.heap.size + 1, 0, none⟩) (by show w.heap.size + 1 < _; have := HE.out; omega)).trans KB.out, (SliceAt.below HR.out hW1 (Nat.le_refl _)).more hW1.size⟩)
    clear hiv hEq hb1 hW1
    go_wp2_with fail
    refine hcp.mono ?_
    rintro e w2 ⟨P2, c2, g, Vs, rfl, hR2, hO2, hb2⟩
    have hz2 := hb2.size
    have hg1 : w1.heap.size ≤ g := (World.ownsRow.lt hO2.row g rfl).1
    have hg2 : g < w2.heap.size := hO2.ins g rfl
    obtain ⟨W3, hW3⟩ : ∃ W3, W3 = w2.alloc (.cells #[.slice P2 x.rels.length c2, .slice (some ⟨g, 0, none⟩) x.facts.length x.facts.length] 27) := ⟨_, rfl⟩
    have hb3 : Below w2.heap.size w2 W3 := by rw [hW3]; exact below_more (Below.refl _ _) _
    have hz3 : w2.heap.size < W3.heap.size := by rw [hW3]; simp
    have HY0 := Lib.hid (show W3.cell? ⟨w2.heap.size, 0, none⟩ = some (.slice P2 x.rels.length c2) by rw [hW3]; simp [go_sem])
    have y1 : W3.cell? ⟨w2.heap.size, 1, none⟩ = some (.slice (some ⟨g, 0, none⟩) x.facts.length x.facts.length) := by rw [hW3]; simp [go_sem]
    have HYZ := fun o => Lib.hid (show W3.frozen? ⟨w2.heap.size, o, none⟩ = false by rw [hW3]; simp [go_sem])
    have HR3 := Lib.hid (hR2.below hb3 (Nat.le_refl _))
    have HO3 := Lib.hid (hO2.below hb3 (Nat.le_refl _))
    have HB2 := Lib.hid hb2
    have HB3 := Lib.hid hb3
    have hdf := implDelF_any 39 #[.pointer (some ⟨w.heap.size, 0, none⟩), .pointer (some ⟨w.heap.size + 1, 0, none⟩)] (enters_of Try.func39 (by kernel_rfl) rfl) (BoxR w.heap.size (w.heap.size + 1) w1.heap.size x.rels (.slice P x.rels.length c) src) (fun _ _ h hb => h.later hb) (fun f => !srcP x.rels src f) x.facts w1.heap.size w2.heap.size g Vs W3 ((HBX.out.below hb2 (Nat.le_refl _)).below hb3 hz2) (tells_restrict _ _ _ _ _ _ _ _ HIN.out) (by omega) hb3.size (fun W o u h => h.store hg1 o u) HO3.out
    clear hcp f0 f1 hR2 hO2 hb2 hb3
    go_wp2_with fail
    rw [← hW3]
    refine hdf.mono ?_
    rintro e w4 ⟨Us, rfl, hO4, hC4⟩
    have hR4 := rels_keep HR3.out HO3.out rfl hC4
    have hz4 := hC4.size
    have y0 := (hC4.cell (b := w2.heap.size) (o := 0) hz3 (by show ¬ (w2.heap.size = g); omega)).trans HY0.out
    have y1' := (hC4.cell (b := w2.heap.size) (o := 1) hz3 (by show ¬ (w2.heap.size = g); omega)).trans y1
    have yz := fun o => (hC4.frozen (b := w2.heap.size) (o := o) hz3 (by show ¬ (w2.heap.size = g); omega)).trans (HYZ o).out
    have hEW : Below E.heap.size E w4 := HB1.out.trans (((HB2.out.trans (HB3.out.mono hz2)).trans (hC4.below (fun k hk => by show w1.heap.size ≤ k; omega) (by omega))).mono HB1.out.size)
    have r0 := (hEW.cell (p := ⟨w.heap.size + 1 + 1, 0, none⟩) (by show w.heap.size + 1 + 1 < _; have := HE.out; omega)).trans R0.out
    have r1 := (hEW.cell (p := ⟨w.heap.size + 1 + 1, 1, none⟩) (by show w.heap.size + 1 + 1 < _; have := HE.out; omega)).trans R1.out
    have rz := fun o => (hEW.frozen (p := ⟨w.heap.size + 1 + 1, o, none⟩) (by show w.heap.size + 1 + 1 < _; have := HE.out; omega)).trans (RZ o).out
    have HR4 := Lib.hid hR4
    have HO4 := Lib.hid hO4
    have HW4 := Lib.hid (hE.trans (hEW.mono hE.size))
    have hYR : ¬ (w2.heap.size = w.heap.size + 1 + 1) := by omega
    clear hdf hC4 hR4 hO4 hEW y1 hW3
    generalize keepN (fun f => !srcP x.rels src f) x.facts = L at *
    have HST : ∀ u1 u2 u3, Hid (Chg (fun k => w2.heap.size ≤ k ∨ k = w.heap.size + 1 + 1) w4 (((w4.setCell ⟨w2.heap.size, 1, none⟩ u1).setCell ⟨w.heap.size + 1 + 1, 0, none⟩ u2).setCell ⟨w.heap.size + 1 + 1, 1, none⟩ u3)) := fun u1 u2 u3 => Lib.hid ((((Chg.refl _ w4).setCell (p := ⟨w2.heap.size, 1, none⟩) (.inl (Nat.le_refl _)) _).setCell (p := ⟨w.heap.size + 1 + 1, 0, none⟩) (.inr rfl) _).setCell (p := ⟨w.heap.size + 1 + 1, 1, none⟩) (.inr rfl) _)
    go_wp2
    have hf := (HST (.slice (some ⟨g, 0, none⟩) L.length x.facts.length) (.slice P2 x.rels.length c2) (.slice (some ⟨g, 0, none⟩) L.length x.facts.length)).out
    refine bodyPost_ret (v := .agg #[.slice P2 x.rels.length c2, .slice (some ⟨g, 0, none⟩) L.length x.facts.length]) (by simp [results, Try.results8, go_sem, r0, r1]) rfl ⟨_, rfl, ?_, ?_⟩
    · rw [show Restrict_r0 x src = restrictI x src from rfl, HV.out]
      refine ⟨_, _, rfl, (HR4.out.chgS hf (fun k hk => by omega)).mono (by omega) ?_, ⟨Us, (HO4.out.chgS hf (fun k hk => by omega)).mono (by omega) ?_⟩⟩
      · have := hf.size; omega
      · have := hf.size; omega
    · exact HW4.out.trans (hf.below (fun k hk => by omega) HW4.out.size)
theorem implRestrict_c (v : Value) (x : Inst) (src : Bool) (w : World) (h : Instance_at w w.heap.size v x) (hw : Instance_wf x) (hn : Instance_sz x ≤ 1048576) :
    Calls Try.prog 8 #[v, .bool src] w fun e w' => ∃ u, e = .returned u ∧ Instance_own w.heap.size w'.heap.size u (Restrict_r0 x src) w' ∧ Instance_sz (Restrict_r0 x src) ≤ 1048576 ∧ Below w.heap.size w w' :=
  (implRestrict_any v x src w h hw hn).mono fun _ _ ⟨u, he, ho, hb⟩ => ⟨u, he, ho, Nat.le_trans (restrict_sz x src) hn, hb⟩

end Go.Proofs.Ytobdijcnfmgidaa
