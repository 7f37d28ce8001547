/-
  Walks and plain lemmas for the laws of this seat: what single Go functions return, for every argument.
-/
import Derived.Test.YtobdijcnfmgidaaTyInst
import Derived.Test.YtobdijcnfmgidaaRelsC
import Derived.Test.YtobdijcnfmgidaaFactC
import Derived.Test.YtobdijcnfmgidaaFactSC
namespace Go.Proofs.Ytobdijcnfmgidaa
open Go.RowKit

set_option maxHeartbeats 800000 in
theorem eqInstance_c (v u : Value) (x : Inst) (w : World) (h : Instance_at w w.heap.size v x) (h' : Instance_at w w.heap.size u x) :
    Calls Try.prog 33 #[v, u] w fun e w' => e = .returned (.bool true) ∧ Below w.heap.size w w' := by
  obtain ⟨P, c, Q, d, rfl⟩ := Instance_form h
  obtain ⟨P', c', Q', d', rfl⟩ := Instance_form h'
  obtain ⟨V1, V2, hv, hR, hF⟩ := h
  obtain ⟨U1, U2, hu, hR', hF'⟩ := h'
  simp only [Value.agg.injEq, Array.mk.injEq, List.cons.injEq, and_true] at hv hu
  obtain ⟨rfl, rfl⟩ := hv
  obtain ⟨rfl, rfl⟩ := hu
  have hE : Below w.heap.size w ((w.alloc (.cells #[.slice P x.rels.length c, .slice Q x.facts.length d] 27)).alloc (.cells #[.slice P' x.rels.length c', .slice Q' x.facts.length d'] 27)) := below_more (below_more (Below.refl _ _) _) _
  have hEz : w.heap.size + 2 = ((w.alloc (.cells #[.slice P x.rels.length c, .slice Q x.facts.length d] 27)).alloc (.cells #[.slice P' x.rels.length c', .slice Q' x.facts.length d'] 27)).heap.size := by simp
  have K1 := Lib.hid (show ((w.alloc (.cells #[.slice P x.rels.length c, .slice Q x.facts.length d] 27)).alloc (.cells #[.slice P' x.rels.length c', .slice Q' x.facts.length d'] 27)).cell? ⟨w.heap.size, 1, none⟩ = some (.slice Q x.facts.length d) by simp [go_sem])
  have K2 := Lib.hid (show ((w.alloc (.cells #[.slice P x.rels.length c, .slice Q x.facts.length d] 27)).alloc (.cells #[.slice P' x.rels.length c', .slice Q' x.facts.length d'] 27)).cell? ⟨w.heap.size + 1, 1, none⟩ = some (.slice Q' x.facts.length d') by simp [go_sem])
  have c1 := eqRelationS_c _ _ x.rels _ ((hR.below hE (Nat.le_refl _)).more hE.size) ((hR'.below hE (Nat.le_refl _)).more hE.size)
  have HF := Lib.hid hF
  have HF' := Lib.hid hF'
  clear hR hF hR' hF'
  go_enter Try.func33, Try.ntmps33
  go_wp2_with fail
  refine c1.mono ?_
  rintro e w1 ⟨rfl, hb1⟩
  clear c1
  have hB1 : Below w.heap.size w w1 := hE.trans (hb1.mono hE.size)
  have f1 := (hb1.cell (p := ⟨w.heap.size, 1, none⟩) (by show w.heap.size < _; omega)).trans K1.out
  have f2 := (hb1.cell (p := ⟨w.heap.size + 1, 1, none⟩) (by show w.heap.size + 1 < _; omega)).trans K2.out
  go_wp2_with fail
  refine (eqFactS_c _ _ x.facts w1 ((HF.out.below hB1 (Nat.le_refl _)).more hB1.size) ((HF'.out.below hB1 (Nat.le_refl _)).more hB1.size)).mono ?_
  rintro e w2 ⟨rfl, hb2⟩
  go_wp2
  go_ret
  exact ⟨rfl, hB1.trans (hb2.mono hB1.size)⟩

set_option maxHeartbeats 800000 in
theorem szInstance_c (v : Value) (x : Inst) (left : Int) (w : World) (h : Instance_at w w.heap.size v x) (hw : Instance_wf x) (h0 : 0 ≤ left) (h1 : left ≤ 1048576) :
    Calls Try.prog 31 #[v, .int .i64 left] w fun e w' => e = .returned (.int .i64 (szLeft left (Instance_sz x : Nat))) ∧ Below w.heap.size w w' := by
  obtain ⟨P, c, Q, d, rfl⟩ := Instance_form h
  obtain ⟨V1, V2, hv, hR, hF⟩ := h
  simp only [Value.agg.injEq, Array.mk.injEq, List.cons.injEq, and_true] at hv
  obtain ⟨rfl, rfl⟩ := hv
  have hE : Below w.heap.size w (w.alloc (.cells #[.slice P x.rels.length c, .slice Q x.facts.length d] 60)) := (Below.refl _ _).alloc (Nat.le_refl _) _
  have hEz : w.heap.size + 1 ≤ (w.alloc (.cells #[.slice P x.rels.length c, .slice Q x.facts.length d] 60)).heap.size := by simp
  have K1 := Lib.hid (show (w.alloc (.cells #[.slice P x.rels.length c, .slice Q x.facts.length d] 60)).cell? ⟨w.heap.size, 1, none⟩ = some (.slice Q x.facts.length d) by simp [go_sem])
  have hsz : ((Instance_sz x : Nat) : Int) = ((RelationS_sz x.rels : Nat) : Int) + ((FactS_sz x.facts : Nat) : Int) := by unfold Instance_sz; omega
  rw [hsz]
  clear hsz
  have c1 := szRelationS_c _ x.rels left _ ((hR.below hE (Nat.le_refl _)).more hE.size) hw.1 h0 h1
  have HF := Lib.hid hF
  clear hR hF
  by_cases hr : ((RelationS_sz x.rels : Nat) : Int) ≤ left
  · have e1 := szLeft_yes hr
    have e2 := Lib.hid (szLeft_add (left := left) (a := (RelationS_sz x.rels : Nat)) (b := (FactS_sz x.facts : Nat)))
    rw [e1] at c1
    go_enter Try.func31, Try.ntmps31
    go_wp2_with fail
    refine c1.mono ?_
    rintro e w1 ⟨rfl, hb1⟩
    clear c1
    have hz1 := hb1.size
    have f1 := (hb1.cell (p := ⟨w.heap.size, 1, none⟩) hEz).trans K1.out
    have hB1 : Below w.heap.size w w1 := hE.trans (hb1.mono hE.size)
    have c2 := szFactS_c _ x.facts (left - (RelationS_sz x.rels : Nat)) w1 ((HF.out.below hB1 (Nat.le_refl _)).more hB1.size) hw.2 (by omega) (by omega)
    by_cases hf : ((FactS_sz x.facts : Nat) : Int) ≤ left - (RelationS_sz x.rels : Nat)
    · have e3 := szLeft_yes hf
      rw [e3] at c2 e2
      clear e1 e3
      go_wp2_with fail
      refine c2.mono ?_
      rintro e w2 ⟨rfl, hb2⟩
      go_wp2
      go_ret
      exact ⟨ret_int e2.out, hB1.trans (hb2.mono hB1.size)⟩
    · have e3 := szLeft_no hf
      rw [e3] at c2 e2
      clear e1 e3
      go_wp2_with fail
      refine c2.mono ?_
      rintro e w2 ⟨rfl, hb2⟩
      go_wp2
      go_ret
      exact ⟨ret_int e2.out, hB1.trans (hb2.mono hB1.size)⟩
  · have e1 := szLeft_no hr
    have e2 := Lib.hid (szLeft_no (left := left) (n := ((RelationS_sz x.rels : Nat) : Int) + ((FactS_sz x.facts : Nat) : Int)) (by omega))
    rw [e1] at c1
    clear e1
    go_enter Try.func31, Try.ntmps31
    go_wp2_with fail
    refine c1.mono ?_
    rintro e w1 ⟨rfl, hb1⟩
    go_wp2
    go_ret
    exact ⟨ret_int e2.out.symm, hE.trans (hb1.mono hE.size)⟩

set_option maxHeartbeats 1600000 in
theorem toInstance_c (v : Value) (x : Inst) (w : World) (h : Instance_at w w.heap.size v x) (hn : Instance_sz x ≤ 1048576) :
    Calls Try.prog 32 #[v] w fun e w' => ∃ u, e = .returned u ∧ Instance_own w.heap.size w'.heap.size u x w' ∧ Below w.heap.size w w' := by
  obtain ⟨P, c, Q, d, rfl⟩ := Instance_form h
  obtain ⟨V1, V2, hv, hR, hF⟩ := h
  simp only [Value.agg.injEq, Array.mk.injEq, List.cons.injEq, and_true] at hv
  obtain ⟨rfl, rfl⟩ := hv
  have hn1 : RelationS_sz x.rels ≤ 1048576 := by unfold Instance_sz at hn; omega
  have hn2 : FactS_sz x.facts ≤ 1048576 := by unfold Instance_sz at hn; omega
  have hE : Below w.heap.size w (((w.alloc (.cells #[.slice P x.rels.length c, .slice Q x.facts.length d] 60)).alloc (.cells #[.slice none 0 0, .slice none 0 0] 27)).alloc (.cells #[.slice none 0 0, .slice none 0 0] 27)) := below_more (below_more (below_more (Below.refl _ _) _) _) _
  have hEz : w.heap.size + 3 = (((w.alloc (.cells #[.slice P x.rels.length c, .slice Q x.facts.length d] 60)).alloc (.cells #[.slice none 0 0, .slice none 0 0] 27)).alloc (.cells #[.slice none 0 0, .slice none 0 0] 27)).heap.size := by simp
  have K0 := Lib.hid (show (((w.alloc (.cells #[.slice P x.rels.length c, .slice Q x.facts.length d] 60)).alloc (.cells #[.slice none 0 0, .slice none 0 0] 27)).alloc (.cells #[.slice none 0 0, .slice none 0 0] 27)).cell? ⟨w.heap.size, 1, none⟩ = some (.slice Q x.facts.length d) by simp [go_sem])
  have K1 := fun o (ho : o < 2) => Lib.hid (show (((w.alloc (.cells #[.slice P x.rels.length c, .slice Q x.facts.length d] 60)).alloc (.cells #[.slice none 0 0, .slice none 0 0] 27)).alloc (.cells #[.slice none 0 0, .slice none 0 0] 27)).cell? ⟨w.heap.size + 1, o, none⟩ = some (.slice none 0 0) by rcases (show o = 0 ∨ o = 1 by omega) with rfl | rfl <;> simp [go_sem])
  have K2 := fun o (ho : o < 2) => Lib.hid (show (((w.alloc (.cells #[.slice P x.rels.length c, .slice Q x.facts.length d] 60)).alloc (.cells #[.slice none 0 0, .slice none 0 0] 27)).alloc (.cells #[.slice none 0 0, .slice none 0 0] 27)).cell? ⟨w.heap.size + 1 + 1, o, none⟩ = some (.slice none 0 0) by rcases (show o = 0 ∨ o = 1 by omega) with rfl | rfl <;> simp [go_sem])
  have Z1 := fun o => Lib.hid (show (((w.alloc (.cells #[.slice P x.rels.length c, .slice Q x.facts.length d] 60)).alloc (.cells #[.slice none 0 0, .slice none 0 0] 27)).alloc (.cells #[.slice none 0 0, .slice none 0 0] 27)).frozen? ⟨w.heap.size + 1, o, none⟩ = false by simp [go_sem])
  have Z2 := fun o => Lib.hid (show (((w.alloc (.cells #[.slice P x.rels.length c, .slice Q x.facts.length d] 60)).alloc (.cells #[.slice none 0 0, .slice none 0 0] 27)).alloc (.cells #[.slice none 0 0, .slice none 0 0] 27)).frozen? ⟨w.heap.size + 1 + 1, o, none⟩ = false by simp [go_sem])
  have c1 := toRelationS_c _ x.rels _ ((hR.below hE (Nat.le_refl _)).more hE.size) hn1
  have HF := Lib.hid hF
  clear hR hF
  go_enter Try.func32, Try.ntmps32
  go_wp2_with fail
  refine c1.mono ?_
  rintro e w1 ⟨u1, rfl, ho1, hb1⟩
  clear c1
  have hz1 := hb1.size
  obtain ⟨P1, p1, rfl, -, -⟩ := (ho1.at_ (Nat.le_refl _)).form
  have hB1 : Below w.heap.size w w1 := hE.trans (hb1.mono hE.size)
  have f0 := (hb1.cell (p := ⟨w.heap.size, 1, none⟩) (by show w.heap.size < _; omega)).trans K0.out
  have f2 := fun o ho => (hb1.cell (p := ⟨w.heap.size + 1 + 1, o, none⟩) (by show w.heap.size + 1 + 1 < _; omega)).trans (K2 o ho).out
  have f3 := f2 0 (by omega)
  have f4 := f2 1 (by omega)
  have z2 := fun o => (hb1.frozen (p := ⟨w.heap.size + 1 + 1, o, none⟩) (by show w.heap.size + 1 + 1 < _; omega)).trans (Z2 o).out
  have HO1 := Lib.hid ho1
  clear f2 ho1
  go_wp2_with fail
  have hw2 : Below w.heap.size w1 (w1.setCell ⟨w.heap.size + 1 + 1, 0, none⟩ (.slice P1 x.rels.length p1)) := (Below.refl _ _).setCell (p := ⟨w.heap.size + 1 + 1, 0, none⟩) (by show w.heap.size ≤ w.heap.size + 1 + 1; omega) _
  have hB2 := hB1.trans hw2
  refine (toFactS_c _ x.facts _ ((HF.out.below hB2 (Nat.le_refl _)).more hB2.size) hn2).mono ?_
  rintro e w3 ⟨u2, rfl, ho2, hb3⟩
  obtain ⟨P2, p2, rfl, -, -⟩ := (ho2.at_ (Nat.le_refl _)).form
  have hsz : (w1.setCell ⟨w.heap.size + 1 + 1, 0, none⟩ (.slice P1 x.rels.length p1)).heap.size = w1.heap.size := by simp [World.setCell]
  have hz3 := hb3.size
  have hB3 : Below w.heap.size w w3 := hB2.trans (hb3.mono (by omega))
  have g0 : w3.cell? ⟨w.heap.size + 1 + 1, 0, none⟩ = some (.slice P1 x.rels.length p1) := (hb3.cell (p := ⟨w.heap.size + 1 + 1, 0, none⟩) (by show w.heap.size + 1 + 1 < _; omega)).trans (by simp [go_sem, f3])
  have g1 : w3.cell? ⟨w.heap.size + 1 + 1, 1, none⟩ = some (.slice none 0 0) := (hb3.cell (p := ⟨w.heap.size + 1 + 1, 1, none⟩) (by show w.heap.size + 1 + 1 < _; omega)).trans (by simp [go_sem, f4])
  have z3 := fun o => (hb3.frozen (p := ⟨w.heap.size + 1 + 1, o, none⟩) (by show w.heap.size + 1 + 1 < _; omega)).trans (by simp [go_sem, z2] : _ = false)
  have m0 : w3.cell? ⟨w.heap.size + 1, 0, none⟩ = some (.slice none 0 0) := (hb3.cell (p := ⟨w.heap.size + 1, 0, none⟩) (by show w.heap.size + 1 < _; omega)).trans ((by simp [go_sem] : _ = w1.cell? ⟨w.heap.size + 1, 0, none⟩).trans ((hb1.cell (p := ⟨w.heap.size + 1, 0, none⟩) (by show w.heap.size + 1 < _; omega)).trans (K1 0 (by omega)).out))
  have m1 : w3.cell? ⟨w.heap.size + 1, 1, none⟩ = some (.slice none 0 0) := (hb3.cell (p := ⟨w.heap.size + 1, 1, none⟩) (by show w.heap.size + 1 < _; omega)).trans ((by simp [go_sem] : _ = w1.cell? ⟨w.heap.size + 1, 1, none⟩).trans ((hb1.cell (p := ⟨w.heap.size + 1, 1, none⟩) (by show w.heap.size + 1 < _; omega)).trans (K1 1 (by omega)).out))
  have mz := fun o => (hb3.frozen (p := ⟨w.heap.size + 1, o, none⟩) (by show w.heap.size + 1 < _; omega)).trans ((by simp [go_sem] : _ = w1.frozen? ⟨w.heap.size + 1, o, none⟩).trans ((hb1.frozen (p := ⟨w.heap.size + 1, o, none⟩) (by show w.heap.size + 1 < _; omega)).trans (Z1 o).out))
  have HO2 := Lib.hid ho2
  have HB1 := Lib.hid hb1
  have HB3 := Lib.hid hb3
  clear f0 f3 f4 z2 ho2 hb3 hb1
  have hcA : Chg (Mid w.heap.size (w.heap.size + 3)) w1 (w1.setCell ⟨w.heap.size + 1 + 1, 0, none⟩ (.slice P1 x.rels.length p1)) := (Chg.refl _ _).setCell (p := ⟨w.heap.size + 1 + 1, 0, none⟩) ⟨by show w.heap.size ≤ w.heap.size + 1 + 1; omega, by show w.heap.size + 1 + 1 < _; omega⟩ _
  have hcB : Chg (Mid w.heap.size (w.heap.size + 3)) w3 (((w3.setCell ⟨w.heap.size + 1 + 1, 1, none⟩ (.slice P2 x.facts.length p2)).setCell ⟨w.heap.size + 1, 0, none⟩ (.slice P1 x.rels.length p1)).setCell ⟨w.heap.size + 1, 1, none⟩ (.slice P2 x.facts.length p2)) :=
    (((Chg.refl _ _).setCell (p := ⟨w.heap.size + 1 + 1, 1, none⟩) ⟨by show w.heap.size ≤ w.heap.size + 1 + 1; omega, by show w.heap.size + 1 + 1 < _; omega⟩ _).setCell (p := ⟨w.heap.size + 1, 0, none⟩) ⟨by show w.heap.size ≤ w.heap.size + 1; omega, by show w.heap.size + 1 < _; omega⟩ _).setCell (p := ⟨w.heap.size + 1, 1, none⟩) ⟨by show w.heap.size ≤ w.heap.size + 1; omega, by show w.heap.size + 1 < _; omega⟩ _
  have HA := Lib.hid hcA
  have HB := Lib.hid hcB
  have hE1 : w.heap.size + 1 ≤ (((w.alloc (.cells #[.slice P x.rels.length c, .slice Q x.facts.length d] 60)).alloc (.cells #[.slice none 0 0, .slice none 0 0] 27)).alloc (.cells #[.slice none 0 0, .slice none 0 0] 27)).heap.size := by omega
  clear hcA hcB
  go_wp2
  refine bodyPost_ret (v := .agg #[.slice P1 x.rels.length p1, .slice P2 x.facts.length p2]) (by simp [results, Try.results32, go_sem, m0, m1]) rfl ⟨_, rfl, ⟨_, _, rfl, ?_, ?_⟩, ?_⟩
  · have h1 := ((HO1.out.chg HA.out (.inr (by omega))).below HB3.out (by omega)).chg HB.out (.inr (by omega))
    exact h1.mono (by omega) (by have := HB.out.size; omega)
  · have h1 := HO2.out.chg HB.out (.inr (by omega))
    exact h1.mono (by omega) HB.out.size
  · exact hB3.trans (HB.out.mid_below (Nat.le_refl _) hB3.size)

end Go.Proofs.Ytobdijcnfmgidaa
