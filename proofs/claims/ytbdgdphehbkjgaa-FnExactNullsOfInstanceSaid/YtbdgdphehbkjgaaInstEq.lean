/-
  Walks and plain lemmas for the laws of this seat: what single Go functions return, for every argument.
-/
import Derived.Test.YtbdgdphehbkjgaaTyInst
import Derived.Test.YtbdgdphehbkjgaaFactSe
import Derived.Test.YtbdgdphehbkjgaaRelsC
namespace Go.Proofs.Ytbdgdphehbkjgaa
open Go.RowKit

set_option maxHeartbeats 800000 in
theorem eqInstance_c (v u : Value) (x : Inst) (w : World) (h : Instance_at w w.heap.size v x) (h' : Instance_at w w.heap.size u x) :
    Calls Try.prog 28 #[v, u] w fun e w' => e = .returned (.bool true) ∧ Below w.heap.size w w' := by
  obtain ⟨P, c, Q, d, rfl⟩ := Instance_form h
  obtain ⟨P', c', Q', d', rfl⟩ := Instance_form h'
  obtain ⟨V1, V2, hv, hR, hF⟩ := h
  obtain ⟨U1, U2, hu, hR', hF'⟩ := h'
  simp only [Value.agg.injEq, Array.mk.injEq, List.cons.injEq, and_true] at hv hu
  obtain ⟨rfl, rfl⟩ := hv
  obtain ⟨rfl, rfl⟩ := hu
  have hE : Below w.heap.size w ((w.alloc (.cells #[.slice P x.rels.length c, .slice Q x.facts.length d] 27)).alloc (.cells #[.slice P' x.rels.length c', .slice Q' x.facts.length d'] 27)) := below_more (below_more (Below.refl _ _) _) _
  have hEz : w.heap.size + 2 = ((w.alloc (.cells #[.slice P x.rels.length c, .slice Q x.facts.length d] 27)).alloc (.cells #[.slice P' x.rels.length c', .slice Q' x.facts.length d'] 27)).heap.size := by simp
  have K1 := Lib.hid (show ((w.alloc (.cells #[.slice P x.rels.length c, .slice Q x.facts.length d] 27)).alloc (.cells #[.slice P' x.rels.length c', .slice Q' x.facts.length d'] 27)).cell? ⟨w.heap.size, 1, none⟩ = some (.slice Q x.facts.length d) by simp [go_sem])
  have K2 := Lib.hid (show ((w.alloc (.cells #[.slice P x.rels.length c, .slice Q x.facts.length d] 27)).alloc (.cells #[.slice P' x.rels.length c', .slice Q' x.facts.length d'] 27)).cell? ⟨w.heap.size + 1, 1, none⟩ = some (.slice Q' x.facts.length d') by simp [go_sem])
  have c1 := eqRelationS_c _ _ x.rels _ ((hR.below hE (Nat.le_refl _)).more hE.size) ((hR'.below hE (Nat.le_refl _)).more hE.size)
  have HF := Lib.hid hF
  have HF' := Lib.hid hF'
  clear hR hF hR' hF'
  go_enter Try.func28, Try.ntmps28
  go_wp2_with fail
  refine c1.mono ?_
  rintro e w1 ⟨rfl, hb1⟩
  clear c1
  have hB1 : Below w.heap.size w w1 := hE.trans (hb1.mono hE.size)
  have f1 := (hb1.cell (p := ⟨w.heap.size, 1, none⟩) (by show w.heap.size < _; omega)).trans K1.out
  have f2 := (hb1.cell (p := ⟨w.heap.size + 1, 1, none⟩) (by show w.heap.size + 1 < _; omega)).trans K2.out
  go_wp2_with fail
  refine (eqFactS_c _ _ x.facts w1 ((HF.out.below hB1 (Nat.le_refl _)).more hB1.size) ((HF'.out.below hB1 (Nat.le_refl _)).more hB1.size)).mono ?_
  rintro e w2 ⟨rfl, hb2⟩
  go_wp2
  go_ret
  exact ⟨rfl, hB1.trans (hb2.mono hB1.size)⟩

end Go.Proofs.Ytbdgdphehbkjgaa
