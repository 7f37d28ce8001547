/-
  Walks and plain lemmas for the laws of this seat: what single Go functions return, for every argument.
-/
import Derived.Test.YtbdgdphehbkjgaaTyInst
import Derived.Test.YtbdgdphehbkjgaaRelsC
import Derived.Test.YtbdgdphehbkjgaaFactSz
namespace Go.Proofs.Ytbdgdphehbkjgaa
open Go.RowKit

theorem szLeft_add {left a b : Int} : szLeft (left - a) b = szLeft left (a + b) := by
  unfold szLeft; split <;> split <;> omega
set_option maxHeartbeats 800000 in
theorem szInstance_c (v : Value) (x : Inst) (left : Int) (w : World) (h : Instance_at w w.heap.size v x) (hw : Instance_wf x) (h0 : 0 ≤ left) (h1 : left ≤ 1048576) :
    Calls Try.prog 25 #[v, .int .i64 left] w fun e w' => e = .returned (.int .i64 (szLeft left (Instance_sz x : Nat))) ∧ Below w.heap.size w w' := by
  obtain ⟨P, c, Q, d, rfl⟩ := Instance_form h
  obtain ⟨V1, V2, hv, hR, hF⟩ := h
  simp only [Value.agg.injEq, Array.mk.injEq, List.cons.injEq, and_true] at hv
  obtain ⟨rfl, rfl⟩ := hv
  have hE : Below w.heap.size w (w.alloc (.cells #[.slice P x.rels.length c, .slice Q x.facts.length d] 44)) := (Below.refl _ _).alloc (Nat.le_refl _) _
  have hEz : w.heap.size + 1 ≤ (w.alloc (.cells #[.slice P x.rels.length c, .slice Q x.facts.length d] 44)).heap.size := by simp
  have K1 := Lib.hid (show (w.alloc (.cells #[.slice P x.rels.length c, .slice Q x.facts.length d] 44)).cell? ⟨w.heap.size, 1, none⟩ = some (.slice Q x.facts.length d) by simp [go_sem])
  have hsz : ((Instance_sz x : Nat) : Int) = ((RelationS_sz x.rels : Nat) : Int) + ((FactS_sz x.facts : Nat) : Int) := by unfold Instance_sz; omega
  rw [hsz]
  clear hsz
  have c1 := szRelationS_c _ x.rels left _ ((hR.below hE (Nat.le_refl _)).more hE.size) hw.1 h0 h1
  have HF := Lib.hid hF
  clear hR hF
  by_cases hr : ((RelationS_sz x.rels : Nat) : Int) ≤ left
  · have e1 := szLeft_yes hr
    have e2 := Lib.hid (szLeft_add (left := left) (a := (RelationS_sz x.rels : Nat)) (b := (FactS_sz x.facts : Nat)))
    rw [e1] at c1
    go_enter Try.func25, Try.ntmps25
    go_wp2_with fail
    refine c1.mono ?_
    rintro e w1 ⟨rfl, hb1⟩
    clear c1
    have hz1 := hb1.size
    have f1 := (hb1.cell (p := ⟨w.heap.size, 1, none⟩) hEz).trans K1.out
    have hB1 : Below w.heap.size w w1 := hE.trans (hb1.mono hE.size)
    have c2 := szFactS_c _ x.facts (left - (RelationS_sz x.rels : Nat)) w1 ((HF.out.below hB1 (Nat.le_refl _)).more hB1.size) hw.2 (by omega) (by omega)
    by_cases hf : ((FactS_sz x.facts : Nat) : Int) ≤ left - (RelationS_sz x.rels : Nat)
    · have e3 := szLeft_yes hf
      rw [e3] at c2 e2
      clear e1 e3
      go_wp2_with fail
      refine c2.mono ?_
      rintro e w2 ⟨rfl, hb2⟩
      go_wp2
      go_ret
      exact ⟨ret_int e2.out, hB1.trans (hb2.mono hB1.size)⟩
    · have e3 := szLeft_no hf
      rw [e3] at c2 e2
      clear e1 e3
      go_wp2_with fail
      refine c2.mono ?_
      rintro e w2 ⟨rfl, hb2⟩
      go_wp2
      go_ret
      exact ⟨ret_int e2.out, hB1.trans (hb2.mono hB1.size)⟩
  · have e1 := szLeft_no hr
    have e2 := Lib.hid (szLeft_no (left := left) (n := ((RelationS_sz x.rels : Nat) : Int) + ((FactS_sz x.facts : Nat) : Int)) (by omega))
    rw [e1] at c1
    clear e1
    go_enter Try.func25, Try.ntmps25
    go_wp2_with fail
    refine c1.mono ?_
    rintro e w1 ⟨rfl, hb1⟩
    go_wp2
    go_ret
    exact ⟨ret_int e2.out.symm, hE.trans (hb1.mono hE.size)⟩

end Go.Proofs.Ytbdgdphehbkjgaa
