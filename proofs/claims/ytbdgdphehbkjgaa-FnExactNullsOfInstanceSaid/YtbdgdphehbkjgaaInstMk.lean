/-
  Walks and plain lemmas for the laws of this seat: what single Go functions return, for every argument.
-/
import Derived.Test.YtbdgdphehbkjgaaTyInst
import Derived.Test.YtbdgdphehbkjgaaRelsC2
import Derived.Test.YtbdgdphehbkjgaaFactSm
namespace Go.Proofs.Ytbdgdphehbkjgaa
open Go.RowKit

def Instance_mk (k : Nat) (x : Inst) : Inst := ⟨RelationS_mk k x.rels, FactS_mk (k + RelationS_cnt x.rels) x.facts⟩
set_option maxHeartbeats 800000 in
theorem markInstance_c (B C : Nat) (v : Value) (x : Inst) (k : Nat) (w : World) (h : Instance_own B C v x w) (hn : Instance_sz x ≤ 1048576) (hk0 : 1 ≤ k) (hk : k ≤ 1000000000) :
    Calls Try.prog 33 #[v, .int .i64 (k : Int)] w fun e w' => e = .returned (.int .i64 ((k + Instance_cnt x : Nat) : Int)) ∧ Instance_own B C v (Instance_mk k x) w' ∧ Chg (Mid B C) w w' := by
  obtain ⟨P, c, Q, d, rfl⟩ := Instance_form (h.at_ (Nat.le_refl _))
  obtain ⟨V1, V2, hv, hR, Vs, hF⟩ := h
  simp only [Value.agg.injEq, Array.mk.injEq, List.cons.injEq, and_true] at hv
  obtain ⟨rfl, rfl⟩ := hv
  have hn1 : RelationS_sz x.rels ≤ 1048576 := by unfold Instance_sz at hn; omega
  have hn2 : FactS_sz x.facts ≤ 1048576 := by unfold Instance_sz at hn; omega
  have hcn := RelationS_cnt_le x.rels
  have hE : Below w.heap.size w (w.alloc (.cells #[.slice P x.rels.length c, .slice Q x.facts.length d] 27)) := below_more (Below.refl _ _) _
  have hEz : w.heap.size + 1 = (w.alloc (.cells #[.slice P x.rels.length c, .slice Q x.facts.length d] 27)).heap.size := by simp
  have K1 := Lib.hid (show (w.alloc (.cells #[.slice P x.rels.length c, .slice Q x.facts.length d] 27)).cell? ⟨w.heap.size, 1, none⟩ = some (.slice Q x.facts.length d) by simp [go_sem])
  have hCw : ∀ q, Mid B C q → (Value.slice P x.rels.length c).ownBlock = some q → q < w.heap.size := fun q _ hq => (hR.1.lt q hq).2
  have hRE := Chg.row (Chg.of_below (S := fun _ => False) hE) hR.1 (fun _ _ h => h)
  have c1 := markRelationS_chg B _ x.rels k _ hRE (by unfold RelationS_sz at hn1; omega) hk0 hk
  have HR := Lib.hid hR
  have HF := Lib.hid hF
  clear hR hF hRE
  go_enter Try.func33, Try.ntmps33
  go_wp2_with fail
  refine c1.mono ?_
  rintro e w1 ⟨rfl, ho1, hc1⟩
  clear c1
  have hz1 := hc1.size
  have f1 := (hc1.cell (b := w.heap.size) (o := 1) (by omega) (fun hq => by have := hCw _ ⟨(HR.out.1.lt _ hq).1, HR.out.2 _ hq⟩ hq; omega)).trans K1.out
  have hcA : Chg (fun g => (Value.slice P x.rels.length c).ownBlock = some g) w w1 := (Chg.of_below hE).trans hc1
  -- the facts lie in blocks of other types
  have hF1 : FactSO 30 B C (.slice Q x.facts.length d) Vs x.facts w1 := by
    refine ⟨HF.out.len, hcA.row HF.out.row (fun g hg hq => ?_), HF.out.ins, fun i h1 h2 => ⟨(HF.out.el i h1 h2).1.chg hcA (fun g hg hq => ?_), (HF.out.el i h1 h2).2⟩, HF.out.dis⟩
    · rcases own_ne HR.out.1 HF.out.row (by decide) with h | h
      · rw [h] at hq; cases hq
      · rw [hg, hq] at h; exact h rfl
    · rcases own_ne HR.out.1 (HF.out.el i h1 h2).1 (by decide) with h | h
      · rw [h] at hq; cases hq
      · rw [hg, hq] at h; exact h rfl
  have c2 := markFactS_any B C _ Vs x.facts (k + RelationS_cnt x.rels) w1 hF1 hn2 (by unfold RelationS_sz at *; omega)
  rw [show ((k + RelationS_cnt x.rels : Nat) : Int) = (k : Int) + 3 * (x.rels.length : Nat) by unfold RelationS_cnt; omega] at c2
  have HO1 := Lib.hid ho1
  have HF1 := Lib.hid hF1
  clear ho1 hc1 hF1
  go_wp2_with fail
  refine c2.mono ?_
  rintro e w2 ⟨rfl, ho2, hc2⟩
  have hR2 := hc2.row HO1.out (fun g hg hq => by
    rcases hq with hq | ⟨V, hV, hq⟩
    · rcases own_ne HO1.out HF1.out.row (by decide) with h | h
      · rw [h] at hg; cases hg
      · rw [hg, hq] at h; exact h rfl
    · obtain ⟨i, hi, rfl⟩ := List.getElem_of_mem hV
      rcases own_ne HO1.out (HF1.out.el i (by have := HF1.out.len; omega) hi).1 (by decide) with h | h
      · rw [h] at hg; cases hg
      · rw [hg, hq] at h; exact h rfl)
  have H2 := Lib.hid hR2
  have H3 := Lib.hid ho2
  have H4 := Lib.hid hc2
  clear hR2 ho2 hc2 c2
  go_wp2
  go_ret
  refine ⟨ret_int (by unfold Instance_cnt; unfold RelationS_cnt; omega), ⟨_, _, rfl, ⟨?_, HR.out.2⟩, ⟨Vs, H3.out⟩⟩, ?_⟩
  · have := H2.out
    unfold Instance_mk RelationS_mk OwnRels
    rw [markRels_len] at this ⊢
    exact this
  · exact (hcA.mono fun g hg => ⟨(HR.out.1.lt g hg).1, HR.out.2 g hg⟩).trans (H4.out.mono HF1.out.foot)

end Go.Proofs.Ytbdgdphehbkjgaa
