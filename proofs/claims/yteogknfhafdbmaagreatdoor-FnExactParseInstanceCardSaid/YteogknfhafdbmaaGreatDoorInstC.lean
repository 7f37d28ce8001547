/-
  Walks and plain lemmas for the laws of this seat: what single Go functions return, for every argument.
-/
import Derived.Test.YteogknfhafdbmaaGreatDoorRelsC
import Derived.Test.YteogknfhafdbmaaGreatDoorTyInst
import Derived.Test.YteogknfhafdbmaaGreatDoorFactSC
namespace Go.Proofs.YteogknfhafdbmaaGreatDoor
open Go.RowKit

set_option maxHeartbeats 800000 in
theorem eqInstance_c (v u : Value) (x : Inst) (w : World) (h : Instance_at w w.heap.size v x) (h' : Instance_at w w.heap.size u x) :
    Calls Tryz.prog 16 #[v, u] w fun e w' => e = .returned (.bool true) ∧ Below w.heap.size w w' := by
  obtain ⟨P, c, Q, d, rfl⟩ := Instance_form h
  obtain ⟨P', c', Q', d', rfl⟩ := Instance_form h'
  obtain ⟨V1, V2, hv, hR, hF⟩ := h
  obtain ⟨U1, U2, hu, hR', hF'⟩ := h'
  simp only [Value.agg.injEq, Array.mk.injEq, List.cons.injEq, and_true] at hv hu
  obtain ⟨rfl, rfl⟩ := hv
  obtain ⟨rfl, rfl⟩ := hu
  have hE : Below w.heap.size w ((w.alloc (.cells #[.slice P x.rels.length c, .slice Q x.facts.length d] 38)).alloc (.cells #[.slice P' x.rels.length c', .slice Q' x.facts.length d'] 38)) := below_more (below_more (Below.refl _ _) _) _
  have hEz : w.heap.size + 2 = ((w.alloc (.cells #[.slice P x.rels.length c, .slice Q x.facts.length d] 38)).alloc (.cells #[.slice P' x.rels.length c', .slice Q' x.facts.length d'] 38)).heap.size := by simp
  have K1 := Lib.hid (show ((w.alloc (.cells #[.slice P x.rels.length c, .slice Q x.facts.length d] 38)).alloc (.cells #[.slice P' x.rels.length c', .slice Q' x.facts.length d'] 38)).cell? ⟨w.heap.size, 1, none⟩ = some (.slice Q x.facts.length d) by simp [go_sem])
  have K2 := Lib.hid (show ((w.alloc (.cells #[.slice P x.rels.length c, .slice Q x.facts.length d] 38)).alloc (.cells #[.slice P' x.rels.length c', .slice Q' x.facts.length d'] 38)).cell? ⟨w.heap.size + 1, 1, none⟩ = some (.slice Q' x.facts.length d') by simp [go_sem])
  have c1 := eqRelationS_c _ _ x.rels _ ((hR.below hE (Nat.le_refl _)).more hE.size) ((hR'.below hE (Nat.le_refl _)).more hE.size)
  have HF := Lib.hid hF
  have HF' := Lib.hid hF'
  clear hR hF hR' hF'
  go_enter Tryz.func16, Tryz.ntmps16
  go_wp2_with fail
  refine c1.mono ?_
  rintro e w1 ⟨rfl, hb1⟩
  clear c1
  have hB1 : Below w.heap.size w w1 := hE.trans (hb1.mono hE.size)
  have f1 := (hb1.cell (p := ⟨w.heap.size, 1, none⟩) (by show w.heap.size < _; omega)).trans K1.out
  have f2 := (hb1.cell (p := ⟨w.heap.size + 1, 1, none⟩) (by show w.heap.size + 1 < _; omega)).trans K2.out
  go_wp2_with fail
  refine (eqFactS_c _ _ x.facts w1 ((HF.out.below hB1 (Nat.le_refl _)).more hB1.size) ((HF'.out.below hB1 (Nat.le_refl _)).more hB1.size)).mono ?_
  rintro e w2 ⟨rfl, hb2⟩
  go_wp2
  go_ret
  exact ⟨rfl, hB1.trans (hb2.mono hB1.size)⟩

def Instance_mk (k : Nat) (x : Inst) : Inst := ⟨RelationS_mk k x.rels, FactS_mk (k + RelationS_cnt x.rels) x.facts⟩
set_option maxHeartbeats 800000 in
theorem markInstance_c (B C : Nat) (v : Value) (x : Inst) (k : Nat) (w : World) (h : Instance_own B C v x w) (hn : Instance_sz x ≤ 1048576) (hk0 : 1 ≤ k) (hk : k ≤ 1000000000) :
    Calls Tryz.prog 17 #[v, .int .i64 (k : Int)] w fun e w' => e = .returned (.int .i64 ((k + Instance_cnt x : Nat) : Int)) ∧ Instance_own B C v (Instance_mk k x) w' ∧ Chg (Mid B C) w w' := by
  obtain ⟨P, c, Q, d, rfl⟩ := Instance_form (h.at_ (Nat.le_refl _))
  obtain ⟨V1, V2, hv, hR, Vs, hF⟩ := h
  simp only [Value.agg.injEq, Array.mk.injEq, List.cons.injEq, and_true] at hv
  obtain ⟨rfl, rfl⟩ := hv
  have hn1 : RelationS_sz x.rels ≤ 1048576 := by unfold Instance_sz at hn; omega
  have hn2 : FactS_sz x.facts ≤ 1048576 := by unfold Instance_sz at hn; omega
  have hcn := RelationS_cnt_le x.rels
  have hE : Below w.heap.size w (w.alloc (.cells #[.slice P x.rels.length c, .slice Q x.facts.length d] 38)) := below_more (Below.refl _ _) _
  have hEz : w.heap.size + 1 = (w.alloc (.cells #[.slice P x.rels.length c, .slice Q x.facts.length d] 38)).heap.size := by simp
  have K1 := Lib.hid (show (w.alloc (.cells #[.slice P x.rels.length c, .slice Q x.facts.length d] 38)).cell? ⟨w.heap.size, 1, none⟩ = some (.slice Q x.facts.length d) by simp [go_sem])
  have hCw : ∀ q, Mid B C q → (Value.slice P x.rels.length c).ownBlock = some q → q < w.heap.size := fun q _ hq => (hR.1.lt q hq).2
  have hRE := Chg.row (Chg.of_below (S := fun _ => False) hE) hR.1 (fun _ _ h => h)
  have c1 := markRelationS_chg B _ x.rels k _ hRE (by unfold RelationS_sz at hn1; omega) hk0 hk
  have HR := Lib.hid hR
  have HF := Lib.hid hF
  clear hR hF hRE
  go_enter Tryz.func17, Tryz.ntmps17
  go_wp2_with fail
  refine c1.mono ?_
  rintro e w1 ⟨rfl, ho1, hc1⟩
  clear c1
  have hz1 := hc1.size
  have f1 := (hc1.cell (b := w.heap.size) (o := 1) (by omega) (fun hq => by have := hCw _ ⟨(HR.out.1.lt _ hq).1, HR.out.2 _ hq⟩ hq; omega)).trans K1.out
  have hcA : Chg (fun g => (Value.slice P x.rels.length c).ownBlock = some g) w w1 := (Chg.of_below hE).trans hc1
  -- the facts lie in blocks of other types
  have hF1 : FactSO 26 B C (.slice Q x.facts.length d) Vs x.facts w1 := by
    refine ⟨HF.out.len, hcA.row HF.out.row (fun g hg hq => ?_), HF.out.ins, fun i h1 h2 => ⟨(HF.out.el i h1 h2).1.chg hcA (fun g hg hq => ?_), (HF.out.el i h1 h2).2⟩, HF.out.dis⟩
    · rcases own_ne HR.out.1 HF.out.row (by decide) with h | h
      · rw [h] at hq; cases hq
      · rw [hg, hq] at h; exact h rfl
    · rcases own_ne HR.out.1 (HF.out.el i h1 h2).1 (by decide) with h | h
      · rw [h] at hq; cases hq
      · rw [hg, hq] at h; exact h rfl
  have c2 := markFactS_any B C _ Vs x.facts (k + RelationS_cnt x.rels) w1 hF1 hn2 (by unfold RelationS_sz at *; omega)
  rw [show ((k + RelationS_cnt x.rels : Nat) : Int) = (k : Int) + 3 * (x.rels.length : Nat) by unfold RelationS_cnt; omega] at c2
  have HO1 := Lib.hid ho1
  have HF1 := Lib.hid hF1
  clear ho1 hc1 hF1
  go_wp2_with fail
  refine c2.mono ?_
  rintro e w2 ⟨rfl, ho2, hc2⟩
  have hR2 := hc2.row HO1.out (fun g hg hq => by
    rcases hq with hq | ⟨V, hV, hq⟩
    · rcases own_ne HO1.out HF1.out.row (by decide) with h | h
      · rw [h] at hg; cases hg
      · rw [hg, hq] at h; exact h rfl
    · obtain ⟨i, hi, rfl⟩ := List.getElem_of_mem hV
      rcases own_ne HO1.out (HF1.out.el i (by have := HF1.out.len; omega) hi).1 (by decide) with h | h
      · rw [h] at hg; cases hg
      · rw [hg, hq] at h; exact h rfl)
  have H2 := Lib.hid hR2
  have H3 := Lib.hid ho2
  have H4 := Lib.hid hc2
  clear hR2 ho2 hc2 c2
  go_wp2
  go_ret
  refine ⟨ret_int (by unfold Instance_cnt; unfold RelationS_cnt; omega), ⟨_, _, rfl, ⟨?_, HR.out.2⟩, ⟨Vs, H3.out⟩⟩, ?_⟩
  · have := H2.out
    unfold Instance_mk RelationS_mk OwnRels
    rw [markRels_len] at this ⊢
    exact this
  · exact (hcA.mono fun g hg => ⟨(HR.out.1.lt g hg).1, HR.out.2 g hg⟩).trans (H4.out.mono HF1.out.foot)

set_option maxHeartbeats 800000 in
theorem heldInstance_c (v : Value) (x : Inst) (k : Nat) (w : World) (h : Instance_at w w.heap.size v (Instance_mk k x)) (hn : Instance_sz x ≤ 1048576) (hk0 : 1 ≤ k) (hk : k ≤ 500000000) :
    Calls Tryz.prog 18 #[v, .int .i64 (k : Int)] w fun e w' => e = .returned (.int .i64 ((k + Instance_cnt x : Nat) : Int)) ∧ Below w.heap.size w w' := by
  obtain ⟨P, c, Q, d, rfl⟩ := Instance_form h
  obtain ⟨V1, V2, hv, hR, hF⟩ := h
  simp only [Value.agg.injEq, Array.mk.injEq, List.cons.injEq, and_true] at hv
  obtain ⟨rfl, rfl⟩ := hv
  have hn1 : RelationS_sz x.rels ≤ 1048576 := by unfold Instance_sz at hn; omega
  have hn2 : FactS_sz x.facts ≤ 1048576 := by unfold Instance_sz at hn; omega
  have hcn := RelationS_cnt_le x.rels
  have hl1 : (Instance_mk k x).rels.length = x.rels.length := by unfold Instance_mk RelationS_mk; exact markRels_len _ _
  have hl2 : (Instance_mk k x).facts.length = x.facts.length := FactS_mk_len _ _
  rw [hl1] at hR ⊢
  rw [hl2] at hF ⊢
  have hE : Below w.heap.size w (w.alloc (.cells #[.slice P x.rels.length c, .slice Q x.facts.length d] 38)) := below_more (Below.refl _ _) _
  have hEz : w.heap.size + 1 = (w.alloc (.cells #[.slice P x.rels.length c, .slice Q x.facts.length d] 38)).heap.size := by simp
  have K1 := Lib.hid (show (w.alloc (.cells #[.slice P x.rels.length c, .slice Q x.facts.length d] 38)).cell? ⟨w.heap.size, 1, none⟩ = some (.slice Q x.facts.length d) by simp [go_sem])
  have c1 := heldRelationS_c _ x.rels k _ ((hR.below hE (Nat.le_refl _)).more hE.size) hn1 hk0 (by omega)
  have HF : Hid (FactS_at w w.heap.size (.slice Q x.facts.length d) (FactS_mk (k + RelationS_cnt x.rels) x.facts)) := Lib.hid hF
  have hs : k + Instance_cnt x = k + RelationS_cnt x.rels + FactS_cnt x.facts := by unfold Instance_cnt; omega
  have hKb : k + RelationS_cnt x.rels ≤ 1000000000 ∧ 1 ≤ k + RelationS_cnt x.rels := by omega
  rw [hs]
  clear hR hF hl1 hl2 hs
  generalize k + RelationS_cnt x.rels = K at *
  go_enter Tryz.func18, Tryz.ntmps18
  go_wp2_with fail
  refine c1.mono ?_
  rintro e w1 ⟨rfl, hb1⟩
  clear c1
  have hB1 : Below w.heap.size w w1 := hE.trans (hb1.mono hE.size)
  have f1 := (hb1.cell (p := ⟨w.heap.size, 1, none⟩) (by show w.heap.size < _; omega)).trans K1.out
  have c2 := heldFactS_c _ x.facts K w1 ((HF.out.below hB1 (Nat.le_refl _)).more hB1.size) hn2 (by omega) (by omega)
  go_wp2_with fail
  refine c2.mono ?_
  rintro e w2 ⟨rfl, hb2⟩
  go_wp2
  go_ret
  exact ⟨rfl, hB1.trans (hb2.mono hB1.size)⟩

end Go.Proofs.YteogknfhafdbmaaGreatDoor
