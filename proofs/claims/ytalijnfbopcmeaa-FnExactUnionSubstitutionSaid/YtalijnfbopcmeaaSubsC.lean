/-
  Walks and plain lemmas for the laws of this seat: what single Go functions return, for every argument.
-/
import Derived.Test.YtalijnfbopcmeaaTyInst
import Derived.Test.YtalijnfbopcmeaaFactC
namespace Go.Proofs.Ytalijnfbopcmeaa
open Go.RowKit

set_option maxHeartbeats 800000 in
theorem eqSubstitution_c (v u : Value) (x : Sbst) (w : World) (h : Substitution_at w w.heap.size v x) (h' : Substitution_at w w.heap.size u x) :
    Calls Try.prog 38 #[v, u] w fun e w' => e = .returned (.bool true) ∧ Below w.heap.size w w' := by
  obtain ⟨P, c, Q, d, rfl⟩ := Substitution_form h
  obtain ⟨P', c', Q', d', rfl⟩ := Substitution_form h'
  obtain ⟨V1, V2, hv, hR, hF⟩ := h
  obtain ⟨U1, U2, hu, hR', hF'⟩ := h'
  simp only [Value.agg.injEq, Array.mk.injEq, List.cons.injEq, and_true] at hv hu
  obtain ⟨rfl, rfl⟩ := hv
  obtain ⟨rfl, rfl⟩ := hu
  have hE : Below w.heap.size w ((w.alloc (.cells #[.slice P x.nulls.length c, .slice Q x.vals.length d] 35)).alloc (.cells #[.slice P' x.nulls.length c', .slice Q' x.vals.length d'] 35)) := below_more (below_more (Below.refl _ _) _) _
  have hEz : w.heap.size + 2 = ((w.alloc (.cells #[.slice P x.nulls.length c, .slice Q x.vals.length d] 35)).alloc (.cells #[.slice P' x.nulls.length c', .slice Q' x.vals.length d'] 35)).heap.size := by simp
  have K1 := Lib.hid (show ((w.alloc (.cells #[.slice P x.nulls.length c, .slice Q x.vals.length d] 35)).alloc (.cells #[.slice P' x.nulls.length c', .slice Q' x.vals.length d'] 35)).cell? ⟨w.heap.size, 1, none⟩ = some (.slice Q x.vals.length d) by simp [go_sem])
  have K2 := Lib.hid (show ((w.alloc (.cells #[.slice P x.nulls.length c, .slice Q x.vals.length d] 35)).alloc (.cells #[.slice P' x.nulls.length c', .slice Q' x.vals.length d'] 35)).cell? ⟨w.heap.size + 1, 1, none⟩ = some (.slice Q' x.vals.length d') by simp [go_sem])
  have c1 := eqIntS_c _ _ x.nulls _ ((hR.below hE (Nat.le_refl _)).more hE.size) ((hR'.below hE (Nat.le_refl _)).more hE.size)
  have HF := Lib.hid hF
  have HF' := Lib.hid hF'
  clear hR hF hR' hF'
  go_enter Try.func38, Try.ntmps38
  go_wp2_with fail
  refine c1.mono ?_
  rintro e w1 ⟨rfl, hb1⟩
  clear c1
  have hB1 : Below w.heap.size w w1 := hE.trans (hb1.mono hE.size)
  have f1 := (hb1.cell (p := ⟨w.heap.size, 1, none⟩) (by show w.heap.size < _; omega)).trans K1.out
  have f2 := (hb1.cell (p := ⟨w.heap.size + 1, 1, none⟩) (by show w.heap.size + 1 < _; omega)).trans K2.out
  go_wp2_with fail
  refine (eqIntS_c _ _ x.vals w1 ((HF.out.below hB1 (Nat.le_refl _)).more hB1.size) ((HF'.out.below hB1 (Nat.le_refl _)).more hB1.size)).mono ?_
  rintro e w2 ⟨rfl, hb2⟩
  go_wp2
  go_ret
  exact ⟨rfl, hB1.trans (hb2.mono hB1.size)⟩

def Substitution_mk (k : Nat) (x : Sbst) : Sbst := ⟨IntS_mk k x.nulls, IntS_mk (k + IntS_cnt x.nulls) x.vals⟩
set_option maxHeartbeats 800000 in
theorem markSubstitution_c (B C : Nat) (v : Value) (x : Sbst) (k : Nat) (w : World) (h : Substitution_own B C v x w) (hn : Substitution_sz x ≤ 1048576) (hk0 : 1 ≤ k) (hk : k ≤ 1000000000) :
    Calls Try.prog 39 #[v, .int .i64 (k : Int)] w fun e w' => e = .returned (.int .i64 ((k + Substitution_cnt x : Nat) : Int)) ∧ Substitution_own B C v (Substitution_mk k x) w' ∧ Chg (Mid B C) w w' := by
  obtain ⟨P, c, Q, d, rfl⟩ := Substitution_form (h.at_ (Nat.le_refl _))
  obtain ⟨V1, V2, hv, hR, hF, hne⟩ := h
  simp only [Value.agg.injEq, Array.mk.injEq, List.cons.injEq, and_true] at hv
  obtain ⟨rfl, rfl⟩ := hv
  have hn1 : IntS_sz x.nulls ≤ 1048576 := by unfold Substitution_sz at hn; omega
  have hn2 : IntS_sz x.vals ≤ 1048576 := by unfold Substitution_sz at hn; omega
  have hE : Below w.heap.size w (w.alloc (.cells #[.slice P x.nulls.length c, .slice Q x.vals.length d] 35)) := below_more (Below.refl _ _) _
  have hEz : w.heap.size + 1 = (w.alloc (.cells #[.slice P x.nulls.length c, .slice Q x.vals.length d] 35)).heap.size := by simp
  have K1 := Lib.hid (show (w.alloc (.cells #[.slice P x.nulls.length c, .slice Q x.vals.length d] 35)).cell? ⟨w.heap.size, 1, none⟩ = some (.slice Q x.vals.length d) by simp [go_sem])
  have hCw : ∀ q, (Value.slice P x.nulls.length c).ownBlock = some q → q < w.heap.size := fun q hq => (hR.1.lt q hq).2
  have hRE := OwnInts.chg hR.1 (Chg.of_below (S := fun _ => False) hE) (fun _ _ h => h)
  have c1 := markIntS_any B _ x.nulls k _ hRE hn1 (by omega)
  have HR := Lib.hid hR
  have HF := Lib.hid hF
  clear hR hF hRE
  go_enter Try.func39, Try.ntmps39
  go_wp2_with fail
  refine c1.mono ?_
  rintro e w1 ⟨rfl, ho1, hc1⟩
  clear c1
  have hz1 := hc1.size
  have f1 := (hc1.cell (b := w.heap.size) (o := 1) (by omega) (fun hq => by have := hCw _ hq; omega)).trans K1.out
  have hcA : Chg (fun g => (Value.slice P x.nulls.length c).ownBlock = some g) w w1 := (Chg.of_below hE).trans hc1
  have hF1 : OwnInts B (.slice Q x.vals.length d) x.vals w1 := HF.out.1.chg hcA (fun g hg hq => hne g hq hg)
  have c2 := markIntS_any B _ x.vals (k + IntS_cnt x.nulls) w1 hF1 hn2 (by unfold IntS_cnt; unfold IntS_sz at hn1; omega)
  rw [show ((k + IntS_cnt x.nulls : Nat) : Int) = (k : Int) + (x.nulls.length : Nat) by unfold IntS_cnt; omega] at c2
  have HO1 := Lib.hid ho1
  have HF1 := Lib.hid hF1
  have HA := Lib.hid hcA
  clear ho1 hc1 hF1 hcA
  go_wp2_with fail
  refine c2.mono ?_
  rintro e w2 ⟨rfl, ho2, hc2⟩
  have H2 := Lib.hid (HO1.out.chg hc2 (fun g hg hq => hne g hg hq))
  have H3 := Lib.hid ho2
  have H4 := Lib.hid hc2
  clear ho2 hc2 c2
  go_wp2
  go_ret
  refine ⟨ret_int (by unfold Substitution_cnt; unfold IntS_cnt; omega), ⟨_, _, rfl, ⟨?_, HR.out.2⟩, ⟨?_, HF.out.2⟩, hne⟩, ?_⟩
  · have := H2.out
    unfold Substitution_mk IntS_mk
    exact this
  · have := H3.out
    unfold Substitution_mk IntS_mk
    exact this
  · exact (HA.out.mono fun g hg => ⟨(HR.out.1.lt g hg).1, HR.out.2 g hg⟩).trans (H4.out.mono fun g hg => ⟨(HF1.out.lt g hg).1, HF.out.2 g hg⟩)

set_option maxHeartbeats 800000 in
theorem heldSubstitution_c (v : Value) (x : Sbst) (k : Nat) (w : World) (h : Substitution_at w w.heap.size v (Substitution_mk k x)) (hn : Substitution_sz x ≤ 1048576) (hk0 : 1 ≤ k) (hk : k ≤ 500000000) :
    Calls Try.prog 40 #[v, .int .i64 (k : Int)] w fun e w' => e = .returned (.int .i64 ((k + Substitution_cnt x : Nat) : Int)) ∧ Below w.heap.size w w' := by
  obtain ⟨P, c, Q, d, rfl⟩ := Substitution_form h
  obtain ⟨V1, V2, hv, hR, hF⟩ := h
  simp only [Value.agg.injEq, Array.mk.injEq, List.cons.injEq, and_true] at hv
  obtain ⟨rfl, rfl⟩ := hv
  have hn1 : IntS_sz x.nulls ≤ 1048576 := by unfold Substitution_sz at hn; omega
  have hn2 : IntS_sz x.vals ≤ 1048576 := by unfold Substitution_sz at hn; omega
  have hcn := IntS_cnt_le x.nulls
  have hl1 : (Substitution_mk k x).nulls.length = x.nulls.length := by unfold Substitution_mk IntS_mk; exact markInts_len _ _
  have hl2 : (Substitution_mk k x).vals.length = x.vals.length := by unfold Substitution_mk IntS_mk; exact markInts_len _ _
  rw [hl1] at hR ⊢
  rw [hl2] at hF ⊢
  have hE : Below w.heap.size w (w.alloc (.cells #[.slice P x.nulls.length c, .slice Q x.vals.length d] 35)) := below_more (Below.refl _ _) _
  have hEz : w.heap.size + 1 = (w.alloc (.cells #[.slice P x.nulls.length c, .slice Q x.vals.length d] 35)).heap.size := by simp
  have K1 := Lib.hid (show (w.alloc (.cells #[.slice P x.nulls.length c, .slice Q x.vals.length d] 35)).cell? ⟨w.heap.size, 1, none⟩ = some (.slice Q x.vals.length d) by simp [go_sem])
  have c1 := heldIntS_c _ x.nulls k _ ((hR.below hE (Nat.le_refl _)).more hE.size) hn1 hk0 (by omega)
  have HF : Hid (IntS_at w w.heap.size (.slice Q x.vals.length d) (IntS_mk (k + IntS_cnt x.nulls) x.vals)) := Lib.hid hF
  have hs : k + Substitution_cnt x = k + IntS_cnt x.nulls + IntS_cnt x.vals := by unfold Substitution_cnt; omega
  have hKb : k + IntS_cnt x.nulls ≤ 1000000000 ∧ 1 ≤ k + IntS_cnt x.nulls := by omega
  rw [hs]
  clear hR hF hl1 hl2 hs
  generalize k + IntS_cnt x.nulls = K at *
  go_enter Try.func40, Try.ntmps40
  go_wp2_with fail
  refine c1.mono ?_
  rintro e w1 ⟨rfl, hb1⟩
  clear c1
  have hB1 : Below w.heap.size w w1 := hE.trans (hb1.mono hE.size)
  have f1 := (hb1.cell (p := ⟨w.heap.size, 1, none⟩) (by show w.heap.size < _; omega)).trans K1.out
  have c2 := heldIntS_c _ x.vals K w1 ((HF.out.below hB1 (Nat.le_refl _)).more hB1.size) hn2 (by omega) (by omega)
  go_wp2_with fail
  refine c2.mono ?_
  rintro e w2 ⟨rfl, hb2⟩
  go_wp2
  go_ret
  exact ⟨rfl, hB1.trans (hb2.mono hB1.size)⟩

end Go.Proofs.Ytalijnfbopcmeaa
