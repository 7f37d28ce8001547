/-
  Walks and plain lemmas for the laws of this seat: what single Go functions return, for every argument.
-/
import Derived.Test.YtoapphgahmofhaaMatK
import Derived.Test.YtoapphgahmofhaaCanI
import Derived.Test.YtoapphgahmofhaaExtI
namespace Go.Proofs.Ytoapphgahmofhaa
open Go.RowKit

set_option maxHeartbeats 3200000 in
set_option maxRecDepth 100000 in
theorem implHasExtension_any (v u : Value) (x : Inst) (l : List Atm) (bv : Value) (b : List Int) (w : World) (hx : Instance_at w w.heap.size v x) (hxw : Instance_wf x) (hl : AtomS_at w w.heap.size u l) (hlw : AtomS_wf l) (hb : IntsAt w w.heap.size bv b) :
    Calls Try.prog 14 #[v, u, bv] w fun e w' => e = .returned (.bool (hasExt x l b)) ∧ Below w.heap.size w w' := by
  have HX := Lib.hid hx
  have HL := Lib.hid hl
  have HB := Lib.hid hb
  obtain ⟨P, c, Q, d, rfl⟩ := Instance_form hx
  have HFS := Lib.hid (show FactS_at w w.heap.size (.slice Q x.facts.length d) x.facts by
    obtain ⟨V1, V2, hv, hR, hF⟩ := hx
    simp only [Value.agg.injEq, Array.mk.injEq, List.cons.injEq, and_true] at hv
    obtain ⟨rfl, rfl⟩ := hv
    exact hF)
  obtain ⟨R, q, rfl, hq1, hq2⟩ := hl.form
  obtain ⟨S, t, rfl, ht1, ht2, -, -⟩ := hb
  unfold maxLen at hq2 ht2
  clear hx hl
  obtain ⟨E, hEq⟩ : ∃ E, E = w.alloc (.cells #[.slice P x.rels.length c, .slice Q x.facts.length d] 27) := ⟨_, rfl⟩
  have hE : Below w.heap.size w E := by rw [hEq]; exact below_more (Below.refl _ _) _
  have X1 : E.cell? ⟨w.heap.size, 1, none⟩ = some (.slice Q x.facts.length d) := by rw [hEq]; simp [go_sem]
  have hEz : w.heap.size < E.heap.size := by rw [hEq]; simp
  have hok := implCan_any _ x _ l E ((HX.out.below hE (Nat.le_refl _)).more hE.size) hxw ((HL.out.below hE (Nat.le_refl _)).more hE.size)
  rw [hEq] at hok
  obtain ⟨ok, hk⟩ : ∃ ok, okM x l = ok := ⟨_, rfl⟩
  rw [hk] at hok
  cases ok with
  | false =>
    have HF := Lib.hid (show hasExt x l b = false by unfold hasExt; rw [hk]; rfl)
    clear hk
    go_enter Try.func14, Try.ntmps14
    go_wp2_with (go_at_call 43; refine hok.mono ?_; rintro e w1 ⟨rfl, hb1⟩)
    rw [← hEq] at hb1
    go_ret
    exact ⟨ret_bool HF.out.symm, hE.trans (hb1.mono hE.size)⟩
  | true =>
    by_cases hb5 : b.length = 5
    · have d5 : ((b.length : Int) == 5) = true := by rw [hb5]; rfl
      have hfit := okM_fit hlw hk
      have HF := Lib.hid (show hasExt x l b = decide (0 < (walkM x.facts l b).length) by unfold hasExt; rw [hk, decide_eq_true hb5]; rfl)
      have hx2 := fun (W : World) (hW : Below w.heap.size w W) => implHasExt_any x.facts hxw.2 l hfit b hb5 (.slice Q x.facts.length d) (.slice R l.length q) (.slice S b.length t) W ((HFS.out.below hW (Nat.le_refl _)).more hW.size) ((HL.out.below hW (Nat.le_refl _)).more hW.size) ((HB.out.below hW (Nat.le_refl _)).more hW.size)
      have HX2 := Lib.hid hx2
      clear hk hb5 hfit hx2
      go_enter Try.func14, Try.ntmps14
      go_wp2_with (first | (go_at_call 43; refine hok.mono ?_; rintro e w1 ⟨rfl, hb1⟩; rw [← hEq] at hb1; have hw1 := hE.trans (hb1.mono hE.size); have x1 := (hb1.cell (p := ⟨w.heap.size, 1, none⟩) hEz).trans X1) | (go_at_call 56; refine (HX2.out _ hw1).mono ?_; rintro e w2 ⟨rfl, hb2⟩))
      go_ret
      exact ⟨ret_bool HF.out.symm, hw1.trans (hb2.mono hw1.size)⟩
    · have d5 : ((b.length : Int) == 5) = false := by rw [beq_eq_false_iff_ne]; omega
      have HF := Lib.hid (show hasExt x l b = false by unfold hasExt; rw [decide_eq_false hb5] <;> simp)
      clear hk hb5
      go_enter Try.func14, Try.ntmps14
      go_wp2_with (go_at_call 43; refine hok.mono ?_; rintro e w1 ⟨rfl, hb1⟩)
      rw [← hEq] at hb1
      go_ret
      exact ⟨ret_bool HF.out.symm, hE.trans (hb1.mono hE.size)⟩
theorem implHasExtension_c (v : Value) (x : Inst) (u : Value) (l : List Atm) (bv : Value) (b : List Int) (w : World) (h : Instance_at w w.heap.size v x) (hw : Instance_wf x) (_ : Instance_sz x ≤ 1048576) (h' : AtomS_at w w.heap.size u l) (hw' : AtomS_wf l) (_ : AtomS_sz l ≤ 1048576) (h'' : IntS_at w w.heap.size bv b) (_ : IntS_wf b) (_ : IntS_sz b ≤ 1048576) :
    Calls Try.prog 14 #[v, u, bv] w fun e w' => e = .returned (.bool (hasExt x l b)) ∧ Below w.heap.size w w' :=
  implHasExtension_any v u x l bv b w h hw h' hw' h''

end Go.Proofs.Ytoapphgahmofhaa
