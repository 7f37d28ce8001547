/-
  Walks and plain lemmas for the laws of this seat: what single Go functions return, for every argument.
-/
import Derived.Test.YtbdgdphehbkjgaaIxF
namespace Go.Proofs.Ytbdgdphehbkjgaa
open Go.RowKit

set_option maxHeartbeats 800000 in
theorem implHasFact_at (l : List Fct) (f : Fct) (q : Bool) (hq : l.any (sameP f) = q) (v u : Value) (w : World) (hl : FactS_at w w.heap.size v l) (hf : Fact_at w w.heap.size u f) :
    Calls Try.prog 64 #[v, u] w fun e w' => e = .returned (.bool q) ∧ Below w.heap.size w w' := by
  subst hq
  obtain ⟨P, c, rfl⟩ := Fact_form hf
  obtain ⟨V, hv, hI⟩ := hf
  simp only [Value.agg.injEq, Array.mk.injEq, List.cons.injEq, and_true, true_and] at hv
  subst hv
  have hE : Below w.heap.size w (w.alloc (.cells #[.int .i64 f.rel, .slice P f.vals.length c] 30)) := below_more (Below.refl _ _) _
  have hc := implAnyF_any 103 #[.pointer (some ⟨w.heap.size, 0, none⟩)] (enters_of Try.func103 (by kernel_rfl) rfl) (BoxF w.heap.size (w.alloc (.cells #[.int .i64 f.rel, .slice P f.vals.length c] 30)).heap.size f (.slice P f.vals.length c)) (fun _ _ h hb => h.later hb) (sameP f) v l (w.alloc (.cells #[.int .i64 f.rel, .slice P f.vals.length c] 30))
    ⟨by simp, Nat.le_refl _, by simp [go_sem], by simp [go_sem], (hI.below hE (Nat.le_refl _)).more hE.size⟩ (tells_hasFact _ _ _ _ _ _) ((hl.below hE (Nat.le_refl _)).more hE.size)
  obtain ⟨A, d, rfl, -⟩ := hl.form
  clear hl hI
  go_enter Try.func64, Try.ntmps64
  go_wp2_with (go_at_call 102; refine hc.mono ?_; rintro e w1 ⟨rfl, hb1⟩)
  go_ret
  exact ⟨rfl, hE.trans (hb1.mono hE.size)⟩

end Go.Proofs.Ytbdgdphehbkjgaa
