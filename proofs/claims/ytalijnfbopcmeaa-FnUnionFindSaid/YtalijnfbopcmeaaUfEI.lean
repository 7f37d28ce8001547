/-
  Walks and plain lemmas for the laws of this seat: what single Go functions return, for every argument.
-/
import Derived.Test.YtalijnfbopcmeaaTyInst
import Derived.Test.YtalijnfbopcmeaaSubsEI
namespace Go.Proofs.Ytalijnfbopcmeaa
open Go.RowKit

set_option maxHeartbeats 1600000 in
theorem implEqualUf_any (v u : Value) (x y : List Int) (w : World) (h : UnionFind_at w w.heap.size v x) (h' : UnionFind_at w w.heap.size u y) :
    Calls Try.prog 17 #[v, u] w fun e w' => e = .returned (.bool (decide (x = y))) ∧ Below w.heap.size w w' := by
  obtain ⟨P, c, rfl⟩ := UnionFind_form h
  obtain ⟨P', c', rfl⟩ := UnionFind_form h'
  have hR := h.ints
  have hR' := h'.ints
  clear h h'
  have hE : Below w.heap.size w ((w.alloc (.cells #[.slice P x.length c] 26)).alloc (.cells #[.slice P' y.length c'] 26)) := below_more (below_more (Below.refl _ _) _) _
  have hrl := implEqInts_any x y (.slice P x.length c) (.slice P' y.length c') _ ((hR.below hE (Nat.le_refl _)).more hE.size) ((hR'.below hE (Nat.le_refl _)).more hE.size)
  clear hR hR'
  go_enter Try.func17, Try.ntmps17
  go_wp2_with (go_at_call 53; refine hrl.mono ?_; rintro e w1 ⟨rfl, hb1⟩)
  go_ret
  exact ⟨rfl, hE.trans (hb1.mono hE.size)⟩
theorem implEqualUnionFinds_c (v : Value) (x : List Int) (u : Value) (y : List Int) (w : World) (h : UnionFind_at w w.heap.size v x) (_ : UnionFind_wf x) (_ : UnionFind_sz x ≤ 1048576) (h' : UnionFind_at w w.heap.size u y) (_ : UnionFind_wf y) (_ : UnionFind_sz y ≤ 1048576) :
    Calls Try.prog 17 #[v, u] w fun e w' => e = .returned (.bool (decide (x = y))) ∧ Below w.heap.size w w' := implEqualUf_any v u x y w h h'

end Go.Proofs.Ytalijnfbopcmeaa
