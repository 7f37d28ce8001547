/-
  Walks and plain lemmas for the laws of this seat: what single Go functions return, for every argument.
-/
import Derived.Test.YtalijnfbopcmeaaTyInst
import Derived.Test.YtalijnfbopcmeaaCmpI
namespace Go.Proofs.Ytalijnfbopcmeaa
open Go.RowKit

set_option maxHeartbeats 1600000 in
theorem specEqualUf_any (v u : Value) (x y : List Int) (w : World) (h : UnionFind_at w w.heap.size v x) (h' : UnionFind_at w w.heap.size u y) :
    Calls Try.prog 16 #[v, u] w fun e w' => e = .returned (.bool (decide (x = y))) ∧ Below w.heap.size w w' := by
  obtain ⟨P, c, rfl⟩ := UnionFind_form h
  obtain ⟨P', c', rfl⟩ := UnionFind_form h'
  have hR := h.ints
  have hR' := h'.ints
  clear h h'
  have hE : Below w.heap.size w ((w.alloc (.cells #[.slice P x.length c] 26)).alloc (.cells #[.slice P' y.length c'] 26)) := below_more (below_more (Below.refl _ _) _) _
  have hrl := specInts_any (.slice P x.length c) (.slice P' y.length c') x y _ ((hR.below hE (Nat.le_refl _)).more hE.size) ((hR'.below hE (Nat.le_refl _)).more hE.size)
  have HV := Lib.hid (show decide (cmpInts x y = 0) = decide (x = y) from decide_eq_decide.2 (cmpInts_zero x y))
  clear hR hR'
  generalize cmpInts x y = p at *
  by_cases hp : p = 0
  · subst hp
    have hz : ((0 : Int) == 0) = true := rfl
    go_enter Try.func16, Try.ntmps16
    go_wp2_with (go_at_call 52; refine hrl.mono ?_; rintro e w1 ⟨rfl, hb1⟩)
    go_ret
    exact ⟨ret_bool HV.out, hE.trans (hb1.mono hE.size)⟩
  · have hb : (p == 0) = false := beq_eq_false_iff_ne.2 hp
    have HV2 := Lib.hid (show false = decide (x = y) by rw [← HV.out, decide_eq_false hp])
    clear hp
    go_enter Try.func16, Try.ntmps16
    go_wp2_with (go_at_call 52; refine hrl.mono ?_; rintro e w1 ⟨rfl, hb1⟩)
    go_ret
    exact ⟨ret_bool HV2.out, hE.trans (hb1.mono hE.size)⟩
theorem specEqualUnionFinds_c (v : Value) (x : List Int) (u : Value) (y : List Int) (w : World) (h : UnionFind_at w w.heap.size v x) (_ : UnionFind_wf x) (_ : UnionFind_sz x ≤ 1048576) (h' : UnionFind_at w w.heap.size u y) (_ : UnionFind_wf y) (_ : UnionFind_sz y ≤ 1048576) :
    Calls Try.prog 16 #[v, u] w fun e w' => e = .returned (.bool (decide (x = y))) ∧ Below w.heap.size w w' := specEqualUf_any v u x y w h h'

end Go.Proofs.Ytalijnfbopcmeaa
