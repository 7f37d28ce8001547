/-
  Walks and plain lemmas for the laws of this seat: what single Go functions return, for every argument.
-/
import Derived.Shelf.Abstract
import Derived.Test.YtchlelkhpahakaaGreatBase
import Derived.Test.YtchlelkhpahakaaGreatTyInst
import Derived.Test.YtchlelkhpahakaaGreatMInst
import Derived.Test.YtchlelkhpahakaaGreatFactVI
namespace Go.Proofs.YtchlelkhpahakaaGreat
open Go.RowKit

set_option maxHeartbeats 800000 in
theorem implSameFacts_at (a b : Fct) (q : Bool) (hq : sameP b a = q) (v u : Value) (w : World) (h : Fact_at w w.heap.size v a) (h' : Fact_at w w.heap.size u b) :
    Calls Tryz.prog 33 #[v, u] w fun e w' => e = .returned (.bool q) ∧ Below w.heap.size w w' := by
  obtain ⟨P, c, rfl⟩ := Fact_form h
  obtain ⟨Q, d, rfl⟩ := Fact_form h'
  have hE : Below w.heap.size w ((w.alloc (.cells #[.int .i64 a.rel, .slice P a.vals.length c] 52)).alloc (.cells #[.int .i64 b.rel, .slice Q b.vals.length d] 52)) := below_more (below_more (Below.refl _ _) _) _
  obtain ⟨z, hz⟩ : ∃ z, cmpF a b = z := ⟨_, rfl⟩
  have hc := implCompareFacts_at a b z hz _ _ ((w.alloc (.cells #[.int .i64 a.rel, .slice P a.vals.length c] 52)).alloc (.cells #[.int .i64 b.rel, .slice Q b.vals.length d] 52)) ((h.below hE (Nat.le_refl _)).more hE.size) ((h'.below hE (Nat.le_refl _)).more hE.size)
  have HQ := Lib.hid (show (z == 0) = q by rw [← hq, ← cmpF_same, hz]; rfl)
  clear hq hz h h'
  go_enter Tryz.func33, Tryz.ntmps33
  go_wp2_with (go_at_call 31; refine hc.mono ?_; rintro e w1 ⟨rfl, hb1⟩)
  go_ret
  exact ⟨ret_bool HQ.out, hE.trans (hb1.mono hE.size)⟩
/-- a function value that tells of a fact among l whether p holds, wherever G holds; it only makes memory -/
def TellsF (g : Nat) (lb : Array Value) (G : World → Prop) (p : Fct → Bool) (l : List Fct) : Prop :=
  ∀ (W : World) (x : Fct) (V : Value), G W → x ∈ l → IntS_at W W.heap.size V x.vals → Calls Tryz.prog g (#[.agg #[.int .i64 x.rel, V]] ++ lb) W fun e w' => e = .returned (.bool (p x)) ∧ Below W.heap.size W w'
/-- a fact in a box, which a function value has captured; all of it below block D -/
def BoxF (b D : Nat) (f : Fct) (V : Value) (W : World) : Prop := b < D ∧ D ≤ W.heap.size ∧ W.cell? ⟨b, 0, none⟩ = some (.int .i64 f.rel) ∧ W.cell? ⟨b, 1, none⟩ = some V ∧ IntS_at W D V f.vals
theorem BoxF.below {b D D' : Nat} {f : Fct} {V : Value} {W W' : World} (h : BoxF b D f V W) (hb : Below D' W W') (hD : D ≤ D') : BoxF b D f V W' := by
  obtain ⟨h1, h2, h3, h4, h5⟩ := h
  refine ⟨h1, Nat.le_trans h2 hb.size, (hb.cell (p := ⟨b, 0, none⟩) (Nat.lt_of_lt_of_le h1 hD)).trans h3, (hb.cell (p := ⟨b, 1, none⟩) (Nat.lt_of_lt_of_le h1 hD)).trans h4, h5.below hb hD⟩
theorem BoxF.later {b D : Nat} {f : Fct} {V : Value} {W W' : World} (h : BoxF b D f V W) (hb : Below W.heap.size W W') : BoxF b D f V W' := h.below hb h.2.1
theorem BoxF.more {b D D' : Nat} {f : Fct} {V : Value} {W : World} (h : BoxF b D f V W) (hD : D ≤ D') (hs : D' ≤ W.heap.size) : BoxF b D' f V W := ⟨Nat.lt_of_lt_of_le h.1 hD, hs, h.2.2.1, h.2.2.2.1, h.2.2.2.2.more hD⟩
theorem BoxF.chg {b D : Nat} {f : Fct} {V : Value} {S : Nat → Prop} {W W' : World} (h : BoxF b D f V W) (hc : Chg S W W') (hS : ∀ k, S k → D ≤ k) : BoxF b D f V W' := by
  obtain ⟨h1, h2, h3, h4, h5⟩ := h
  exact (show BoxF b D f V W from ⟨h1, h2, h3, h4, h5⟩).below (hc.below hS h2) (Nat.le_refl _)
theorem BoxF.store {b D q : Nat} {f : Fct} {V : Value} {W : World} (h : BoxF b D f V W) (hq : D ≤ q) (o : Nat) (u : Value) : BoxF b D f V (W.setCell ⟨q, o, none⟩ u) :=
  h.below ((Below.refl D W).setCell (p := ⟨q, o, none⟩) hq u) (Nat.le_refl _)

end Go.Proofs.YtchlelkhpahakaaGreat
