/-
  Walks and plain lemmas for the laws of this seat: what single Go functions return, for every argument.
-/
import Derived.Test.YtbdgdphehbkjgaaMInst
import Derived.Test.YtbdgdphehbkjgaaFactS
namespace Go.Proofs.Ytbdgdphehbkjgaa
open Go.RowKit

theorem specCompareFacts_at (a b : Fct) (q : Int) (hq : cmpF a b = q) (v u : Value) (w : World) (h : Fact_at w w.heap.size v a) (h' : Fact_at w w.heap.size u b) :
    Calls Try.prog 19 #[v, u] w fun e w' => e = .returned (.int .i64 q) ∧ Below w.heap.size w w' := by
  subst hq
  obtain ⟨V, rfl, h⟩ := h
  obtain ⟨U, rfl, h'⟩ := h'
  exact specCompareFacts_any _ _ _ _ _ _ w h h'

end Go.Proofs.Ytbdgdphehbkjgaa
