/-
  Walks and plain lemmas for the laws of this seat: what single Go functions return, for every argument.
-/
import Derived.Test.YtbdgdphehbkjgaaTyFact
import Derived.Test.YtbdgdphehbkjgaaFactF
namespace Go.Proofs.Ytbdgdphehbkjgaa
open Go.RowKit

theorem toFact_c (v : Value) (x : Fct) (w : World) (h : Fact_at w w.heap.size v x) (hn : Fact_sz x ≤ 1048576) :
    Calls Try.prog 31 #[v] w fun e w' => ∃ u, e = .returned u ∧ Fact_own w.heap.size w'.heap.size u x w' ∧ Below w.heap.size w w' := by
  obtain ⟨V, rfl, h⟩ := h
  exact (toFact_any x.rel V x.vals w h hn).mono fun _ _ ⟨u, he, ho, hb⟩ => ⟨_, he, ⟨u, rfl, IntsO.of ho⟩, hb⟩

theorem eqFact_c (v u : Value) (x : Fct) (w : World) (h : Fact_at w w.heap.size v x) (h' : Fact_at w w.heap.size u x) :
    Calls Try.prog 32 #[v, u] w fun e w' => e = .returned (.bool true) ∧ Below w.heap.size w w' := by
  obtain ⟨V, rfl, h⟩ := h
  obtain ⟨U, rfl, h'⟩ := h'
  exact eqFact_any x.rel V U x.vals w h h'

theorem szFact_c (v : Value) (x : Fct) (left : Int) (w : World) (h : Fact_at w w.heap.size v x) (_ : Fact_wf x) (h0 : 0 ≤ left) (h1 : left ≤ 1048576) :
    Calls Try.prog 29 #[v, .int .i64 left] w fun e w' => e = .returned (.int .i64 (szLeft left (Fact_sz x : Nat))) ∧ Below w.heap.size w w' := by
  obtain ⟨V, rfl, h⟩ := h
  exact szFact_any x.rel V x.vals left w h h0 h1

end Go.Proofs.Ytbdgdphehbkjgaa
