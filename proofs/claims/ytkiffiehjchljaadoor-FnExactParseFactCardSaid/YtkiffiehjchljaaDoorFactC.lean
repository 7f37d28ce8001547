/-
  Walks and plain lemmas for the laws of this seat: what single Go functions return, for every argument.
-/
import Derived.Test.YtkiffiehjchljaaDoorFactF
import Derived.Test.YtkiffiehjchljaaDoorTyFact
import Derived.Test.YtkiffiehjchljaaDoorFactH
namespace Go.Proofs.YtkiffiehjchljaaDoor
open Go.RowKit

theorem eqFact_c (v u : Value) (x : Fct) (w : World) (h : Fact_at w w.heap.size v x) (h' : Fact_at w w.heap.size u x) :
    Calls Tryd.prog 12 #[v, u] w fun e w' => e = .returned (.bool true) ∧ Below w.heap.size w w' := by
  obtain ⟨V, rfl, h⟩ := h
  obtain ⟨U, rfl, h'⟩ := h'
  exact eqFact_any x.rel V U x.vals w h h'

theorem szFact_c (v : Value) (x : Fct) (left : Int) (w : World) (h : Fact_at w w.heap.size v x) (_ : Fact_wf x) (h0 : 0 ≤ left) (h1 : left ≤ 1048576) :
    Calls Tryd.prog 6 #[v, .int .i64 left] w fun e w' => e = .returned (.int .i64 (szLeft left (Fact_sz x : Nat))) ∧ Below w.heap.size w w' := by
  obtain ⟨V, rfl, h⟩ := h
  exact szFact_any x.rel V x.vals left w h h0 h1

theorem toFact_c (v : Value) (x : Fct) (w : World) (h : Fact_at w w.heap.size v x) (hn : Fact_sz x ≤ 1048576) :
    Calls Tryd.prog 9 #[v] w fun e w' => ∃ u, e = .returned u ∧ Fact_own w.heap.size w'.heap.size u x w' ∧ Below w.heap.size w w' := by
  obtain ⟨V, rfl, h⟩ := h
  exact (toFact_any x.rel V x.vals w h hn).mono fun _ _ ⟨u, he, ho, hb⟩ => ⟨_, he, ⟨u, rfl, IntsO.of ho⟩, hb⟩

theorem heldFact_c (v : Value) (x : Fct) (k : Nat) (w : World) (h : Fact_at w w.heap.size v (Fact_mk k x)) (hn : Fact_sz x ≤ 1048576) (_ : 1 ≤ k) (hk : k ≤ 1000000000) :
    Calls Tryd.prog 17 #[v, .int .i64 (k : Int)] w fun e w' => e = .returned (.int .i64 ((k + Fact_cnt x : Nat) : Int)) ∧ Below w.heap.size w w' := by
  obtain ⟨V, rfl, h⟩ := h
  exact (heldFact_any x.rel V x.vals.length k w h hn (by omega)).mono fun _ _ ⟨he, hb⟩ => ⟨by rw [he, Int.natCast_add]; rfl, hb⟩

theorem markFact_c (B C : Nat) (v : Value) (x : Fct) (k : Nat) (w : World) (h : Fact_own B C v x w) (hn : Fact_sz x ≤ 1048576) (_ : 1 ≤ k) (hk : k ≤ 1000000000) :
    Calls Tryd.prog 16 #[v, .int .i64 (k : Int)] w fun e w' => e = .returned (.int .i64 ((k + Fact_cnt x : Nat) : Int)) ∧ Fact_own B C v (Fact_mk k x) w' ∧ Chg (Mid B C) w w' := by
  obtain ⟨V, rfl, h⟩ := h
  exact (markFact_any B x.rel V x.vals k w h.1 hn (by omega)).mono fun _ _ ⟨he, ho, hc⟩ => ⟨by rw [he, Int.natCast_add]; rfl, ⟨V, rfl, ho, h.2⟩, hc.mono fun g hg => ⟨(h.1.lt g hg).1, h.2 g hg⟩⟩

end Go.Proofs.YtkiffiehjchljaaDoor
