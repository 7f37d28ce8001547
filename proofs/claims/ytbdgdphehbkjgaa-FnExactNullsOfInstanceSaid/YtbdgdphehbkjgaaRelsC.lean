/-
  Walks and plain lemmas for the laws of this seat: what single Go functions return, for every argument.
-/
import Derived.Test.YtbdgdphehbkjgaaRels
import Derived.Test.YtbdgdphehbkjgaaRelsF
import Derived.Test.YtbdgdphehbkjgaaRelsG
namespace Go.Proofs.Ytbdgdphehbkjgaa
open Go.RowKit

theorem eqRelationS_c (v u : Value) (l : List Rel) (w : World) (h : RelationS_at w w.heap.size v l) (h' : RelationS_at w w.heap.size u l) :
    Calls Try.prog 74 #[v, u] w fun e w' => e = .returned (.bool true) ∧ Below w.heap.size w w' := by
  have := eqRelationS_any v u l l w h h'
  rwa [decide_eq_true rfl] at this

theorem szRelationS_c (v : Value) (l : List Rel) (left : Int) (w : World) (h : RelationS_at w w.heap.size v l) (hw : RelationS_wf l) (h0 : 0 ≤ left) (h1 : left ≤ 1048576) :
    Calls Try.prog 67 #[v, .int .i64 left] w fun e w' => e = .returned (.int .i64 (szLeft left (RelationS_sz l : Nat))) ∧ Below w.heap.size w w' :=
  (szRelationS_any v l left w h hw h0 h1).mono fun _ _ ⟨he, hb⟩ => ⟨by rw [he]; unfold RelationS_sz; rw [Int.natCast_add], hb⟩

theorem toRelationS_c (v : Value) (l : List Rel) (w : World) (h : RelationS_at w w.heap.size v l) (hn : RelationS_sz l ≤ 1048576) :
    Calls Try.prog 72 #[v] w fun e w' => ∃ u, e = .returned u ∧ RelationS_own w.heap.size w'.heap.size u l w' ∧ Below w.heap.size w w' :=
  (toRelationS_any v l w h (by unfold RelationS_sz at hn; omega)).mono fun _ _ ⟨u, he, ho, hb⟩ => ⟨u, he, RelationS_own.of ho, hb⟩

end Go.Proofs.Ytbdgdphehbkjgaa
