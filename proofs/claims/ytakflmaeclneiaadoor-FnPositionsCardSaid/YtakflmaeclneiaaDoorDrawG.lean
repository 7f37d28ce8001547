/-
  Walks and plain lemmas for the laws of this seat: what single Go functions return, for every argument.
-/
import Derived.Test.YtakflmaeclneiaaDoorInts
namespace Go.Proofs.YtakflmaeclneiaaDoor
open Go.RowKit

theorem OwnInts.grown {B : Nat} {v : Value} {l : List Int} {w w' : World} {p : Nat} (h : OwnInts B v l w) (hg : w.grownBy w' (some p)) (hp : p < B) : OwnInts B v l w' :=
  World.ownsRow.kept h hg (by
    cases hv : v.ownBlock with
    | none => exact Or.inl rfl
    | some k => right; intro he; injection he with he; have := (World.ownsRow.lt h k hv).1; omega)

end Go.Proofs.YtakflmaeclneiaaDoor
