/-
  Walks and plain lemmas for the laws of this seat: what single Go functions return, for every argument.
-/
import Derived.Test.YtobdijcnfmgidaaDrawI
namespace Go.Proofs.Ytobdijcnfmgidaa
open Go.RowKit

/-- an instance, drawn -/
def GivesInst1 (w : World) (e : Ending) (w' : World) : Prop :=
  ∃ V x, e = .returned V ∧ Instance_lo w.heap.size w' w'.heap.size V x ∧ InstSmall 9 x ∧ Below w.heap.size w w'
/-- two instances, drawn -/
def GivesInst2 (w : World) (e : Ending) (w' : World) : Prop :=
  ∃ V x U y, e = .returned (.tuple #[V, U]) ∧ Instance_lo w.heap.size w' w'.heap.size V x ∧ InstSmall 9 x ∧ Instance_lo w.heap.size w' w'.heap.size U y ∧ InstSmall 9 y ∧ Below w.heap.size w w'

end Go.Proofs.Ytobdijcnfmgidaa
