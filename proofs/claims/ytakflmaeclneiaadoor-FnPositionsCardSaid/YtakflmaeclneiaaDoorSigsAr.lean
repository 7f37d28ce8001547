/-
  Walks and plain lemmas for the laws of this seat: what single Go functions return, for every argument.
-/
import Derived.Test.YtakflmaeclneiaaDoorDrawR
namespace Go.Proofs.YtakflmaeclneiaaDoor
open Go.RowKit

theorem sigs5_ar (j : Nat) (h : j < sigs5.length) : 1 ≤ sigs5[j].arity ∧ sigs5[j].arity ≤ 2 := by
  have h5 : ∀ i : Fin sigs5.length, 1 ≤ (sigs5.get i).arity ∧ (sigs5.get i).arity ≤ 2 := by decide
  exact h5 ⟨j, h⟩

end Go.Proofs.YtakflmaeclneiaaDoor
