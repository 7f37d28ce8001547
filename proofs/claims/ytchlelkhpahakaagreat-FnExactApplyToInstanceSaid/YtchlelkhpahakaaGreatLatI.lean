/-
  Walks and plain lemmas for the laws of this seat: what single Go functions return, for every argument.
-/
import Derived.Test.YtchlelkhpahakaaGreatBase
import Derived.Test.YtchlelkhpahakaaGreatInts
namespace Go.Proofs.YtchlelkhpahakaaGreat
open Go.RowKit

theorem IntS_at.later {w w' : World} {v : Value} {l : List Int} (h : IntS_at w w.heap.size v l) (hb : Below w.heap.size w w') : IntS_at w' w'.heap.size v l := (h.below hb (Nat.le_refl _)).more hb.size

end Go.Proofs.YtchlelkhpahakaaGreat
