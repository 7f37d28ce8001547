/-
  Walks and plain lemmas for the laws of this seat: what single Go functions return, for every argument.
-/
import Derived.Test.YtdamhifomcknaaaAtomM
import Derived.Test.YtdamhifomcknaaaTyDepS
namespace Go.Proofs.Ytdamhifomcknaaa
open Go.RowKit

def depsOk (l : List Rel) (xs : List Dep) : Bool := validRels l && (decide (xs.length ≤ 5) && xs.all (depOk l))

end Go.Proofs.Ytdamhifomcknaaa
