/-
  Walks and plain lemmas for the laws of this seat: what single Go functions return, for every argument.
-/
import Derived.Test.YtakflmaeclneiaaDoorBase
import Derived.Test.YtakflmaeclneiaaDoorMem
import Derived.Test.YtakflmaeclneiaaDoorPlan
namespace Go.Proofs.YtakflmaeclneiaaDoor
open Go.RowKit

theorem SliceAt.aft {α : Type} {f : α → List Value} {w0 W : World} {v : Value} {l : List α} (h : SliceAt f w0 w0.heap.size v l) (hb : Below w0.heap.size w0 W) (u : Aft W.heap.size W) : SliceAt f u.now u.now.heap.size v l :=
  (h.below (hb.trans (u.is.mono hb.size)) (Nat.le_refl _)).more (hb.trans (u.is.mono hb.size)).size

end Go.Proofs.YtakflmaeclneiaaDoor
