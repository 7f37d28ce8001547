/-
  Walks and plain lemmas for the laws of this seat: what single Go functions return, for every argument.
-/
import Derived.Test.YteogknfhafdbmaaGreatDoorFmtF
import Derived.Test.YteogknfhafdbmaaGreatDoorStrs
import Derived.Test.YteogknfhafdbmaaGreatDoorFactVI
namespace Go.Proofs.YteogknfhafdbmaaGreatDoor
open Go.RowKit

theorem implIsValidFact_at (v : Value) (l : List Rel) (r : Int) (V : Value) (vs : List Int) (b : Bool) (h : factOk l r vs = b) (w : World) (hl : RelsAt w w.heap.size v l) (hV : IntsAt w w.heap.size V vs) (hw : IntsWf vs) :
    Calls Tryz.prog 30 #[v, .agg #[.int .i64 r, V]] w fun e w' => e = .returned (.bool b) ∧ Below w.heap.size w w' := by
  subst h; exact implIsValidFact_any v l r V vs w hl hV hw

end Go.Proofs.YteogknfhafdbmaaGreatDoor
