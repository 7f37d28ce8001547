/-
  Walks and plain lemmas for the laws of this seat: what single Go functions return, for every argument.
-/
import Derived.Test.YtmaoojdoiccgdaaGreatDoorFmtF
import Derived.Test.YtmaoojdoiccgdaaGreatDoorStrs
import Derived.Test.YtmaoojdoiccgdaaGreatDoorFactVI
namespace Go.Proofs.YtmaoojdoiccgdaaGreatDoor
open Go.RowKit

theorem implIsValidFact_at (v : Value) (l : List Rel) (r : Int) (V : Value) (vs : List Int) (b : Bool) (h : factOk l r vs = b) (w : World) (hl : RelsAt w w.heap.size v l) (hV : IntsAt w w.heap.size V vs) (hw : IntsWf vs) :
    Calls Tryz.prog 46 #[v, .agg #[.int .i64 r, V]] w fun e w' => e = .returned (.bool b) ∧ Below w.heap.size w w' := by
  subst h; exact implIsValidFact_any v l r V vs w hl hV hw

end Go.Proofs.YtmaoojdoiccgdaaGreatDoor
