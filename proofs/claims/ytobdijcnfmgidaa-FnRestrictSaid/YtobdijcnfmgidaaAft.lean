/-
  Walks and plain lemmas for the laws of this seat: what single Go functions return, for every argument.
-/
import Derived.Test.YtobdijcnfmgidaaBase
import Derived.Test.YtobdijcnfmgidaaMem
import Derived.Test.YtobdijcnfmgidaaInts
import Derived.Test.YtobdijcnfmgidaaPlan
namespace Go.Proofs.Ytobdijcnfmgidaa
open Go.RowKit

theorem SliceAt.aft {α : Type} {f : α → List Value} {w0 W : World} {v : Value} {l : List α} (h : SliceAt f w0 w0.heap.size v l) (hb : Below w0.heap.size w0 W) (u : Aft W.heap.size W) : SliceAt f u.now u.now.heap.size v l :=
  (h.below (hb.trans (u.is.mono hb.size)) (Nat.le_refl _)).more (hb.trans (u.is.mono hb.size)).size

theorem OwnInts.grown {B : Nat} {v : Value} {l : List Int} {w w' : World} {p : Nat} (h : OwnInts B v l w) (hg : w.grownBy w' (some p)) (hp : p < B) : OwnInts B v l w' :=
  World.ownsRow.kept h hg (by
    cases hv : v.ownBlock with
    | none => exact Or.inl rfl
    | some k => right; intro he; injection he with he; have := (World.ownsRow.lt h k hv).1; omega)

theorem IntS_at.later {w w' : World} {v : Value} {l : List Int} (h : IntS_at w w.heap.size v l) (hb : Below w.heap.size w w') : IntS_at w' w'.heap.size v l := (h.below hb (Nat.le_refl _)).more hb.size

end Go.Proofs.Ytobdijcnfmgidaa
