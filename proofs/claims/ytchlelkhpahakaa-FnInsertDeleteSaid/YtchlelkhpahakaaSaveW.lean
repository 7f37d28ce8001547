/-
  Walks and plain lemmas for the laws of this seat: what single Go functions return, for every argument.
-/
import Derived.Test.YtchlelkhpahakaaMem
import Derived.Test.YtchlelkhpahakaaPlan
namespace Go.Proofs.Ytchlelkhpahakaa
open Go.RowKit

/-- the worlds in which nothing but one block has been turned: what the looks of a region read stands in others -/
structure Save (S : Nat → Prop) (w : World) where
  now : World
  is : Chg S w now
instance (S : Nat → Prop) (w : World) : Nonempty (Save S w) := ⟨⟨w, Chg.refl _ _⟩⟩
theorem Save.cell {S : Nat → Prop} {w : World} {b o : Nat} {x : Option Value} (hb : b < w.heap.size) (hS : ¬ S b) (h : w.cell? ⟨b, o, none⟩ = x) : ∀ u : Save S w, u.now.cell? ⟨b, o, none⟩ = x :=
  fun u => (u.is.cell (b := b) (o := o) hb hS).trans h

end Go.Proofs.Ytchlelkhpahakaa
