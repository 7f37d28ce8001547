/-
  Walks and plain lemmas for the laws of this seat: what single Go functions return, for every argument.
-/
import Derived.Test.YtakflmaeclneiaaDoorBase
import Derived.Test.YtakflmaeclneiaaDoorRels
namespace Go.Proofs.YtakflmaeclneiaaDoor
open Go.RowKit

theorem take_eq_next {α : Type} (l m : List α) (k : Nat) (h : k < l.length) (h' : k < m.length) (he : l[k] = m[k]) (ht : l.take k = m.take k) : l.take (k + 1) = m.take (k + 1) := by
  rw [List.take_succ_eq_append_getElem h, List.take_succ_eq_append_getElem h', ht, he]
theorem take_eq_not {α : Type} (l m : List α) (k : Nat) (h : k < l.length) (h' : k < m.length) (he : ¬ l[k] = m[k]) : ¬ l = m := by
  rintro rfl; exact he rfl
instance : DecidableEq Rel := fun a b => by
  cases a; cases b; rw [Rel.mk.injEq]; exact inferInstance

end Go.Proofs.YtakflmaeclneiaaDoor
