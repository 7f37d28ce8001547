/-
  Walks and plain lemmas for the laws of this seat: what single Go functions return, for every argument.
-/
import Derived.Test.YtakflmaeclneiaaDoorCards
import Derived.Test.YtakflmaeclneiaaDoorTie
import Derived.Deep.DeepHandedRow
import Derived.Lib.LaidTab
import Derived.Stop.LaidErr
import Derived.Test.YtakflmaeclneiaaDoorFmtS
import Derived.Test.YtakflmaeclneiaaDoorLift
namespace Go.Proofs.YtakflmaeclneiaaDoor
open Go.RowKit Go.ChangeShapes Go.WideShapes Go.ChangeAt

def litVal : DataW Unit → Value
  | .lit (.int k n) => .int k n
  | .lit (.string l) => .string ⟨l.toArray⟩
  | .lit (.bool b) => .bool b
  | _ => .nilIface
def aggCells : DataW Unit → Array Value
  | .agg ds => (ds.flatMap fun d => match d with
      | .agg es => es.map litVal
      | d => [litVal d]).toArray
  | _ => #[]
/-- the text of a sentinel's datum -/
def sentText : DataW Unit → Value
  | .iface _ (.ptr (.agg [d])) => litVal d
  | _ => .nilIface
def setVar (w : World) (g : Nat) (cs : Array Value) : World :=
  { w with heap := w.heap.modify g fun
      | .cells _ t fr => .cells cs t fr
      | o => o }
/-- so many blocks has the settled world -/
noncomputable def low : Nat := (World.holding Tryd.prog default ⟨#[], #[], []⟩).heap.size
theorem tab_of_laid {W : World} {rest : List (String × DataW Unit)} (h : laidMet Tryd.prog (("internal/strconv.uint64pow10", Rows.laid_internal_strconv_uint64pow10) :: rest) W) : Tab W :=
  Lib.tabIs_of_head (g := 0) (t := 102) (e := 95) (n := 20) (by kernel_rfl) (by kernel_rfl) (by kernel_rfl) (by kernel_rfl) (by kernel_rfl) (by kernel_rfl) h

end Go.Proofs.YtakflmaeclneiaaDoor
