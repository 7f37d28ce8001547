/-
  No cell of these rows narrows 'for every input' (looked for: loops, veiled, ifaces, maps, wideKeys, modest, calm, conditions, laid).
  DERIVED. THE GIVEN ROWS OF THIS SEAT. 9 by the template 'for every input the law returns true; each argument reads behind the call as it read before'; 0 by the template 'total and deterministic' (their statements: YtalijnfbopcmeaaTotals.lean).
  GIVEN WITH THE SEED: the statements are not yours to turn. If you find one false, say at which input.
  Laid BY PROGRAM, IN A SANDBOX (cutbox-rows.mjs): the forced cells as the released guide's own fill.sh prints them over the translation b092f75cc5fc3bee… (all of the seat's roots in one cut). By AI agents, Wed Nov 11 2026. No macro, syntax, notation, axiom, sorry.
-/
import Derived.Test.YtalijnfbopcmeaaChecked
import GoSem.Claim
import GoSem.ClaimJoined
import GoSem.ClaimMapViews
import Derived.JoinedTies
import Derived.KernelRfl
namespace Go.Proofs.Ytalijnfbopcmeaa
/- THE CELL 'sum', in the pinned program and in every row, IS THE sha256 OF THE DUMP (.gsa) THAT YtalijnfbopcmeaaProg.lean LOADS. Nothing in Lean hashes anything: it is a label: what it is worth is what the hold of that sum in a sandbox is worth. -/
noncomputable def Try.pinned : Pinned := { name := "ytalijnfbopcmeaa", sum := "b092f75cc5fc3beeddee6f75919528a02f0d852c89c2f1a1aef0058ee2c3e091", checked := Try.checked }
namespace Rows
def none {H : Type} : Left H := { results := [], args := [] }

/-- 'laws.FnUnionFind': WHATEVER THE INPUT: true; the input reads as it did. -/
def fnUnionFindSpec : ChangeSpec := { name := "fnUnionFind", fn := fun _ => fun
  | [d] => { results := [.lit (.bool true)], args := [d] }
  | _ => none }
def fnUnionFindRow : OpenClaim := { program := "ytalijnfbopcmeaa", sum := "b092f75cc5fc3beeddee6f75919528a02f0d852c89c2f1a1aef0058ee2c3e091", func := "loop.example/g01919/laws.FnUnionFind", spec := "fnUnionFind", apart := false }
def FnUnionFindSaid : Prop := fnUnionFindRow.holds Try.pinned (OpenSpec.ofChange fnUnionFindSpec)

/-- ITS FALSE NEIGHBOUR: 'it returns false'. Refute it at one input. -/
def fnUnionFindWrong : ChangeSpec := { name := "fnUnionFind", fn := fun _ => fun
  | [d] => { results := [.lit (.bool false)], args := [d] }
  | _ => none }
def FnUnionFindWrongFalsely : Prop := fnUnionFindRow.holds Try.pinned (OpenSpec.ofChange fnUnionFindWrong)

/-- 'laws.FnEquivalenceClasses': WHATEVER THE INPUT: true; the input reads as it did. -/
def fnEquivalenceClassesSpec : ChangeSpec := { name := "fnEquivalenceClasses", fn := fun _ => fun
  | [d] => { results := [.lit (.bool true)], args := [d] }
  | _ => none }
def fnEquivalenceClassesRow : OpenClaim := { program := "ytalijnfbopcmeaa", sum := "b092f75cc5fc3beeddee6f75919528a02f0d852c89c2f1a1aef0058ee2c3e091", func := "loop.example/g01919/laws.FnEquivalenceClasses", spec := "fnEquivalenceClasses", apart := false }
def FnEquivalenceClassesSaid : Prop := fnEquivalenceClassesRow.holds Try.pinned (OpenSpec.ofChange fnEquivalenceClassesSpec)

/-- ITS FALSE NEIGHBOUR: 'it returns false'. Refute it at one input. -/
def fnEquivalenceClassesWrong : ChangeSpec := { name := "fnEquivalenceClasses", fn := fun _ => fun
  | [d] => { results := [.lit (.bool false)], args := [d] }
  | _ => none }
def FnEquivalenceClassesWrongFalsely : Prop := fnEquivalenceClassesRow.holds Try.pinned (OpenSpec.ofChange fnEquivalenceClassesWrong)

/-- 'laws.FnExactNewUnionFind': WHATEVER THE INPUT: true; the input reads as it did. -/
def fnExactNewUnionFindSpec : ChangeSpec := { name := "fnExactNewUnionFind", fn := fun _ => fun
  | [d] => { results := [.lit (.bool true)], args := [d] }
  | _ => none }
def fnExactNewUnionFindRow : OpenClaim := { program := "ytalijnfbopcmeaa", sum := "b092f75cc5fc3beeddee6f75919528a02f0d852c89c2f1a1aef0058ee2c3e091", func := "loop.example/g01919/laws.FnExactNewUnionFind", spec := "fnExactNewUnionFind", apart := false }
def FnExactNewUnionFindSaid : Prop := fnExactNewUnionFindRow.holds Try.pinned (OpenSpec.ofChange fnExactNewUnionFindSpec)

/-- ITS FALSE NEIGHBOUR: 'it returns false'. Refute it at one input. -/
def fnExactNewUnionFindWrong : ChangeSpec := { name := "fnExactNewUnionFind", fn := fun _ => fun
  | [d] => { results := [.lit (.bool false)], args := [d] }
  | _ => none }
def FnExactNewUnionFindWrongFalsely : Prop := fnExactNewUnionFindRow.holds Try.pinned (OpenSpec.ofChange fnExactNewUnionFindWrong)

/-- 'laws.FnExactIsValidUnionFind': WHATEVER THE INPUT: true; the input reads as it did. -/
def fnExactIsValidUnionFindSpec : ChangeSpec := { name := "fnExactIsValidUnionFind", fn := fun _ => fun
  | [d] => { results := [.lit (.bool true)], args := [d] }
  | _ => none }
def fnExactIsValidUnionFindRow : OpenClaim := { program := "ytalijnfbopcmeaa", sum := "b092f75cc5fc3beeddee6f75919528a02f0d852c89c2f1a1aef0058ee2c3e091", func := "loop.example/g01919/laws.FnExactIsValidUnionFind", spec := "fnExactIsValidUnionFind", apart := false }
def FnExactIsValidUnionFindSaid : Prop := fnExactIsValidUnionFindRow.holds Try.pinned (OpenSpec.ofChange fnExactIsValidUnionFindSpec)

/-- ITS FALSE NEIGHBOUR: 'it returns false'. Refute it at one input. -/
def fnExactIsValidUnionFindWrong : ChangeSpec := { name := "fnExactIsValidUnionFind", fn := fun _ => fun
  | [d] => { results := [.lit (.bool false)], args := [d] }
  | _ => none }
def FnExactIsValidUnionFindWrongFalsely : Prop := fnExactIsValidUnionFindRow.holds Try.pinned (OpenSpec.ofChange fnExactIsValidUnionFindWrong)

/-- 'laws.FnExactFind': WHATEVER THE INPUT: true; the input reads as it did. -/
def fnExactFindSpec : ChangeSpec := { name := "fnExactFind", fn := fun _ => fun
  | [d1, d2] => { results := [.lit (.bool true)], args := [d1, d2] }
  | _ => none }
def fnExactFindRow : OpenClaim := { program := "ytalijnfbopcmeaa", sum := "b092f75cc5fc3beeddee6f75919528a02f0d852c89c2f1a1aef0058ee2c3e091", func := "loop.example/g01919/laws.FnExactFind", spec := "fnExactFind", apart := false }
def FnExactFindSaid : Prop := fnExactFindRow.holds Try.pinned (OpenSpec.ofChange fnExactFindSpec)

/-- ITS FALSE NEIGHBOUR: 'it returns false'. Refute it at one input. -/
def fnExactFindWrong : ChangeSpec := { name := "fnExactFind", fn := fun _ => fun
  | [d1, d2] => { results := [.lit (.bool false)], args := [d1, d2] }
  | _ => none }
def FnExactFindWrongFalsely : Prop := fnExactFindRow.holds Try.pinned (OpenSpec.ofChange fnExactFindWrong)

/-- 'laws.FnExactUnion': WHATEVER THE INPUT: true; the input reads as it did. -/
def fnExactUnionSpec : ChangeSpec := { name := "fnExactUnion", fn := fun _ => fun
  | [d1, d2, d3] => { results := [.lit (.bool true)], args := [d1, d2, d3] }
  | _ => none }
def fnExactUnionRow : OpenClaim := { program := "ytalijnfbopcmeaa", sum := "b092f75cc5fc3beeddee6f75919528a02f0d852c89c2f1a1aef0058ee2c3e091", func := "loop.example/g01919/laws.FnExactUnion", spec := "fnExactUnion", apart := false }
def FnExactUnionSaid : Prop := fnExactUnionRow.holds Try.pinned (OpenSpec.ofChange fnExactUnionSpec)

/-- ITS FALSE NEIGHBOUR: 'it returns false'. Refute it at one input. -/
def fnExactUnionWrong : ChangeSpec := { name := "fnExactUnion", fn := fun _ => fun
  | [d1, d2, d3] => { results := [.lit (.bool false)], args := [d1, d2, d3] }
  | _ => none }
def FnExactUnionWrongFalsely : Prop := fnExactUnionRow.holds Try.pinned (OpenSpec.ofChange fnExactUnionWrong)

/-- 'laws.FnExactUnionSubstitution': WHATEVER THE INPUT: true; the input reads as it did. -/
def fnExactUnionSubstitutionSpec : ChangeSpec := { name := "fnExactUnionSubstitution", fn := fun _ => fun
  | [d] => { results := [.lit (.bool true)], args := [d] }
  | _ => none }
def fnExactUnionSubstitutionRow : OpenClaim := { program := "ytalijnfbopcmeaa", sum := "b092f75cc5fc3beeddee6f75919528a02f0d852c89c2f1a1aef0058ee2c3e091", func := "loop.example/g01919/laws.FnExactUnionSubstitution", spec := "fnExactUnionSubstitution", apart := false }
def FnExactUnionSubstitutionSaid : Prop := fnExactUnionSubstitutionRow.holds Try.pinned (OpenSpec.ofChange fnExactUnionSubstitutionSpec)

/-- ITS FALSE NEIGHBOUR: 'it returns false'. Refute it at one input. -/
def fnExactUnionSubstitutionWrong : ChangeSpec := { name := "fnExactUnionSubstitution", fn := fun _ => fun
  | [d] => { results := [.lit (.bool false)], args := [d] }
  | _ => none }
def FnExactUnionSubstitutionWrongFalsely : Prop := fnExactUnionSubstitutionRow.holds Try.pinned (OpenSpec.ofChange fnExactUnionSubstitutionWrong)

/-- 'laws.FnExactEquivalenceClasses': WHATEVER THE INPUT: true; the input reads as it did. -/
def fnExactEquivalenceClassesSpec : ChangeSpec := { name := "fnExactEquivalenceClasses", fn := fun _ => fun
  | [d] => { results := [.lit (.bool true)], args := [d] }
  | _ => none }
def fnExactEquivalenceClassesRow : OpenClaim := { program := "ytalijnfbopcmeaa", sum := "b092f75cc5fc3beeddee6f75919528a02f0d852c89c2f1a1aef0058ee2c3e091", func := "loop.example/g01919/laws.FnExactEquivalenceClasses", spec := "fnExactEquivalenceClasses", apart := false }
def FnExactEquivalenceClassesSaid : Prop := fnExactEquivalenceClassesRow.holds Try.pinned (OpenSpec.ofChange fnExactEquivalenceClassesSpec)

/-- ITS FALSE NEIGHBOUR: 'it returns false'. Refute it at one input. -/
def fnExactEquivalenceClassesWrong : ChangeSpec := { name := "fnExactEquivalenceClasses", fn := fun _ => fun
  | [d] => { results := [.lit (.bool false)], args := [d] }
  | _ => none }
def FnExactEquivalenceClassesWrongFalsely : Prop := fnExactEquivalenceClassesRow.holds Try.pinned (OpenSpec.ofChange fnExactEquivalenceClassesWrong)

/-- 'laws.FnExactEqualUnionFinds': WHATEVER THE INPUT: true; the input reads as it did. -/
def fnExactEqualUnionFindsSpec : ChangeSpec := { name := "fnExactEqualUnionFinds", fn := fun _ => fun
  | [d1, d2] => { results := [.lit (.bool true)], args := [d1, d2] }
  | _ => none }
def fnExactEqualUnionFindsRow : OpenClaim := { program := "ytalijnfbopcmeaa", sum := "b092f75cc5fc3beeddee6f75919528a02f0d852c89c2f1a1aef0058ee2c3e091", func := "loop.example/g01919/laws.FnExactEqualUnionFinds", spec := "fnExactEqualUnionFinds", apart := false }
def FnExactEqualUnionFindsSaid : Prop := fnExactEqualUnionFindsRow.holds Try.pinned (OpenSpec.ofChange fnExactEqualUnionFindsSpec)

/-- ITS FALSE NEIGHBOUR: 'it returns false'. Refute it at one input. -/
def fnExactEqualUnionFindsWrong : ChangeSpec := { name := "fnExactEqualUnionFinds", fn := fun _ => fun
  | [d1, d2] => { results := [.lit (.bool false)], args := [d1, d2] }
  | _ => none }
def FnExactEqualUnionFindsWrongFalsely : Prop := fnExactEqualUnionFindsRow.holds Try.pinned (OpenSpec.ofChange fnExactEqualUnionFindsWrong)

/- THE SECOND FORM. 'bulk': how many values and letters a reading holds, each counted each time it is reached (what is shared counts as often as it is met; a slice's spare places count too). A statement '..UptoSaid' is the law's where the arguments, and the package variables that the reading takes, are together of bulk at most 1048576: NARROWER than '..Said'. Prove '..Said' where nothing that the law and all that it calls make is longer than what came in: it says more and counts as full. Else prove '..UptoSaid'. A law counts once. -/
mutual
def uptoBulk {H : Type} : DataW H → Nat
  | .lit (.string bytes) => bytes.length + 1
  | .lit _ => 1
  | .nil => 1
  | .ptr d => uptoBulk d + 1
  | .slice elems spare => uptoBulkAll elems + uptoBulkAll spare + 1
  | .agg parts => uptoBulkAll parts + 1
  | .iface _ d => uptoBulk d + 1
  | .map entries => uptoBulkEntries entries + 1
  | .held _ => 1
def uptoBulkAll {H : Type} : List (DataW H) → Nat
  | [] => 0
  | d :: r => uptoBulk d + uptoBulkAll r
def uptoBulkEntries {H : Type} : List (Lit × DataW H) → Nat
  | [] => 0
  | x :: r => uptoBulkEntry x + uptoBulkEntries r
def uptoBulkEntry {H : Type} : Lit × DataW H → Nat
  | (.string bytes, d) => bytes.length + uptoBulk d + 1
  | (_, d) => uptoBulk d + 1
 end
def uptoSmall : (H : Type) → List (DataW H) → Bool := fun _ ds => decide (uptoBulkAll ds ≤ 1048576)
def OpenSpec.upto (s : _root_.Go.ChangeSpec) : _root_.Go.OpenSpec := { _root_.Go.OpenSpec.ofChange s with cond := some uptoSmall }

/-- 'laws.FnUnionFind', WHERE WHAT IT READS IS OF BULK AT MOST 1048576: true; the input reads as it did. -/
def fnUnionFindUptoRow : OpenClaim := { program := "ytalijnfbopcmeaa", sum := "b092f75cc5fc3beeddee6f75919528a02f0d852c89c2f1a1aef0058ee2c3e091", func := "loop.example/g01919/laws.FnUnionFind", spec := "fnUnionFind", apart := false, narrowed := true }
def FnUnionFindUptoSaid : Prop := fnUnionFindUptoRow.holds Try.pinned (OpenSpec.upto fnUnionFindSpec)

/-- 'laws.FnEquivalenceClasses', WHERE WHAT IT READS IS OF BULK AT MOST 1048576: true; the input reads as it did. -/
def fnEquivalenceClassesUptoRow : OpenClaim := { program := "ytalijnfbopcmeaa", sum := "b092f75cc5fc3beeddee6f75919528a02f0d852c89c2f1a1aef0058ee2c3e091", func := "loop.example/g01919/laws.FnEquivalenceClasses", spec := "fnEquivalenceClasses", apart := false, narrowed := true }
def FnEquivalenceClassesUptoSaid : Prop := fnEquivalenceClassesUptoRow.holds Try.pinned (OpenSpec.upto fnEquivalenceClassesSpec)

/-- 'laws.FnExactNewUnionFind', WHERE WHAT IT READS IS OF BULK AT MOST 1048576: true; the input reads as it did. -/
def fnExactNewUnionFindUptoRow : OpenClaim := { program := "ytalijnfbopcmeaa", sum := "b092f75cc5fc3beeddee6f75919528a02f0d852c89c2f1a1aef0058ee2c3e091", func := "loop.example/g01919/laws.FnExactNewUnionFind", spec := "fnExactNewUnionFind", apart := false, narrowed := true }
def FnExactNewUnionFindUptoSaid : Prop := fnExactNewUnionFindUptoRow.holds Try.pinned (OpenSpec.upto fnExactNewUnionFindSpec)

/-- 'laws.FnExactIsValidUnionFind', WHERE WHAT IT READS IS OF BULK AT MOST 1048576: true; the input reads as it did. -/
def fnExactIsValidUnionFindUptoRow : OpenClaim := { program := "ytalijnfbopcmeaa", sum := "b092f75cc5fc3beeddee6f75919528a02f0d852c89c2f1a1aef0058ee2c3e091", func := "loop.example/g01919/laws.FnExactIsValidUnionFind", spec := "fnExactIsValidUnionFind", apart := false, narrowed := true }
def FnExactIsValidUnionFindUptoSaid : Prop := fnExactIsValidUnionFindUptoRow.holds Try.pinned (OpenSpec.upto fnExactIsValidUnionFindSpec)

/-- 'laws.FnExactFind', WHERE WHAT IT READS IS OF BULK AT MOST 1048576: true; the input reads as it did. -/
def fnExactFindUptoRow : OpenClaim := { program := "ytalijnfbopcmeaa", sum := "b092f75cc5fc3beeddee6f75919528a02f0d852c89c2f1a1aef0058ee2c3e091", func := "loop.example/g01919/laws.FnExactFind", spec := "fnExactFind", apart := false, narrowed := true }
def FnExactFindUptoSaid : Prop := fnExactFindUptoRow.holds Try.pinned (OpenSpec.upto fnExactFindSpec)

/-- 'laws.FnExactUnion', WHERE WHAT IT READS IS OF BULK AT MOST 1048576: true; the input reads as it did. -/
def fnExactUnionUptoRow : OpenClaim := { program := "ytalijnfbopcmeaa", sum := "b092f75cc5fc3beeddee6f75919528a02f0d852c89c2f1a1aef0058ee2c3e091", func := "loop.example/g01919/laws.FnExactUnion", spec := "fnExactUnion", apart := false, narrowed := true }
def FnExactUnionUptoSaid : Prop := fnExactUnionUptoRow.holds Try.pinned (OpenSpec.upto fnExactUnionSpec)

/-- 'laws.FnExactUnionSubstitution', WHERE WHAT IT READS IS OF BULK AT MOST 1048576: true; the input reads as it did. -/
def fnExactUnionSubstitutionUptoRow : OpenClaim := { program := "ytalijnfbopcmeaa", sum := "b092f75cc5fc3beeddee6f75919528a02f0d852c89c2f1a1aef0058ee2c3e091", func := "loop.example/g01919/laws.FnExactUnionSubstitution", spec := "fnExactUnionSubstitution", apart := false, narrowed := true }
def FnExactUnionSubstitutionUptoSaid : Prop := fnExactUnionSubstitutionUptoRow.holds Try.pinned (OpenSpec.upto fnExactUnionSubstitutionSpec)

/-- 'laws.FnExactEquivalenceClasses', WHERE WHAT IT READS IS OF BULK AT MOST 1048576: true; the input reads as it did. -/
def fnExactEquivalenceClassesUptoRow : OpenClaim := { program := "ytalijnfbopcmeaa", sum := "b092f75cc5fc3beeddee6f75919528a02f0d852c89c2f1a1aef0058ee2c3e091", func := "loop.example/g01919/laws.FnExactEquivalenceClasses", spec := "fnExactEquivalenceClasses", apart := false, narrowed := true }
def FnExactEquivalenceClassesUptoSaid : Prop := fnExactEquivalenceClassesUptoRow.holds Try.pinned (OpenSpec.upto fnExactEquivalenceClassesSpec)

/-- 'laws.FnExactEqualUnionFinds', WHERE WHAT IT READS IS OF BULK AT MOST 1048576: true; the input reads as it did. -/
def fnExactEqualUnionFindsUptoRow : OpenClaim := { program := "ytalijnfbopcmeaa", sum := "b092f75cc5fc3beeddee6f75919528a02f0d852c89c2f1a1aef0058ee2c3e091", func := "loop.example/g01919/laws.FnExactEqualUnionFinds", spec := "fnExactEqualUnionFinds", apart := false, narrowed := true }
def FnExactEqualUnionFindsUptoSaid : Prop := fnExactEqualUnionFindsUptoRow.holds Try.pinned (OpenSpec.upto fnExactEqualUnionFindsSpec)

end Rows
end Go.Proofs.Ytalijnfbopcmeaa
