/-
  No cell of these rows narrows 'for every input' (looked for: loops, veiled, ifaces, maps, wideKeys, modest, calm, conditions, laid).
  DERIVED. THE GIVEN ROWS OF THIS SEAT. 7 by the template 'for every input the law returns true; each argument reads behind the call as it read before'; 0 by the template 'total and deterministic' (their statements: YtdamhifomcknaaaTotals.lean).
  GIVEN WITH THE SEED: the statements are not yours to turn. If you find one false, say at which input.
  Laid BY PROGRAM, IN A SANDBOX (cutbox-rows.mjs): the forced cells as the released guide's own fill.sh prints them over the translation b47fecf2bd556efa… (all of the seat's roots in one cut). By AI agents, Wed Nov 11 2026. No macro, syntax, notation, axiom, sorry.
-/
import Derived.Test.YtdamhifomcknaaaChecked
import GoSem.Claim
import GoSem.ClaimJoined
import GoSem.ClaimMapViews
import Derived.JoinedTies
import Derived.KernelRfl
namespace Go.Proofs.Ytdamhifomcknaaa
/- THE CELL 'sum', in the pinned program and in every row, IS THE sha256 OF THE DUMP (.gsa) THAT YtdamhifomcknaaaProg.lean LOADS. Nothing in Lean hashes anything: it is a label: what it is worth is what the hold of that sum in a sandbox is worth. -/
noncomputable def Try.pinned : Pinned := { name := "ytdamhifomcknaaa", sum := "b47fecf2bd556efa14020c3397ace46e3836f659b326826c7e452f76836f6510", checked := Try.checked }
namespace Rows
def none {H : Type} : Left H := { results := [], args := [] }

/-- 'laws.FnExactIsValidAtom': WHATEVER THE INPUT: true; the input reads as it did. -/
def fnExactIsValidAtomSpec : ChangeSpec := { name := "fnExactIsValidAtom", fn := fun _ => fun
  | [d1, d2] => { results := [.lit (.bool true)], args := [d1, d2] }
  | _ => none }
def fnExactIsValidAtomRow : OpenClaim := { program := "ytdamhifomcknaaa", sum := "b47fecf2bd556efa14020c3397ace46e3836f659b326826c7e452f76836f6510", func := "loop.example/g01919/laws.FnExactIsValidAtom", spec := "fnExactIsValidAtom", apart := false }
def FnExactIsValidAtomSaid : Prop := fnExactIsValidAtomRow.holds Try.pinned (OpenSpec.ofChange fnExactIsValidAtomSpec)

/-- ITS FALSE NEIGHBOUR: 'it returns false'. Refute it at one input. -/
def fnExactIsValidAtomWrong : ChangeSpec := { name := "fnExactIsValidAtom", fn := fun _ => fun
  | [d1, d2] => { results := [.lit (.bool false)], args := [d1, d2] }
  | _ => none }
def FnExactIsValidAtomWrongFalsely : Prop := fnExactIsValidAtomRow.holds Try.pinned (OpenSpec.ofChange fnExactIsValidAtomWrong)

/-- 'laws.FnExactIsValidDependency': WHATEVER THE INPUT: true; the input reads as it did. -/
def fnExactIsValidDependencySpec : ChangeSpec := { name := "fnExactIsValidDependency", fn := fun _ => fun
  | [d1, d2] => { results := [.lit (.bool true)], args := [d1, d2] }
  | _ => none }
def fnExactIsValidDependencyRow : OpenClaim := { program := "ytdamhifomcknaaa", sum := "b47fecf2bd556efa14020c3397ace46e3836f659b326826c7e452f76836f6510", func := "loop.example/g01919/laws.FnExactIsValidDependency", spec := "fnExactIsValidDependency", unfollowed := true, recurses := true, apart := false }
def FnExactIsValidDependencySaid : Prop := fnExactIsValidDependencyRow.holds Try.pinned (OpenSpec.ofChange fnExactIsValidDependencySpec)

/-- ITS FALSE NEIGHBOUR: 'it returns false'. Refute it at one input. -/
def fnExactIsValidDependencyWrong : ChangeSpec := { name := "fnExactIsValidDependency", fn := fun _ => fun
  | [d1, d2] => { results := [.lit (.bool false)], args := [d1, d2] }
  | _ => none }
def FnExactIsValidDependencyWrongFalsely : Prop := fnExactIsValidDependencyRow.holds Try.pinned (OpenSpec.ofChange fnExactIsValidDependencyWrong)

/-- 'laws.FnExactAreValidDependencies': WHATEVER THE INPUT: true; the input reads as it did. -/
def fnExactAreValidDependenciesSpec : ChangeSpec := { name := "fnExactAreValidDependencies", fn := fun _ => fun
  | [d1, d2] => { results := [.lit (.bool true)], args := [d1, d2] }
  | _ => none }
def fnExactAreValidDependenciesRow : OpenClaim := { program := "ytdamhifomcknaaa", sum := "b47fecf2bd556efa14020c3397ace46e3836f659b326826c7e452f76836f6510", func := "loop.example/g01919/laws.FnExactAreValidDependencies", spec := "fnExactAreValidDependencies", unfollowed := true, recurses := true, apart := false }
def FnExactAreValidDependenciesSaid : Prop := fnExactAreValidDependenciesRow.holds Try.pinned (OpenSpec.ofChange fnExactAreValidDependenciesSpec)

/-- ITS FALSE NEIGHBOUR: 'it returns false'. Refute it at one input. -/
def fnExactAreValidDependenciesWrong : ChangeSpec := { name := "fnExactAreValidDependencies", fn := fun _ => fun
  | [d1, d2] => { results := [.lit (.bool false)], args := [d1, d2] }
  | _ => none }
def FnExactAreValidDependenciesWrongFalsely : Prop := fnExactAreValidDependenciesRow.holds Try.pinned (OpenSpec.ofChange fnExactAreValidDependenciesWrong)

/-- 'laws.FnExactVariables': WHATEVER THE INPUT: true; the input reads as it did. -/
def fnExactVariablesSpec : ChangeSpec := { name := "fnExactVariables", fn := fun _ => fun
  | [d] => { results := [.lit (.bool true)], args := [d] }
  | _ => none }
def fnExactVariablesRow : OpenClaim := { program := "ytdamhifomcknaaa", sum := "b47fecf2bd556efa14020c3397ace46e3836f659b326826c7e452f76836f6510", func := "loop.example/g01919/laws.FnExactVariables", spec := "fnExactVariables", recurses := true, apart := false }
def FnExactVariablesSaid : Prop := fnExactVariablesRow.holds Try.pinned (OpenSpec.ofChange fnExactVariablesSpec)

/-- ITS FALSE NEIGHBOUR: 'it returns false'. Refute it at one input. -/
def fnExactVariablesWrong : ChangeSpec := { name := "fnExactVariables", fn := fun _ => fun
  | [d] => { results := [.lit (.bool false)], args := [d] }
  | _ => none }
def FnExactVariablesWrongFalsely : Prop := fnExactVariablesRow.holds Try.pinned (OpenSpec.ofChange fnExactVariablesWrong)

/-- 'laws.FnExactExistentialVariables': WHATEVER THE INPUT: true; the input reads as it did. -/
def fnExactExistentialVariablesSpec : ChangeSpec := { name := "fnExactExistentialVariables", fn := fun _ => fun
  | [d] => { results := [.lit (.bool true)], args := [d] }
  | _ => none }
def fnExactExistentialVariablesRow : OpenClaim := { program := "ytdamhifomcknaaa", sum := "b47fecf2bd556efa14020c3397ace46e3836f659b326826c7e452f76836f6510", func := "loop.example/g01919/laws.FnExactExistentialVariables", spec := "fnExactExistentialVariables", unfollowed := true, recurses := true, apart := false }
def FnExactExistentialVariablesSaid : Prop := fnExactExistentialVariablesRow.holds Try.pinned (OpenSpec.ofChange fnExactExistentialVariablesSpec)

/-- ITS FALSE NEIGHBOUR: 'it returns false'. Refute it at one input. -/
def fnExactExistentialVariablesWrong : ChangeSpec := { name := "fnExactExistentialVariables", fn := fun _ => fun
  | [d] => { results := [.lit (.bool false)], args := [d] }
  | _ => none }
def FnExactExistentialVariablesWrongFalsely : Prop := fnExactExistentialVariablesRow.holds Try.pinned (OpenSpec.ofChange fnExactExistentialVariablesWrong)

/-- 'laws.FnExactFrontierVariables': WHATEVER THE INPUT: true; the input reads as it did. -/
def fnExactFrontierVariablesSpec : ChangeSpec := { name := "fnExactFrontierVariables", fn := fun _ => fun
  | [d] => { results := [.lit (.bool true)], args := [d] }
  | _ => none }
def fnExactFrontierVariablesRow : OpenClaim := { program := "ytdamhifomcknaaa", sum := "b47fecf2bd556efa14020c3397ace46e3836f659b326826c7e452f76836f6510", func := "loop.example/g01919/laws.FnExactFrontierVariables", spec := "fnExactFrontierVariables", unfollowed := true, recurses := true, apart := false }
def FnExactFrontierVariablesSaid : Prop := fnExactFrontierVariablesRow.holds Try.pinned (OpenSpec.ofChange fnExactFrontierVariablesSpec)

/-- ITS FALSE NEIGHBOUR: 'it returns false'. Refute it at one input. -/
def fnExactFrontierVariablesWrong : ChangeSpec := { name := "fnExactFrontierVariables", fn := fun _ => fun
  | [d] => { results := [.lit (.bool false)], args := [d] }
  | _ => none }
def FnExactFrontierVariablesWrongFalsely : Prop := fnExactFrontierVariablesRow.holds Try.pinned (OpenSpec.ofChange fnExactFrontierVariablesWrong)

/-- 'laws.FnExactEqualDependencies': WHATEVER THE INPUT: true; the input reads as it did. -/
def fnExactEqualDependenciesSpec : ChangeSpec := { name := "fnExactEqualDependencies", fn := fun _ => fun
  | [d1, d2] => { results := [.lit (.bool true)], args := [d1, d2] }
  | _ => none }
def fnExactEqualDependenciesRow : OpenClaim := { program := "ytdamhifomcknaaa", sum := "b47fecf2bd556efa14020c3397ace46e3836f659b326826c7e452f76836f6510", func := "loop.example/g01919/laws.FnExactEqualDependencies", spec := "fnExactEqualDependencies", unfollowed := true, recurses := true, apart := false }
def FnExactEqualDependenciesSaid : Prop := fnExactEqualDependenciesRow.holds Try.pinned (OpenSpec.ofChange fnExactEqualDependenciesSpec)

/-- ITS FALSE NEIGHBOUR: 'it returns false'. Refute it at one input. -/
def fnExactEqualDependenciesWrong : ChangeSpec := { name := "fnExactEqualDependencies", fn := fun _ => fun
  | [d1, d2] => { results := [.lit (.bool false)], args := [d1, d2] }
  | _ => none }
def FnExactEqualDependenciesWrongFalsely : Prop := fnExactEqualDependenciesRow.holds Try.pinned (OpenSpec.ofChange fnExactEqualDependenciesWrong)

/- THE SECOND FORM. 'bulk': how many values and letters a reading holds, each counted each time it is reached (what is shared counts as often as it is met; a slice's spare places count too). A statement '..UptoSaid' is the law's where the arguments, and the package variables that the reading takes, are together of bulk at most 1048576: NARROWER than '..Said'. Prove '..Said' where nothing that the law and all that it calls make is longer than what came in: it says more and counts as full. Else prove '..UptoSaid'. A law counts once. -/
mutual
def uptoBulk {H : Type} : DataW H → Nat
  | .lit (.string bytes) => bytes.length + 1
  | .lit _ => 1
  | .nil => 1
  | .ptr d => uptoBulk d + 1
  | .slice elems spare => uptoBulkAll elems + uptoBulkAll spare + 1
  | .agg parts => uptoBulkAll parts + 1
  | .iface _ d => uptoBulk d + 1
  | .map entries => uptoBulkEntries entries + 1
  | .held _ => 1
def uptoBulkAll {H : Type} : List (DataW H) → Nat
  | [] => 0
  | d :: r => uptoBulk d + uptoBulkAll r
def uptoBulkEntries {H : Type} : List (Lit × DataW H) → Nat
  | [] => 0
  | x :: r => uptoBulkEntry x + uptoBulkEntries r
def uptoBulkEntry {H : Type} : Lit × DataW H → Nat
  | (.string bytes, d) => bytes.length + uptoBulk d + 1
  | (_, d) => uptoBulk d + 1
 end
def uptoSmall : (H : Type) → List (DataW H) → Bool := fun _ ds => decide (uptoBulkAll ds ≤ 1048576)
def OpenSpec.upto (s : _root_.Go.ChangeSpec) : _root_.Go.OpenSpec := { _root_.Go.OpenSpec.ofChange s with cond := some uptoSmall }

/-- 'laws.FnExactIsValidAtom', WHERE WHAT IT READS IS OF BULK AT MOST 1048576: true; the input reads as it did. -/
def fnExactIsValidAtomUptoRow : OpenClaim := { program := "ytdamhifomcknaaa", sum := "b47fecf2bd556efa14020c3397ace46e3836f659b326826c7e452f76836f6510", func := "loop.example/g01919/laws.FnExactIsValidAtom", spec := "fnExactIsValidAtom", apart := false, narrowed := true }
def FnExactIsValidAtomUptoSaid : Prop := fnExactIsValidAtomUptoRow.holds Try.pinned (OpenSpec.upto fnExactIsValidAtomSpec)

/-- 'laws.FnExactIsValidDependency', WHERE WHAT IT READS IS OF BULK AT MOST 1048576: true; the input reads as it did. -/
def fnExactIsValidDependencyUptoRow : OpenClaim := { program := "ytdamhifomcknaaa", sum := "b47fecf2bd556efa14020c3397ace46e3836f659b326826c7e452f76836f6510", func := "loop.example/g01919/laws.FnExactIsValidDependency", spec := "fnExactIsValidDependency", unfollowed := true, recurses := true, apart := false, narrowed := true }
def FnExactIsValidDependencyUptoSaid : Prop := fnExactIsValidDependencyUptoRow.holds Try.pinned (OpenSpec.upto fnExactIsValidDependencySpec)

/-- 'laws.FnExactAreValidDependencies', WHERE WHAT IT READS IS OF BULK AT MOST 1048576: true; the input reads as it did. -/
def fnExactAreValidDependenciesUptoRow : OpenClaim := { program := "ytdamhifomcknaaa", sum := "b47fecf2bd556efa14020c3397ace46e3836f659b326826c7e452f76836f6510", func := "loop.example/g01919/laws.FnExactAreValidDependencies", spec := "fnExactAreValidDependencies", unfollowed := true, recurses := true, apart := false, narrowed := true }
def FnExactAreValidDependenciesUptoSaid : Prop := fnExactAreValidDependenciesUptoRow.holds Try.pinned (OpenSpec.upto fnExactAreValidDependenciesSpec)

/-- 'laws.FnExactVariables', WHERE WHAT IT READS IS OF BULK AT MOST 1048576: true; the input reads as it did. -/
def fnExactVariablesUptoRow : OpenClaim := { program := "ytdamhifomcknaaa", sum := "b47fecf2bd556efa14020c3397ace46e3836f659b326826c7e452f76836f6510", func := "loop.example/g01919/laws.FnExactVariables", spec := "fnExactVariables", recurses := true, apart := false, narrowed := true }
def FnExactVariablesUptoSaid : Prop := fnExactVariablesUptoRow.holds Try.pinned (OpenSpec.upto fnExactVariablesSpec)

/-- 'laws.FnExactExistentialVariables', WHERE WHAT IT READS IS OF BULK AT MOST 1048576: true; the input reads as it did. -/
def fnExactExistentialVariablesUptoRow : OpenClaim := { program := "ytdamhifomcknaaa", sum := "b47fecf2bd556efa14020c3397ace46e3836f659b326826c7e452f76836f6510", func := "loop.example/g01919/laws.FnExactExistentialVariables", spec := "fnExactExistentialVariables", unfollowed := true, recurses := true, apart := false, narrowed := true }
def FnExactExistentialVariablesUptoSaid : Prop := fnExactExistentialVariablesUptoRow.holds Try.pinned (OpenSpec.upto fnExactExistentialVariablesSpec)

/-- 'laws.FnExactFrontierVariables', WHERE WHAT IT READS IS OF BULK AT MOST 1048576: true; the input reads as it did. -/
def fnExactFrontierVariablesUptoRow : OpenClaim := { program := "ytdamhifomcknaaa", sum := "b47fecf2bd556efa14020c3397ace46e3836f659b326826c7e452f76836f6510", func := "loop.example/g01919/laws.FnExactFrontierVariables", spec := "fnExactFrontierVariables", unfollowed := true, recurses := true, apart := false, narrowed := true }
def FnExactFrontierVariablesUptoSaid : Prop := fnExactFrontierVariablesUptoRow.holds Try.pinned (OpenSpec.upto fnExactFrontierVariablesSpec)

/-- 'laws.FnExactEqualDependencies', WHERE WHAT IT READS IS OF BULK AT MOST 1048576: true; the input reads as it did. -/
def fnExactEqualDependenciesUptoRow : OpenClaim := { program := "ytdamhifomcknaaa", sum := "b47fecf2bd556efa14020c3397ace46e3836f659b326826c7e452f76836f6510", func := "loop.example/g01919/laws.FnExactEqualDependencies", spec := "fnExactEqualDependencies", unfollowed := true, recurses := true, apart := false, narrowed := true }
def FnExactEqualDependenciesUptoSaid : Prop := fnExactEqualDependenciesUptoRow.holds Try.pinned (OpenSpec.upto fnExactEqualDependenciesSpec)

end Rows
end Go.Proofs.Ytdamhifomcknaaa
