/-
  No cell of these rows narrows 'for every input' (looked for: loops, veiled, ifaces, maps, wideKeys, modest, calm, conditions, laid).
  DERIVED. THE GIVEN ROWS OF THIS SEAT. 3 by the template 'for every input the law returns true; each argument reads behind the call as it read before'; 0 by the template 'total and deterministic' (their statements: YtnneciihbfcemaaTotals.lean).
  GIVEN WITH THE SEED: the statements are not yours to turn. If you find one false, say at which input.
  Laid BY PROGRAM, IN A SANDBOX (cutbox-rows.mjs): the forced cells as the released guide's own fill.sh prints them over the translation 9ce138b32a441bb9… (all of the seat's roots in one cut). By AI agents, Wed Nov 11 2026. No macro, syntax, notation, axiom, sorry.
-/
import Derived.Test.YtnneciihbfcemaaChecked
import GoSem.Claim
import GoSem.ClaimJoined
import GoSem.ClaimMapViews
import Derived.JoinedTies
import Derived.KernelRfl
namespace Go.Proofs.Ytnneciihbfcemaa
/- THE CELL 'sum', in the pinned program and in every row, IS THE sha256 OF THE DUMP (.gsa) THAT YtnneciihbfcemaaProg.lean LOADS. Nothing in Lean hashes anything: it is a label: what it is worth is what the hold of that sum in a sandbox is worth. -/
noncomputable def Try.pinned : Pinned := { name := "ytnneciihbfcemaa", sum := "9ce138b32a441bb9a1e3ba1b37a12ff958cdb70e7c6695ff9f18fd90e558ca95", checked := Try.checked }
namespace Rows
def none {H : Type} : Left H := { results := [], args := [] }

/-- 'laws.FnExactIsValidRelation': WHATEVER THE INPUT: true; the input reads as it did. -/
def fnExactIsValidRelationSpec : ChangeSpec := { name := "fnExactIsValidRelation", fn := fun _ => fun
  | [d] => { results := [.lit (.bool true)], args := [d] }
  | _ => none }
def fnExactIsValidRelationRow : OpenClaim := { program := "ytnneciihbfcemaa", sum := "9ce138b32a441bb9a1e3ba1b37a12ff958cdb70e7c6695ff9f18fd90e558ca95", func := "loop.example/g01919/laws.FnExactIsValidRelation", spec := "fnExactIsValidRelation", apart := false }
def FnExactIsValidRelationSaid : Prop := fnExactIsValidRelationRow.holds Try.pinned (OpenSpec.ofChange fnExactIsValidRelationSpec)

/-- ITS FALSE NEIGHBOUR: 'it returns false'. Refute it at one input. -/
def fnExactIsValidRelationWrong : ChangeSpec := { name := "fnExactIsValidRelation", fn := fun _ => fun
  | [d] => { results := [.lit (.bool false)], args := [d] }
  | _ => none }
def FnExactIsValidRelationWrongFalsely : Prop := fnExactIsValidRelationRow.holds Try.pinned (OpenSpec.ofChange fnExactIsValidRelationWrong)

/-- 'laws.FnExactAreValidRelations': WHATEVER THE INPUT: true; the input reads as it did. -/
def fnExactAreValidRelationsSpec : ChangeSpec := { name := "fnExactAreValidRelations", fn := fun _ => fun
  | [d] => { results := [.lit (.bool true)], args := [d] }
  | _ => none }
def fnExactAreValidRelationsRow : OpenClaim := { program := "ytnneciihbfcemaa", sum := "9ce138b32a441bb9a1e3ba1b37a12ff958cdb70e7c6695ff9f18fd90e558ca95", func := "loop.example/g01919/laws.FnExactAreValidRelations", spec := "fnExactAreValidRelations", apart := false }
def FnExactAreValidRelationsSaid : Prop := fnExactAreValidRelationsRow.holds Try.pinned (OpenSpec.ofChange fnExactAreValidRelationsSpec)

/-- ITS FALSE NEIGHBOUR: 'it returns false'. Refute it at one input. -/
def fnExactAreValidRelationsWrong : ChangeSpec := { name := "fnExactAreValidRelations", fn := fun _ => fun
  | [d] => { results := [.lit (.bool false)], args := [d] }
  | _ => none }
def FnExactAreValidRelationsWrongFalsely : Prop := fnExactAreValidRelationsRow.holds Try.pinned (OpenSpec.ofChange fnExactAreValidRelationsWrong)

/-- 'laws.FnExactRelationIndex': WHATEVER THE INPUT: true; the input reads as it did. -/
def fnExactRelationIndexSpec : ChangeSpec := { name := "fnExactRelationIndex", fn := fun _ => fun
  | [d1, d2] => { results := [.lit (.bool true)], args := [d1, d2] }
  | _ => none }
def fnExactRelationIndexRow : OpenClaim := { program := "ytnneciihbfcemaa", sum := "9ce138b32a441bb9a1e3ba1b37a12ff958cdb70e7c6695ff9f18fd90e558ca95", func := "loop.example/g01919/laws.FnExactRelationIndex", spec := "fnExactRelationIndex", unfollowed := true, recurses := true, apart := false }
def FnExactRelationIndexSaid : Prop := fnExactRelationIndexRow.holds Try.pinned (OpenSpec.ofChange fnExactRelationIndexSpec)

/-- ITS FALSE NEIGHBOUR: 'it returns false'. Refute it at one input. -/
def fnExactRelationIndexWrong : ChangeSpec := { name := "fnExactRelationIndex", fn := fun _ => fun
  | [d1, d2] => { results := [.lit (.bool false)], args := [d1, d2] }
  | _ => none }
def FnExactRelationIndexWrongFalsely : Prop := fnExactRelationIndexRow.holds Try.pinned (OpenSpec.ofChange fnExactRelationIndexWrong)

/- THE SECOND FORM. 'bulk': how many values and letters a reading holds, each counted each time it is reached (what is shared counts as often as it is met; a slice's spare places count too). A statement '..UptoSaid' is the law's where the arguments, and the package variables that the reading takes, are together of bulk at most 1048576: NARROWER than '..Said'. Prove '..Said' where nothing that the law and all that it calls make is longer than what came in: it says more and counts as full. Else prove '..UptoSaid'. A law counts once. -/
mutual
def uptoBulk {H : Type} : DataW H → Nat
  | .lit (.string bytes) => bytes.length + 1
  | .lit _ => 1
  | .nil => 1
  | .ptr d => uptoBulk d + 1
  | .slice elems spare => uptoBulkAll elems + uptoBulkAll spare + 1
  | .agg parts => uptoBulkAll parts + 1
  | .iface _ d => uptoBulk d + 1
  | .map entries => uptoBulkEntries entries + 1
  | .held _ => 1
def uptoBulkAll {H : Type} : List (DataW H) → Nat
  | [] => 0
  | d :: r => uptoBulk d + uptoBulkAll r
def uptoBulkEntries {H : Type} : List (Lit × DataW H) → Nat
  | [] => 0
  | x :: r => uptoBulkEntry x + uptoBulkEntries r
def uptoBulkEntry {H : Type} : Lit × DataW H → Nat
  | (.string bytes, d) => bytes.length + uptoBulk d + 1
  | (_, d) => uptoBulk d + 1
 end
def uptoSmall : (H : Type) → List (DataW H) → Bool := fun _ ds => decide (uptoBulkAll ds ≤ 1048576)
def OpenSpec.upto (s : _root_.Go.ChangeSpec) : _root_.Go.OpenSpec := { _root_.Go.OpenSpec.ofChange s with cond := some uptoSmall }

/-- 'laws.FnExactIsValidRelation', WHERE WHAT IT READS IS OF BULK AT MOST 1048576: true; the input reads as it did. -/
def fnExactIsValidRelationUptoRow : OpenClaim := { program := "ytnneciihbfcemaa", sum := "9ce138b32a441bb9a1e3ba1b37a12ff958cdb70e7c6695ff9f18fd90e558ca95", func := "loop.example/g01919/laws.FnExactIsValidRelation", spec := "fnExactIsValidRelation", apart := false, narrowed := true }
def FnExactIsValidRelationUptoSaid : Prop := fnExactIsValidRelationUptoRow.holds Try.pinned (OpenSpec.upto fnExactIsValidRelationSpec)

/-- 'laws.FnExactAreValidRelations', WHERE WHAT IT READS IS OF BULK AT MOST 1048576: true; the input reads as it did. -/
def fnExactAreValidRelationsUptoRow : OpenClaim := { program := "ytnneciihbfcemaa", sum := "9ce138b32a441bb9a1e3ba1b37a12ff958cdb70e7c6695ff9f18fd90e558ca95", func := "loop.example/g01919/laws.FnExactAreValidRelations", spec := "fnExactAreValidRelations", apart := false, narrowed := true }
def FnExactAreValidRelationsUptoSaid : Prop := fnExactAreValidRelationsUptoRow.holds Try.pinned (OpenSpec.upto fnExactAreValidRelationsSpec)

/-- 'laws.FnExactRelationIndex', WHERE WHAT IT READS IS OF BULK AT MOST 1048576: true; the input reads as it did. -/
def fnExactRelationIndexUptoRow : OpenClaim := { program := "ytnneciihbfcemaa", sum := "9ce138b32a441bb9a1e3ba1b37a12ff958cdb70e7c6695ff9f18fd90e558ca95", func := "loop.example/g01919/laws.FnExactRelationIndex", spec := "fnExactRelationIndex", unfollowed := true, recurses := true, apart := false, narrowed := true }
def FnExactRelationIndexUptoSaid : Prop := fnExactRelationIndexUptoRow.holds Try.pinned (OpenSpec.upto fnExactRelationIndexSpec)

end Rows
end Go.Proofs.Ytnneciihbfcemaa
