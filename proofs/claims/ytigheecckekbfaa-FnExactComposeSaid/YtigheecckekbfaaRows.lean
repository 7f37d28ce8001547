/-
  No cell of these rows narrows 'for every input' (looked for: loops, veiled, ifaces, maps, wideKeys, modest, calm, conditions, laid).
  DERIVED. THE GIVEN ROWS OF THIS SEAT. 10 by the template 'for every input the law returns true; each argument reads behind the call as it read before'; 0 by the template 'total and deterministic' (their statements: YtigheecckekbfaaTotals.lean).
  GIVEN WITH THE SEED: the statements are not yours to turn. If you find one false, say at which input.
  Laid BY PROGRAM, IN A SANDBOX (cutbox-rows.mjs): the forced cells as the released guide's own fill.sh prints them over the translation f61a4a2e93b89f07… (all of the seat's roots in one cut). By AI agents, Wed Nov 11 2026. No macro, syntax, notation, axiom, sorry.
-/
import Derived.Test.YtigheecckekbfaaChecked
import GoSem.Claim
import GoSem.ClaimJoined
import GoSem.ClaimMapViews
import Derived.JoinedTies
import Derived.KernelRfl
namespace Go.Proofs.Ytigheecckekbfaa
/- THE CELL 'sum', in the pinned program and in every row, IS THE sha256 OF THE DUMP (.gsa) THAT YtigheecckekbfaaProg.lean LOADS. Nothing in Lean hashes anything: it is a label: what it is worth is what the hold of that sum in a sandbox is worth. -/
noncomputable def Try.pinned : Pinned := { name := "ytigheecckekbfaa", sum := "f61a4a2e93b89f076ac61a7985e33738440e60085943b1bbc1b1447d8781a0dd", checked := Try.checked }
namespace Rows
def none {H : Type} : Left H := { results := [], args := [] }

/-- 'laws.FnExactIsValidSubstitution': WHATEVER THE INPUT: true; the input reads as it did. -/
def fnExactIsValidSubstitutionSpec : ChangeSpec := { name := "fnExactIsValidSubstitution", fn := fun _ => fun
  | [d] => { results := [.lit (.bool true)], args := [d] }
  | _ => none }
def fnExactIsValidSubstitutionRow : OpenClaim := { program := "ytigheecckekbfaa", sum := "f61a4a2e93b89f076ac61a7985e33738440e60085943b1bbc1b1447d8781a0dd", func := "loop.example/g01919/laws.FnExactIsValidSubstitution", spec := "fnExactIsValidSubstitution", apart := false }
def FnExactIsValidSubstitutionSaid : Prop := fnExactIsValidSubstitutionRow.holds Try.pinned (OpenSpec.ofChange fnExactIsValidSubstitutionSpec)

/-- ITS FALSE NEIGHBOUR: 'it returns false'. Refute it at one input. -/
def fnExactIsValidSubstitutionWrong : ChangeSpec := { name := "fnExactIsValidSubstitution", fn := fun _ => fun
  | [d] => { results := [.lit (.bool false)], args := [d] }
  | _ => none }
def FnExactIsValidSubstitutionWrongFalsely : Prop := fnExactIsValidSubstitutionRow.holds Try.pinned (OpenSpec.ofChange fnExactIsValidSubstitutionWrong)

/-- 'laws.FnExactApplyToValue': WHATEVER THE INPUT: true; the input reads as it did. -/
def fnExactApplyToValueSpec : ChangeSpec := { name := "fnExactApplyToValue", fn := fun _ => fun
  | [d1, d2] => { results := [.lit (.bool true)], args := [d1, d2] }
  | _ => none }
def fnExactApplyToValueRow : OpenClaim := { program := "ytigheecckekbfaa", sum := "f61a4a2e93b89f076ac61a7985e33738440e60085943b1bbc1b1447d8781a0dd", func := "loop.example/g01919/laws.FnExactApplyToValue", spec := "fnExactApplyToValue", apart := false }
def FnExactApplyToValueSaid : Prop := fnExactApplyToValueRow.holds Try.pinned (OpenSpec.ofChange fnExactApplyToValueSpec)

/-- ITS FALSE NEIGHBOUR: 'it returns false'. Refute it at one input. -/
def fnExactApplyToValueWrong : ChangeSpec := { name := "fnExactApplyToValue", fn := fun _ => fun
  | [d1, d2] => { results := [.lit (.bool false)], args := [d1, d2] }
  | _ => none }
def FnExactApplyToValueWrongFalsely : Prop := fnExactApplyToValueRow.holds Try.pinned (OpenSpec.ofChange fnExactApplyToValueWrong)

/-- 'laws.FnExactApplyToFact': WHATEVER THE INPUT: true; the input reads as it did. -/
def fnExactApplyToFactSpec : ChangeSpec := { name := "fnExactApplyToFact", fn := fun _ => fun
  | [d1, d2] => { results := [.lit (.bool true)], args := [d1, d2] }
  | _ => none }
def fnExactApplyToFactRow : OpenClaim := { program := "ytigheecckekbfaa", sum := "f61a4a2e93b89f076ac61a7985e33738440e60085943b1bbc1b1447d8781a0dd", func := "loop.example/g01919/laws.FnExactApplyToFact", spec := "fnExactApplyToFact", apart := false }
def FnExactApplyToFactSaid : Prop := fnExactApplyToFactRow.holds Try.pinned (OpenSpec.ofChange fnExactApplyToFactSpec)

/-- ITS FALSE NEIGHBOUR: 'it returns false'. Refute it at one input. -/
def fnExactApplyToFactWrong : ChangeSpec := { name := "fnExactApplyToFact", fn := fun _ => fun
  | [d1, d2] => { results := [.lit (.bool false)], args := [d1, d2] }
  | _ => none }
def FnExactApplyToFactWrongFalsely : Prop := fnExactApplyToFactRow.holds Try.pinned (OpenSpec.ofChange fnExactApplyToFactWrong)

/-- 'laws.FnExactApplyToInstance': WHATEVER THE INPUT: true; the input reads as it did. -/
def fnExactApplyToInstanceSpec : ChangeSpec := { name := "fnExactApplyToInstance", fn := fun _ => fun
  | [d1, d2] => { results := [.lit (.bool true)], args := [d1, d2] }
  | _ => none }
def fnExactApplyToInstanceRow : OpenClaim := { program := "ytigheecckekbfaa", sum := "f61a4a2e93b89f076ac61a7985e33738440e60085943b1bbc1b1447d8781a0dd", func := "loop.example/g01919/laws.FnExactApplyToInstance", spec := "fnExactApplyToInstance", unfollowed := true, recurses := true, apart := false }
def FnExactApplyToInstanceSaid : Prop := fnExactApplyToInstanceRow.holds Try.pinned (OpenSpec.ofChange fnExactApplyToInstanceSpec)

/-- ITS FALSE NEIGHBOUR: 'it returns false'. Refute it at one input. -/
def fnExactApplyToInstanceWrong : ChangeSpec := { name := "fnExactApplyToInstance", fn := fun _ => fun
  | [d1, d2] => { results := [.lit (.bool false)], args := [d1, d2] }
  | _ => none }
def FnExactApplyToInstanceWrongFalsely : Prop := fnExactApplyToInstanceRow.holds Try.pinned (OpenSpec.ofChange fnExactApplyToInstanceWrong)

/-- 'laws.FnExactCompose': WHATEVER THE INPUT: true; the input reads as it did. -/
def fnExactComposeSpec : ChangeSpec := { name := "fnExactCompose", fn := fun _ => fun
  | [d1, d2] => { results := [.lit (.bool true)], args := [d1, d2] }
  | _ => none }
def fnExactComposeRow : OpenClaim := { program := "ytigheecckekbfaa", sum := "f61a4a2e93b89f076ac61a7985e33738440e60085943b1bbc1b1447d8781a0dd", func := "loop.example/g01919/laws.FnExactCompose", spec := "fnExactCompose", recurses := true, apart := false }
def FnExactComposeSaid : Prop := fnExactComposeRow.holds Try.pinned (OpenSpec.ofChange fnExactComposeSpec)

/-- ITS FALSE NEIGHBOUR: 'it returns false'. Refute it at one input. -/
def fnExactComposeWrong : ChangeSpec := { name := "fnExactCompose", fn := fun _ => fun
  | [d1, d2] => { results := [.lit (.bool false)], args := [d1, d2] }
  | _ => none }
def FnExactComposeWrongFalsely : Prop := fnExactComposeRow.holds Try.pinned (OpenSpec.ofChange fnExactComposeWrong)

/-- 'laws.FnExactEqualSubstitutions': WHATEVER THE INPUT: true; the input reads as it did. -/
def fnExactEqualSubstitutionsSpec : ChangeSpec := { name := "fnExactEqualSubstitutions", fn := fun _ => fun
  | [d1, d2] => { results := [.lit (.bool true)], args := [d1, d2] }
  | _ => none }
def fnExactEqualSubstitutionsRow : OpenClaim := { program := "ytigheecckekbfaa", sum := "f61a4a2e93b89f076ac61a7985e33738440e60085943b1bbc1b1447d8781a0dd", func := "loop.example/g01919/laws.FnExactEqualSubstitutions", spec := "fnExactEqualSubstitutions", apart := false }
def FnExactEqualSubstitutionsSaid : Prop := fnExactEqualSubstitutionsRow.holds Try.pinned (OpenSpec.ofChange fnExactEqualSubstitutionsSpec)

/-- ITS FALSE NEIGHBOUR: 'it returns false'. Refute it at one input. -/
def fnExactEqualSubstitutionsWrong : ChangeSpec := { name := "fnExactEqualSubstitutions", fn := fun _ => fun
  | [d1, d2] => { results := [.lit (.bool false)], args := [d1, d2] }
  | _ => none }
def FnExactEqualSubstitutionsWrongFalsely : Prop := fnExactEqualSubstitutionsRow.holds Try.pinned (OpenSpec.ofChange fnExactEqualSubstitutionsWrong)

/-- 'laws.FnInsertDelete': WHATEVER THE INPUT: true; the input reads as it did. -/
def fnInsertDeleteSpec : ChangeSpec := { name := "fnInsertDelete", fn := fun _ => fun
  | [d] => { results := [.lit (.bool true)], args := [d] }
  | _ => none }
def fnInsertDeleteRow : OpenClaim := { program := "ytigheecckekbfaa", sum := "f61a4a2e93b89f076ac61a7985e33738440e60085943b1bbc1b1447d8781a0dd", func := "loop.example/g01919/laws.FnInsertDelete", spec := "fnInsertDelete", inPlace := ["slices.overlaps[loop.example/g01919/impl.Fact]"], unfollowed := true, recurses := true, apart := false }
def FnInsertDeleteSaid : Prop := fnInsertDeleteRow.holds Try.pinned (OpenSpec.ofChange fnInsertDeleteSpec)

/-- ITS FALSE NEIGHBOUR: 'it returns false'. Refute it at one input. -/
def fnInsertDeleteWrong : ChangeSpec := { name := "fnInsertDelete", fn := fun _ => fun
  | [d] => { results := [.lit (.bool false)], args := [d] }
  | _ => none }
def FnInsertDeleteWrongFalsely : Prop := fnInsertDeleteRow.holds Try.pinned (OpenSpec.ofChange fnInsertDeleteWrong)

/-- 'laws.FnExactNullNumber': WHATEVER THE INPUT: true; the input reads as it did. -/
def fnExactNullNumberSpec : ChangeSpec := { name := "fnExactNullNumber", fn := fun _ => fun
  | [d] => { results := [.lit (.bool true)], args := [d] }
  | _ => none }
def fnExactNullNumberRow : OpenClaim := { program := "ytigheecckekbfaa", sum := "f61a4a2e93b89f076ac61a7985e33738440e60085943b1bbc1b1447d8781a0dd", func := "loop.example/g01919/laws.FnExactNullNumber", spec := "fnExactNullNumber", apart := false }
def FnExactNullNumberSaid : Prop := fnExactNullNumberRow.holds Try.pinned (OpenSpec.ofChange fnExactNullNumberSpec)

/-- ITS FALSE NEIGHBOUR: 'it returns false'. Refute it at one input. -/
def fnExactNullNumberWrong : ChangeSpec := { name := "fnExactNullNumber", fn := fun _ => fun
  | [d] => { results := [.lit (.bool false)], args := [d] }
  | _ => none }
def FnExactNullNumberWrongFalsely : Prop := fnExactNullNumberRow.holds Try.pinned (OpenSpec.ofChange fnExactNullNumberWrong)

/-- 'laws.FnExactIsValidValue': WHATEVER THE INPUT: true; the input reads as it did. -/
def fnExactIsValidValueSpec : ChangeSpec := { name := "fnExactIsValidValue", fn := fun _ => fun
  | [d] => { results := [.lit (.bool true)], args := [d] }
  | _ => none }
def fnExactIsValidValueRow : OpenClaim := { program := "ytigheecckekbfaa", sum := "f61a4a2e93b89f076ac61a7985e33738440e60085943b1bbc1b1447d8781a0dd", func := "loop.example/g01919/laws.FnExactIsValidValue", spec := "fnExactIsValidValue", apart := false }
def FnExactIsValidValueSaid : Prop := fnExactIsValidValueRow.holds Try.pinned (OpenSpec.ofChange fnExactIsValidValueSpec)

/-- ITS FALSE NEIGHBOUR: 'it returns false'. Refute it at one input. -/
def fnExactIsValidValueWrong : ChangeSpec := { name := "fnExactIsValidValue", fn := fun _ => fun
  | [d] => { results := [.lit (.bool false)], args := [d] }
  | _ => none }
def FnExactIsValidValueWrongFalsely : Prop := fnExactIsValidValueRow.holds Try.pinned (OpenSpec.ofChange fnExactIsValidValueWrong)

/-- 'laws.FnExactIsValidInstance': WHATEVER THE INPUT: true; the input reads as it did. -/
def fnExactIsValidInstanceSpec : ChangeSpec := { name := "fnExactIsValidInstance", fn := fun _ => fun
  | [d] => { results := [.lit (.bool true)], args := [d] }
  | _ => none }
def fnExactIsValidInstanceRow : OpenClaim := { program := "ytigheecckekbfaa", sum := "f61a4a2e93b89f076ac61a7985e33738440e60085943b1bbc1b1447d8781a0dd", func := "loop.example/g01919/laws.FnExactIsValidInstance", spec := "fnExactIsValidInstance", unfollowed := true, recurses := true, apart := false }
def FnExactIsValidInstanceSaid : Prop := fnExactIsValidInstanceRow.holds Try.pinned (OpenSpec.ofChange fnExactIsValidInstanceSpec)

/-- ITS FALSE NEIGHBOUR: 'it returns false'. Refute it at one input. -/
def fnExactIsValidInstanceWrong : ChangeSpec := { name := "fnExactIsValidInstance", fn := fun _ => fun
  | [d] => { results := [.lit (.bool false)], args := [d] }
  | _ => none }
def FnExactIsValidInstanceWrongFalsely : Prop := fnExactIsValidInstanceRow.holds Try.pinned (OpenSpec.ofChange fnExactIsValidInstanceWrong)

/- THE SECOND FORM. 'bulk': how many values and letters a reading holds, each counted each time it is reached (what is shared counts as often as it is met; a slice's spare places count too). A statement '..UptoSaid' is the law's where the arguments, and the package variables that the reading takes, are together of bulk at most 1048576: NARROWER than '..Said'. Prove '..Said' where nothing that the law and all that it calls make is longer than what came in: it says more and counts as full. Else prove '..UptoSaid'. A law counts once. -/
mutual
def uptoBulk {H : Type} : DataW H → Nat
  | .lit (.string bytes) => bytes.length + 1
  | .lit _ => 1
  | .nil => 1
  | .ptr d => uptoBulk d + 1
  | .slice elems spare => uptoBulkAll elems + uptoBulkAll spare + 1
  | .agg parts => uptoBulkAll parts + 1
  | .iface _ d => uptoBulk d + 1
  | .map entries => uptoBulkEntries entries + 1
  | .held _ => 1
def uptoBulkAll {H : Type} : List (DataW H) → Nat
  | [] => 0
  | d :: r => uptoBulk d + uptoBulkAll r
def uptoBulkEntries {H : Type} : List (Lit × DataW H) → Nat
  | [] => 0
  | x :: r => uptoBulkEntry x + uptoBulkEntries r
def uptoBulkEntry {H : Type} : Lit × DataW H → Nat
  | (.string bytes, d) => bytes.length + uptoBulk d + 1
  | (_, d) => uptoBulk d + 1
 end
def uptoSmall : (H : Type) → List (DataW H) → Bool := fun _ ds => decide (uptoBulkAll ds ≤ 1048576)
def OpenSpec.upto (s : _root_.Go.ChangeSpec) : _root_.Go.OpenSpec := { _root_.Go.OpenSpec.ofChange s with cond := some uptoSmall }

/-- 'laws.FnExactIsValidSubstitution', WHERE WHAT IT READS IS OF BULK AT MOST 1048576: true; the input reads as it did. -/
def fnExactIsValidSubstitutionUptoRow : OpenClaim := { program := "ytigheecckekbfaa", sum := "f61a4a2e93b89f076ac61a7985e33738440e60085943b1bbc1b1447d8781a0dd", func := "loop.example/g01919/laws.FnExactIsValidSubstitution", spec := "fnExactIsValidSubstitution", apart := false, narrowed := true }
def FnExactIsValidSubstitutionUptoSaid : Prop := fnExactIsValidSubstitutionUptoRow.holds Try.pinned (OpenSpec.upto fnExactIsValidSubstitutionSpec)

/-- 'laws.FnExactApplyToValue', WHERE WHAT IT READS IS OF BULK AT MOST 1048576: true; the input reads as it did. -/
def fnExactApplyToValueUptoRow : OpenClaim := { program := "ytigheecckekbfaa", sum := "f61a4a2e93b89f076ac61a7985e33738440e60085943b1bbc1b1447d8781a0dd", func := "loop.example/g01919/laws.FnExactApplyToValue", spec := "fnExactApplyToValue", apart := false, narrowed := true }
def FnExactApplyToValueUptoSaid : Prop := fnExactApplyToValueUptoRow.holds Try.pinned (OpenSpec.upto fnExactApplyToValueSpec)

/-- 'laws.FnExactApplyToFact', WHERE WHAT IT READS IS OF BULK AT MOST 1048576: true; the input reads as it did. -/
def fnExactApplyToFactUptoRow : OpenClaim := { program := "ytigheecckekbfaa", sum := "f61a4a2e93b89f076ac61a7985e33738440e60085943b1bbc1b1447d8781a0dd", func := "loop.example/g01919/laws.FnExactApplyToFact", spec := "fnExactApplyToFact", apart := false, narrowed := true }
def FnExactApplyToFactUptoSaid : Prop := fnExactApplyToFactUptoRow.holds Try.pinned (OpenSpec.upto fnExactApplyToFactSpec)

/-- 'laws.FnExactApplyToInstance', WHERE WHAT IT READS IS OF BULK AT MOST 1048576: true; the input reads as it did. -/
def fnExactApplyToInstanceUptoRow : OpenClaim := { program := "ytigheecckekbfaa", sum := "f61a4a2e93b89f076ac61a7985e33738440e60085943b1bbc1b1447d8781a0dd", func := "loop.example/g01919/laws.FnExactApplyToInstance", spec := "fnExactApplyToInstance", unfollowed := true, recurses := true, apart := false, narrowed := true }
def FnExactApplyToInstanceUptoSaid : Prop := fnExactApplyToInstanceUptoRow.holds Try.pinned (OpenSpec.upto fnExactApplyToInstanceSpec)

/-- 'laws.FnExactCompose', WHERE WHAT IT READS IS OF BULK AT MOST 1048576: true; the input reads as it did. -/
def fnExactComposeUptoRow : OpenClaim := { program := "ytigheecckekbfaa", sum := "f61a4a2e93b89f076ac61a7985e33738440e60085943b1bbc1b1447d8781a0dd", func := "loop.example/g01919/laws.FnExactCompose", spec := "fnExactCompose", recurses := true, apart := false, narrowed := true }
def FnExactComposeUptoSaid : Prop := fnExactComposeUptoRow.holds Try.pinned (OpenSpec.upto fnExactComposeSpec)

/-- 'laws.FnExactEqualSubstitutions', WHERE WHAT IT READS IS OF BULK AT MOST 1048576: true; the input reads as it did. -/
def fnExactEqualSubstitutionsUptoRow : OpenClaim := { program := "ytigheecckekbfaa", sum := "f61a4a2e93b89f076ac61a7985e33738440e60085943b1bbc1b1447d8781a0dd", func := "loop.example/g01919/laws.FnExactEqualSubstitutions", spec := "fnExactEqualSubstitutions", apart := false, narrowed := true }
def FnExactEqualSubstitutionsUptoSaid : Prop := fnExactEqualSubstitutionsUptoRow.holds Try.pinned (OpenSpec.upto fnExactEqualSubstitutionsSpec)

/-- 'laws.FnInsertDelete', WHERE WHAT IT READS IS OF BULK AT MOST 1048576: true; the input reads as it did. -/
def fnInsertDeleteUptoRow : OpenClaim := { program := "ytigheecckekbfaa", sum := "f61a4a2e93b89f076ac61a7985e33738440e60085943b1bbc1b1447d8781a0dd", func := "loop.example/g01919/laws.FnInsertDelete", spec := "fnInsertDelete", inPlace := ["slices.overlaps[loop.example/g01919/impl.Fact]"], unfollowed := true, recurses := true, apart := false, narrowed := true }
def FnInsertDeleteUptoSaid : Prop := fnInsertDeleteUptoRow.holds Try.pinned (OpenSpec.upto fnInsertDeleteSpec)

/-- 'laws.FnExactNullNumber', WHERE WHAT IT READS IS OF BULK AT MOST 1048576: true; the input reads as it did. -/
def fnExactNullNumberUptoRow : OpenClaim := { program := "ytigheecckekbfaa", sum := "f61a4a2e93b89f076ac61a7985e33738440e60085943b1bbc1b1447d8781a0dd", func := "loop.example/g01919/laws.FnExactNullNumber", spec := "fnExactNullNumber", apart := false, narrowed := true }
def FnExactNullNumberUptoSaid : Prop := fnExactNullNumberUptoRow.holds Try.pinned (OpenSpec.upto fnExactNullNumberSpec)

/-- 'laws.FnExactIsValidValue', WHERE WHAT IT READS IS OF BULK AT MOST 1048576: true; the input reads as it did. -/
def fnExactIsValidValueUptoRow : OpenClaim := { program := "ytigheecckekbfaa", sum := "f61a4a2e93b89f076ac61a7985e33738440e60085943b1bbc1b1447d8781a0dd", func := "loop.example/g01919/laws.FnExactIsValidValue", spec := "fnExactIsValidValue", apart := false, narrowed := true }
def FnExactIsValidValueUptoSaid : Prop := fnExactIsValidValueUptoRow.holds Try.pinned (OpenSpec.upto fnExactIsValidValueSpec)

/-- 'laws.FnExactIsValidInstance', WHERE WHAT IT READS IS OF BULK AT MOST 1048576: true; the input reads as it did. -/
def fnExactIsValidInstanceUptoRow : OpenClaim := { program := "ytigheecckekbfaa", sum := "f61a4a2e93b89f076ac61a7985e33738440e60085943b1bbc1b1447d8781a0dd", func := "loop.example/g01919/laws.FnExactIsValidInstance", spec := "fnExactIsValidInstance", unfollowed := true, recurses := true, apart := false, narrowed := true }
def FnExactIsValidInstanceUptoSaid : Prop := fnExactIsValidInstanceUptoRow.holds Try.pinned (OpenSpec.upto fnExactIsValidInstanceSpec)

end Rows
end Go.Proofs.Ytigheecckekbfaa
