/-
  No cell of these rows narrows 'for every input' (looked for: loops, veiled, ifaces, maps, wideKeys, modest, calm, conditions, laid).
  DERIVED. THE GIVEN ROWS OF THIS SEAT. 9 by the template 'for every input the law returns true; each argument reads behind the call as it read before'; 0 by the template 'total and deterministic' (their statements: YtbdgdphehbkjgaaTotals.lean).
  GIVEN WITH THE SEED: the statements are not yours to turn. If you find one false, say at which input.
  Laid BY PROGRAM, IN A SANDBOX (cutbox-rows.mjs): the forced cells as the released guide's own fill.sh prints them over the translation 78c8e3aa365b3c20… (all of the seat's roots in one cut). By AI agents, Wed Nov 11 2026. No macro, syntax, notation, axiom, sorry.
-/
import Derived.Test.YtbdgdphehbkjgaaChecked
import GoSem.Claim
import GoSem.ClaimJoined
import GoSem.ClaimMapViews
import Derived.JoinedTies
import Derived.KernelRfl
namespace Go.Proofs.Ytbdgdphehbkjgaa
/- THE CELL 'sum', in the pinned program and in every row, IS THE sha256 OF THE DUMP (.gsa) THAT YtbdgdphehbkjgaaProg.lean LOADS. Nothing in Lean hashes anything: it is a label: what it is worth is what the hold of that sum in a sandbox is worth. -/
noncomputable def Try.pinned : Pinned := { name := "ytbdgdphehbkjgaa", sum := "78c8e3aa365b3c203119edcc8e4cf2fa021677a9137980fd7f3d49b1ef68386b", checked := Try.checked }
namespace Rows
def none {H : Type} : Left H := { results := [], args := [] }

/-- 'laws.FnInsertDelete': WHATEVER THE INPUT: true; the input reads as it did. -/
def fnInsertDeleteSpec : ChangeSpec := { name := "fnInsertDelete", fn := fun _ => fun
  | [d] => { results := [.lit (.bool true)], args := [d] }
  | _ => none }
def fnInsertDeleteRow : OpenClaim := { program := "ytbdgdphehbkjgaa", sum := "78c8e3aa365b3c203119edcc8e4cf2fa021677a9137980fd7f3d49b1ef68386b", func := "loop.example/g01919/laws.FnInsertDelete", spec := "fnInsertDelete", inPlace := ["slices.overlaps[loop.example/g01919/impl.Fact]"], unfollowed := true, recurses := true, apart := false }
def FnInsertDeleteSaid : Prop := fnInsertDeleteRow.holds Try.pinned (OpenSpec.ofChange fnInsertDeleteSpec)

/-- ITS FALSE NEIGHBOUR: 'it returns false'. Refute it at one input. -/
def fnInsertDeleteWrong : ChangeSpec := { name := "fnInsertDelete", fn := fun _ => fun
  | [d] => { results := [.lit (.bool false)], args := [d] }
  | _ => none }
def FnInsertDeleteWrongFalsely : Prop := fnInsertDeleteRow.holds Try.pinned (OpenSpec.ofChange fnInsertDeleteWrong)

/-- 'laws.FnExactIsValidInstance': WHATEVER THE INPUT: true; the input reads as it did. -/
def fnExactIsValidInstanceSpec : ChangeSpec := { name := "fnExactIsValidInstance", fn := fun _ => fun
  | [d] => { results := [.lit (.bool true)], args := [d] }
  | _ => none }
def fnExactIsValidInstanceRow : OpenClaim := { program := "ytbdgdphehbkjgaa", sum := "78c8e3aa365b3c203119edcc8e4cf2fa021677a9137980fd7f3d49b1ef68386b", func := "loop.example/g01919/laws.FnExactIsValidInstance", spec := "fnExactIsValidInstance", unfollowed := true, recurses := true, apart := false }
def FnExactIsValidInstanceSaid : Prop := fnExactIsValidInstanceRow.holds Try.pinned (OpenSpec.ofChange fnExactIsValidInstanceSpec)

/-- ITS FALSE NEIGHBOUR: 'it returns false'. Refute it at one input. -/
def fnExactIsValidInstanceWrong : ChangeSpec := { name := "fnExactIsValidInstance", fn := fun _ => fun
  | [d] => { results := [.lit (.bool false)], args := [d] }
  | _ => none }
def FnExactIsValidInstanceWrongFalsely : Prop := fnExactIsValidInstanceRow.holds Try.pinned (OpenSpec.ofChange fnExactIsValidInstanceWrong)

/-- 'laws.FnExactContainsFact': WHATEVER THE INPUT: true; the input reads as it did. -/
def fnExactContainsFactSpec : ChangeSpec := { name := "fnExactContainsFact", fn := fun _ => fun
  | [d1, d2] => { results := [.lit (.bool true)], args := [d1, d2] }
  | _ => none }
def fnExactContainsFactRow : OpenClaim := { program := "ytbdgdphehbkjgaa", sum := "78c8e3aa365b3c203119edcc8e4cf2fa021677a9137980fd7f3d49b1ef68386b", func := "loop.example/g01919/laws.FnExactContainsFact", spec := "fnExactContainsFact", unfollowed := true, recurses := true, apart := false }
def FnExactContainsFactSaid : Prop := fnExactContainsFactRow.holds Try.pinned (OpenSpec.ofChange fnExactContainsFactSpec)

/-- ITS FALSE NEIGHBOUR: 'it returns false'. Refute it at one input. -/
def fnExactContainsFactWrong : ChangeSpec := { name := "fnExactContainsFact", fn := fun _ => fun
  | [d1, d2] => { results := [.lit (.bool false)], args := [d1, d2] }
  | _ => none }
def FnExactContainsFactWrongFalsely : Prop := fnExactContainsFactRow.holds Try.pinned (OpenSpec.ofChange fnExactContainsFactWrong)

/-- 'laws.FnExactInsertFact': WHATEVER THE INPUT: true; the input reads as it did. -/
def fnExactInsertFactSpec : ChangeSpec := { name := "fnExactInsertFact", fn := fun _ => fun
  | [d1, d2] => { results := [.lit (.bool true)], args := [d1, d2] }
  | _ => none }
def fnExactInsertFactRow : OpenClaim := { program := "ytbdgdphehbkjgaa", sum := "78c8e3aa365b3c203119edcc8e4cf2fa021677a9137980fd7f3d49b1ef68386b", func := "loop.example/g01919/laws.FnExactInsertFact", spec := "fnExactInsertFact", inPlace := ["slices.overlaps[loop.example/g01919/impl.Fact]"], unfollowed := true, recurses := true, apart := false }
def FnExactInsertFactSaid : Prop := fnExactInsertFactRow.holds Try.pinned (OpenSpec.ofChange fnExactInsertFactSpec)

/-- ITS FALSE NEIGHBOUR: 'it returns false'. Refute it at one input. -/
def fnExactInsertFactWrong : ChangeSpec := { name := "fnExactInsertFact", fn := fun _ => fun
  | [d1, d2] => { results := [.lit (.bool false)], args := [d1, d2] }
  | _ => none }
def FnExactInsertFactWrongFalsely : Prop := fnExactInsertFactRow.holds Try.pinned (OpenSpec.ofChange fnExactInsertFactWrong)

/-- 'laws.FnExactDeleteFact': WHATEVER THE INPUT: true; the input reads as it did. -/
def fnExactDeleteFactSpec : ChangeSpec := { name := "fnExactDeleteFact", fn := fun _ => fun
  | [d1, d2] => { results := [.lit (.bool true)], args := [d1, d2] }
  | _ => none }
def fnExactDeleteFactRow : OpenClaim := { program := "ytbdgdphehbkjgaa", sum := "78c8e3aa365b3c203119edcc8e4cf2fa021677a9137980fd7f3d49b1ef68386b", func := "loop.example/g01919/laws.FnExactDeleteFact", spec := "fnExactDeleteFact", unfollowed := true, recurses := true, apart := false }
def FnExactDeleteFactSaid : Prop := fnExactDeleteFactRow.holds Try.pinned (OpenSpec.ofChange fnExactDeleteFactSpec)

/-- ITS FALSE NEIGHBOUR: 'it returns false'. Refute it at one input. -/
def fnExactDeleteFactWrong : ChangeSpec := { name := "fnExactDeleteFact", fn := fun _ => fun
  | [d1, d2] => { results := [.lit (.bool false)], args := [d1, d2] }
  | _ => none }
def FnExactDeleteFactWrongFalsely : Prop := fnExactDeleteFactRow.holds Try.pinned (OpenSpec.ofChange fnExactDeleteFactWrong)

/-- 'laws.FnExactEqualInstances': WHATEVER THE INPUT: true; the input reads as it did. -/
def fnExactEqualInstancesSpec : ChangeSpec := { name := "fnExactEqualInstances", fn := fun _ => fun
  | [d1, d2] => { results := [.lit (.bool true)], args := [d1, d2] }
  | _ => none }
def fnExactEqualInstancesRow : OpenClaim := { program := "ytbdgdphehbkjgaa", sum := "78c8e3aa365b3c203119edcc8e4cf2fa021677a9137980fd7f3d49b1ef68386b", func := "loop.example/g01919/laws.FnExactEqualInstances", spec := "fnExactEqualInstances", unfollowed := true, recurses := true, apart := false }
def FnExactEqualInstancesSaid : Prop := fnExactEqualInstancesRow.holds Try.pinned (OpenSpec.ofChange fnExactEqualInstancesSpec)

/-- ITS FALSE NEIGHBOUR: 'it returns false'. Refute it at one input. -/
def fnExactEqualInstancesWrong : ChangeSpec := { name := "fnExactEqualInstances", fn := fun _ => fun
  | [d1, d2] => { results := [.lit (.bool false)], args := [d1, d2] }
  | _ => none }
def FnExactEqualInstancesWrongFalsely : Prop := fnExactEqualInstancesRow.holds Try.pinned (OpenSpec.ofChange fnExactEqualInstancesWrong)

/-- 'laws.FnExactIsSubset': WHATEVER THE INPUT: true; the input reads as it did. -/
def fnExactIsSubsetSpec : ChangeSpec := { name := "fnExactIsSubset", fn := fun _ => fun
  | [d1, d2] => { results := [.lit (.bool true)], args := [d1, d2] }
  | _ => none }
def fnExactIsSubsetRow : OpenClaim := { program := "ytbdgdphehbkjgaa", sum := "78c8e3aa365b3c203119edcc8e4cf2fa021677a9137980fd7f3d49b1ef68386b", func := "loop.example/g01919/laws.FnExactIsSubset", spec := "fnExactIsSubset", unfollowed := true, recurses := true, apart := false }
def FnExactIsSubsetSaid : Prop := fnExactIsSubsetRow.holds Try.pinned (OpenSpec.ofChange fnExactIsSubsetSpec)

/-- ITS FALSE NEIGHBOUR: 'it returns false'. Refute it at one input. -/
def fnExactIsSubsetWrong : ChangeSpec := { name := "fnExactIsSubset", fn := fun _ => fun
  | [d1, d2] => { results := [.lit (.bool false)], args := [d1, d2] }
  | _ => none }
def FnExactIsSubsetWrongFalsely : Prop := fnExactIsSubsetRow.holds Try.pinned (OpenSpec.ofChange fnExactIsSubsetWrong)

/-- 'laws.FnExactNullsOfInstance': WHATEVER THE INPUT: true; the input reads as it did. -/
def fnExactNullsOfInstanceSpec : ChangeSpec := { name := "fnExactNullsOfInstance", fn := fun _ => fun
  | [d] => { results := [.lit (.bool true)], args := [d] }
  | _ => none }
def fnExactNullsOfInstanceRow : OpenClaim := { program := "ytbdgdphehbkjgaa", sum := "78c8e3aa365b3c203119edcc8e4cf2fa021677a9137980fd7f3d49b1ef68386b", func := "loop.example/g01919/laws.FnExactNullsOfInstance", spec := "fnExactNullsOfInstance", recurses := true, apart := false }
def FnExactNullsOfInstanceSaid : Prop := fnExactNullsOfInstanceRow.holds Try.pinned (OpenSpec.ofChange fnExactNullsOfInstanceSpec)

/-- ITS FALSE NEIGHBOUR: 'it returns false'. Refute it at one input. -/
def fnExactNullsOfInstanceWrong : ChangeSpec := { name := "fnExactNullsOfInstance", fn := fun _ => fun
  | [d] => { results := [.lit (.bool false)], args := [d] }
  | _ => none }
def FnExactNullsOfInstanceWrongFalsely : Prop := fnExactNullsOfInstanceRow.holds Try.pinned (OpenSpec.ofChange fnExactNullsOfInstanceWrong)

/-- 'laws.FnExactRestrict': WHATEVER THE INPUT: true; the input reads as it did. -/
def fnExactRestrictSpec : ChangeSpec := { name := "fnExactRestrict", fn := fun _ => fun
  | [d1, d2] => { results := [.lit (.bool true)], args := [d1, d2] }
  | _ => none }
def fnExactRestrictRow : OpenClaim := { program := "ytbdgdphehbkjgaa", sum := "78c8e3aa365b3c203119edcc8e4cf2fa021677a9137980fd7f3d49b1ef68386b", func := "loop.example/g01919/laws.FnExactRestrict", spec := "fnExactRestrict", unfollowed := true, recurses := true, apart := false }
def FnExactRestrictSaid : Prop := fnExactRestrictRow.holds Try.pinned (OpenSpec.ofChange fnExactRestrictSpec)

/-- ITS FALSE NEIGHBOUR: 'it returns false'. Refute it at one input. -/
def fnExactRestrictWrong : ChangeSpec := { name := "fnExactRestrict", fn := fun _ => fun
  | [d1, d2] => { results := [.lit (.bool false)], args := [d1, d2] }
  | _ => none }
def FnExactRestrictWrongFalsely : Prop := fnExactRestrictRow.holds Try.pinned (OpenSpec.ofChange fnExactRestrictWrong)

/- THE SECOND FORM. 'bulk': how many values and letters a reading holds, each counted each time it is reached (what is shared counts as often as it is met; a slice's spare places count too). A statement '..UptoSaid' is the law's where the arguments, and the package variables that the reading takes, are together of bulk at most 1048576: NARROWER than '..Said'. Prove '..Said' where nothing that the law and all that it calls make is longer than what came in: it says more and counts as full. Else prove '..UptoSaid'. A law counts once. -/
mutual
def uptoBulk {H : Type} : DataW H → Nat
  | .lit (.string bytes) => bytes.length + 1
  | .lit _ => 1
  | .nil => 1
  | .ptr d => uptoBulk d + 1
  | .slice elems spare => uptoBulkAll elems + uptoBulkAll spare + 1
  | .agg parts => uptoBulkAll parts + 1
  | .iface _ d => uptoBulk d + 1
  | .map entries => uptoBulkEntries entries + 1
  | .held _ => 1
def uptoBulkAll {H : Type} : List (DataW H) → Nat
  | [] => 0
  | d :: r => uptoBulk d + uptoBulkAll r
def uptoBulkEntries {H : Type} : List (Lit × DataW H) → Nat
  | [] => 0
  | x :: r => uptoBulkEntry x + uptoBulkEntries r
def uptoBulkEntry {H : Type} : Lit × DataW H → Nat
  | (.string bytes, d) => bytes.length + uptoBulk d + 1
  | (_, d) => uptoBulk d + 1
 end
def uptoSmall : (H : Type) → List (DataW H) → Bool := fun _ ds => decide (uptoBulkAll ds ≤ 1048576)
def OpenSpec.upto (s : _root_.Go.ChangeSpec) : _root_.Go.OpenSpec := { _root_.Go.OpenSpec.ofChange s with cond := some uptoSmall }

/-- 'laws.FnInsertDelete', WHERE WHAT IT READS IS OF BULK AT MOST 1048576: true; the input reads as it did. -/
def fnInsertDeleteUptoRow : OpenClaim := { program := "ytbdgdphehbkjgaa", sum := "78c8e3aa365b3c203119edcc8e4cf2fa021677a9137980fd7f3d49b1ef68386b", func := "loop.example/g01919/laws.FnInsertDelete", spec := "fnInsertDelete", inPlace := ["slices.overlaps[loop.example/g01919/impl.Fact]"], unfollowed := true, recurses := true, apart := false, narrowed := true }
def FnInsertDeleteUptoSaid : Prop := fnInsertDeleteUptoRow.holds Try.pinned (OpenSpec.upto fnInsertDeleteSpec)

/-- 'laws.FnExactIsValidInstance', WHERE WHAT IT READS IS OF BULK AT MOST 1048576: true; the input reads as it did. -/
def fnExactIsValidInstanceUptoRow : OpenClaim := { program := "ytbdgdphehbkjgaa", sum := "78c8e3aa365b3c203119edcc8e4cf2fa021677a9137980fd7f3d49b1ef68386b", func := "loop.example/g01919/laws.FnExactIsValidInstance", spec := "fnExactIsValidInstance", unfollowed := true, recurses := true, apart := false, narrowed := true }
def FnExactIsValidInstanceUptoSaid : Prop := fnExactIsValidInstanceUptoRow.holds Try.pinned (OpenSpec.upto fnExactIsValidInstanceSpec)

/-- 'laws.FnExactContainsFact', WHERE WHAT IT READS IS OF BULK AT MOST 1048576: true; the input reads as it did. -/
def fnExactContainsFactUptoRow : OpenClaim := { program := "ytbdgdphehbkjgaa", sum := "78c8e3aa365b3c203119edcc8e4cf2fa021677a9137980fd7f3d49b1ef68386b", func := "loop.example/g01919/laws.FnExactContainsFact", spec := "fnExactContainsFact", unfollowed := true, recurses := true, apart := false, narrowed := true }
def FnExactContainsFactUptoSaid : Prop := fnExactContainsFactUptoRow.holds Try.pinned (OpenSpec.upto fnExactContainsFactSpec)

/-- 'laws.FnExactInsertFact', WHERE WHAT IT READS IS OF BULK AT MOST 1048576: true; the input reads as it did. -/
def fnExactInsertFactUptoRow : OpenClaim := { program := "ytbdgdphehbkjgaa", sum := "78c8e3aa365b3c203119edcc8e4cf2fa021677a9137980fd7f3d49b1ef68386b", func := "loop.example/g01919/laws.FnExactInsertFact", spec := "fnExactInsertFact", inPlace := ["slices.overlaps[loop.example/g01919/impl.Fact]"], unfollowed := true, recurses := true, apart := false, narrowed := true }
def FnExactInsertFactUptoSaid : Prop := fnExactInsertFactUptoRow.holds Try.pinned (OpenSpec.upto fnExactInsertFactSpec)

/-- 'laws.FnExactDeleteFact', WHERE WHAT IT READS IS OF BULK AT MOST 1048576: true; the input reads as it did. -/
def fnExactDeleteFactUptoRow : OpenClaim := { program := "ytbdgdphehbkjgaa", sum := "78c8e3aa365b3c203119edcc8e4cf2fa021677a9137980fd7f3d49b1ef68386b", func := "loop.example/g01919/laws.FnExactDeleteFact", spec := "fnExactDeleteFact", unfollowed := true, recurses := true, apart := false, narrowed := true }
def FnExactDeleteFactUptoSaid : Prop := fnExactDeleteFactUptoRow.holds Try.pinned (OpenSpec.upto fnExactDeleteFactSpec)

/-- 'laws.FnExactEqualInstances', WHERE WHAT IT READS IS OF BULK AT MOST 1048576: true; the input reads as it did. -/
def fnExactEqualInstancesUptoRow : OpenClaim := { program := "ytbdgdphehbkjgaa", sum := "78c8e3aa365b3c203119edcc8e4cf2fa021677a9137980fd7f3d49b1ef68386b", func := "loop.example/g01919/laws.FnExactEqualInstances", spec := "fnExactEqualInstances", unfollowed := true, recurses := true, apart := false, narrowed := true }
def FnExactEqualInstancesUptoSaid : Prop := fnExactEqualInstancesUptoRow.holds Try.pinned (OpenSpec.upto fnExactEqualInstancesSpec)

/-- 'laws.FnExactIsSubset', WHERE WHAT IT READS IS OF BULK AT MOST 1048576: true; the input reads as it did. -/
def fnExactIsSubsetUptoRow : OpenClaim := { program := "ytbdgdphehbkjgaa", sum := "78c8e3aa365b3c203119edcc8e4cf2fa021677a9137980fd7f3d49b1ef68386b", func := "loop.example/g01919/laws.FnExactIsSubset", spec := "fnExactIsSubset", unfollowed := true, recurses := true, apart := false, narrowed := true }
def FnExactIsSubsetUptoSaid : Prop := fnExactIsSubsetUptoRow.holds Try.pinned (OpenSpec.upto fnExactIsSubsetSpec)

/-- 'laws.FnExactNullsOfInstance', WHERE WHAT IT READS IS OF BULK AT MOST 1048576: true; the input reads as it did. -/
def fnExactNullsOfInstanceUptoRow : OpenClaim := { program := "ytbdgdphehbkjgaa", sum := "78c8e3aa365b3c203119edcc8e4cf2fa021677a9137980fd7f3d49b1ef68386b", func := "loop.example/g01919/laws.FnExactNullsOfInstance", spec := "fnExactNullsOfInstance", recurses := true, apart := false, narrowed := true }
def FnExactNullsOfInstanceUptoSaid : Prop := fnExactNullsOfInstanceUptoRow.holds Try.pinned (OpenSpec.upto fnExactNullsOfInstanceSpec)

/-- 'laws.FnExactRestrict', WHERE WHAT IT READS IS OF BULK AT MOST 1048576: true; the input reads as it did. -/
def fnExactRestrictUptoRow : OpenClaim := { program := "ytbdgdphehbkjgaa", sum := "78c8e3aa365b3c203119edcc8e4cf2fa021677a9137980fd7f3d49b1ef68386b", func := "loop.example/g01919/laws.FnExactRestrict", spec := "fnExactRestrict", unfollowed := true, recurses := true, apart := false, narrowed := true }
def FnExactRestrictUptoSaid : Prop := fnExactRestrictUptoRow.holds Try.pinned (OpenSpec.upto fnExactRestrictSpec)

end Rows
end Go.Proofs.Ytbdgdphehbkjgaa
