/-
  No cell of these rows narrows 'for every input' (looked for: loops, veiled, ifaces, maps, wideKeys, modest, calm, conditions, laid).
  DERIVED. THE GIVEN ROWS OF THIS SEAT. 7 by the template 'for every input the law returns true; each argument reads behind the call as it read before'; 0 by the template 'total and deterministic' (their statements: YtchlelkhpahakaaTotals.lean).
  GIVEN WITH THE SEED: the statements are not yours to turn. If you find one false, say at which input.
  Laid BY PROGRAM, IN A SANDBOX (cutbox-rows.mjs): the forced cells as the released guide's own fill.sh prints them over the translation 7291953a5ea6a3d5… (all of the seat's roots in one cut). By AI agents, Wed Nov 11 2026. No macro, syntax, notation, axiom, sorry.
-/
import Derived.Test.YtchlelkhpahakaaChecked
import GoSem.Claim
import GoSem.ClaimJoined
import GoSem.ClaimMapViews
import Derived.JoinedTies
import Derived.KernelRfl
namespace Go.Proofs.Ytchlelkhpahakaa
/- THE CELL 'sum', in the pinned program and in every row, IS THE sha256 OF THE DUMP (.gsa) THAT YtchlelkhpahakaaProg.lean LOADS. Nothing in Lean hashes anything: it is a label: what it is worth is what the hold of that sum in a sandbox is worth. -/
noncomputable def Try.pinned : Pinned := { name := "ytchlelkhpahakaa", sum := "7291953a5ea6a3d5eaf951c4f24ffc2fedf78cef73f4091510cb3609bc2a0d09", checked := Try.checked }
namespace Rows
def none {H : Type} : Left H := { results := [], args := [] }

/-- 'laws.FnExactIsValidFact': WHATEVER THE INPUT: true; the input reads as it did. -/
def fnExactIsValidFactSpec : ChangeSpec := { name := "fnExactIsValidFact", fn := fun _ => fun
  | [d1, d2] => { results := [.lit (.bool true)], args := [d1, d2] }
  | _ => none }
def fnExactIsValidFactRow : OpenClaim := { program := "ytchlelkhpahakaa", sum := "7291953a5ea6a3d5eaf951c4f24ffc2fedf78cef73f4091510cb3609bc2a0d09", func := "loop.example/g01919/laws.FnExactIsValidFact", spec := "fnExactIsValidFact", apart := false }
def FnExactIsValidFactSaid : Prop := fnExactIsValidFactRow.holds Try.pinned (OpenSpec.ofChange fnExactIsValidFactSpec)

/-- ITS FALSE NEIGHBOUR: 'it returns false'. Refute it at one input. -/
def fnExactIsValidFactWrong : ChangeSpec := { name := "fnExactIsValidFact", fn := fun _ => fun
  | [d1, d2] => { results := [.lit (.bool false)], args := [d1, d2] }
  | _ => none }
def FnExactIsValidFactWrongFalsely : Prop := fnExactIsValidFactRow.holds Try.pinned (OpenSpec.ofChange fnExactIsValidFactWrong)

/-- 'laws.FnExactIsValidInstance': WHATEVER THE INPUT: true; the input reads as it did. -/
def fnExactIsValidInstanceSpec : ChangeSpec := { name := "fnExactIsValidInstance", fn := fun _ => fun
  | [d] => { results := [.lit (.bool true)], args := [d] }
  | _ => none }
def fnExactIsValidInstanceRow : OpenClaim := { program := "ytchlelkhpahakaa", sum := "7291953a5ea6a3d5eaf951c4f24ffc2fedf78cef73f4091510cb3609bc2a0d09", func := "loop.example/g01919/laws.FnExactIsValidInstance", spec := "fnExactIsValidInstance", unfollowed := true, recurses := true, apart := false }
def FnExactIsValidInstanceSaid : Prop := fnExactIsValidInstanceRow.holds Try.pinned (OpenSpec.ofChange fnExactIsValidInstanceSpec)

/-- ITS FALSE NEIGHBOUR: 'it returns false'. Refute it at one input. -/
def fnExactIsValidInstanceWrong : ChangeSpec := { name := "fnExactIsValidInstance", fn := fun _ => fun
  | [d] => { results := [.lit (.bool false)], args := [d] }
  | _ => none }
def FnExactIsValidInstanceWrongFalsely : Prop := fnExactIsValidInstanceRow.holds Try.pinned (OpenSpec.ofChange fnExactIsValidInstanceWrong)

/-- 'laws.FnExactContainsFact': WHATEVER THE INPUT: true; the input reads as it did. -/
def fnExactContainsFactSpec : ChangeSpec := { name := "fnExactContainsFact", fn := fun _ => fun
  | [d1, d2] => { results := [.lit (.bool true)], args := [d1, d2] }
  | _ => none }
def fnExactContainsFactRow : OpenClaim := { program := "ytchlelkhpahakaa", sum := "7291953a5ea6a3d5eaf951c4f24ffc2fedf78cef73f4091510cb3609bc2a0d09", func := "loop.example/g01919/laws.FnExactContainsFact", spec := "fnExactContainsFact", unfollowed := true, recurses := true, apart := false }
def FnExactContainsFactSaid : Prop := fnExactContainsFactRow.holds Try.pinned (OpenSpec.ofChange fnExactContainsFactSpec)

/-- ITS FALSE NEIGHBOUR: 'it returns false'. Refute it at one input. -/
def fnExactContainsFactWrong : ChangeSpec := { name := "fnExactContainsFact", fn := fun _ => fun
  | [d1, d2] => { results := [.lit (.bool false)], args := [d1, d2] }
  | _ => none }
def FnExactContainsFactWrongFalsely : Prop := fnExactContainsFactRow.holds Try.pinned (OpenSpec.ofChange fnExactContainsFactWrong)

/-- 'laws.FnExactInsertFact': WHATEVER THE INPUT: true; the input reads as it did. -/
def fnExactInsertFactSpec : ChangeSpec := { name := "fnExactInsertFact", fn := fun _ => fun
  | [d1, d2] => { results := [.lit (.bool true)], args := [d1, d2] }
  | _ => none }
def fnExactInsertFactRow : OpenClaim := { program := "ytchlelkhpahakaa", sum := "7291953a5ea6a3d5eaf951c4f24ffc2fedf78cef73f4091510cb3609bc2a0d09", func := "loop.example/g01919/laws.FnExactInsertFact", spec := "fnExactInsertFact", inPlace := ["slices.overlaps[loop.example/g01919/impl.Fact]"], unfollowed := true, recurses := true, apart := false }
def FnExactInsertFactSaid : Prop := fnExactInsertFactRow.holds Try.pinned (OpenSpec.ofChange fnExactInsertFactSpec)

/-- ITS FALSE NEIGHBOUR: 'it returns false'. Refute it at one input. -/
def fnExactInsertFactWrong : ChangeSpec := { name := "fnExactInsertFact", fn := fun _ => fun
  | [d1, d2] => { results := [.lit (.bool false)], args := [d1, d2] }
  | _ => none }
def FnExactInsertFactWrongFalsely : Prop := fnExactInsertFactRow.holds Try.pinned (OpenSpec.ofChange fnExactInsertFactWrong)

/-- 'laws.FnExactDeleteFact': WHATEVER THE INPUT: true; the input reads as it did. -/
def fnExactDeleteFactSpec : ChangeSpec := { name := "fnExactDeleteFact", fn := fun _ => fun
  | [d1, d2] => { results := [.lit (.bool true)], args := [d1, d2] }
  | _ => none }
def fnExactDeleteFactRow : OpenClaim := { program := "ytchlelkhpahakaa", sum := "7291953a5ea6a3d5eaf951c4f24ffc2fedf78cef73f4091510cb3609bc2a0d09", func := "loop.example/g01919/laws.FnExactDeleteFact", spec := "fnExactDeleteFact", unfollowed := true, recurses := true, apart := false }
def FnExactDeleteFactSaid : Prop := fnExactDeleteFactRow.holds Try.pinned (OpenSpec.ofChange fnExactDeleteFactSpec)

/-- ITS FALSE NEIGHBOUR: 'it returns false'. Refute it at one input. -/
def fnExactDeleteFactWrong : ChangeSpec := { name := "fnExactDeleteFact", fn := fun _ => fun
  | [d1, d2] => { results := [.lit (.bool false)], args := [d1, d2] }
  | _ => none }
def FnExactDeleteFactWrongFalsely : Prop := fnExactDeleteFactRow.holds Try.pinned (OpenSpec.ofChange fnExactDeleteFactWrong)

/-- 'laws.FnExactRestrict': WHATEVER THE INPUT: true; the input reads as it did. -/
def fnExactRestrictSpec : ChangeSpec := { name := "fnExactRestrict", fn := fun _ => fun
  | [d1, d2] => { results := [.lit (.bool true)], args := [d1, d2] }
  | _ => none }
def fnExactRestrictRow : OpenClaim := { program := "ytchlelkhpahakaa", sum := "7291953a5ea6a3d5eaf951c4f24ffc2fedf78cef73f4091510cb3609bc2a0d09", func := "loop.example/g01919/laws.FnExactRestrict", spec := "fnExactRestrict", unfollowed := true, recurses := true, apart := false }
def FnExactRestrictSaid : Prop := fnExactRestrictRow.holds Try.pinned (OpenSpec.ofChange fnExactRestrictSpec)

/-- ITS FALSE NEIGHBOUR: 'it returns false'. Refute it at one input. -/
def fnExactRestrictWrong : ChangeSpec := { name := "fnExactRestrict", fn := fun _ => fun
  | [d1, d2] => { results := [.lit (.bool false)], args := [d1, d2] }
  | _ => none }
def FnExactRestrictWrongFalsely : Prop := fnExactRestrictRow.holds Try.pinned (OpenSpec.ofChange fnExactRestrictWrong)

/-- 'laws.FnInsertDelete': WHATEVER THE INPUT: true; the input reads as it did. -/
def fnInsertDeleteSpec : ChangeSpec := { name := "fnInsertDelete", fn := fun _ => fun
  | [d] => { results := [.lit (.bool true)], args := [d] }
  | _ => none }
def fnInsertDeleteRow : OpenClaim := { program := "ytchlelkhpahakaa", sum := "7291953a5ea6a3d5eaf951c4f24ffc2fedf78cef73f4091510cb3609bc2a0d09", func := "loop.example/g01919/laws.FnInsertDelete", spec := "fnInsertDelete", inPlace := ["slices.overlaps[loop.example/g01919/impl.Fact]"], unfollowed := true, recurses := true, apart := false }
def FnInsertDeleteSaid : Prop := fnInsertDeleteRow.holds Try.pinned (OpenSpec.ofChange fnInsertDeleteSpec)

/-- ITS FALSE NEIGHBOUR: 'it returns false'. Refute it at one input. -/
def fnInsertDeleteWrong : ChangeSpec := { name := "fnInsertDelete", fn := fun _ => fun
  | [d] => { results := [.lit (.bool false)], args := [d] }
  | _ => none }
def FnInsertDeleteWrongFalsely : Prop := fnInsertDeleteRow.holds Try.pinned (OpenSpec.ofChange fnInsertDeleteWrong)

/- THE SECOND FORM. 'bulk': how many values and letters a reading holds, each counted each time it is reached (what is shared counts as often as it is met; a slice's spare places count too). A statement '..UptoSaid' is the law's where the arguments, and the package variables that the reading takes, are together of bulk at most 1048576: NARROWER than '..Said'. Prove '..Said' where nothing that the law and all that it calls make is longer than what came in: it says more and counts as full. Else prove '..UptoSaid'. A law counts once. -/
mutual
def uptoBulk {H : Type} : DataW H → Nat
  | .lit (.string bytes) => bytes.length + 1
  | .lit _ => 1
  | .nil => 1
  | .ptr d => uptoBulk d + 1
  | .slice elems spare => uptoBulkAll elems + uptoBulkAll spare + 1
  | .agg parts => uptoBulkAll parts + 1
  | .iface _ d => uptoBulk d + 1
  | .map entries => uptoBulkEntries entries + 1
  | .held _ => 1
def uptoBulkAll {H : Type} : List (DataW H) → Nat
  | [] => 0
  | d :: r => uptoBulk d + uptoBulkAll r
def uptoBulkEntries {H : Type} : List (Lit × DataW H) → Nat
  | [] => 0
  | x :: r => uptoBulkEntry x + uptoBulkEntries r
def uptoBulkEntry {H : Type} : Lit × DataW H → Nat
  | (.string bytes, d) => bytes.length + uptoBulk d + 1
  | (_, d) => uptoBulk d + 1
 end
def uptoSmall : (H : Type) → List (DataW H) → Bool := fun _ ds => decide (uptoBulkAll ds ≤ 1048576)
def OpenSpec.upto (s : _root_.Go.ChangeSpec) : _root_.Go.OpenSpec := { _root_.Go.OpenSpec.ofChange s with cond := some uptoSmall }

/-- 'laws.FnExactIsValidFact', WHERE WHAT IT READS IS OF BULK AT MOST 1048576: true; the input reads as it did. -/
def fnExactIsValidFactUptoRow : OpenClaim := { program := "ytchlelkhpahakaa", sum := "7291953a5ea6a3d5eaf951c4f24ffc2fedf78cef73f4091510cb3609bc2a0d09", func := "loop.example/g01919/laws.FnExactIsValidFact", spec := "fnExactIsValidFact", apart := false, narrowed := true }
def FnExactIsValidFactUptoSaid : Prop := fnExactIsValidFactUptoRow.holds Try.pinned (OpenSpec.upto fnExactIsValidFactSpec)

/-- 'laws.FnExactIsValidInstance', WHERE WHAT IT READS IS OF BULK AT MOST 1048576: true; the input reads as it did. -/
def fnExactIsValidInstanceUptoRow : OpenClaim := { program := "ytchlelkhpahakaa", sum := "7291953a5ea6a3d5eaf951c4f24ffc2fedf78cef73f4091510cb3609bc2a0d09", func := "loop.example/g01919/laws.FnExactIsValidInstance", spec := "fnExactIsValidInstance", unfollowed := true, recurses := true, apart := false, narrowed := true }
def FnExactIsValidInstanceUptoSaid : Prop := fnExactIsValidInstanceUptoRow.holds Try.pinned (OpenSpec.upto fnExactIsValidInstanceSpec)

/-- 'laws.FnExactContainsFact', WHERE WHAT IT READS IS OF BULK AT MOST 1048576: true; the input reads as it did. -/
def fnExactContainsFactUptoRow : OpenClaim := { program := "ytchlelkhpahakaa", sum := "7291953a5ea6a3d5eaf951c4f24ffc2fedf78cef73f4091510cb3609bc2a0d09", func := "loop.example/g01919/laws.FnExactContainsFact", spec := "fnExactContainsFact", unfollowed := true, recurses := true, apart := false, narrowed := true }
def FnExactContainsFactUptoSaid : Prop := fnExactContainsFactUptoRow.holds Try.pinned (OpenSpec.upto fnExactContainsFactSpec)

/-- 'laws.FnExactInsertFact', WHERE WHAT IT READS IS OF BULK AT MOST 1048576: true; the input reads as it did. -/
def fnExactInsertFactUptoRow : OpenClaim := { program := "ytchlelkhpahakaa", sum := "7291953a5ea6a3d5eaf951c4f24ffc2fedf78cef73f4091510cb3609bc2a0d09", func := "loop.example/g01919/laws.FnExactInsertFact", spec := "fnExactInsertFact", inPlace := ["slices.overlaps[loop.example/g01919/impl.Fact]"], unfollowed := true, recurses := true, apart := false, narrowed := true }
def FnExactInsertFactUptoSaid : Prop := fnExactInsertFactUptoRow.holds Try.pinned (OpenSpec.upto fnExactInsertFactSpec)

/-- 'laws.FnExactDeleteFact', WHERE WHAT IT READS IS OF BULK AT MOST 1048576: true; the input reads as it did. -/
def fnExactDeleteFactUptoRow : OpenClaim := { program := "ytchlelkhpahakaa", sum := "7291953a5ea6a3d5eaf951c4f24ffc2fedf78cef73f4091510cb3609bc2a0d09", func := "loop.example/g01919/laws.FnExactDeleteFact", spec := "fnExactDeleteFact", unfollowed := true, recurses := true, apart := false, narrowed := true }
def FnExactDeleteFactUptoSaid : Prop := fnExactDeleteFactUptoRow.holds Try.pinned (OpenSpec.upto fnExactDeleteFactSpec)

/-- 'laws.FnExactRestrict', WHERE WHAT IT READS IS OF BULK AT MOST 1048576: true; the input reads as it did. -/
def fnExactRestrictUptoRow : OpenClaim := { program := "ytchlelkhpahakaa", sum := "7291953a5ea6a3d5eaf951c4f24ffc2fedf78cef73f4091510cb3609bc2a0d09", func := "loop.example/g01919/laws.FnExactRestrict", spec := "fnExactRestrict", unfollowed := true, recurses := true, apart := false, narrowed := true }
def FnExactRestrictUptoSaid : Prop := fnExactRestrictUptoRow.holds Try.pinned (OpenSpec.upto fnExactRestrictSpec)

/-- 'laws.FnInsertDelete', WHERE WHAT IT READS IS OF BULK AT MOST 1048576: true; the input reads as it did. -/
def fnInsertDeleteUptoRow : OpenClaim := { program := "ytchlelkhpahakaa", sum := "7291953a5ea6a3d5eaf951c4f24ffc2fedf78cef73f4091510cb3609bc2a0d09", func := "loop.example/g01919/laws.FnInsertDelete", spec := "fnInsertDelete", inPlace := ["slices.overlaps[loop.example/g01919/impl.Fact]"], unfollowed := true, recurses := true, apart := false, narrowed := true }
def FnInsertDeleteUptoSaid : Prop := fnInsertDeleteUptoRow.holds Try.pinned (OpenSpec.upto fnInsertDeleteSpec)

end Rows
end Go.Proofs.Ytchlelkhpahakaa
