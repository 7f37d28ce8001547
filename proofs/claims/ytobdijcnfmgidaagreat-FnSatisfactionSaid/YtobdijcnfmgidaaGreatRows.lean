/-
  No cell of these rows narrows 'for every input' (looked for: loops, veiled, ifaces, maps, wideKeys, modest, calm, conditions, laid).
  DERIVED. THE GIVEN ROWS OF THIS SEAT. 4 by the template 'for every input the law returns true; each argument reads behind the call as it read before'; 0 by the template 'total and deterministic' (their statements: YtobdijcnfmgidaaGreatTotals.lean).
  GIVEN WITH THE SEED: the statements are not yours to turn. If you find one false, say at which input.
  Laid BY PROGRAM, IN A SANDBOX (cutbox-rows.mjs): the forced cells as the released guide's own fill.sh prints them over the translation bc86215f26c70011… (all of the seat's roots in one cut). By AI agents, Wed Nov 11 2026. No macro, syntax, notation, axiom, sorry.
-/
import Derived.Test.YtobdijcnfmgidaaGreatChecked
import GoSem.Claim
import GoSem.ClaimJoined
import GoSem.ClaimMapViews
import Derived.JoinedTies
import Derived.KernelRfl
namespace Go.Proofs.YtobdijcnfmgidaaGreat
/- THE CELL 'sum', in the pinned program and in every row, IS THE sha256 OF THE DUMP (.gsa) THAT YtobdijcnfmgidaaGreatProg.lean LOADS. Nothing in Lean hashes anything: it is a label: what it is worth is what the hold of that sum in a sandbox is worth. -/
noncomputable def Tryz.pinned : Pinned := { name := "ytobdijcnfmgidaagreat", sum := "bc86215f26c700111da85a4db8d636d3c45b68a0fa848fe82eb04808aafe641c", checked := Tryz.checked }
namespace Rows
def none {H : Type} : Left H := { results := [], args := [] }

/-- 'laws.FnSatisfaction': WHATEVER THE INPUT: true; the input reads as it did. -/
def fnSatisfactionSpec : ChangeSpec := { name := "fnSatisfaction", fn := fun _ => fun
  | [d] => { results := [.lit (.bool true)], args := [d] }
  | _ => none }
def fnSatisfactionRow : OpenClaim := { program := "ytobdijcnfmgidaagreat", sum := "bc86215f26c700111da85a4db8d636d3c45b68a0fa848fe82eb04808aafe641c", func := "loop.example/g01919/laws.FnSatisfaction", spec := "fnSatisfaction", unfollowed := true, recurses := true, apart := false }
def FnSatisfactionSaid : Prop := fnSatisfactionRow.holds Tryz.pinned (OpenSpec.ofChange fnSatisfactionSpec)

/-- ITS FALSE NEIGHBOUR: 'it returns false'. Refute it at one input. -/
def fnSatisfactionWrong : ChangeSpec := { name := "fnSatisfaction", fn := fun _ => fun
  | [d] => { results := [.lit (.bool false)], args := [d] }
  | _ => none }
def FnSatisfactionWrongFalsely : Prop := fnSatisfactionRow.holds Tryz.pinned (OpenSpec.ofChange fnSatisfactionWrong)

/-- 'laws.FnExactFirstViolation': WHATEVER THE INPUT: true; the input reads as it did. -/
def fnExactFirstViolationSpec : ChangeSpec := { name := "fnExactFirstViolation", fn := fun _ => fun
  | [d1, d2] => { results := [.lit (.bool true)], args := [d1, d2] }
  | _ => none }
def fnExactFirstViolationRow : OpenClaim := { program := "ytobdijcnfmgidaagreat", sum := "bc86215f26c700111da85a4db8d636d3c45b68a0fa848fe82eb04808aafe641c", func := "loop.example/g01919/laws.FnExactFirstViolation", spec := "fnExactFirstViolation", unfollowed := true, recurses := true, apart := false }
def FnExactFirstViolationSaid : Prop := fnExactFirstViolationRow.holds Tryz.pinned (OpenSpec.ofChange fnExactFirstViolationSpec)

/-- ITS FALSE NEIGHBOUR: 'it returns false'. Refute it at one input. -/
def fnExactFirstViolationWrong : ChangeSpec := { name := "fnExactFirstViolation", fn := fun _ => fun
  | [d1, d2] => { results := [.lit (.bool false)], args := [d1, d2] }
  | _ => none }
def FnExactFirstViolationWrongFalsely : Prop := fnExactFirstViolationRow.holds Tryz.pinned (OpenSpec.ofChange fnExactFirstViolationWrong)

/-- 'laws.FnExactSatisfies': WHATEVER THE INPUT: true; the input reads as it did. -/
def fnExactSatisfiesSpec : ChangeSpec := { name := "fnExactSatisfies", fn := fun _ => fun
  | [d1, d2] => { results := [.lit (.bool true)], args := [d1, d2] }
  | _ => none }
def fnExactSatisfiesRow : OpenClaim := { program := "ytobdijcnfmgidaagreat", sum := "bc86215f26c700111da85a4db8d636d3c45b68a0fa848fe82eb04808aafe641c", func := "loop.example/g01919/laws.FnExactSatisfies", spec := "fnExactSatisfies", unfollowed := true, recurses := true, apart := false }
def FnExactSatisfiesSaid : Prop := fnExactSatisfiesRow.holds Tryz.pinned (OpenSpec.ofChange fnExactSatisfiesSpec)

/-- ITS FALSE NEIGHBOUR: 'it returns false'. Refute it at one input. -/
def fnExactSatisfiesWrong : ChangeSpec := { name := "fnExactSatisfies", fn := fun _ => fun
  | [d1, d2] => { results := [.lit (.bool false)], args := [d1, d2] }
  | _ => none }
def FnExactSatisfiesWrongFalsely : Prop := fnExactSatisfiesRow.holds Tryz.pinned (OpenSpec.ofChange fnExactSatisfiesWrong)

/-- 'laws.FnExactIsSolution': WHATEVER THE INPUT: true; the input reads as it did. -/
def fnExactIsSolutionSpec : ChangeSpec := { name := "fnExactIsSolution", fn := fun _ => fun
  | [d1, d2, d3] => { results := [.lit (.bool true)], args := [d1, d2, d3] }
  | _ => none }
def fnExactIsSolutionRow : OpenClaim := { program := "ytobdijcnfmgidaagreat", sum := "bc86215f26c700111da85a4db8d636d3c45b68a0fa848fe82eb04808aafe641c", func := "loop.example/g01919/laws.FnExactIsSolution", spec := "fnExactIsSolution", unfollowed := true, recurses := true, apart := false }
def FnExactIsSolutionSaid : Prop := fnExactIsSolutionRow.holds Tryz.pinned (OpenSpec.ofChange fnExactIsSolutionSpec)

/-- ITS FALSE NEIGHBOUR: 'it returns false'. Refute it at one input. -/
def fnExactIsSolutionWrong : ChangeSpec := { name := "fnExactIsSolution", fn := fun _ => fun
  | [d1, d2, d3] => { results := [.lit (.bool false)], args := [d1, d2, d3] }
  | _ => none }
def FnExactIsSolutionWrongFalsely : Prop := fnExactIsSolutionRow.holds Tryz.pinned (OpenSpec.ofChange fnExactIsSolutionWrong)

/- THE SECOND FORM. 'bulk': how many values and letters a reading holds, each counted each time it is reached (what is shared counts as often as it is met; a slice's spare places count too). A statement '..UptoSaid' is the law's where the arguments, and the package variables that the reading takes, are together of bulk at most 1048576: NARROWER than '..Said'. Prove '..Said' where nothing that the law and all that it calls make is longer than what came in: it says more and counts as full. Else prove '..UptoSaid'. A law counts once. -/
mutual
def uptoBulk {H : Type} : DataW H → Nat
  | .lit (.string bytes) => bytes.length + 1
  | .lit _ => 1
  | .nil => 1
  | .ptr d => uptoBulk d + 1
  | .slice elems spare => uptoBulkAll elems + uptoBulkAll spare + 1
  | .agg parts => uptoBulkAll parts + 1
  | .iface _ d => uptoBulk d + 1
  | .map entries => uptoBulkEntries entries + 1
  | .held _ => 1
def uptoBulkAll {H : Type} : List (DataW H) → Nat
  | [] => 0
  | d :: r => uptoBulk d + uptoBulkAll r
def uptoBulkEntries {H : Type} : List (Lit × DataW H) → Nat
  | [] => 0
  | x :: r => uptoBulkEntry x + uptoBulkEntries r
def uptoBulkEntry {H : Type} : Lit × DataW H → Nat
  | (.string bytes, d) => bytes.length + uptoBulk d + 1
  | (_, d) => uptoBulk d + 1
 end
def uptoSmall : (H : Type) → List (DataW H) → Bool := fun _ ds => decide (uptoBulkAll ds ≤ 1048576)
def OpenSpec.upto (s : _root_.Go.ChangeSpec) : _root_.Go.OpenSpec := { _root_.Go.OpenSpec.ofChange s with cond := some uptoSmall }

/-- 'laws.FnSatisfaction', WHERE WHAT IT READS IS OF BULK AT MOST 1048576: true; the input reads as it did. -/
def fnSatisfactionUptoRow : OpenClaim := { program := "ytobdijcnfmgidaagreat", sum := "bc86215f26c700111da85a4db8d636d3c45b68a0fa848fe82eb04808aafe641c", func := "loop.example/g01919/laws.FnSatisfaction", spec := "fnSatisfaction", unfollowed := true, recurses := true, apart := false, narrowed := true }
def FnSatisfactionUptoSaid : Prop := fnSatisfactionUptoRow.holds Tryz.pinned (OpenSpec.upto fnSatisfactionSpec)

/-- 'laws.FnExactFirstViolation', WHERE WHAT IT READS IS OF BULK AT MOST 1048576: true; the input reads as it did. -/
def fnExactFirstViolationUptoRow : OpenClaim := { program := "ytobdijcnfmgidaagreat", sum := "bc86215f26c700111da85a4db8d636d3c45b68a0fa848fe82eb04808aafe641c", func := "loop.example/g01919/laws.FnExactFirstViolation", spec := "fnExactFirstViolation", unfollowed := true, recurses := true, apart := false, narrowed := true }
def FnExactFirstViolationUptoSaid : Prop := fnExactFirstViolationUptoRow.holds Tryz.pinned (OpenSpec.upto fnExactFirstViolationSpec)

/-- 'laws.FnExactSatisfies', WHERE WHAT IT READS IS OF BULK AT MOST 1048576: true; the input reads as it did. -/
def fnExactSatisfiesUptoRow : OpenClaim := { program := "ytobdijcnfmgidaagreat", sum := "bc86215f26c700111da85a4db8d636d3c45b68a0fa848fe82eb04808aafe641c", func := "loop.example/g01919/laws.FnExactSatisfies", spec := "fnExactSatisfies", unfollowed := true, recurses := true, apart := false, narrowed := true }
def FnExactSatisfiesUptoSaid : Prop := fnExactSatisfiesUptoRow.holds Tryz.pinned (OpenSpec.upto fnExactSatisfiesSpec)

/-- 'laws.FnExactIsSolution', WHERE WHAT IT READS IS OF BULK AT MOST 1048576: true; the input reads as it did. -/
def fnExactIsSolutionUptoRow : OpenClaim := { program := "ytobdijcnfmgidaagreat", sum := "bc86215f26c700111da85a4db8d636d3c45b68a0fa848fe82eb04808aafe641c", func := "loop.example/g01919/laws.FnExactIsSolution", spec := "fnExactIsSolution", unfollowed := true, recurses := true, apart := false, narrowed := true }
def FnExactIsSolutionUptoSaid : Prop := fnExactIsSolutionUptoRow.holds Tryz.pinned (OpenSpec.upto fnExactIsSolutionSpec)

end Rows
end Go.Proofs.YtobdijcnfmgidaaGreat
