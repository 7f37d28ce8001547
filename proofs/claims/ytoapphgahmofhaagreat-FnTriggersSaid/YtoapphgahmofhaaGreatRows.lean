/-
  No cell of these rows narrows 'for every input' (looked for: loops, veiled, ifaces, maps, wideKeys, modest, calm, conditions, laid).
  DERIVED. THE GIVEN ROWS OF THIS SEAT. 4 by the template 'for every input the law returns true; each argument reads behind the call as it read before'; 0 by the template 'total and deterministic' (their statements: YtoapphgahmofhaaGreatTotals.lean).
  GIVEN WITH THE SEED: the statements are not yours to turn. If you find one false, say at which input.
  Laid BY PROGRAM, IN A SANDBOX (cutbox-rows.mjs): the forced cells as the released guide's own fill.sh prints them over the translation 37c312c2672c4d64… (all of the seat's roots in one cut). By AI agents, Wed Nov 11 2026. No macro, syntax, notation, axiom, sorry.
-/
import Derived.Test.YtoapphgahmofhaaGreatChecked
import GoSem.Claim
import GoSem.ClaimJoined
import GoSem.ClaimMapViews
import Derived.JoinedTies
import Derived.KernelRfl
namespace Go.Proofs.YtoapphgahmofhaaGreat
/- THE CELL 'sum', in the pinned program and in every row, IS THE sha256 OF THE DUMP (.gsa) THAT YtoapphgahmofhaaGreatProg.lean LOADS. Nothing in Lean hashes anything: it is a label: what it is worth is what the hold of that sum in a sandbox is worth. -/
noncomputable def Tryz.pinned : Pinned := { name := "ytoapphgahmofhaagreat", sum := "37c312c2672c4d64a8a1aee27af30477869b619b881ba546c738b1dcbfdb280b", checked := Tryz.checked }
namespace Rows
def none {H : Type} : Left H := { results := [], args := [] }

/-- 'laws.FnTriggers': WHATEVER THE INPUT: true; the input reads as it did. -/
def fnTriggersSpec : ChangeSpec := { name := "fnTriggers", fn := fun _ => fun
  | [d] => { results := [.lit (.bool true)], args := [d] }
  | _ => none }
def fnTriggersRow : OpenClaim := { program := "ytoapphgahmofhaagreat", sum := "37c312c2672c4d64a8a1aee27af30477869b619b881ba546c738b1dcbfdb280b", func := "loop.example/g01919/laws.FnTriggers", spec := "fnTriggers", unfollowed := true, recurses := true, apart := false }
def FnTriggersSaid : Prop := fnTriggersRow.holds Tryz.pinned (OpenSpec.ofChange fnTriggersSpec)

/-- ITS FALSE NEIGHBOUR: 'it returns false'. Refute it at one input. -/
def fnTriggersWrong : ChangeSpec := { name := "fnTriggers", fn := fun _ => fun
  | [d] => { results := [.lit (.bool false)], args := [d] }
  | _ => none }
def FnTriggersWrongFalsely : Prop := fnTriggersRow.holds Tryz.pinned (OpenSpec.ofChange fnTriggersWrong)

/-- 'laws.FnExactIsTrigger': WHATEVER THE INPUT: true; the input reads as it did. -/
def fnExactIsTriggerSpec : ChangeSpec := { name := "fnExactIsTrigger", fn := fun _ => fun
  | [d1, d2, d3] => { results := [.lit (.bool true)], args := [d1, d2, d3] }
  | _ => none }
def fnExactIsTriggerRow : OpenClaim := { program := "ytoapphgahmofhaagreat", sum := "37c312c2672c4d64a8a1aee27af30477869b619b881ba546c738b1dcbfdb280b", func := "loop.example/g01919/laws.FnExactIsTrigger", spec := "fnExactIsTrigger", unfollowed := true, recurses := true, apart := false }
def FnExactIsTriggerSaid : Prop := fnExactIsTriggerRow.holds Tryz.pinned (OpenSpec.ofChange fnExactIsTriggerSpec)

/-- ITS FALSE NEIGHBOUR: 'it returns false'. Refute it at one input. -/
def fnExactIsTriggerWrong : ChangeSpec := { name := "fnExactIsTrigger", fn := fun _ => fun
  | [d1, d2, d3] => { results := [.lit (.bool false)], args := [d1, d2, d3] }
  | _ => none }
def FnExactIsTriggerWrongFalsely : Prop := fnExactIsTriggerRow.holds Tryz.pinned (OpenSpec.ofChange fnExactIsTriggerWrong)

/-- 'laws.FnExactIsActiveTrigger': WHATEVER THE INPUT: true; the input reads as it did. -/
def fnExactIsActiveTriggerSpec : ChangeSpec := { name := "fnExactIsActiveTrigger", fn := fun _ => fun
  | [d1, d2, d3] => { results := [.lit (.bool true)], args := [d1, d2, d3] }
  | _ => none }
def fnExactIsActiveTriggerRow : OpenClaim := { program := "ytoapphgahmofhaagreat", sum := "37c312c2672c4d64a8a1aee27af30477869b619b881ba546c738b1dcbfdb280b", func := "loop.example/g01919/laws.FnExactIsActiveTrigger", spec := "fnExactIsActiveTrigger", unfollowed := true, recurses := true, apart := false }
def FnExactIsActiveTriggerSaid : Prop := fnExactIsActiveTriggerRow.holds Tryz.pinned (OpenSpec.ofChange fnExactIsActiveTriggerSpec)

/-- ITS FALSE NEIGHBOUR: 'it returns false'. Refute it at one input. -/
def fnExactIsActiveTriggerWrong : ChangeSpec := { name := "fnExactIsActiveTrigger", fn := fun _ => fun
  | [d1, d2, d3] => { results := [.lit (.bool false)], args := [d1, d2, d3] }
  | _ => none }
def FnExactIsActiveTriggerWrongFalsely : Prop := fnExactIsActiveTriggerRow.holds Tryz.pinned (OpenSpec.ofChange fnExactIsActiveTriggerWrong)

/-- 'laws.FnExactActiveTriggers': WHATEVER THE INPUT: true; the input reads as it did. -/
def fnExactActiveTriggersSpec : ChangeSpec := { name := "fnExactActiveTriggers", fn := fun _ => fun
  | [d1, d2] => { results := [.lit (.bool true)], args := [d1, d2] }
  | _ => none }
def fnExactActiveTriggersRow : OpenClaim := { program := "ytoapphgahmofhaagreat", sum := "37c312c2672c4d64a8a1aee27af30477869b619b881ba546c738b1dcbfdb280b", func := "loop.example/g01919/laws.FnExactActiveTriggers", spec := "fnExactActiveTriggers", unfollowed := true, recurses := true, apart := false }
def FnExactActiveTriggersSaid : Prop := fnExactActiveTriggersRow.holds Tryz.pinned (OpenSpec.ofChange fnExactActiveTriggersSpec)

/-- ITS FALSE NEIGHBOUR: 'it returns false'. Refute it at one input. -/
def fnExactActiveTriggersWrong : ChangeSpec := { name := "fnExactActiveTriggers", fn := fun _ => fun
  | [d1, d2] => { results := [.lit (.bool false)], args := [d1, d2] }
  | _ => none }
def FnExactActiveTriggersWrongFalsely : Prop := fnExactActiveTriggersRow.holds Tryz.pinned (OpenSpec.ofChange fnExactActiveTriggersWrong)

/- THE SECOND FORM. 'bulk': how many values and letters a reading holds, each counted each time it is reached (what is shared counts as often as it is met; a slice's spare places count too). A statement '..UptoSaid' is the law's where the arguments, and the package variables that the reading takes, are together of bulk at most 1048576: NARROWER than '..Said'. Prove '..Said' where nothing that the law and all that it calls make is longer than what came in: it says more and counts as full. Else prove '..UptoSaid'. A law counts once. -/
mutual
def uptoBulk {H : Type} : DataW H → Nat
  | .lit (.string bytes) => bytes.length + 1
  | .lit _ => 1
  | .nil => 1
  | .ptr d => uptoBulk d + 1
  | .slice elems spare => uptoBulkAll elems + uptoBulkAll spare + 1
  | .agg parts => uptoBulkAll parts + 1
  | .iface _ d => uptoBulk d + 1
  | .map entries => uptoBulkEntries entries + 1
  | .held _ => 1
def uptoBulkAll {H : Type} : List (DataW H) → Nat
  | [] => 0
  | d :: r => uptoBulk d + uptoBulkAll r
def uptoBulkEntries {H : Type} : List (Lit × DataW H) → Nat
  | [] => 0
  | x :: r => uptoBulkEntry x + uptoBulkEntries r
def uptoBulkEntry {H : Type} : Lit × DataW H → Nat
  | (.string bytes, d) => bytes.length + uptoBulk d + 1
  | (_, d) => uptoBulk d + 1
 end
def uptoSmall : (H : Type) → List (DataW H) → Bool := fun _ ds => decide (uptoBulkAll ds ≤ 1048576)
def OpenSpec.upto (s : _root_.Go.ChangeSpec) : _root_.Go.OpenSpec := { _root_.Go.OpenSpec.ofChange s with cond := some uptoSmall }

/-- 'laws.FnTriggers', WHERE WHAT IT READS IS OF BULK AT MOST 1048576: true; the input reads as it did. -/
def fnTriggersUptoRow : OpenClaim := { program := "ytoapphgahmofhaagreat", sum := "37c312c2672c4d64a8a1aee27af30477869b619b881ba546c738b1dcbfdb280b", func := "loop.example/g01919/laws.FnTriggers", spec := "fnTriggers", unfollowed := true, recurses := true, apart := false, narrowed := true }
def FnTriggersUptoSaid : Prop := fnTriggersUptoRow.holds Tryz.pinned (OpenSpec.upto fnTriggersSpec)

/-- 'laws.FnExactIsTrigger', WHERE WHAT IT READS IS OF BULK AT MOST 1048576: true; the input reads as it did. -/
def fnExactIsTriggerUptoRow : OpenClaim := { program := "ytoapphgahmofhaagreat", sum := "37c312c2672c4d64a8a1aee27af30477869b619b881ba546c738b1dcbfdb280b", func := "loop.example/g01919/laws.FnExactIsTrigger", spec := "fnExactIsTrigger", unfollowed := true, recurses := true, apart := false, narrowed := true }
def FnExactIsTriggerUptoSaid : Prop := fnExactIsTriggerUptoRow.holds Tryz.pinned (OpenSpec.upto fnExactIsTriggerSpec)

/-- 'laws.FnExactIsActiveTrigger', WHERE WHAT IT READS IS OF BULK AT MOST 1048576: true; the input reads as it did. -/
def fnExactIsActiveTriggerUptoRow : OpenClaim := { program := "ytoapphgahmofhaagreat", sum := "37c312c2672c4d64a8a1aee27af30477869b619b881ba546c738b1dcbfdb280b", func := "loop.example/g01919/laws.FnExactIsActiveTrigger", spec := "fnExactIsActiveTrigger", unfollowed := true, recurses := true, apart := false, narrowed := true }
def FnExactIsActiveTriggerUptoSaid : Prop := fnExactIsActiveTriggerUptoRow.holds Tryz.pinned (OpenSpec.upto fnExactIsActiveTriggerSpec)

/-- 'laws.FnExactActiveTriggers', WHERE WHAT IT READS IS OF BULK AT MOST 1048576: true; the input reads as it did. -/
def fnExactActiveTriggersUptoRow : OpenClaim := { program := "ytoapphgahmofhaagreat", sum := "37c312c2672c4d64a8a1aee27af30477869b619b881ba546c738b1dcbfdb280b", func := "loop.example/g01919/laws.FnExactActiveTriggers", spec := "fnExactActiveTriggers", unfollowed := true, recurses := true, apart := false, narrowed := true }
def FnExactActiveTriggersUptoSaid : Prop := fnExactActiveTriggersUptoRow.holds Tryz.pinned (OpenSpec.upto fnExactActiveTriggersSpec)

end Rows
end Go.Proofs.YtoapphgahmofhaaGreat
