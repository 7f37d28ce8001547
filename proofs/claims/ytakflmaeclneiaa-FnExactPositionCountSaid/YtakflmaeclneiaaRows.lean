/-
  No cell of these rows narrows 'for every input' (looked for: loops, veiled, ifaces, maps, wideKeys, modest, calm, conditions, laid).
  DERIVED. THE GIVEN ROWS OF THIS SEAT. 3 by the template 'for every input the law returns true; each argument reads behind the call as it read before'; 0 by the template 'total and deterministic' (their statements: YtakflmaeclneiaaTotals.lean).
  GIVEN WITH THE SEED: the statements are not yours to turn. If you find one false, say at which input.
  Laid BY PROGRAM, IN A SANDBOX (cutbox-rows.mjs): the forced cells as the released guide's own fill.sh prints them over the translation 53a5155fe5b032ef… (all of the seat's roots in one cut). By AI agents, Wed Nov 11 2026. No macro, syntax, notation, axiom, sorry.
-/
import Derived.Test.YtakflmaeclneiaaChecked
import GoSem.Claim
import GoSem.ClaimJoined
import GoSem.ClaimMapViews
import Derived.JoinedTies
import Derived.KernelRfl
namespace Go.Proofs.Ytakflmaeclneiaa
/- THE CELL 'sum', in the pinned program and in every row, IS THE sha256 OF THE DUMP (.gsa) THAT YtakflmaeclneiaaProg.lean LOADS. Nothing in Lean hashes anything: it is a label: what it is worth is what the hold of that sum in a sandbox is worth. -/
noncomputable def Try.pinned : Pinned := { name := "ytakflmaeclneiaa", sum := "53a5155fe5b032ef5cfaaffeb17804bded7014e2267242fdd9a7094bbdbf0a05", checked := Try.checked }
namespace Rows
def none {H : Type} : Left H := { results := [], args := [] }

/-- 'laws.FnExactPositionIndex': WHATEVER THE INPUT: true; the input reads as it did. -/
def fnExactPositionIndexSpec : ChangeSpec := { name := "fnExactPositionIndex", fn := fun _ => fun
  | [d1, d2, d3] => { results := [.lit (.bool true)], args := [d1, d2, d3] }
  | _ => none }
def fnExactPositionIndexRow : OpenClaim := { program := "ytakflmaeclneiaa", sum := "53a5155fe5b032ef5cfaaffeb17804bded7014e2267242fdd9a7094bbdbf0a05", func := "loop.example/g01919/laws.FnExactPositionIndex", spec := "fnExactPositionIndex", apart := false }
def FnExactPositionIndexSaid : Prop := fnExactPositionIndexRow.holds Try.pinned (OpenSpec.ofChange fnExactPositionIndexSpec)

/-- ITS FALSE NEIGHBOUR: 'it returns false'. Refute it at one input. -/
def fnExactPositionIndexWrong : ChangeSpec := { name := "fnExactPositionIndex", fn := fun _ => fun
  | [d1, d2, d3] => { results := [.lit (.bool false)], args := [d1, d2, d3] }
  | _ => none }
def FnExactPositionIndexWrongFalsely : Prop := fnExactPositionIndexRow.holds Try.pinned (OpenSpec.ofChange fnExactPositionIndexWrong)

/-- 'laws.FnExactPositionCount': WHATEVER THE INPUT: true; the input reads as it did. -/
def fnExactPositionCountSpec : ChangeSpec := { name := "fnExactPositionCount", fn := fun _ => fun
  | [d] => { results := [.lit (.bool true)], args := [d] }
  | _ => none }
def fnExactPositionCountRow : OpenClaim := { program := "ytakflmaeclneiaa", sum := "53a5155fe5b032ef5cfaaffeb17804bded7014e2267242fdd9a7094bbdbf0a05", func := "loop.example/g01919/laws.FnExactPositionCount", spec := "fnExactPositionCount", apart := false }
def FnExactPositionCountSaid : Prop := fnExactPositionCountRow.holds Try.pinned (OpenSpec.ofChange fnExactPositionCountSpec)

/-- ITS FALSE NEIGHBOUR: 'it returns false'. Refute it at one input. -/
def fnExactPositionCountWrong : ChangeSpec := { name := "fnExactPositionCount", fn := fun _ => fun
  | [d] => { results := [.lit (.bool false)], args := [d] }
  | _ => none }
def FnExactPositionCountWrongFalsely : Prop := fnExactPositionCountRow.holds Try.pinned (OpenSpec.ofChange fnExactPositionCountWrong)

/-- 'laws.FnExactIsReachable': WHATEVER THE INPUT: true; the input reads as it did. -/
def fnExactIsReachableSpec : ChangeSpec := { name := "fnExactIsReachable", fn := fun _ => fun
  | [d1, d2, d3, d4] => { results := [.lit (.bool true)], args := [d1, d2, d3, d4] }
  | _ => none }
def fnExactIsReachableRow : OpenClaim := { program := "ytakflmaeclneiaa", sum := "53a5155fe5b032ef5cfaaffeb17804bded7014e2267242fdd9a7094bbdbf0a05", func := "loop.example/g01919/laws.FnExactIsReachable", spec := "fnExactIsReachable", apart := false }
def FnExactIsReachableSaid : Prop := fnExactIsReachableRow.holds Try.pinned (OpenSpec.ofChange fnExactIsReachableSpec)

/-- ITS FALSE NEIGHBOUR: 'it returns false'. Refute it at one input. -/
def fnExactIsReachableWrong : ChangeSpec := { name := "fnExactIsReachable", fn := fun _ => fun
  | [d1, d2, d3, d4] => { results := [.lit (.bool false)], args := [d1, d2, d3, d4] }
  | _ => none }
def FnExactIsReachableWrongFalsely : Prop := fnExactIsReachableRow.holds Try.pinned (OpenSpec.ofChange fnExactIsReachableWrong)

/- THE SECOND FORM. 'bulk': how many values and letters a reading holds, each counted each time it is reached (what is shared counts as often as it is met; a slice's spare places count too). A statement '..UptoSaid' is the law's where the arguments, and the package variables that the reading takes, are together of bulk at most 1048576: NARROWER than '..Said'. Prove '..Said' where nothing that the law and all that it calls make is longer than what came in: it says more and counts as full. Else prove '..UptoSaid'. A law counts once. -/
mutual
def uptoBulk {H : Type} : DataW H → Nat
  | .lit (.string bytes) => bytes.length + 1
  | .lit _ => 1
  | .nil => 1
  | .ptr d => uptoBulk d + 1
  | .slice elems spare => uptoBulkAll elems + uptoBulkAll spare + 1
  | .agg parts => uptoBulkAll parts + 1
  | .iface _ d => uptoBulk d + 1
  | .map entries => uptoBulkEntries entries + 1
  | .held _ => 1
def uptoBulkAll {H : Type} : List (DataW H) → Nat
  | [] => 0
  | d :: r => uptoBulk d + uptoBulkAll r
def uptoBulkEntries {H : Type} : List (Lit × DataW H) → Nat
  | [] => 0
  | x :: r => uptoBulkEntry x + uptoBulkEntries r
def uptoBulkEntry {H : Type} : Lit × DataW H → Nat
  | (.string bytes, d) => bytes.length + uptoBulk d + 1
  | (_, d) => uptoBulk d + 1
 end
def uptoSmall : (H : Type) → List (DataW H) → Bool := fun _ ds => decide (uptoBulkAll ds ≤ 1048576)
def OpenSpec.upto (s : _root_.Go.ChangeSpec) : _root_.Go.OpenSpec := { _root_.Go.OpenSpec.ofChange s with cond := some uptoSmall }

/-- 'laws.FnExactPositionIndex', WHERE WHAT IT READS IS OF BULK AT MOST 1048576: true; the input reads as it did. -/
def fnExactPositionIndexUptoRow : OpenClaim := { program := "ytakflmaeclneiaa", sum := "53a5155fe5b032ef5cfaaffeb17804bded7014e2267242fdd9a7094bbdbf0a05", func := "loop.example/g01919/laws.FnExactPositionIndex", spec := "fnExactPositionIndex", apart := false, narrowed := true }
def FnExactPositionIndexUptoSaid : Prop := fnExactPositionIndexUptoRow.holds Try.pinned (OpenSpec.upto fnExactPositionIndexSpec)

/-- 'laws.FnExactPositionCount', WHERE WHAT IT READS IS OF BULK AT MOST 1048576: true; the input reads as it did. -/
def fnExactPositionCountUptoRow : OpenClaim := { program := "ytakflmaeclneiaa", sum := "53a5155fe5b032ef5cfaaffeb17804bded7014e2267242fdd9a7094bbdbf0a05", func := "loop.example/g01919/laws.FnExactPositionCount", spec := "fnExactPositionCount", apart := false, narrowed := true }
def FnExactPositionCountUptoSaid : Prop := fnExactPositionCountUptoRow.holds Try.pinned (OpenSpec.upto fnExactPositionCountSpec)

/-- 'laws.FnExactIsReachable', WHERE WHAT IT READS IS OF BULK AT MOST 1048576: true; the input reads as it did. -/
def fnExactIsReachableUptoRow : OpenClaim := { program := "ytakflmaeclneiaa", sum := "53a5155fe5b032ef5cfaaffeb17804bded7014e2267242fdd9a7094bbdbf0a05", func := "loop.example/g01919/laws.FnExactIsReachable", spec := "fnExactIsReachable", apart := false, narrowed := true }
def FnExactIsReachableUptoSaid : Prop := fnExactIsReachableUptoRow.holds Try.pinned (OpenSpec.upto fnExactIsReachableSpec)

end Rows
end Go.Proofs.Ytakflmaeclneiaa
