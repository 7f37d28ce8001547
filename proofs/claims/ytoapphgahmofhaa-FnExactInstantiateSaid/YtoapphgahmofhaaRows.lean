/-
  No cell of these rows narrows 'for every input' (looked for: loops, veiled, ifaces, maps, wideKeys, modest, calm, conditions, laid).
  DERIVED. THE GIVEN ROWS OF THIS SEAT. 4 by the template 'for every input the law returns true; each argument reads behind the call as it read before'; 0 by the template 'total and deterministic' (their statements: YtoapphgahmofhaaTotals.lean).
  GIVEN WITH THE SEED: the statements are not yours to turn. If you find one false, say at which input.
  Laid BY PROGRAM, IN A SANDBOX (cutbox-rows.mjs): the forced cells as the released guide's own fill.sh prints them over the translation 882a8c8ed0e1e7c4… (all of the seat's roots in one cut). By AI agents, Wed Nov 11 2026. No macro, syntax, notation, axiom, sorry.
-/
import Derived.Test.YtoapphgahmofhaaChecked
import GoSem.Claim
import GoSem.ClaimJoined
import GoSem.ClaimMapViews
import Derived.JoinedTies
import Derived.KernelRfl
namespace Go.Proofs.Ytoapphgahmofhaa
/- THE CELL 'sum', in the pinned program and in every row, IS THE sha256 OF THE DUMP (.gsa) THAT YtoapphgahmofhaaProg.lean LOADS. Nothing in Lean hashes anything: it is a label: what it is worth is what the hold of that sum in a sandbox is worth. -/
noncomputable def Try.pinned : Pinned := { name := "ytoapphgahmofhaa", sum := "882a8c8ed0e1e7c486aec31b2a77b0561cee6acad1ac76abb6a43ff663b6300d", checked := Try.checked }
namespace Rows
def none {H : Type} : Left H := { results := [], args := [] }

/-- 'laws.FnMatches': WHATEVER THE INPUT: true; the input reads as it did. -/
def fnMatchesSpec : ChangeSpec := { name := "fnMatches", fn := fun _ => fun
  | [d] => { results := [.lit (.bool true)], args := [d] }
  | _ => none }
def fnMatchesRow : OpenClaim := { program := "ytoapphgahmofhaa", sum := "882a8c8ed0e1e7c486aec31b2a77b0561cee6acad1ac76abb6a43ff663b6300d", func := "loop.example/g01919/laws.FnMatches", spec := "fnMatches", unfollowed := true, recurses := true, apart := false }
def FnMatchesSaid : Prop := fnMatchesRow.holds Try.pinned (OpenSpec.ofChange fnMatchesSpec)

/-- ITS FALSE NEIGHBOUR: 'it returns false'. Refute it at one input. -/
def fnMatchesWrong : ChangeSpec := { name := "fnMatches", fn := fun _ => fun
  | [d] => { results := [.lit (.bool false)], args := [d] }
  | _ => none }
def FnMatchesWrongFalsely : Prop := fnMatchesRow.holds Try.pinned (OpenSpec.ofChange fnMatchesWrong)

/-- 'laws.FnExactFindMatches': WHATEVER THE INPUT: true; the input reads as it did. -/
def fnExactFindMatchesSpec : ChangeSpec := { name := "fnExactFindMatches", fn := fun _ => fun
  | [d1, d2] => { results := [.lit (.bool true)], args := [d1, d2] }
  | _ => none }
def fnExactFindMatchesRow : OpenClaim := { program := "ytoapphgahmofhaa", sum := "882a8c8ed0e1e7c486aec31b2a77b0561cee6acad1ac76abb6a43ff663b6300d", func := "loop.example/g01919/laws.FnExactFindMatches", spec := "fnExactFindMatches", unfollowed := true, recurses := true, apart := false }
def FnExactFindMatchesSaid : Prop := fnExactFindMatchesRow.holds Try.pinned (OpenSpec.ofChange fnExactFindMatchesSpec)

/-- ITS FALSE NEIGHBOUR: 'it returns false'. Refute it at one input. -/
def fnExactFindMatchesWrong : ChangeSpec := { name := "fnExactFindMatches", fn := fun _ => fun
  | [d1, d2] => { results := [.lit (.bool false)], args := [d1, d2] }
  | _ => none }
def FnExactFindMatchesWrongFalsely : Prop := fnExactFindMatchesRow.holds Try.pinned (OpenSpec.ofChange fnExactFindMatchesWrong)

/-- 'laws.FnExactHasExtension': WHATEVER THE INPUT: true; the input reads as it did. -/
def fnExactHasExtensionSpec : ChangeSpec := { name := "fnExactHasExtension", fn := fun _ => fun
  | [d1, d2, d3] => { results := [.lit (.bool true)], args := [d1, d2, d3] }
  | _ => none }
def fnExactHasExtensionRow : OpenClaim := { program := "ytoapphgahmofhaa", sum := "882a8c8ed0e1e7c486aec31b2a77b0561cee6acad1ac76abb6a43ff663b6300d", func := "loop.example/g01919/laws.FnExactHasExtension", spec := "fnExactHasExtension", unfollowed := true, recurses := true, apart := false }
def FnExactHasExtensionSaid : Prop := fnExactHasExtensionRow.holds Try.pinned (OpenSpec.ofChange fnExactHasExtensionSpec)

/-- ITS FALSE NEIGHBOUR: 'it returns false'. Refute it at one input. -/
def fnExactHasExtensionWrong : ChangeSpec := { name := "fnExactHasExtension", fn := fun _ => fun
  | [d1, d2, d3] => { results := [.lit (.bool false)], args := [d1, d2, d3] }
  | _ => none }
def FnExactHasExtensionWrongFalsely : Prop := fnExactHasExtensionRow.holds Try.pinned (OpenSpec.ofChange fnExactHasExtensionWrong)

/-- 'laws.FnExactInstantiate': WHATEVER THE INPUT: true; the input reads as it did. -/
def fnExactInstantiateSpec : ChangeSpec := { name := "fnExactInstantiate", fn := fun _ => fun
  | [d1, d2] => { results := [.lit (.bool true)], args := [d1, d2] }
  | _ => none }
def fnExactInstantiateRow : OpenClaim := { program := "ytoapphgahmofhaa", sum := "882a8c8ed0e1e7c486aec31b2a77b0561cee6acad1ac76abb6a43ff663b6300d", func := "loop.example/g01919/laws.FnExactInstantiate", spec := "fnExactInstantiate", apart := false }
def FnExactInstantiateSaid : Prop := fnExactInstantiateRow.holds Try.pinned (OpenSpec.ofChange fnExactInstantiateSpec)

/-- ITS FALSE NEIGHBOUR: 'it returns false'. Refute it at one input. -/
def fnExactInstantiateWrong : ChangeSpec := { name := "fnExactInstantiate", fn := fun _ => fun
  | [d1, d2] => { results := [.lit (.bool false)], args := [d1, d2] }
  | _ => none }
def FnExactInstantiateWrongFalsely : Prop := fnExactInstantiateRow.holds Try.pinned (OpenSpec.ofChange fnExactInstantiateWrong)

/- THE SECOND FORM. 'bulk': how many values and letters a reading holds, each counted each time it is reached (what is shared counts as often as it is met; a slice's spare places count too). A statement '..UptoSaid' is the law's where the arguments, and the package variables that the reading takes, are together of bulk at most 1048576: NARROWER than '..Said'. Prove '..Said' where nothing that the law and all that it calls make is longer than what came in: it says more and counts as full. Else prove '..UptoSaid'. A law counts once. -/
mutual
def uptoBulk {H : Type} : DataW H → Nat
  | .lit (.string bytes) => bytes.length + 1
  | .lit _ => 1
  | .nil => 1
  | .ptr d => uptoBulk d + 1
  | .slice elems spare => uptoBulkAll elems + uptoBulkAll spare + 1
  | .agg parts => uptoBulkAll parts + 1
  | .iface _ d => uptoBulk d + 1
  | .map entries => uptoBulkEntries entries + 1
  | .held _ => 1
def uptoBulkAll {H : Type} : List (DataW H) → Nat
  | [] => 0
  | d :: r => uptoBulk d + uptoBulkAll r
def uptoBulkEntries {H : Type} : List (Lit × DataW H) → Nat
  | [] => 0
  | x :: r => uptoBulkEntry x + uptoBulkEntries r
def uptoBulkEntry {H : Type} : Lit × DataW H → Nat
  | (.string bytes, d) => bytes.length + uptoBulk d + 1
  | (_, d) => uptoBulk d + 1
 end
def uptoSmall : (H : Type) → List (DataW H) → Bool := fun _ ds => decide (uptoBulkAll ds ≤ 1048576)
def OpenSpec.upto (s : _root_.Go.ChangeSpec) : _root_.Go.OpenSpec := { _root_.Go.OpenSpec.ofChange s with cond := some uptoSmall }

/-- 'laws.FnMatches', WHERE WHAT IT READS IS OF BULK AT MOST 1048576: true; the input reads as it did. -/
def fnMatchesUptoRow : OpenClaim := { program := "ytoapphgahmofhaa", sum := "882a8c8ed0e1e7c486aec31b2a77b0561cee6acad1ac76abb6a43ff663b6300d", func := "loop.example/g01919/laws.FnMatches", spec := "fnMatches", unfollowed := true, recurses := true, apart := false, narrowed := true }
def FnMatchesUptoSaid : Prop := fnMatchesUptoRow.holds Try.pinned (OpenSpec.upto fnMatchesSpec)

/-- 'laws.FnExactFindMatches', WHERE WHAT IT READS IS OF BULK AT MOST 1048576: true; the input reads as it did. -/
def fnExactFindMatchesUptoRow : OpenClaim := { program := "ytoapphgahmofhaa", sum := "882a8c8ed0e1e7c486aec31b2a77b0561cee6acad1ac76abb6a43ff663b6300d", func := "loop.example/g01919/laws.FnExactFindMatches", spec := "fnExactFindMatches", unfollowed := true, recurses := true, apart := false, narrowed := true }
def FnExactFindMatchesUptoSaid : Prop := fnExactFindMatchesUptoRow.holds Try.pinned (OpenSpec.upto fnExactFindMatchesSpec)

/-- 'laws.FnExactHasExtension', WHERE WHAT IT READS IS OF BULK AT MOST 1048576: true; the input reads as it did. -/
def fnExactHasExtensionUptoRow : OpenClaim := { program := "ytoapphgahmofhaa", sum := "882a8c8ed0e1e7c486aec31b2a77b0561cee6acad1ac76abb6a43ff663b6300d", func := "loop.example/g01919/laws.FnExactHasExtension", spec := "fnExactHasExtension", unfollowed := true, recurses := true, apart := false, narrowed := true }
def FnExactHasExtensionUptoSaid : Prop := fnExactHasExtensionUptoRow.holds Try.pinned (OpenSpec.upto fnExactHasExtensionSpec)

/-- 'laws.FnExactInstantiate', WHERE WHAT IT READS IS OF BULK AT MOST 1048576: true; the input reads as it did. -/
def fnExactInstantiateUptoRow : OpenClaim := { program := "ytoapphgahmofhaa", sum := "882a8c8ed0e1e7c486aec31b2a77b0561cee6acad1ac76abb6a43ff663b6300d", func := "loop.example/g01919/laws.FnExactInstantiate", spec := "fnExactInstantiate", apart := false, narrowed := true }
def FnExactInstantiateUptoSaid : Prop := fnExactInstantiateUptoRow.holds Try.pinned (OpenSpec.upto fnExactInstantiateSpec)

end Rows
end Go.Proofs.Ytoapphgahmofhaa
