/-
  No cell of these rows narrows 'for every input' (looked for: loops, veiled, ifaces, maps, wideKeys, modest, calm, conditions, laid).
  DERIVED. THE GIVEN ROWS OF THIS SEAT. 3 by the template 'for every input the law returns true; each argument reads behind the call as it read before'; 0 by the template 'total and deterministic' (their statements: YtkiffiehjchljaaTotals.lean).
  GIVEN WITH THE SEED: the statements are not yours to turn. If you find one false, say at which input.
  Laid BY PROGRAM, IN A SANDBOX (cutbox-rows.mjs): the forced cells as the released guide's own fill.sh prints them over the translation 60921e7f018e0c65… (all of the seat's roots in one cut). By AI agents, Wed Nov 11 2026. No macro, syntax, notation, axiom, sorry.
-/
import Derived.Test.YtkiffiehjchljaaChecked
import GoSem.Claim
import GoSem.ClaimJoined
import GoSem.ClaimMapViews
import Derived.JoinedTies
import Derived.KernelRfl
namespace Go.Proofs.Ytkiffiehjchljaa
/- THE CELL 'sum', in the pinned program and in every row, IS THE sha256 OF THE DUMP (.gsa) THAT YtkiffiehjchljaaProg.lean LOADS. Nothing in Lean hashes anything: it is a label: what it is worth is what the hold of that sum in a sandbox is worth. -/
noncomputable def Try.pinned : Pinned := { name := "ytkiffiehjchljaa", sum := "60921e7f018e0c653ec8bad511ae952c03c93c262d1b55418e6a680d7aa6b958", checked := Try.checked }
namespace Rows
def none {H : Type} : Left H := { results := [], args := [] }

/-- 'laws.FnExactIsValidFact': WHATEVER THE INPUT: true; the input reads as it did. -/
def fnExactIsValidFactSpec : ChangeSpec := { name := "fnExactIsValidFact", fn := fun _ => fun
  | [d1, d2] => { results := [.lit (.bool true)], args := [d1, d2] }
  | _ => none }
def fnExactIsValidFactRow : OpenClaim := { program := "ytkiffiehjchljaa", sum := "60921e7f018e0c653ec8bad511ae952c03c93c262d1b55418e6a680d7aa6b958", func := "loop.example/g01919/laws.FnExactIsValidFact", spec := "fnExactIsValidFact", apart := false }
def FnExactIsValidFactSaid : Prop := fnExactIsValidFactRow.holds Try.pinned (OpenSpec.ofChange fnExactIsValidFactSpec)

/-- ITS FALSE NEIGHBOUR: 'it returns false'. Refute it at one input. -/
def fnExactIsValidFactWrong : ChangeSpec := { name := "fnExactIsValidFact", fn := fun _ => fun
  | [d1, d2] => { results := [.lit (.bool false)], args := [d1, d2] }
  | _ => none }
def FnExactIsValidFactWrongFalsely : Prop := fnExactIsValidFactRow.holds Try.pinned (OpenSpec.ofChange fnExactIsValidFactWrong)

/-- 'laws.FnExactCompareFacts': WHATEVER THE INPUT: true; the input reads as it did. -/
def fnExactCompareFactsSpec : ChangeSpec := { name := "fnExactCompareFacts", fn := fun _ => fun
  | [d1, d2] => { results := [.lit (.bool true)], args := [d1, d2] }
  | _ => none }
def fnExactCompareFactsRow : OpenClaim := { program := "ytkiffiehjchljaa", sum := "60921e7f018e0c653ec8bad511ae952c03c93c262d1b55418e6a680d7aa6b958", func := "loop.example/g01919/laws.FnExactCompareFacts", spec := "fnExactCompareFacts", apart := false }
def FnExactCompareFactsSaid : Prop := fnExactCompareFactsRow.holds Try.pinned (OpenSpec.ofChange fnExactCompareFactsSpec)

/-- ITS FALSE NEIGHBOUR: 'it returns false'. Refute it at one input. -/
def fnExactCompareFactsWrong : ChangeSpec := { name := "fnExactCompareFacts", fn := fun _ => fun
  | [d1, d2] => { results := [.lit (.bool false)], args := [d1, d2] }
  | _ => none }
def FnExactCompareFactsWrongFalsely : Prop := fnExactCompareFactsRow.holds Try.pinned (OpenSpec.ofChange fnExactCompareFactsWrong)

/-- 'laws.FnExactNullsOfFact': WHATEVER THE INPUT: true; the input reads as it did. -/
def fnExactNullsOfFactSpec : ChangeSpec := { name := "fnExactNullsOfFact", fn := fun _ => fun
  | [d] => { results := [.lit (.bool true)], args := [d] }
  | _ => none }
def fnExactNullsOfFactRow : OpenClaim := { program := "ytkiffiehjchljaa", sum := "60921e7f018e0c653ec8bad511ae952c03c93c262d1b55418e6a680d7aa6b958", func := "loop.example/g01919/laws.FnExactNullsOfFact", spec := "fnExactNullsOfFact", recurses := true, apart := false }
def FnExactNullsOfFactSaid : Prop := fnExactNullsOfFactRow.holds Try.pinned (OpenSpec.ofChange fnExactNullsOfFactSpec)

/-- ITS FALSE NEIGHBOUR: 'it returns false'. Refute it at one input. -/
def fnExactNullsOfFactWrong : ChangeSpec := { name := "fnExactNullsOfFact", fn := fun _ => fun
  | [d] => { results := [.lit (.bool false)], args := [d] }
  | _ => none }
def FnExactNullsOfFactWrongFalsely : Prop := fnExactNullsOfFactRow.holds Try.pinned (OpenSpec.ofChange fnExactNullsOfFactWrong)

/- THE SECOND FORM. 'bulk': how many values and letters a reading holds, each counted each time it is reached (what is shared counts as often as it is met; a slice's spare places count too). A statement '..UptoSaid' is the law's where the arguments, and the package variables that the reading takes, are together of bulk at most 1048576: NARROWER than '..Said'. Prove '..Said' where nothing that the law and all that it calls make is longer than what came in: it says more and counts as full. Else prove '..UptoSaid'. A law counts once. -/
mutual
def uptoBulk {H : Type} : DataW H → Nat
  | .lit (.string bytes) => bytes.length + 1
  | .lit _ => 1
  | .nil => 1
  | .ptr d => uptoBulk d + 1
  | .slice elems spare => uptoBulkAll elems + uptoBulkAll spare + 1
  | .agg parts => uptoBulkAll parts + 1
  | .iface _ d => uptoBulk d + 1
  | .map entries => uptoBulkEntries entries + 1
  | .held _ => 1
def uptoBulkAll {H : Type} : List (DataW H) → Nat
  | [] => 0
  | d :: r => uptoBulk d + uptoBulkAll r
def uptoBulkEntries {H : Type} : List (Lit × DataW H) → Nat
  | [] => 0
  | x :: r => uptoBulkEntry x + uptoBulkEntries r
def uptoBulkEntry {H : Type} : Lit × DataW H → Nat
  | (.string bytes, d) => bytes.length + uptoBulk d + 1
  | (_, d) => uptoBulk d + 1
 end
def uptoSmall : (H : Type) → List (DataW H) → Bool := fun _ ds => decide (uptoBulkAll ds ≤ 1048576)
def OpenSpec.upto (s : _root_.Go.ChangeSpec) : _root_.Go.OpenSpec := { _root_.Go.OpenSpec.ofChange s with cond := some uptoSmall }

/-- 'laws.FnExactIsValidFact', WHERE WHAT IT READS IS OF BULK AT MOST 1048576: true; the input reads as it did. -/
def fnExactIsValidFactUptoRow : OpenClaim := { program := "ytkiffiehjchljaa", sum := "60921e7f018e0c653ec8bad511ae952c03c93c262d1b55418e6a680d7aa6b958", func := "loop.example/g01919/laws.FnExactIsValidFact", spec := "fnExactIsValidFact", apart := false, narrowed := true }
def FnExactIsValidFactUptoSaid : Prop := fnExactIsValidFactUptoRow.holds Try.pinned (OpenSpec.upto fnExactIsValidFactSpec)

/-- 'laws.FnExactCompareFacts', WHERE WHAT IT READS IS OF BULK AT MOST 1048576: true; the input reads as it did. -/
def fnExactCompareFactsUptoRow : OpenClaim := { program := "ytkiffiehjchljaa", sum := "60921e7f018e0c653ec8bad511ae952c03c93c262d1b55418e6a680d7aa6b958", func := "loop.example/g01919/laws.FnExactCompareFacts", spec := "fnExactCompareFacts", apart := false, narrowed := true }
def FnExactCompareFactsUptoSaid : Prop := fnExactCompareFactsUptoRow.holds Try.pinned (OpenSpec.upto fnExactCompareFactsSpec)

/-- 'laws.FnExactNullsOfFact', WHERE WHAT IT READS IS OF BULK AT MOST 1048576: true; the input reads as it did. -/
def fnExactNullsOfFactUptoRow : OpenClaim := { program := "ytkiffiehjchljaa", sum := "60921e7f018e0c653ec8bad511ae952c03c93c262d1b55418e6a680d7aa6b958", func := "loop.example/g01919/laws.FnExactNullsOfFact", spec := "fnExactNullsOfFact", recurses := true, apart := false, narrowed := true }
def FnExactNullsOfFactUptoSaid : Prop := fnExactNullsOfFactUptoRow.holds Try.pinned (OpenSpec.upto fnExactNullsOfFactSpec)

end Rows
end Go.Proofs.Ytkiffiehjchljaa
