/-
  No cell of these rows narrows 'for every input' (looked for: loops, veiled, ifaces, maps, wideKeys, modest, calm, conditions, laid).
  DERIVED. THE GIVEN ROWS OF THIS SEAT. 4 by the template 'for every input the law returns true; each argument reads behind the call as it read before'; 0 by the template 'total and deterministic' (their statements: YtlkppholdabeoaaTotals.lean).
  GIVEN WITH THE SEED: the statements are not yours to turn. If you find one false, say at which input.
  Laid BY PROGRAM, IN A SANDBOX (cutbox-rows.mjs): the forced cells as the released guide's own fill.sh prints them over the translation f3b5e96e5e351092… (all of the seat's roots in one cut). By AI agents, Wed Nov 11 2026. No macro, syntax, notation, axiom, sorry.
-/
import Derived.Test.YtlkppholdabeoaaChecked
import GoSem.Claim
import GoSem.ClaimJoined
import GoSem.ClaimMapViews
import Derived.JoinedTies
import Derived.KernelRfl
namespace Go.Proofs.Ytlkppholdabeoaa
/- THE CELL 'sum', in the pinned program and in every row, IS THE sha256 OF THE DUMP (.gsa) THAT YtlkppholdabeoaaProg.lean LOADS. Nothing in Lean hashes anything: it is a label: what it is worth is what the hold of that sum in a sandbox is worth. -/
noncomputable def Try.pinned : Pinned := { name := "ytlkppholdabeoaa", sum := "f3b5e96e5e351092d66baf3863f5a5b987a127bf7b6c89e01571beceed65d6c1", checked := Try.checked }
namespace Rows
def none {H : Type} : Left H := { results := [], args := [] }

/-- 'laws.FnExactNullValue': WHATEVER THE INPUT: true; the input reads as it did. -/
def fnExactNullValueSpec : ChangeSpec := { name := "fnExactNullValue", fn := fun _ => fun
  | [d] => { results := [.lit (.bool true)], args := [d] }
  | _ => none }
def fnExactNullValueRow : OpenClaim := { program := "ytlkppholdabeoaa", sum := "f3b5e96e5e351092d66baf3863f5a5b987a127bf7b6c89e01571beceed65d6c1", func := "loop.example/g01919/laws.FnExactNullValue", spec := "fnExactNullValue", apart := false }
def FnExactNullValueSaid : Prop := fnExactNullValueRow.holds Try.pinned (OpenSpec.ofChange fnExactNullValueSpec)

/-- ITS FALSE NEIGHBOUR: 'it returns false'. Refute it at one input. -/
def fnExactNullValueWrong : ChangeSpec := { name := "fnExactNullValue", fn := fun _ => fun
  | [d] => { results := [.lit (.bool false)], args := [d] }
  | _ => none }
def FnExactNullValueWrongFalsely : Prop := fnExactNullValueRow.holds Try.pinned (OpenSpec.ofChange fnExactNullValueWrong)

/-- 'laws.FnExactIsNull': WHATEVER THE INPUT: true; the input reads as it did. -/
def fnExactIsNullSpec : ChangeSpec := { name := "fnExactIsNull", fn := fun _ => fun
  | [d] => { results := [.lit (.bool true)], args := [d] }
  | _ => none }
def fnExactIsNullRow : OpenClaim := { program := "ytlkppholdabeoaa", sum := "f3b5e96e5e351092d66baf3863f5a5b987a127bf7b6c89e01571beceed65d6c1", func := "loop.example/g01919/laws.FnExactIsNull", spec := "fnExactIsNull", apart := false }
def FnExactIsNullSaid : Prop := fnExactIsNullRow.holds Try.pinned (OpenSpec.ofChange fnExactIsNullSpec)

/-- ITS FALSE NEIGHBOUR: 'it returns false'. Refute it at one input. -/
def fnExactIsNullWrong : ChangeSpec := { name := "fnExactIsNull", fn := fun _ => fun
  | [d] => { results := [.lit (.bool false)], args := [d] }
  | _ => none }
def FnExactIsNullWrongFalsely : Prop := fnExactIsNullRow.holds Try.pinned (OpenSpec.ofChange fnExactIsNullWrong)

/-- 'laws.FnExactNullNumber': WHATEVER THE INPUT: true; the input reads as it did. -/
def fnExactNullNumberSpec : ChangeSpec := { name := "fnExactNullNumber", fn := fun _ => fun
  | [d] => { results := [.lit (.bool true)], args := [d] }
  | _ => none }
def fnExactNullNumberRow : OpenClaim := { program := "ytlkppholdabeoaa", sum := "f3b5e96e5e351092d66baf3863f5a5b987a127bf7b6c89e01571beceed65d6c1", func := "loop.example/g01919/laws.FnExactNullNumber", spec := "fnExactNullNumber", apart := false }
def FnExactNullNumberSaid : Prop := fnExactNullNumberRow.holds Try.pinned (OpenSpec.ofChange fnExactNullNumberSpec)

/-- ITS FALSE NEIGHBOUR: 'it returns false'. Refute it at one input. -/
def fnExactNullNumberWrong : ChangeSpec := { name := "fnExactNullNumber", fn := fun _ => fun
  | [d] => { results := [.lit (.bool false)], args := [d] }
  | _ => none }
def FnExactNullNumberWrongFalsely : Prop := fnExactNullNumberRow.holds Try.pinned (OpenSpec.ofChange fnExactNullNumberWrong)

/-- 'laws.FnExactIsValidValue': WHATEVER THE INPUT: true; the input reads as it did. -/
def fnExactIsValidValueSpec : ChangeSpec := { name := "fnExactIsValidValue", fn := fun _ => fun
  | [d] => { results := [.lit (.bool true)], args := [d] }
  | _ => none }
def fnExactIsValidValueRow : OpenClaim := { program := "ytlkppholdabeoaa", sum := "f3b5e96e5e351092d66baf3863f5a5b987a127bf7b6c89e01571beceed65d6c1", func := "loop.example/g01919/laws.FnExactIsValidValue", spec := "fnExactIsValidValue", apart := false }
def FnExactIsValidValueSaid : Prop := fnExactIsValidValueRow.holds Try.pinned (OpenSpec.ofChange fnExactIsValidValueSpec)

/-- ITS FALSE NEIGHBOUR: 'it returns false'. Refute it at one input. -/
def fnExactIsValidValueWrong : ChangeSpec := { name := "fnExactIsValidValue", fn := fun _ => fun
  | [d] => { results := [.lit (.bool false)], args := [d] }
  | _ => none }
def FnExactIsValidValueWrongFalsely : Prop := fnExactIsValidValueRow.holds Try.pinned (OpenSpec.ofChange fnExactIsValidValueWrong)

/- THE SECOND FORM. 'bulk': how many values and letters a reading holds, each counted each time it is reached (what is shared counts as often as it is met; a slice's spare places count too). A statement '..UptoSaid' is the law's where the arguments, and the package variables that the reading takes, are together of bulk at most 1048576: NARROWER than '..Said'. Prove '..Said' where nothing that the law and all that it calls make is longer than what came in: it says more and counts as full. Else prove '..UptoSaid'. A law counts once. -/
mutual
def uptoBulk {H : Type} : DataW H → Nat
  | .lit (.string bytes) => bytes.length + 1
  | .lit _ => 1
  | .nil => 1
  | .ptr d => uptoBulk d + 1
  | .slice elems spare => uptoBulkAll elems + uptoBulkAll spare + 1
  | .agg parts => uptoBulkAll parts + 1
  | .iface _ d => uptoBulk d + 1
  | .map entries => uptoBulkEntries entries + 1
  | .held _ => 1
def uptoBulkAll {H : Type} : List (DataW H) → Nat
  | [] => 0
  | d :: r => uptoBulk d + uptoBulkAll r
def uptoBulkEntries {H : Type} : List (Lit × DataW H) → Nat
  | [] => 0
  | x :: r => uptoBulkEntry x + uptoBulkEntries r
def uptoBulkEntry {H : Type} : Lit × DataW H → Nat
  | (.string bytes, d) => bytes.length + uptoBulk d + 1
  | (_, d) => uptoBulk d + 1
 end
def uptoSmall : (H : Type) → List (DataW H) → Bool := fun _ ds => decide (uptoBulkAll ds ≤ 1048576)
def OpenSpec.upto (s : _root_.Go.ChangeSpec) : _root_.Go.OpenSpec := { _root_.Go.OpenSpec.ofChange s with cond := some uptoSmall }

/-- 'laws.FnExactNullValue', WHERE WHAT IT READS IS OF BULK AT MOST 1048576: true; the input reads as it did. -/
def fnExactNullValueUptoRow : OpenClaim := { program := "ytlkppholdabeoaa", sum := "f3b5e96e5e351092d66baf3863f5a5b987a127bf7b6c89e01571beceed65d6c1", func := "loop.example/g01919/laws.FnExactNullValue", spec := "fnExactNullValue", apart := false, narrowed := true }
def FnExactNullValueUptoSaid : Prop := fnExactNullValueUptoRow.holds Try.pinned (OpenSpec.upto fnExactNullValueSpec)

/-- 'laws.FnExactIsNull', WHERE WHAT IT READS IS OF BULK AT MOST 1048576: true; the input reads as it did. -/
def fnExactIsNullUptoRow : OpenClaim := { program := "ytlkppholdabeoaa", sum := "f3b5e96e5e351092d66baf3863f5a5b987a127bf7b6c89e01571beceed65d6c1", func := "loop.example/g01919/laws.FnExactIsNull", spec := "fnExactIsNull", apart := false, narrowed := true }
def FnExactIsNullUptoSaid : Prop := fnExactIsNullUptoRow.holds Try.pinned (OpenSpec.upto fnExactIsNullSpec)

/-- 'laws.FnExactNullNumber', WHERE WHAT IT READS IS OF BULK AT MOST 1048576: true; the input reads as it did. -/
def fnExactNullNumberUptoRow : OpenClaim := { program := "ytlkppholdabeoaa", sum := "f3b5e96e5e351092d66baf3863f5a5b987a127bf7b6c89e01571beceed65d6c1", func := "loop.example/g01919/laws.FnExactNullNumber", spec := "fnExactNullNumber", apart := false, narrowed := true }
def FnExactNullNumberUptoSaid : Prop := fnExactNullNumberUptoRow.holds Try.pinned (OpenSpec.upto fnExactNullNumberSpec)

/-- 'laws.FnExactIsValidValue', WHERE WHAT IT READS IS OF BULK AT MOST 1048576: true; the input reads as it did. -/
def fnExactIsValidValueUptoRow : OpenClaim := { program := "ytlkppholdabeoaa", sum := "f3b5e96e5e351092d66baf3863f5a5b987a127bf7b6c89e01571beceed65d6c1", func := "loop.example/g01919/laws.FnExactIsValidValue", spec := "fnExactIsValidValue", apart := false, narrowed := true }
def FnExactIsValidValueUptoSaid : Prop := fnExactIsValidValueUptoRow.holds Try.pinned (OpenSpec.upto fnExactIsValidValueSpec)

end Rows
end Go.Proofs.Ytlkppholdabeoaa
