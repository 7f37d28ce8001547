/-
  DERIVED. GIVEN WITH THE SEED: THE CARDS: each row of YtnneciihbfcemaaDoorRows.lean that lists a variable, with what it lists TIED to the program's text (the seventh form; the later family's looks); each row that meets fmt, with fmt's text TOLD by the authors' own Lean function (tested against real Go, not proved from fmt's source: count such statements apart). THE CARD IS WHAT COUNTS. Prove the row's statement (the work); the ties are given (YtnneciihbfcemaaDoorTie.lean); close each card by the builder's one call (the guide's Derived/Test/ToyasCard.lean, 'card_holds'). Laid BY PROGRAM, IN A SANDBOX (cutbox-door.mjs). By AI agents, Wed Nov 11 2026. No macro, syntax, notation, axiom, sorry.
-/
import Derived.Test.YtnneciihbfcemaaDoorRows
import GoSem.ClaimSeven
namespace Go.Proofs.YtnneciihbfcemaaDoor
namespace Rows

/-- THE TIED CARD OF 'laws.FnExactFormatRelations'. -/
def fnExactFormatRelationsCard : Claim7 := { stood := { row := fnExactFormatRelationsRow, standIns := [], harness := (true, "702b564b0cc4aade769bdae50fc114201f0ff7f48a0b0603bb73e9c3c5532c6d"), looks := true }, kinds := [], alts := [], laidByText := true, laidKinds := [.data, .data, .data], laidTests := true, laidLooks := .later }
def FnExactFormatRelationsCardSaid : Prop := Claim7.holds Tryd.pinned (.plain (OpenSpec.ofChange fnExactFormatRelationsSpec)) fnExactFormatRelationsCard

/-- THE TIED CARD OF 'laws.FnExactParseRelations'. -/
def fnExactParseRelationsCard : Claim7 := { stood := { row := fnExactParseRelationsRow, standIns := [], harness := (true, "702b564b0cc4aade769bdae50fc114201f0ff7f48a0b0603bb73e9c3c5532c6d"), looks := true }, kinds := [], alts := [], laidByText := true, laidKinds := [.data, .data, .data, .data, .sentinel, .sentinel, .pinned], laidTests := true, laidLooks := .later }
def FnExactParseRelationsCardSaid : Prop := Claim7.holds Tryd.pinned (.plain (OpenSpec.ofChange fnExactParseRelationsSpec)) fnExactParseRelationsCard

/-- THE SECOND FORM's CARD OF 'laws.FnExactFormatRelations'. -/
def fnExactFormatRelationsUptoCard : Claim7 := { stood := { row := fnExactFormatRelationsUptoRow, standIns := [], harness := (true, "702b564b0cc4aade769bdae50fc114201f0ff7f48a0b0603bb73e9c3c5532c6d"), looks := true }, kinds := [], alts := [], laidByText := true, laidKinds := [.data, .data, .data], laidTests := true, laidLooks := .later }
def FnExactFormatRelationsUptoCardSaid : Prop := Claim7.holds Tryd.pinned (.plain (OpenSpec.upto fnExactFormatRelationsSpec)) fnExactFormatRelationsUptoCard

/-- THE SECOND FORM's CARD OF 'laws.FnExactParseRelations'. -/
def fnExactParseRelationsUptoCard : Claim7 := { stood := { row := fnExactParseRelationsUptoRow, standIns := [], harness := (true, "702b564b0cc4aade769bdae50fc114201f0ff7f48a0b0603bb73e9c3c5532c6d"), looks := true }, kinds := [], alts := [], laidByText := true, laidKinds := [.data, .data, .data, .data, .sentinel, .sentinel, .pinned], laidTests := true, laidLooks := .later }
def FnExactParseRelationsUptoCardSaid : Prop := Claim7.holds Tryd.pinned (.plain (OpenSpec.upto fnExactParseRelationsSpec)) fnExactParseRelationsUptoCard
end Rows
end Go.Proofs.YtnneciihbfcemaaDoor
