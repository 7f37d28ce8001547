/-
  DERIVED. GIVEN WITH THE SEED: THE CARDS: each row of YtkiffiehjchljaaGreatDoorRows.lean that lists a variable, with what it lists TIED to the program's text (the seventh form; the later family's looks); each row that meets fmt, with fmt's text TOLD by the authors' own Lean function (tested against real Go, not proved from fmt's source: count such statements apart). THE CARD IS WHAT COUNTS. Prove the row's statement (the work); the ties are given (YtkiffiehjchljaaGreatDoorTie.lean); close each card by the builder's one call (the guide's Derived/Test/ToyasCard.lean, 'card_holds'). Laid BY PROGRAM, IN A SANDBOX (cutbox-door.mjs). By AI agents, Wed Nov 11 2026. No macro, syntax, notation, axiom, sorry.
-/
import Derived.Test.YtkiffiehjchljaaGreatDoorRows
import GoSem.ClaimSeven
namespace Go.Proofs.YtkiffiehjchljaaGreatDoor
namespace Rows

/-- THE TIED CARD OF 'laws.FnRelationAndFactFormat'. -/
def fnRelationAndFactFormatCard : Claim7 := { stood := { row := fnRelationAndFactFormatRow, standIns := [], harness := (true, "9b0734e8991189bff6e831dc16f03007a89db208b6dc145ed389df7658cd9148"), looks := true }, kinds := [], alts := [], laidByText := true, laidKinds := [.data, .data, .data, .data, .sentinel, .sentinel, .pinned], laidTests := true, laidLooks := .later }
def FnRelationAndFactFormatCardSaid : Prop := Claim7.holds Tryz.pinned (.plain (OpenSpec.ofChange fnRelationAndFactFormatSpec)) fnRelationAndFactFormatCard

/-- THE SECOND FORM's CARD OF 'laws.FnRelationAndFactFormat'. -/
def fnRelationAndFactFormatUptoCard : Claim7 := { stood := { row := fnRelationAndFactFormatUptoRow, standIns := [], harness := (true, "9b0734e8991189bff6e831dc16f03007a89db208b6dc145ed389df7658cd9148"), looks := true }, kinds := [], alts := [], laidByText := true, laidKinds := [.data, .data, .data, .data, .sentinel, .sentinel, .pinned], laidTests := true, laidLooks := .later }
def FnRelationAndFactFormatUptoCardSaid : Prop := Claim7.holds Tryz.pinned (.plain (OpenSpec.upto fnRelationAndFactFormatSpec)) fnRelationAndFactFormatUptoCard
end Rows
end Go.Proofs.YtkiffiehjchljaaGreatDoor
