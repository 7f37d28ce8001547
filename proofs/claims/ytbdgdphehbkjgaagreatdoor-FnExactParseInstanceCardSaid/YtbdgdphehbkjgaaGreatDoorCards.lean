/-
  DERIVED. GIVEN WITH THE SEED: THE CARDS: each row of YtbdgdphehbkjgaaGreatDoorRows.lean that lists a variable, with what it lists TIED to the program's text (the seventh form; the later family's looks); each row that meets fmt, with fmt's text TOLD by the authors' own Lean function (tested against real Go, not proved from fmt's source: count such statements apart). THE CARD IS WHAT COUNTS. Prove the row's statement (the work); the ties are given (YtbdgdphehbkjgaaGreatDoorTie.lean); close each card by the builder's one call (the guide's Derived/Test/ToyasCard.lean, 'card_holds'). Laid BY PROGRAM, IN A SANDBOX (cutbox-door.mjs). By AI agents, Wed Nov 11 2026. No macro, syntax, notation, axiom, sorry.
-/
import Derived.Test.YtbdgdphehbkjgaaGreatDoorRows
import GoSem.ClaimSeven
namespace Go.Proofs.YtbdgdphehbkjgaaGreatDoor
namespace Rows

/-- THE TIED CARD OF 'laws.FnInstanceFormat'. -/
def fnInstanceFormatCard : Claim7 := { stood := { row := fnInstanceFormatRow, standIns := [], harness := (true, "6bbe5e492ae866a4ab3425549ce27056757c3b7b76561317ab6210f99b6d47d3"), looks := true }, kinds := [], alts := [], laidByText := true, laidKinds := [.data, .data, .data, .data, .sentinel, .sentinel, .pinned], laidTests := true, laidLooks := .later }
def FnInstanceFormatCardSaid : Prop := Claim7.holds Tryz.pinned (.plain (OpenSpec.ofChange fnInstanceFormatSpec)) fnInstanceFormatCard

/-- THE TIED CARD OF 'laws.FnExactParseInstance'. -/
def fnExactParseInstanceCard : Claim7 := { stood := { row := fnExactParseInstanceRow, standIns := [], harness := (true, "6bbe5e492ae866a4ab3425549ce27056757c3b7b76561317ab6210f99b6d47d3"), looks := true }, kinds := [], alts := [], laidByText := true, laidKinds := [.data, .data, .data, .data, .sentinel, .sentinel, .pinned], laidTests := true, laidLooks := .later }
def FnExactParseInstanceCardSaid : Prop := Claim7.holds Tryz.pinned (.plain (OpenSpec.ofChange fnExactParseInstanceSpec)) fnExactParseInstanceCard

/-- THE SECOND FORM's CARD OF 'laws.FnInstanceFormat'. -/
def fnInstanceFormatUptoCard : Claim7 := { stood := { row := fnInstanceFormatUptoRow, standIns := [], harness := (true, "6bbe5e492ae866a4ab3425549ce27056757c3b7b76561317ab6210f99b6d47d3"), looks := true }, kinds := [], alts := [], laidByText := true, laidKinds := [.data, .data, .data, .data, .sentinel, .sentinel, .pinned], laidTests := true, laidLooks := .later }
def FnInstanceFormatUptoCardSaid : Prop := Claim7.holds Tryz.pinned (.plain (OpenSpec.upto fnInstanceFormatSpec)) fnInstanceFormatUptoCard

/-- THE SECOND FORM's CARD OF 'laws.FnExactParseInstance'. -/
def fnExactParseInstanceUptoCard : Claim7 := { stood := { row := fnExactParseInstanceUptoRow, standIns := [], harness := (true, "6bbe5e492ae866a4ab3425549ce27056757c3b7b76561317ab6210f99b6d47d3"), looks := true }, kinds := [], alts := [], laidByText := true, laidKinds := [.data, .data, .data, .data, .sentinel, .sentinel, .pinned], laidTests := true, laidLooks := .later }
def FnExactParseInstanceUptoCardSaid : Prop := Claim7.holds Tryz.pinned (.plain (OpenSpec.upto fnExactParseInstanceSpec)) fnExactParseInstanceUptoCard
end Rows
end Go.Proofs.YtbdgdphehbkjgaaGreatDoor
