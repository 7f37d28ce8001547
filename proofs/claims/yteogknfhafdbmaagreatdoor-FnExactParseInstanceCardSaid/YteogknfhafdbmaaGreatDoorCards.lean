/-
  DERIVED. GIVEN WITH THE SEED: THE CARDS: each row of YteogknfhafdbmaaGreatDoorRows.lean that lists a variable, with what it lists TIED to the program's text (the seventh form; the later family's looks); each row that meets fmt, with fmt's text TOLD by the authors' own Lean function (tested against real Go, not proved from fmt's source: count such statements apart). THE CARD IS WHAT COUNTS. Prove the row's statement (the work); the ties are given (YteogknfhafdbmaaGreatDoorTie.lean); close each card by the builder's one call (the guide's Derived/Test/ToyasCard.lean, 'card_holds'). Laid BY PROGRAM, IN A SANDBOX (cutbox-door.mjs). By AI agents, Wed Nov 11 2026. No macro, syntax, notation, axiom, sorry.
-/
import Derived.Test.YteogknfhafdbmaaGreatDoorRows
import GoSem.ClaimSeven
namespace Go.Proofs.YteogknfhafdbmaaGreatDoor
namespace Rows

/-- THE TIED CARD OF 'laws.FnExactParseFact'. -/
def fnExactParseFactCard : Claim7 := { stood := { row := fnExactParseFactRow, standIns := [], harness := (true, "080d5ca60f9b0c3ff54877f02f0e4a3f27204225ba63ca498885c075d2fe8ba0"), looks := true }, kinds := [], alts := [], laidByText := true, laidKinds := [.data, .data, .data, .data, .sentinel, .sentinel, .pinned], laidTests := true, laidLooks := .later }
def FnExactParseFactCardSaid : Prop := Claim7.holds Tryz.pinned (.plain (OpenSpec.ofChange fnExactParseFactSpec)) fnExactParseFactCard

/-- THE TIED CARD OF 'laws.FnExactParseInstance'. -/
def fnExactParseInstanceCard : Claim7 := { stood := { row := fnExactParseInstanceRow, standIns := [], harness := (true, "080d5ca60f9b0c3ff54877f02f0e4a3f27204225ba63ca498885c075d2fe8ba0"), looks := true }, kinds := [], alts := [], laidByText := true, laidKinds := [.data, .data, .data, .data, .sentinel, .sentinel, .pinned], laidTests := true, laidLooks := .later }
def FnExactParseInstanceCardSaid : Prop := Claim7.holds Tryz.pinned (.plain (OpenSpec.ofChange fnExactParseInstanceSpec)) fnExactParseInstanceCard

/-- THE SECOND FORM's CARD OF 'laws.FnExactParseFact'. -/
def fnExactParseFactUptoCard : Claim7 := { stood := { row := fnExactParseFactUptoRow, standIns := [], harness := (true, "080d5ca60f9b0c3ff54877f02f0e4a3f27204225ba63ca498885c075d2fe8ba0"), looks := true }, kinds := [], alts := [], laidByText := true, laidKinds := [.data, .data, .data, .data, .sentinel, .sentinel, .pinned], laidTests := true, laidLooks := .later }
def FnExactParseFactUptoCardSaid : Prop := Claim7.holds Tryz.pinned (.plain (OpenSpec.upto fnExactParseFactSpec)) fnExactParseFactUptoCard

/-- THE SECOND FORM's CARD OF 'laws.FnExactParseInstance'. -/
def fnExactParseInstanceUptoCard : Claim7 := { stood := { row := fnExactParseInstanceUptoRow, standIns := [], harness := (true, "080d5ca60f9b0c3ff54877f02f0e4a3f27204225ba63ca498885c075d2fe8ba0"), looks := true }, kinds := [], alts := [], laidByText := true, laidKinds := [.data, .data, .data, .data, .sentinel, .sentinel, .pinned], laidTests := true, laidLooks := .later }
def FnExactParseInstanceUptoCardSaid : Prop := Claim7.holds Tryz.pinned (.plain (OpenSpec.upto fnExactParseInstanceSpec)) fnExactParseInstanceUptoCard
end Rows
end Go.Proofs.YteogknfhafdbmaaGreatDoor
