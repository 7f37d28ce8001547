/-
  DERIVED. GIVEN WITH THE SEED: THE CARDS: each row of YtmaoojdoiccgdaaDoorRows.lean that lists a variable, with what it lists TIED to the program's text (the seventh form; the later family's looks); each row that meets fmt, with fmt's text TOLD by the authors' own Lean function (tested against real Go, not proved from fmt's source: count such statements apart). THE CARD IS WHAT COUNTS. Prove the row's statement (the work); the ties are given (YtmaoojdoiccgdaaDoorTie.lean); close each card by the builder's one call (the guide's Derived/Test/ToyasCard.lean, 'card_holds'). Laid BY PROGRAM, IN A SANDBOX (cutbox-door.mjs). By AI agents, Wed Nov 11 2026. No macro, syntax, notation, axiom, sorry.
-/
import Derived.Test.YtmaoojdoiccgdaaDoorRows
import GoSem.ClaimSeven
namespace Go.Proofs.YtmaoojdoiccgdaaDoor
namespace Rows

/-- THE TIED CARD OF 'laws.FnValueFormat'. -/
def fnValueFormatCard : Claim7 := { stood := { row := fnValueFormatRow, standIns := [], harness := (true, "d9f618578302724d6bb4e0c9000ed0fc798fb55a172e966e67d243d2b6360e77"), looks := true }, kinds := [], alts := [], laidByText := true, laidKinds := [.data, .data, .data, .sentinel, .sentinel], laidTests := true, laidLooks := .later }
def FnValueFormatCardSaid : Prop := Claim7.holds Tryd.pinned (.plain (OpenSpec.ofChange fnValueFormatSpec)) fnValueFormatCard

/-- THE SECOND FORM's CARD OF 'laws.FnValueFormat'. -/
def fnValueFormatUptoCard : Claim7 := { stood := { row := fnValueFormatUptoRow, standIns := [], harness := (true, "d9f618578302724d6bb4e0c9000ed0fc798fb55a172e966e67d243d2b6360e77"), looks := true }, kinds := [], alts := [], laidByText := true, laidKinds := [.data, .data, .data, .sentinel, .sentinel], laidTests := true, laidLooks := .later }
def FnValueFormatUptoCardSaid : Prop := Claim7.holds Tryd.pinned (.plain (OpenSpec.upto fnValueFormatSpec)) fnValueFormatUptoCard
end Rows
end Go.Proofs.YtmaoojdoiccgdaaDoor
