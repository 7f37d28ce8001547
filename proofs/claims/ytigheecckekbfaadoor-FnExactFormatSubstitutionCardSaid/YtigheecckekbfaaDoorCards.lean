/-
  DERIVED. GIVEN WITH THE SEED: THE CARDS: each row of YtigheecckekbfaaDoorRows.lean that lists a variable, with what it lists TIED to the program's text (the seventh form; the later family's looks); each row that meets fmt, with fmt's text TOLD by the authors' own Lean function (tested against real Go, not proved from fmt's source: count such statements apart). THE CARD IS WHAT COUNTS. Prove the row's statement (the work); the ties are given (YtigheecckekbfaaDoorTie.lean); close each card by the builder's one call (the guide's Derived/Test/ToyasCard.lean, 'card_holds'). Laid BY PROGRAM, IN A SANDBOX (cutbox-door.mjs). By AI agents, Wed Nov 11 2026. No macro, syntax, notation, axiom, sorry.
-/
import Derived.Test.YtigheecckekbfaaDoorRows
import GoSem.ClaimSeven
namespace Go.Proofs.YtigheecckekbfaaDoor
namespace Rows

/-- THE TIED CARD OF 'laws.FnExactFormatSubstitution'. -/
def fnExactFormatSubstitutionCard : Claim7 := { stood := { row := fnExactFormatSubstitutionRow, standIns := [], harness := (true, "aceea76f2057a0d6f2724b2c5a06bc8f650d038be68300f8f4860c7c95dd5f5c"), looks := false }, kinds := [], alts := [], laidByText := true, laidKinds := [.data, .data, .data], laidTests := true, laidLooks := .later }
def FnExactFormatSubstitutionCardSaid : Prop := Claim7.holds Tryd.pinned (.plain (OpenSpec.ofChange fnExactFormatSubstitutionSpec)) fnExactFormatSubstitutionCard

/-- THE SECOND FORM's CARD OF 'laws.FnExactFormatSubstitution'. -/
def fnExactFormatSubstitutionUptoCard : Claim7 := { stood := { row := fnExactFormatSubstitutionUptoRow, standIns := [], harness := (true, "aceea76f2057a0d6f2724b2c5a06bc8f650d038be68300f8f4860c7c95dd5f5c"), looks := false }, kinds := [], alts := [], laidByText := true, laidKinds := [.data, .data, .data], laidTests := true, laidLooks := .later }
def FnExactFormatSubstitutionUptoCardSaid : Prop := Claim7.holds Tryd.pinned (.plain (OpenSpec.upto fnExactFormatSubstitutionSpec)) fnExactFormatSubstitutionUptoCard
end Rows
end Go.Proofs.YtigheecckekbfaaDoor
