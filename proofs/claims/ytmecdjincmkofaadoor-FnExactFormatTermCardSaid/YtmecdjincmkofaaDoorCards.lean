/-
  DERIVED. GIVEN WITH THE SEED: THE CARDS: each row of YtmecdjincmkofaaDoorRows.lean that lists a variable, with what it lists TIED to the program's text (the seventh form; the later family's looks); each row that meets fmt, with fmt's text TOLD by the authors' own Lean function (tested against real Go, not proved from fmt's source: count such statements apart). THE CARD IS WHAT COUNTS. Prove the row's statement (the work); the ties are given (YtmecdjincmkofaaDoorTie.lean); close each card by the builder's one call (the guide's Derived/Test/ToyasCard.lean, 'card_holds'). Laid BY PROGRAM, IN A SANDBOX (cutbox-door.mjs). By AI agents, Wed Nov 11 2026. No macro, syntax, notation, axiom, sorry.
-/
import Derived.Test.YtmecdjincmkofaaDoorRows
import GoSem.ClaimSeven
namespace Go.Proofs.YtmecdjincmkofaaDoor
namespace Rows

/-- THE TIED CARD OF 'laws.FnExactFormatTerm'. -/
def fnExactFormatTermCard : Claim7 := { stood := { row := fnExactFormatTermRow, standIns := [], harness := (true, "7def341d83227452f8902ceea9995df05003778548ed4fc3797921037415271a"), looks := false }, kinds := [], alts := [], laidByText := true, laidKinds := [.data, .data, .data], laidTests := true, laidLooks := .later }
def FnExactFormatTermCardSaid : Prop := Claim7.holds Tryd.pinned (.plain (OpenSpec.ofChange fnExactFormatTermSpec)) fnExactFormatTermCard

/-- THE TIED CARD OF 'laws.FnExactFormatAtom'. -/
def fnExactFormatAtomCard : Claim7 := { stood := { row := fnExactFormatAtomRow, standIns := [], harness := (true, "7def341d83227452f8902ceea9995df05003778548ed4fc3797921037415271a"), looks := false }, kinds := [], alts := [], laidByText := true, laidKinds := [.data, .data, .data], laidTests := true, laidLooks := .later }
def FnExactFormatAtomCardSaid : Prop := Claim7.holds Tryd.pinned (.plain (OpenSpec.ofChange fnExactFormatAtomSpec)) fnExactFormatAtomCard

/-- THE TIED CARD OF 'laws.FnExactFormatDependency'. -/
def fnExactFormatDependencyCard : Claim7 := { stood := { row := fnExactFormatDependencyRow, standIns := [], harness := (true, "7def341d83227452f8902ceea9995df05003778548ed4fc3797921037415271a"), looks := false }, kinds := [], alts := [], laidByText := true, laidKinds := [.data, .data, .data], laidTests := true, laidLooks := .later }
def FnExactFormatDependencyCardSaid : Prop := Claim7.holds Tryd.pinned (.plain (OpenSpec.ofChange fnExactFormatDependencySpec)) fnExactFormatDependencyCard

/-- THE SECOND FORM's CARD OF 'laws.FnExactFormatTerm'. -/
def fnExactFormatTermUptoCard : Claim7 := { stood := { row := fnExactFormatTermUptoRow, standIns := [], harness := (true, "7def341d83227452f8902ceea9995df05003778548ed4fc3797921037415271a"), looks := false }, kinds := [], alts := [], laidByText := true, laidKinds := [.data, .data, .data], laidTests := true, laidLooks := .later }
def FnExactFormatTermUptoCardSaid : Prop := Claim7.holds Tryd.pinned (.plain (OpenSpec.upto fnExactFormatTermSpec)) fnExactFormatTermUptoCard

/-- THE SECOND FORM's CARD OF 'laws.FnExactFormatAtom'. -/
def fnExactFormatAtomUptoCard : Claim7 := { stood := { row := fnExactFormatAtomUptoRow, standIns := [], harness := (true, "7def341d83227452f8902ceea9995df05003778548ed4fc3797921037415271a"), looks := false }, kinds := [], alts := [], laidByText := true, laidKinds := [.data, .data, .data], laidTests := true, laidLooks := .later }
def FnExactFormatAtomUptoCardSaid : Prop := Claim7.holds Tryd.pinned (.plain (OpenSpec.upto fnExactFormatAtomSpec)) fnExactFormatAtomUptoCard

/-- THE SECOND FORM's CARD OF 'laws.FnExactFormatDependency'. -/
def fnExactFormatDependencyUptoCard : Claim7 := { stood := { row := fnExactFormatDependencyUptoRow, standIns := [], harness := (true, "7def341d83227452f8902ceea9995df05003778548ed4fc3797921037415271a"), looks := false }, kinds := [], alts := [], laidByText := true, laidKinds := [.data, .data, .data], laidTests := true, laidLooks := .later }
def FnExactFormatDependencyUptoCardSaid : Prop := Claim7.holds Tryd.pinned (.plain (OpenSpec.upto fnExactFormatDependencySpec)) fnExactFormatDependencyUptoCard
end Rows
end Go.Proofs.YtmecdjincmkofaaDoor
