/-
  DERIVED. GIVEN WITH THE SEED: THE CARDS: each row of YtmecdjincmkofaaGreatDoorRows.lean that lists a variable, with what it lists TIED to the program's text (the seventh form; the later family's looks); each row that meets fmt, with fmt's text TOLD by the authors' own Lean function (tested against real Go, not proved from fmt's source: count such statements apart). THE CARD IS WHAT COUNTS. Prove the row's statement (the work); the ties are given (YtmecdjincmkofaaGreatDoorTie.lean); close each card by the builder's one call (the guide's Derived/Test/ToyasCard.lean, 'card_holds'). Laid BY PROGRAM, IN A SANDBOX (cutbox-door.mjs). By AI agents, Wed Nov 11 2026. No macro, syntax, notation, axiom, sorry.
-/
import Derived.Test.YtmecdjincmkofaaGreatDoorRows
import GoSem.ClaimSeven
namespace Go.Proofs.YtmecdjincmkofaaGreatDoor
namespace Rows

/-- THE TIED CARD OF 'laws.FnDependencyListFormat'. -/
def fnDependencyListFormatCard : Claim7 := { stood := { row := fnDependencyListFormatRow, standIns := [], harness := (true, "8aea31bed792810445b18e570d6211343750e2a84cb87d83868a5fc6db5385b5"), looks := true }, kinds := [], alts := [], laidByText := true, laidKinds := [.data, .data, .data, .data, .sentinel, .sentinel, .pinned], laidTests := true, laidLooks := .later }
def FnDependencyListFormatCardSaid : Prop := Claim7.holds Tryz.pinned (.plain (OpenSpec.ofChange fnDependencyListFormatSpec)) fnDependencyListFormatCard

/-- THE TIED CARD OF 'laws.FnInstanceFormat'. -/
def fnInstanceFormatCard : Claim7 := { stood := { row := fnInstanceFormatRow, standIns := [], harness := (true, "8aea31bed792810445b18e570d6211343750e2a84cb87d83868a5fc6db5385b5"), looks := true }, kinds := [], alts := [], laidByText := true, laidKinds := [.data, .data, .data, .data, .sentinel, .sentinel, .pinned], laidTests := true, laidLooks := .later }
def FnInstanceFormatCardSaid : Prop := Claim7.holds Tryz.pinned (.plain (OpenSpec.ofChange fnInstanceFormatSpec)) fnInstanceFormatCard

/-- THE TIED CARD OF 'laws.FnRelationAndFactFormat'. -/
def fnRelationAndFactFormatCard : Claim7 := { stood := { row := fnRelationAndFactFormatRow, standIns := [], harness := (true, "8aea31bed792810445b18e570d6211343750e2a84cb87d83868a5fc6db5385b5"), looks := true }, kinds := [], alts := [], laidByText := true, laidKinds := [.data, .data, .data, .data, .sentinel, .sentinel, .pinned], laidTests := true, laidLooks := .later }
def FnRelationAndFactFormatCardSaid : Prop := Claim7.holds Tryz.pinned (.plain (OpenSpec.ofChange fnRelationAndFactFormatSpec)) fnRelationAndFactFormatCard

/-- THE TIED CARD OF 'laws.FnExactParseDependency'. -/
def fnExactParseDependencyCard : Claim7 := { stood := { row := fnExactParseDependencyRow, standIns := [], harness := (true, "8aea31bed792810445b18e570d6211343750e2a84cb87d83868a5fc6db5385b5"), looks := true }, kinds := [], alts := [], laidByText := true, laidKinds := [.data, .data, .data, .data, .sentinel, .sentinel, .pinned], laidTests := true, laidLooks := .later }
def FnExactParseDependencyCardSaid : Prop := Claim7.holds Tryz.pinned (.plain (OpenSpec.ofChange fnExactParseDependencySpec)) fnExactParseDependencyCard

/-- THE TIED CARD OF 'laws.FnExactFormatDependencies'. -/
def fnExactFormatDependenciesCard : Claim7 := { stood := { row := fnExactFormatDependenciesRow, standIns := [], harness := (true, "8aea31bed792810445b18e570d6211343750e2a84cb87d83868a5fc6db5385b5"), looks := true }, kinds := [], alts := [], laidByText := true, laidKinds := [.data, .data, .data], laidTests := true, laidLooks := .later }
def FnExactFormatDependenciesCardSaid : Prop := Claim7.holds Tryz.pinned (.plain (OpenSpec.ofChange fnExactFormatDependenciesSpec)) fnExactFormatDependenciesCard

/-- THE TIED CARD OF 'laws.FnExactParseDependencies'. -/
def fnExactParseDependenciesCard : Claim7 := { stood := { row := fnExactParseDependenciesRow, standIns := [], harness := (true, "8aea31bed792810445b18e570d6211343750e2a84cb87d83868a5fc6db5385b5"), looks := true }, kinds := [], alts := [], laidByText := true, laidKinds := [.data, .data, .data, .data, .sentinel, .sentinel, .pinned], laidTests := true, laidLooks := .later }
def FnExactParseDependenciesCardSaid : Prop := Claim7.holds Tryz.pinned (.plain (OpenSpec.ofChange fnExactParseDependenciesSpec)) fnExactParseDependenciesCard

/-- THE TIED CARD OF 'laws.FnSubstitutions'. -/
def fnSubstitutionsCard : Claim7 := { stood := { row := fnSubstitutionsRow, standIns := [], harness := (true, "8aea31bed792810445b18e570d6211343750e2a84cb87d83868a5fc6db5385b5"), looks := true }, kinds := [], alts := [], laidByText := true, laidKinds := [.data, .data, .data], laidTests := true, laidLooks := .later }
def FnSubstitutionsCardSaid : Prop := Claim7.holds Tryz.pinned (.plain (OpenSpec.ofChange fnSubstitutionsSpec)) fnSubstitutionsCard

/-- THE SECOND FORM's CARD OF 'laws.FnDependencyListFormat'. -/
def fnDependencyListFormatUptoCard : Claim7 := { stood := { row := fnDependencyListFormatUptoRow, standIns := [], harness := (true, "8aea31bed792810445b18e570d6211343750e2a84cb87d83868a5fc6db5385b5"), looks := true }, kinds := [], alts := [], laidByText := true, laidKinds := [.data, .data, .data, .data, .sentinel, .sentinel, .pinned], laidTests := true, laidLooks := .later }
def FnDependencyListFormatUptoCardSaid : Prop := Claim7.holds Tryz.pinned (.plain (OpenSpec.upto fnDependencyListFormatSpec)) fnDependencyListFormatUptoCard

/-- THE SECOND FORM's CARD OF 'laws.FnInstanceFormat'. -/
def fnInstanceFormatUptoCard : Claim7 := { stood := { row := fnInstanceFormatUptoRow, standIns := [], harness := (true, "8aea31bed792810445b18e570d6211343750e2a84cb87d83868a5fc6db5385b5"), looks := true }, kinds := [], alts := [], laidByText := true, laidKinds := [.data, .data, .data, .data, .sentinel, .sentinel, .pinned], laidTests := true, laidLooks := .later }
def FnInstanceFormatUptoCardSaid : Prop := Claim7.holds Tryz.pinned (.plain (OpenSpec.upto fnInstanceFormatSpec)) fnInstanceFormatUptoCard

/-- THE SECOND FORM's CARD OF 'laws.FnRelationAndFactFormat'. -/
def fnRelationAndFactFormatUptoCard : Claim7 := { stood := { row := fnRelationAndFactFormatUptoRow, standIns := [], harness := (true, "8aea31bed792810445b18e570d6211343750e2a84cb87d83868a5fc6db5385b5"), looks := true }, kinds := [], alts := [], laidByText := true, laidKinds := [.data, .data, .data, .data, .sentinel, .sentinel, .pinned], laidTests := true, laidLooks := .later }
def FnRelationAndFactFormatUptoCardSaid : Prop := Claim7.holds Tryz.pinned (.plain (OpenSpec.upto fnRelationAndFactFormatSpec)) fnRelationAndFactFormatUptoCard

/-- THE SECOND FORM's CARD OF 'laws.FnExactParseDependency'. -/
def fnExactParseDependencyUptoCard : Claim7 := { stood := { row := fnExactParseDependencyUptoRow, standIns := [], harness := (true, "8aea31bed792810445b18e570d6211343750e2a84cb87d83868a5fc6db5385b5"), looks := true }, kinds := [], alts := [], laidByText := true, laidKinds := [.data, .data, .data, .data, .sentinel, .sentinel, .pinned], laidTests := true, laidLooks := .later }
def FnExactParseDependencyUptoCardSaid : Prop := Claim7.holds Tryz.pinned (.plain (OpenSpec.upto fnExactParseDependencySpec)) fnExactParseDependencyUptoCard

/-- THE SECOND FORM's CARD OF 'laws.FnExactFormatDependencies'. -/
def fnExactFormatDependenciesUptoCard : Claim7 := { stood := { row := fnExactFormatDependenciesUptoRow, standIns := [], harness := (true, "8aea31bed792810445b18e570d6211343750e2a84cb87d83868a5fc6db5385b5"), looks := true }, kinds := [], alts := [], laidByText := true, laidKinds := [.data, .data, .data], laidTests := true, laidLooks := .later }
def FnExactFormatDependenciesUptoCardSaid : Prop := Claim7.holds Tryz.pinned (.plain (OpenSpec.upto fnExactFormatDependenciesSpec)) fnExactFormatDependenciesUptoCard

/-- THE SECOND FORM's CARD OF 'laws.FnExactParseDependencies'. -/
def fnExactParseDependenciesUptoCard : Claim7 := { stood := { row := fnExactParseDependenciesUptoRow, standIns := [], harness := (true, "8aea31bed792810445b18e570d6211343750e2a84cb87d83868a5fc6db5385b5"), looks := true }, kinds := [], alts := [], laidByText := true, laidKinds := [.data, .data, .data, .data, .sentinel, .sentinel, .pinned], laidTests := true, laidLooks := .later }
def FnExactParseDependenciesUptoCardSaid : Prop := Claim7.holds Tryz.pinned (.plain (OpenSpec.upto fnExactParseDependenciesSpec)) fnExactParseDependenciesUptoCard

/-- THE SECOND FORM's CARD OF 'laws.FnSubstitutions'. -/
def fnSubstitutionsUptoCard : Claim7 := { stood := { row := fnSubstitutionsUptoRow, standIns := [], harness := (true, "8aea31bed792810445b18e570d6211343750e2a84cb87d83868a5fc6db5385b5"), looks := true }, kinds := [], alts := [], laidByText := true, laidKinds := [.data, .data, .data], laidTests := true, laidLooks := .later }
def FnSubstitutionsUptoCardSaid : Prop := Claim7.holds Tryz.pinned (.plain (OpenSpec.upto fnSubstitutionsSpec)) fnSubstitutionsUptoCard
end Rows
end Go.Proofs.YtmecdjincmkofaaGreatDoor
