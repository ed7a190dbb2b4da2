/-
  DERIVED. GIVEN WITH THE SEED: THE CARDS: each row of YtnkfbjddlbdnfaaDoorRows.lean that lists a variable, with what it lists TIED to the program's text (the seventh form; the later family's looks); each row that meets fmt, with fmt's text TOLD by the authors' own Lean function (tested against real Go, not proved from fmt's source: count such statements apart). THE CARD IS WHAT COUNTS. Prove the row's statement (the work); the ties are given (YtnkfbjddlbdnfaaDoorTie.lean); close each card by the builder's one call (the guide's Derived/Test/ToyasCard.lean, 'card_holds'). Laid BY PROGRAM, IN A SANDBOX (cutbox-door.mjs). By AI agents, Wed Nov 11 2026. No macro, syntax, notation, axiom, sorry.
-/
import Derived.Test.YtnkfbjddlbdnfaaDoorRows
import GoSem.ClaimSeven
namespace Go.Proofs.YtnkfbjddlbdnfaaDoor
namespace Rows

/-- THE TIED CARD OF 'catchwordlaw09.NumParses'. -/
def numParsesCard : Claim7 := { stood := { row := numParsesRow, standIns := [], harness := (true, "cdf2c1e690ac6eeb19a012390eca73f0685d4e87fc010d4c2dd06dc4844c46ca"), looks := false }, kinds := [], alts := [], laidByText := true, laidKinds := [.data, .data, .data, .data, .pinned], laidTests := true, laidLooks := .later }
def NumParsesCardSaid : Prop := Claim7.holds Tryd.pinned (.plain (OpenSpec.ofChange numParsesSpec)) numParsesCard

/-- THE TIED CARD OF 'catchwordlaw09.NumPrints'. -/
def numPrintsCard : Claim7 := { stood := { row := numPrintsRow, standIns := [], harness := (true, "cdf2c1e690ac6eeb19a012390eca73f0685d4e87fc010d4c2dd06dc4844c46ca"), looks := false }, kinds := [], alts := [], laidByText := true, laidKinds := [.data, .data, .data, .data, .pinned], laidTests := true, laidLooks := .later }
def NumPrintsCardSaid : Prop := Claim7.holds Tryd.pinned (.plain (OpenSpec.ofChange numPrintsSpec)) numPrintsCard

/-- THE TIED CARD OF 'catchwordlaw09.NumBack'. -/
def numBackCard : Claim7 := { stood := { row := numBackRow, standIns := [], harness := (true, "cdf2c1e690ac6eeb19a012390eca73f0685d4e87fc010d4c2dd06dc4844c46ca"), looks := false }, kinds := [], alts := [], laidByText := true, laidKinds := [.data, .data, .data, .data, .pinned], laidTests := true, laidLooks := .later }
def NumBackCardSaid : Prop := Claim7.holds Tryd.pinned (.plain (OpenSpec.ofChange numBackSpec)) numBackCard

/-- THE TIED CARD OF 'catchwordlaw09.NumAgain'. -/
def numAgainCard : Claim7 := { stood := { row := numAgainRow, standIns := [], harness := (true, "cdf2c1e690ac6eeb19a012390eca73f0685d4e87fc010d4c2dd06dc4844c46ca"), looks := false }, kinds := [], alts := [], laidByText := true, laidKinds := [.data, .data, .data, .data, .pinned], laidTests := true, laidLooks := .later }
def NumAgainCardSaid : Prop := Claim7.holds Tryd.pinned (.plain (OpenSpec.ofChange numAgainSpec)) numAgainCard

/-- THE SECOND FORM's CARD OF 'catchwordlaw09.NumParses'. -/
def numParsesUptoCard : Claim7 := { stood := { row := numParsesUptoRow, standIns := [], harness := (true, "cdf2c1e690ac6eeb19a012390eca73f0685d4e87fc010d4c2dd06dc4844c46ca"), looks := false }, kinds := [], alts := [], laidByText := true, laidKinds := [.data, .data, .data, .data, .pinned], laidTests := true, laidLooks := .later }
def NumParsesUptoCardSaid : Prop := Claim7.holds Tryd.pinned (.plain (OpenSpec.upto numParsesSpec)) numParsesUptoCard

/-- THE SECOND FORM's CARD OF 'catchwordlaw09.NumPrints'. -/
def numPrintsUptoCard : Claim7 := { stood := { row := numPrintsUptoRow, standIns := [], harness := (true, "cdf2c1e690ac6eeb19a012390eca73f0685d4e87fc010d4c2dd06dc4844c46ca"), looks := false }, kinds := [], alts := [], laidByText := true, laidKinds := [.data, .data, .data, .data, .pinned], laidTests := true, laidLooks := .later }
def NumPrintsUptoCardSaid : Prop := Claim7.holds Tryd.pinned (.plain (OpenSpec.upto numPrintsSpec)) numPrintsUptoCard

/-- THE SECOND FORM's CARD OF 'catchwordlaw09.NumBack'. -/
def numBackUptoCard : Claim7 := { stood := { row := numBackUptoRow, standIns := [], harness := (true, "cdf2c1e690ac6eeb19a012390eca73f0685d4e87fc010d4c2dd06dc4844c46ca"), looks := false }, kinds := [], alts := [], laidByText := true, laidKinds := [.data, .data, .data, .data, .pinned], laidTests := true, laidLooks := .later }
def NumBackUptoCardSaid : Prop := Claim7.holds Tryd.pinned (.plain (OpenSpec.upto numBackSpec)) numBackUptoCard

/-- THE SECOND FORM's CARD OF 'catchwordlaw09.NumAgain'. -/
def numAgainUptoCard : Claim7 := { stood := { row := numAgainUptoRow, standIns := [], harness := (true, "cdf2c1e690ac6eeb19a012390eca73f0685d4e87fc010d4c2dd06dc4844c46ca"), looks := false }, kinds := [], alts := [], laidByText := true, laidKinds := [.data, .data, .data, .data, .pinned], laidTests := true, laidLooks := .later }
def NumAgainUptoCardSaid : Prop := Claim7.holds Tryd.pinned (.plain (OpenSpec.upto numAgainSpec)) numAgainUptoCard
end Rows
end Go.Proofs.YtnkfbjddlbdnfaaDoor
