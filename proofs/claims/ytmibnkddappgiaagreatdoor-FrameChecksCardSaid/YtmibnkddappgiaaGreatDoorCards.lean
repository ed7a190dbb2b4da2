/-
  DERIVED. GIVEN WITH THE SEED: THE CARDS: each row of YtmibnkddappgiaaGreatDoorRows.lean that lists a variable, with what it lists TIED to the program's text (the seventh form; the later family's looks); each row that meets fmt, with fmt's text TOLD by the authors' own Lean function (tested against real Go, not proved from fmt's source: count such statements apart). THE CARD IS WHAT COUNTS. Prove the row's statement (the work); the ties are given (YtmibnkddappgiaaGreatDoorTie.lean); close each card by the builder's one call (the guide's Derived/Test/ToyasCard.lean, 'card_holds'). Laid BY PROGRAM, IN A SANDBOX (cutbox-door.mjs). By AI agents, Wed Nov 11 2026. No macro, syntax, notation, axiom, sorry.
-/
import Derived.Test.YtmibnkddappgiaaGreatDoorRows
import GoSem.ClaimSeven
namespace Go.Proofs.YtmibnkddappgiaaGreatDoor
namespace Rows

/-- THE TIED CARD OF 'catchwordlaw14.FrameChecks'. -/
def frameChecksCard : Claim7 := { stood := { row := frameChecksRow, standIns := [], harness := (true, "c004779d49af939d365115cfeea8b2371c21d70dc2632bd7aee8ccfeeda3bb18"), looks := false }, kinds := [], alts := [], laidByText := true, laidKinds := [.data, .data, .data, .data, .sentinel, .pinned], laidTests := true, laidLooks := .later }
def FrameChecksCardSaid : Prop := Claim7.holds Tryz.pinned (.plain (OpenSpec.ofChange frameChecksSpec)) frameChecksCard

/-- THE SECOND FORM's CARD OF 'catchwordlaw14.FrameChecks'. -/
def frameChecksUptoCard : Claim7 := { stood := { row := frameChecksUptoRow, standIns := [], harness := (true, "c004779d49af939d365115cfeea8b2371c21d70dc2632bd7aee8ccfeeda3bb18"), looks := false }, kinds := [], alts := [], laidByText := true, laidKinds := [.data, .data, .data, .data, .sentinel, .pinned], laidTests := true, laidLooks := .later }
def FrameChecksUptoCardSaid : Prop := Claim7.holds Tryz.pinned (.plain (OpenSpec.upto frameChecksSpec)) frameChecksUptoCard
end Rows
end Go.Proofs.YtmibnkddappgiaaGreatDoor
