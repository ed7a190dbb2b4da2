/-
  DERIVED. GIVEN WITH THE SEED: THE CARDS: each row of YtcehpobjnbgpdaaGreatDoorRows.lean that lists a variable, with what it lists TIED to the program's text (the seventh form; the later family's looks); each row that meets fmt, with fmt's text TOLD by the authors' own Lean function (tested against real Go, not proved from fmt's source: count such statements apart). THE CARD IS WHAT COUNTS. Prove the row's statement (the work); the ties are given (YtcehpobjnbgpdaaGreatDoorTie.lean); close each card by the builder's one call (the guide's Derived/Test/ToyasCard.lean, 'card_holds'). Laid BY PROGRAM, IN A SANDBOX (cutbox-door.mjs). By AI agents, Wed Nov 11 2026. No macro, syntax, notation, axiom, sorry.
-/
import Derived.Test.YtcehpobjnbgpdaaGreatDoorRows
import GoSem.ClaimSeven
namespace Go.Proofs.YtcehpobjnbgpdaaGreatDoor
namespace Rows

/-- THE TIED CARD OF 'catchwordlaw13.ShowValues'. -/
def showValuesCard : Claim7 := { stood := { row := showValuesRow, standIns := [], harness := (true, "808feeafd208d5aef2924b84a804f85fcb4d15ebd56394c36c2ce1c1bca905c6"), looks := false }, kinds := [], alts := [], laidByText := true, laidKinds := [.data, .data, .data, .data, .pinned], laidTests := true, laidLooks := .later }
def ShowValuesCardSaid : Prop := Claim7.holds Tryz.pinned (.plain (OpenSpec.ofChange showValuesSpec)) showValuesCard

/-- THE TIED CARD OF 'catchwordlaw13.ShowTexts'. -/
def showTextsCard : Claim7 := { stood := { row := showTextsRow, standIns := [], harness := (true, "808feeafd208d5aef2924b84a804f85fcb4d15ebd56394c36c2ce1c1bca905c6"), looks := false }, kinds := [], alts := [], laidByText := true, laidKinds := [.data, .data, .data, .data, .pinned], laidTests := true, laidLooks := .later }
def ShowTextsCardSaid : Prop := Claim7.holds Tryz.pinned (.plain (OpenSpec.ofChange showTextsSpec)) showTextsCard

/-- THE TIED CARD OF 'catchwordlaw13.ShowBack'. -/
def showBackCard : Claim7 := { stood := { row := showBackRow, standIns := [], harness := (true, "808feeafd208d5aef2924b84a804f85fcb4d15ebd56394c36c2ce1c1bca905c6"), looks := false }, kinds := [], alts := [], laidByText := true, laidKinds := [.data, .data, .data, .data, .pinned], laidTests := true, laidLooks := .later }
def ShowBackCardSaid : Prop := Claim7.holds Tryz.pinned (.plain (OpenSpec.ofChange showBackSpec)) showBackCard

/-- THE TIED CARD OF 'catchwordlaw13.ShowApart'. -/
def showApartCard : Claim7 := { stood := { row := showApartRow, standIns := [], harness := (true, "808feeafd208d5aef2924b84a804f85fcb4d15ebd56394c36c2ce1c1bca905c6"), looks := false }, kinds := [], alts := [], laidByText := true, laidKinds := [.data, .data, .data, .data, .pinned], laidTests := true, laidLooks := .later }
def ShowApartCardSaid : Prop := Claim7.holds Tryz.pinned (.plain (OpenSpec.ofChange showApartSpec)) showApartCard

/-- THE SECOND FORM's CARD OF 'catchwordlaw13.ShowValues'. -/
def showValuesUptoCard : Claim7 := { stood := { row := showValuesUptoRow, standIns := [], harness := (true, "808feeafd208d5aef2924b84a804f85fcb4d15ebd56394c36c2ce1c1bca905c6"), looks := false }, kinds := [], alts := [], laidByText := true, laidKinds := [.data, .data, .data, .data, .pinned], laidTests := true, laidLooks := .later }
def ShowValuesUptoCardSaid : Prop := Claim7.holds Tryz.pinned (.plain (OpenSpec.upto showValuesSpec)) showValuesUptoCard

/-- THE SECOND FORM's CARD OF 'catchwordlaw13.ShowTexts'. -/
def showTextsUptoCard : Claim7 := { stood := { row := showTextsUptoRow, standIns := [], harness := (true, "808feeafd208d5aef2924b84a804f85fcb4d15ebd56394c36c2ce1c1bca905c6"), looks := false }, kinds := [], alts := [], laidByText := true, laidKinds := [.data, .data, .data, .data, .pinned], laidTests := true, laidLooks := .later }
def ShowTextsUptoCardSaid : Prop := Claim7.holds Tryz.pinned (.plain (OpenSpec.upto showTextsSpec)) showTextsUptoCard

/-- THE SECOND FORM's CARD OF 'catchwordlaw13.ShowBack'. -/
def showBackUptoCard : Claim7 := { stood := { row := showBackUptoRow, standIns := [], harness := (true, "808feeafd208d5aef2924b84a804f85fcb4d15ebd56394c36c2ce1c1bca905c6"), looks := false }, kinds := [], alts := [], laidByText := true, laidKinds := [.data, .data, .data, .data, .pinned], laidTests := true, laidLooks := .later }
def ShowBackUptoCardSaid : Prop := Claim7.holds Tryz.pinned (.plain (OpenSpec.upto showBackSpec)) showBackUptoCard

/-- THE SECOND FORM's CARD OF 'catchwordlaw13.ShowApart'. -/
def showApartUptoCard : Claim7 := { stood := { row := showApartUptoRow, standIns := [], harness := (true, "808feeafd208d5aef2924b84a804f85fcb4d15ebd56394c36c2ce1c1bca905c6"), looks := false }, kinds := [], alts := [], laidByText := true, laidKinds := [.data, .data, .data, .data, .pinned], laidTests := true, laidLooks := .later }
def ShowApartUptoCardSaid : Prop := Claim7.holds Tryz.pinned (.plain (OpenSpec.upto showApartSpec)) showApartUptoCard
end Rows
end Go.Proofs.YtcehpobjnbgpdaaGreatDoor
