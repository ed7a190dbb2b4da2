/-
  DERIVED. GIVEN WITH THE SEED: THE CARDS: each row of YtnhlalkeaaiefaaGreatDoorRows.lean that lists a variable, with what it lists TIED to the program's text (the seventh form; the later family's looks); each row that meets fmt, with fmt's text TOLD by the authors' own Lean function (tested against real Go, not proved from fmt's source: count such statements apart). THE CARD IS WHAT COUNTS. Prove the row's statement (the work); the ties are given (YtnhlalkeaaiefaaGreatDoorTie.lean); close each card by the builder's one call (the guide's Derived/Test/ToyasCard.lean, 'card_holds'). Laid BY PROGRAM, IN A SANDBOX (cutbox-door.mjs). By AI agents, Wed Nov 11 2026. No macro, syntax, notation, axiom, sorry.
-/
import Derived.Test.YtnhlalkeaaiefaaGreatDoorRows
import GoSem.ClaimSeven
namespace Go.Proofs.YtnhlalkeaaiefaaGreatDoor
namespace Rows

/-- THE TIED CARD OF 'catchwordlaw15.XrefPrints'. -/
def xrefPrintsCard : Claim7 := { stood := { row := xrefPrintsRow, standIns := [], harness := (true, "594ce6813c122f2566589b628d9d5eaa5e4a5e2f1b0d201d02c2fdfc52591bea"), looks := false }, kinds := [], alts := [], laidByText := true, laidKinds := [.data, .data, .data, .data, .sentinel, .pinned], laidTests := true, laidLooks := .later }
def XrefPrintsCardSaid : Prop := Claim7.holds Tryz.pinned (.plain (OpenSpec.ofChange xrefPrintsSpec)) xrefPrintsCard

/-- THE TIED CARD OF 'catchwordlaw15.XrefBack'. -/
def xrefBackCard : Claim7 := { stood := { row := xrefBackRow, standIns := [], harness := (true, "594ce6813c122f2566589b628d9d5eaa5e4a5e2f1b0d201d02c2fdfc52591bea"), looks := false }, kinds := [], alts := [], laidByText := true, laidKinds := [.data, .data, .data, .data, .sentinel, .pinned], laidTests := true, laidLooks := .later }
def XrefBackCardSaid : Prop := Claim7.holds Tryz.pinned (.plain (OpenSpec.ofChange xrefBackSpec)) xrefBackCard

/-- THE TIED CARD OF 'catchwordlaw15.XrefFinds'. -/
def xrefFindsCard : Claim7 := { stood := { row := xrefFindsRow, standIns := [], harness := (true, "594ce6813c122f2566589b628d9d5eaa5e4a5e2f1b0d201d02c2fdfc52591bea"), looks := false }, kinds := [], alts := [], laidByText := true, laidKinds := [.data, .data, .data], laidTests := true, laidLooks := .later }
def XrefFindsCardSaid : Prop := Claim7.holds Tryz.pinned (.plain (OpenSpec.ofChange xrefFindsSpec)) xrefFindsCard

/-- THE TIED CARD OF 'catchwordlaw15.XrefStays'. -/
def xrefStaysCard : Claim7 := { stood := { row := xrefStaysRow, standIns := [], harness := (true, "594ce6813c122f2566589b628d9d5eaa5e4a5e2f1b0d201d02c2fdfc52591bea"), looks := false }, kinds := [], alts := [], laidByText := true, laidKinds := [.data, .data, .data], laidTests := true, laidLooks := .later }
def XrefStaysCardSaid : Prop := Claim7.holds Tryz.pinned (.plain (OpenSpec.ofChange xrefStaysSpec)) xrefStaysCard

/-- THE SECOND FORM's CARD OF 'catchwordlaw15.XrefPrints'. -/
def xrefPrintsUptoCard : Claim7 := { stood := { row := xrefPrintsUptoRow, standIns := [], harness := (true, "594ce6813c122f2566589b628d9d5eaa5e4a5e2f1b0d201d02c2fdfc52591bea"), looks := false }, kinds := [], alts := [], laidByText := true, laidKinds := [.data, .data, .data, .data, .sentinel, .pinned], laidTests := true, laidLooks := .later }
def XrefPrintsUptoCardSaid : Prop := Claim7.holds Tryz.pinned (.plain (OpenSpec.upto xrefPrintsSpec)) xrefPrintsUptoCard

/-- THE SECOND FORM's CARD OF 'catchwordlaw15.XrefBack'. -/
def xrefBackUptoCard : Claim7 := { stood := { row := xrefBackUptoRow, standIns := [], harness := (true, "594ce6813c122f2566589b628d9d5eaa5e4a5e2f1b0d201d02c2fdfc52591bea"), looks := false }, kinds := [], alts := [], laidByText := true, laidKinds := [.data, .data, .data, .data, .sentinel, .pinned], laidTests := true, laidLooks := .later }
def XrefBackUptoCardSaid : Prop := Claim7.holds Tryz.pinned (.plain (OpenSpec.upto xrefBackSpec)) xrefBackUptoCard

/-- THE SECOND FORM's CARD OF 'catchwordlaw15.XrefFinds'. -/
def xrefFindsUptoCard : Claim7 := { stood := { row := xrefFindsUptoRow, standIns := [], harness := (true, "594ce6813c122f2566589b628d9d5eaa5e4a5e2f1b0d201d02c2fdfc52591bea"), looks := false }, kinds := [], alts := [], laidByText := true, laidKinds := [.data, .data, .data], laidTests := true, laidLooks := .later }
def XrefFindsUptoCardSaid : Prop := Claim7.holds Tryz.pinned (.plain (OpenSpec.upto xrefFindsSpec)) xrefFindsUptoCard

/-- THE SECOND FORM's CARD OF 'catchwordlaw15.XrefStays'. -/
def xrefStaysUptoCard : Claim7 := { stood := { row := xrefStaysUptoRow, standIns := [], harness := (true, "594ce6813c122f2566589b628d9d5eaa5e4a5e2f1b0d201d02c2fdfc52591bea"), looks := false }, kinds := [], alts := [], laidByText := true, laidKinds := [.data, .data, .data], laidTests := true, laidLooks := .later }
def XrefStaysUptoCardSaid : Prop := Claim7.holds Tryz.pinned (.plain (OpenSpec.upto xrefStaysSpec)) xrefStaysUptoCard
end Rows
end Go.Proofs.YtnhlalkeaaiefaaGreatDoor
