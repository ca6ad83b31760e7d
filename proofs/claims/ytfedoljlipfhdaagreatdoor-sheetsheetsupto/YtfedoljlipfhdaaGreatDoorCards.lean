/-
  DERIVED. GIVEN WITH THE SEED: THE CARDS: each row of YtfedoljlipfhdaaGreatDoorRows.lean that lists a variable, with what it lists TIED to the program's text (the seventh form; the later family's looks); each row that meets fmt, with fmt's text TOLD by the authors' own Lean function (tested against real Go, not proved from fmt's source: count such statements apart). THE CARD IS WHAT COUNTS. Prove the row's statement (the work); the ties are given (YtfedoljlipfhdaaGreatDoorTie.lean); close each card by the builder's one call (the guide's Derived/Test/ToyasCard.lean, 'card_holds'). Laid BY PROGRAM, IN A SANDBOX (cutbox-door.mjs). By AI agents, Wed Nov 11 2026. No macro, syntax, notation, axiom, sorry.
-/
import Derived.Test.YtfedoljlipfhdaaGreatDoorRows
import GoSem.ClaimSeven
namespace Go.Proofs.YtfedoljlipfhdaaGreatDoor
namespace Rows

/-- THE TIED CARD OF 'octavolaw12.SheetPuts'. -/
def sheetPutsCard : Claim7 := { stood := { row := sheetPutsRow, standIns := [], harness := (true, "960e02721bececa3506c61c62e40c721bee3846305f73375786a16e15959d057"), looks := true }, kinds := [], alts := [], laidByText := true, laidKinds := [.data, .data, .data, .data, .sentinel, .sentinel, .data, .data, .pinned], laidTests := true, laidLooks := .later }
def SheetPutsCardSaid : Prop := Claim7.holds Tryz.pinned (.plain (OpenSpec.ofChange sheetPutsSpec)) sheetPutsCard

/-- THE TIED CARD OF 'octavolaw12.SheetSheets'. -/
def sheetSheetsCard : Claim7 := { stood := { row := sheetSheetsRow, standIns := [], harness := (true, "960e02721bececa3506c61c62e40c721bee3846305f73375786a16e15959d057"), looks := true }, kinds := [], alts := [], laidByText := true, laidKinds := [.data, .data, .data, .data, .sentinel, .sentinel, .data, .data, .pinned], laidTests := true, laidLooks := .later }
def SheetSheetsCardSaid : Prop := Claim7.holds Tryz.pinned (.plain (OpenSpec.ofChange sheetSheetsSpec)) sheetSheetsCard

/-- THE TIED CARD OF 'octavolaw12.SheetBoxes'. -/
def sheetBoxesCard : Claim7 := { stood := { row := sheetBoxesRow, standIns := [], harness := (true, "960e02721bececa3506c61c62e40c721bee3846305f73375786a16e15959d057"), looks := true }, kinds := [], alts := [], laidByText := true, laidKinds := [.data, .data, .data, .data, .sentinel, .sentinel, .data, .data, .pinned], laidTests := true, laidLooks := .later }
def SheetBoxesCardSaid : Prop := Claim7.holds Tryz.pinned (.plain (OpenSpec.ofChange sheetBoxesSpec)) sheetBoxesCard

/-- THE TIED CARD OF 'octavolaw12.SheetRight'. -/
def sheetRightCard : Claim7 := { stood := { row := sheetRightRow, standIns := [], harness := (true, "960e02721bececa3506c61c62e40c721bee3846305f73375786a16e15959d057"), looks := true }, kinds := [], alts := [], laidByText := true, laidKinds := [.data, .data, .data, .data, .sentinel, .sentinel, .data, .data, .pinned], laidTests := true, laidLooks := .later }
def SheetRightCardSaid : Prop := Claim7.holds Tryz.pinned (.plain (OpenSpec.ofChange sheetRightSpec)) sheetRightCard

/-- THE TIED CARD OF 'octavolaw10.FormulaPrints'. -/
def formulaPrintsCard : Claim7 := { stood := { row := formulaPrintsRow, standIns := [], harness := (true, "960e02721bececa3506c61c62e40c721bee3846305f73375786a16e15959d057"), looks := true }, kinds := [], alts := [], laidByText := true, laidKinds := [.data, .data, .data, .data, .sentinel, .sentinel, .data, .data, .pinned], laidTests := true, laidLooks := .later }
def FormulaPrintsCardSaid : Prop := Claim7.holds Tryz.pinned (.plain (OpenSpec.ofChange formulaPrintsSpec)) formulaPrintsCard

/-- THE SECOND FORM's CARD OF 'octavolaw12.SheetPuts'. -/
def sheetPutsUptoCard : Claim7 := { stood := { row := sheetPutsUptoRow, standIns := [], harness := (true, "960e02721bececa3506c61c62e40c721bee3846305f73375786a16e15959d057"), looks := true }, kinds := [], alts := [], laidByText := true, laidKinds := [.data, .data, .data, .data, .sentinel, .sentinel, .data, .data, .pinned], laidTests := true, laidLooks := .later }
def SheetPutsUptoCardSaid : Prop := Claim7.holds Tryz.pinned (.plain (OpenSpec.upto sheetPutsSpec)) sheetPutsUptoCard

/-- THE SECOND FORM's CARD OF 'octavolaw12.SheetSheets'. -/
def sheetSheetsUptoCard : Claim7 := { stood := { row := sheetSheetsUptoRow, standIns := [], harness := (true, "960e02721bececa3506c61c62e40c721bee3846305f73375786a16e15959d057"), looks := true }, kinds := [], alts := [], laidByText := true, laidKinds := [.data, .data, .data, .data, .sentinel, .sentinel, .data, .data, .pinned], laidTests := true, laidLooks := .later }
def SheetSheetsUptoCardSaid : Prop := Claim7.holds Tryz.pinned (.plain (OpenSpec.upto sheetSheetsSpec)) sheetSheetsUptoCard

/-- THE SECOND FORM's CARD OF 'octavolaw12.SheetBoxes'. -/
def sheetBoxesUptoCard : Claim7 := { stood := { row := sheetBoxesUptoRow, standIns := [], harness := (true, "960e02721bececa3506c61c62e40c721bee3846305f73375786a16e15959d057"), looks := true }, kinds := [], alts := [], laidByText := true, laidKinds := [.data, .data, .data, .data, .sentinel, .sentinel, .data, .data, .pinned], laidTests := true, laidLooks := .later }
def SheetBoxesUptoCardSaid : Prop := Claim7.holds Tryz.pinned (.plain (OpenSpec.upto sheetBoxesSpec)) sheetBoxesUptoCard

/-- THE SECOND FORM's CARD OF 'octavolaw12.SheetRight'. -/
def sheetRightUptoCard : Claim7 := { stood := { row := sheetRightUptoRow, standIns := [], harness := (true, "960e02721bececa3506c61c62e40c721bee3846305f73375786a16e15959d057"), looks := true }, kinds := [], alts := [], laidByText := true, laidKinds := [.data, .data, .data, .data, .sentinel, .sentinel, .data, .data, .pinned], laidTests := true, laidLooks := .later }
def SheetRightUptoCardSaid : Prop := Claim7.holds Tryz.pinned (.plain (OpenSpec.upto sheetRightSpec)) sheetRightUptoCard

/-- THE SECOND FORM's CARD OF 'octavolaw10.FormulaPrints'. -/
def formulaPrintsUptoCard : Claim7 := { stood := { row := formulaPrintsUptoRow, standIns := [], harness := (true, "960e02721bececa3506c61c62e40c721bee3846305f73375786a16e15959d057"), looks := true }, kinds := [], alts := [], laidByText := true, laidKinds := [.data, .data, .data, .data, .sentinel, .sentinel, .data, .data, .pinned], laidTests := true, laidLooks := .later }
def FormulaPrintsUptoCardSaid : Prop := Claim7.holds Tryz.pinned (.plain (OpenSpec.upto formulaPrintsSpec)) formulaPrintsUptoCard
end Rows
end Go.Proofs.YtfedoljlipfhdaaGreatDoor
