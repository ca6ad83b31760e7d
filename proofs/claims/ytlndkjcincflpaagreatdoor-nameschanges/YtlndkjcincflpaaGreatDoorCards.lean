/-
  DERIVED. GIVEN WITH THE SEED: THE CARDS: each row of YtlndkjcincflpaaGreatDoorRows.lean that lists a variable, with what it lists TIED to the program's text (the seventh form; the later family's looks); each row that meets fmt, with fmt's text TOLD by the authors' own Lean function (tested against real Go, not proved from fmt's source: count such statements apart). THE CARD IS WHAT COUNTS. Prove the row's statement (the work); the ties are given (YtlndkjcincflpaaGreatDoorTie.lean); close each card by the builder's one call (the guide's Derived/Test/ToyasCard.lean, 'card_holds'). Laid BY PROGRAM, IN A SANDBOX (cutbox-door.mjs). By AI agents, Wed Nov 11 2026. No macro, syntax, notation, axiom, sorry.
-/
import Derived.Test.YtlndkjcincflpaaGreatDoorRows
import GoSem.ClaimSeven
namespace Go.Proofs.YtlndkjcincflpaaGreatDoor
namespace Rows

/-- THE TIED CARD OF 'octavolaw11.NamesChanges'. -/
def namesChangesCard : Claim7 := { stood := { row := namesChangesRow, standIns := [], harness := (true, "723f2a434aca0e8fa62624bac4760412e7ae8859a264db9bf5b8a2b05643a1ec"), looks := true }, kinds := [], alts := [], laidByText := true, laidKinds := [.data, .data, .data, .data, .sentinel, .sentinel, .data, .data, .pinned], laidTests := true, laidLooks := .later }
def NamesChangesCardSaid : Prop := Claim7.holds Tryz.pinned (.plain (OpenSpec.ofChange namesChangesSpec)) namesChangesCard

/-- THE TIED CARD OF 'octavolaw11.NamesCmps'. -/
def namesCmpsCard : Claim7 := { stood := { row := namesCmpsRow, standIns := [], harness := (true, "723f2a434aca0e8fa62624bac4760412e7ae8859a264db9bf5b8a2b05643a1ec"), looks := true }, kinds := [], alts := [], laidByText := true, laidKinds := [.data, .data, .data, .data, .sentinel, .sentinel, .data, .data, .pinned], laidTests := true, laidLooks := .later }
def NamesCmpsCardSaid : Prop := Claim7.holds Tryz.pinned (.plain (OpenSpec.ofChange namesCmpsSpec)) namesCmpsCard

/-- THE TIED CARD OF 'octavolaw11.NamesGrow'. -/
def namesGrowCard : Claim7 := { stood := { row := namesGrowRow, standIns := [], harness := (true, "723f2a434aca0e8fa62624bac4760412e7ae8859a264db9bf5b8a2b05643a1ec"), looks := true }, kinds := [], alts := [], laidByText := true, laidKinds := [.data, .data, .data, .data, .sentinel, .sentinel, .data, .data, .pinned], laidTests := true, laidLooks := .later }
def NamesGrowCardSaid : Prop := Claim7.holds Tryz.pinned (.plain (OpenSpec.ofChange namesGrowSpec)) namesGrowCard

/-- THE TIED CARD OF 'octavolaw11.NamesScopes'. -/
def namesScopesCard : Claim7 := { stood := { row := namesScopesRow, standIns := [], harness := (true, "723f2a434aca0e8fa62624bac4760412e7ae8859a264db9bf5b8a2b05643a1ec"), looks := true }, kinds := [], alts := [], laidByText := true, laidKinds := [.data, .data, .data, .data, .sentinel, .sentinel, .data, .data, .pinned], laidTests := true, laidLooks := .later }
def NamesScopesCardSaid : Prop := Claim7.holds Tryz.pinned (.plain (OpenSpec.ofChange namesScopesSpec)) namesScopesCard

/-- THE TIED CARD OF 'octavolaw10.FormulaPrints'. -/
def formulaPrintsCard : Claim7 := { stood := { row := formulaPrintsRow, standIns := [], harness := (true, "723f2a434aca0e8fa62624bac4760412e7ae8859a264db9bf5b8a2b05643a1ec"), looks := true }, kinds := [], alts := [], laidByText := true, laidKinds := [.data, .data, .data, .data, .sentinel, .sentinel, .data, .data, .pinned], laidTests := true, laidLooks := .later }
def FormulaPrintsCardSaid : Prop := Claim7.holds Tryz.pinned (.plain (OpenSpec.ofChange formulaPrintsSpec)) formulaPrintsCard

/-- THE SECOND FORM's CARD OF 'octavolaw11.NamesChanges'. -/
def namesChangesUptoCard : Claim7 := { stood := { row := namesChangesUptoRow, standIns := [], harness := (true, "723f2a434aca0e8fa62624bac4760412e7ae8859a264db9bf5b8a2b05643a1ec"), looks := true }, kinds := [], alts := [], laidByText := true, laidKinds := [.data, .data, .data, .data, .sentinel, .sentinel, .data, .data, .pinned], laidTests := true, laidLooks := .later }
def NamesChangesUptoCardSaid : Prop := Claim7.holds Tryz.pinned (.plain (OpenSpec.upto namesChangesSpec)) namesChangesUptoCard

/-- THE SECOND FORM's CARD OF 'octavolaw11.NamesCmps'. -/
def namesCmpsUptoCard : Claim7 := { stood := { row := namesCmpsUptoRow, standIns := [], harness := (true, "723f2a434aca0e8fa62624bac4760412e7ae8859a264db9bf5b8a2b05643a1ec"), looks := true }, kinds := [], alts := [], laidByText := true, laidKinds := [.data, .data, .data, .data, .sentinel, .sentinel, .data, .data, .pinned], laidTests := true, laidLooks := .later }
def NamesCmpsUptoCardSaid : Prop := Claim7.holds Tryz.pinned (.plain (OpenSpec.upto namesCmpsSpec)) namesCmpsUptoCard

/-- THE SECOND FORM's CARD OF 'octavolaw11.NamesGrow'. -/
def namesGrowUptoCard : Claim7 := { stood := { row := namesGrowUptoRow, standIns := [], harness := (true, "723f2a434aca0e8fa62624bac4760412e7ae8859a264db9bf5b8a2b05643a1ec"), looks := true }, kinds := [], alts := [], laidByText := true, laidKinds := [.data, .data, .data, .data, .sentinel, .sentinel, .data, .data, .pinned], laidTests := true, laidLooks := .later }
def NamesGrowUptoCardSaid : Prop := Claim7.holds Tryz.pinned (.plain (OpenSpec.upto namesGrowSpec)) namesGrowUptoCard

/-- THE SECOND FORM's CARD OF 'octavolaw11.NamesScopes'. -/
def namesScopesUptoCard : Claim7 := { stood := { row := namesScopesUptoRow, standIns := [], harness := (true, "723f2a434aca0e8fa62624bac4760412e7ae8859a264db9bf5b8a2b05643a1ec"), looks := true }, kinds := [], alts := [], laidByText := true, laidKinds := [.data, .data, .data, .data, .sentinel, .sentinel, .data, .data, .pinned], laidTests := true, laidLooks := .later }
def NamesScopesUptoCardSaid : Prop := Claim7.holds Tryz.pinned (.plain (OpenSpec.upto namesScopesSpec)) namesScopesUptoCard

/-- THE SECOND FORM's CARD OF 'octavolaw10.FormulaPrints'. -/
def formulaPrintsUptoCard : Claim7 := { stood := { row := formulaPrintsUptoRow, standIns := [], harness := (true, "723f2a434aca0e8fa62624bac4760412e7ae8859a264db9bf5b8a2b05643a1ec"), looks := true }, kinds := [], alts := [], laidByText := true, laidKinds := [.data, .data, .data, .data, .sentinel, .sentinel, .data, .data, .pinned], laidTests := true, laidLooks := .later }
def FormulaPrintsUptoCardSaid : Prop := Claim7.holds Tryz.pinned (.plain (OpenSpec.upto formulaPrintsSpec)) formulaPrintsUptoCard
end Rows
end Go.Proofs.YtlndkjcincflpaaGreatDoor
