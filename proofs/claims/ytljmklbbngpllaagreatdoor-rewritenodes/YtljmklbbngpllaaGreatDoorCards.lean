/-
  DERIVED. GIVEN WITH THE SEED: THE CARDS: each row of YtljmklbbngpllaaGreatDoorRows.lean that lists a variable, with what it lists TIED to the program's text (the seventh form; the later family's looks); each row that meets fmt, with fmt's text TOLD by the authors' own Lean function (tested against real Go, not proved from fmt's source: count such statements apart). THE CARD IS WHAT COUNTS. Prove the row's statement (the work); the ties are given (YtljmklbbngpllaaGreatDoorTie.lean); close each card by the builder's one call (the guide's Derived/Test/ToyasCard.lean, 'card_holds'). Laid BY PROGRAM, IN A SANDBOX (cutbox-door.mjs). By AI agents, Wed Nov 11 2026. No macro, syntax, notation, axiom, sorry.
-/
import Derived.Test.YtljmklbbngpllaaGreatDoorRows
import GoSem.ClaimSeven
namespace Go.Proofs.YtljmklbbngpllaaGreatDoor
namespace Rows

/-- THE TIED CARD OF 'octavolaw14.RewriteNodes'. -/
def rewriteNodesCard : Claim7 := { stood := { row := rewriteNodesRow, standIns := [], harness := (true, "3b15c2668d09104fa02bb746cef2e0d1690f318a010841a1cf54d90a670fd535"), looks := true }, kinds := [], alts := [], laidByText := true, laidKinds := [.data, .data, .data, .data, .sentinel, .sentinel, .data, .data, .pinned], laidTests := true, laidLooks := .later }
def RewriteNodesCardSaid : Prop := Claim7.holds Tryz.pinned (.plain (OpenSpec.ofChange rewriteNodesSpec)) rewriteNodesCard

/-- THE TIED CARD OF 'octavolaw14.RewriteTexts'. -/
def rewriteTextsCard : Claim7 := { stood := { row := rewriteTextsRow, standIns := [], harness := (true, "3b15c2668d09104fa02bb746cef2e0d1690f318a010841a1cf54d90a670fd535"), looks := true }, kinds := [], alts := [], laidByText := true, laidKinds := [.data, .data, .data, .data, .sentinel, .sentinel, .data, .data, .pinned], laidTests := true, laidLooks := .later }
def RewriteTextsCardSaid : Prop := Claim7.holds Tryz.pinned (.plain (OpenSpec.ofChange rewriteTextsSpec)) rewriteTextsCard

/-- THE TIED CARD OF 'octavolaw14.RewriteOthers'. -/
def rewriteOthersCard : Claim7 := { stood := { row := rewriteOthersRow, standIns := [], harness := (true, "3b15c2668d09104fa02bb746cef2e0d1690f318a010841a1cf54d90a670fd535"), looks := true }, kinds := [], alts := [], laidByText := true, laidKinds := [.data, .data, .data, .data, .sentinel, .sentinel, .data, .data, .pinned], laidTests := true, laidLooks := .later }
def RewriteOthersCardSaid : Prop := Claim7.holds Tryz.pinned (.plain (OpenSpec.ofChange rewriteOthersSpec)) rewriteOthersCard

/-- THE TIED CARD OF 'octavolaw14.RewriteBack'. -/
def rewriteBackCard : Claim7 := { stood := { row := rewriteBackRow, standIns := [], harness := (true, "3b15c2668d09104fa02bb746cef2e0d1690f318a010841a1cf54d90a670fd535"), looks := true }, kinds := [], alts := [], laidByText := true, laidKinds := [.data, .data, .data, .data, .sentinel, .sentinel, .data, .data, .pinned], laidTests := true, laidLooks := .later }
def RewriteBackCardSaid : Prop := Claim7.holds Tryz.pinned (.plain (OpenSpec.ofChange rewriteBackSpec)) rewriteBackCard

/-- THE TIED CARD OF 'octavolaw14.RewritePlaces'. -/
def rewritePlacesCard : Claim7 := { stood := { row := rewritePlacesRow, standIns := [], harness := (true, "3b15c2668d09104fa02bb746cef2e0d1690f318a010841a1cf54d90a670fd535"), looks := true }, kinds := [], alts := [], laidByText := true, laidKinds := [.data, .data, .data, .data, .sentinel, .sentinel, .data, .data, .pinned], laidTests := true, laidLooks := .later }
def RewritePlacesCardSaid : Prop := Claim7.holds Tryz.pinned (.plain (OpenSpec.ofChange rewritePlacesSpec)) rewritePlacesCard

/-- THE SECOND FORM's CARD OF 'octavolaw14.RewriteNodes'. -/
def rewriteNodesUptoCard : Claim7 := { stood := { row := rewriteNodesUptoRow, standIns := [], harness := (true, "3b15c2668d09104fa02bb746cef2e0d1690f318a010841a1cf54d90a670fd535"), looks := true }, kinds := [], alts := [], laidByText := true, laidKinds := [.data, .data, .data, .data, .sentinel, .sentinel, .data, .data, .pinned], laidTests := true, laidLooks := .later }
def RewriteNodesUptoCardSaid : Prop := Claim7.holds Tryz.pinned (.plain (OpenSpec.upto rewriteNodesSpec)) rewriteNodesUptoCard

/-- THE SECOND FORM's CARD OF 'octavolaw14.RewriteTexts'. -/
def rewriteTextsUptoCard : Claim7 := { stood := { row := rewriteTextsUptoRow, standIns := [], harness := (true, "3b15c2668d09104fa02bb746cef2e0d1690f318a010841a1cf54d90a670fd535"), looks := true }, kinds := [], alts := [], laidByText := true, laidKinds := [.data, .data, .data, .data, .sentinel, .sentinel, .data, .data, .pinned], laidTests := true, laidLooks := .later }
def RewriteTextsUptoCardSaid : Prop := Claim7.holds Tryz.pinned (.plain (OpenSpec.upto rewriteTextsSpec)) rewriteTextsUptoCard

/-- THE SECOND FORM's CARD OF 'octavolaw14.RewriteOthers'. -/
def rewriteOthersUptoCard : Claim7 := { stood := { row := rewriteOthersUptoRow, standIns := [], harness := (true, "3b15c2668d09104fa02bb746cef2e0d1690f318a010841a1cf54d90a670fd535"), looks := true }, kinds := [], alts := [], laidByText := true, laidKinds := [.data, .data, .data, .data, .sentinel, .sentinel, .data, .data, .pinned], laidTests := true, laidLooks := .later }
def RewriteOthersUptoCardSaid : Prop := Claim7.holds Tryz.pinned (.plain (OpenSpec.upto rewriteOthersSpec)) rewriteOthersUptoCard

/-- THE SECOND FORM's CARD OF 'octavolaw14.RewriteBack'. -/
def rewriteBackUptoCard : Claim7 := { stood := { row := rewriteBackUptoRow, standIns := [], harness := (true, "3b15c2668d09104fa02bb746cef2e0d1690f318a010841a1cf54d90a670fd535"), looks := true }, kinds := [], alts := [], laidByText := true, laidKinds := [.data, .data, .data, .data, .sentinel, .sentinel, .data, .data, .pinned], laidTests := true, laidLooks := .later }
def RewriteBackUptoCardSaid : Prop := Claim7.holds Tryz.pinned (.plain (OpenSpec.upto rewriteBackSpec)) rewriteBackUptoCard

/-- THE SECOND FORM's CARD OF 'octavolaw14.RewritePlaces'. -/
def rewritePlacesUptoCard : Claim7 := { stood := { row := rewritePlacesUptoRow, standIns := [], harness := (true, "3b15c2668d09104fa02bb746cef2e0d1690f318a010841a1cf54d90a670fd535"), looks := true }, kinds := [], alts := [], laidByText := true, laidKinds := [.data, .data, .data, .data, .sentinel, .sentinel, .data, .data, .pinned], laidTests := true, laidLooks := .later }
def RewritePlacesUptoCardSaid : Prop := Claim7.holds Tryz.pinned (.plain (OpenSpec.upto rewritePlacesSpec)) rewritePlacesUptoCard
end Rows
end Go.Proofs.YtljmklbbngpllaaGreatDoor
