/-
  DERIVED. GIVEN WITH THE SEED: THE CARDS: each row of YtdkoobpapdahaabDoorRows.lean that lists a variable, with what it lists TIED to the program's text (the seventh form; the later family's looks); each row that meets fmt, with fmt's text TOLD by the authors' own Lean function (tested against real Go, not proved from fmt's source: count such statements apart). THE CARD IS WHAT COUNTS. Prove the row's statement (the work); the ties are given (YtdkoobpapdahaabDoorTie.lean); close each card by the builder's one call (the guide's Derived/Test/ToyasCard.lean, 'card_holds'). Laid BY PROGRAM, IN A SANDBOX (cutbox-door.mjs). By AI agents, Wed Nov 11 2026. No macro, syntax, notation, axiom, sorry.
-/
import Derived.Test.YtdkoobpapdahaabDoorRows
import GoSem.ClaimSeven
namespace Go.Proofs.YtdkoobpapdahaabDoor
namespace Rows

/-- THE TIED CARD OF 'octavolaw05.NumRounded'. -/
def numRoundedCard : Claim7 := { stood := { row := numRoundedRow, standIns := [], harness := (true, "6b4ef1dc2c09e86796978636b73cfd34c30b68d783d6330d2833d2b99c88950d"), looks := false }, kinds := [], alts := [], laidByText := true, laidKinds := [.data, .data, .data, .data, .pinned], laidTests := true, laidLooks := .later }
def NumRoundedCardSaid : Prop := Claim7.holds Tryd.pinned (.plain (OpenSpec.ofChange numRoundedSpec)) numRoundedCard

/-- THE SECOND FORM's CARD OF 'octavolaw05.NumRounded'. -/
def numRoundedUptoCard : Claim7 := { stood := { row := numRoundedUptoRow, standIns := [], harness := (true, "6b4ef1dc2c09e86796978636b73cfd34c30b68d783d6330d2833d2b99c88950d"), looks := false }, kinds := [], alts := [], laidByText := true, laidKinds := [.data, .data, .data, .data, .pinned], laidTests := true, laidLooks := .later }
def NumRoundedUptoCardSaid : Prop := Claim7.holds Tryd.pinned (.plain (OpenSpec.upto numRoundedSpec)) numRoundedUptoCard
end Rows
end Go.Proofs.YtdkoobpapdahaabDoor
