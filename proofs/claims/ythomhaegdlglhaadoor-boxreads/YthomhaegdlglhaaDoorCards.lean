/-
  DERIVED. GIVEN WITH THE SEED: THE CARDS: each row of YthomhaegdlglhaaDoorRows.lean that lists a variable, with what it lists TIED to the program's text (the seventh form; the later family's looks); each row that meets fmt, with fmt's text TOLD by the authors' own Lean function (tested against real Go, not proved from fmt's source: count such statements apart). THE CARD IS WHAT COUNTS. Prove the row's statement (the work); the ties are given (YthomhaegdlglhaaDoorTie.lean); close each card by the builder's one call (the guide's Derived/Test/ToyasCard.lean, 'card_holds'). Laid BY PROGRAM, IN A SANDBOX (cutbox-door.mjs). By AI agents, Wed Nov 11 2026. No macro, syntax, notation, axiom, sorry.
-/
import Derived.Test.YthomhaegdlglhaaDoorRows
import GoSem.ClaimSeven
namespace Go.Proofs.YthomhaegdlglhaaDoor
namespace Rows

/-- THE TIED CARD OF 'octavolaw03.BoxWrites'. -/
def boxWritesCard : Claim7 := { stood := { row := boxWritesRow, standIns := [], harness := (true, "e0e08535412efee49665b18655ebe655841d5e1544ea169d78d216c2dbb56a04"), looks := false }, kinds := [], alts := [], laidByText := true, laidKinds := [.data], laidTests := true, laidLooks := .later }
def BoxWritesCardSaid : Prop := Claim7.holds Tryd.pinned (.plain (OpenSpec.ofChange boxWritesSpec)) boxWritesCard

/-- THE TIED CARD OF 'octavolaw03.BoxReads'. -/
def boxReadsCard : Claim7 := { stood := { row := boxReadsRow, standIns := [], harness := (true, "e0e08535412efee49665b18655ebe655841d5e1544ea169d78d216c2dbb56a04"), looks := false }, kinds := [], alts := [], laidByText := true, laidKinds := [.data], laidTests := true, laidLooks := .later }
def BoxReadsCardSaid : Prop := Claim7.holds Tryd.pinned (.plain (OpenSpec.ofChange boxReadsSpec)) boxReadsCard

/-- THE TIED CARD OF 'octavolaw03.BoxBack'. -/
def boxBackCard : Claim7 := { stood := { row := boxBackRow, standIns := [], harness := (true, "e0e08535412efee49665b18655ebe655841d5e1544ea169d78d216c2dbb56a04"), looks := false }, kinds := [], alts := [], laidByText := true, laidKinds := [.data], laidTests := true, laidLooks := .later }
def BoxBackCardSaid : Prop := Claim7.holds Tryd.pinned (.plain (OpenSpec.ofChange boxBackSpec)) boxBackCard

/-- THE SECOND FORM's CARD OF 'octavolaw03.BoxWrites'. -/
def boxWritesUptoCard : Claim7 := { stood := { row := boxWritesUptoRow, standIns := [], harness := (true, "e0e08535412efee49665b18655ebe655841d5e1544ea169d78d216c2dbb56a04"), looks := false }, kinds := [], alts := [], laidByText := true, laidKinds := [.data], laidTests := true, laidLooks := .later }
def BoxWritesUptoCardSaid : Prop := Claim7.holds Tryd.pinned (.plain (OpenSpec.upto boxWritesSpec)) boxWritesUptoCard

/-- THE SECOND FORM's CARD OF 'octavolaw03.BoxReads'. -/
def boxReadsUptoCard : Claim7 := { stood := { row := boxReadsUptoRow, standIns := [], harness := (true, "e0e08535412efee49665b18655ebe655841d5e1544ea169d78d216c2dbb56a04"), looks := false }, kinds := [], alts := [], laidByText := true, laidKinds := [.data], laidTests := true, laidLooks := .later }
def BoxReadsUptoCardSaid : Prop := Claim7.holds Tryd.pinned (.plain (OpenSpec.upto boxReadsSpec)) boxReadsUptoCard

/-- THE SECOND FORM's CARD OF 'octavolaw03.BoxBack'. -/
def boxBackUptoCard : Claim7 := { stood := { row := boxBackUptoRow, standIns := [], harness := (true, "e0e08535412efee49665b18655ebe655841d5e1544ea169d78d216c2dbb56a04"), looks := false }, kinds := [], alts := [], laidByText := true, laidKinds := [.data], laidTests := true, laidLooks := .later }
def BoxBackUptoCardSaid : Prop := Claim7.holds Tryd.pinned (.plain (OpenSpec.upto boxBackSpec)) boxBackUptoCard
end Rows
end Go.Proofs.YthomhaegdlglhaaDoor
