/-
  DERIVED. GIVEN WITH THE SEED: THE CARDS: each row of YtkejnmallhoajaaDoorRows.lean that lists a variable, with what it lists TIED to the program's text (the seventh form; the later family's looks); each row that meets fmt, with fmt's text TOLD by the authors' own Lean function (tested against real Go, not proved from fmt's source: count such statements apart). THE CARD IS WHAT COUNTS. Prove the row's statement (the work); the ties are given (YtkejnmallhoajaaDoorTie.lean); close each card by the builder's one call (the guide's Derived/Test/ToyasCard.lean, 'card_holds'). Laid BY PROGRAM, IN A SANDBOX (cutbox-door.mjs). By AI agents, Wed Nov 11 2026. No macro, syntax, notation, axiom, sorry.
-/
import Derived.Test.YtkejnmallhoajaaDoorRows
import GoSem.ClaimSeven
namespace Go.Proofs.YtkejnmallhoajaaDoor
namespace Rows

/-- THE TIED CARD OF 'octavolaw02.BytesSums'. -/
def bytesSumsCard : Claim7 := { stood := { row := bytesSumsRow, standIns := [], harness := (true, "5d8f88a593fc9d97d7ee4966e5a029006633a00d2746f972fd65d038695023eb"), looks := true }, kinds := [], alts := [], laidByText := true, laidKinds := [.data], laidTests := true, laidLooks := .later }
def BytesSumsCardSaid : Prop := Claim7.holds Tryd.pinned (.plain (OpenSpec.ofChange bytesSumsSpec)) bytesSumsCard

/-- THE TIED CARD OF 'octavolaw02.BytesUnframes'. -/
def bytesUnframesCard : Claim7 := { stood := { row := bytesUnframesRow, standIns := [], harness := (true, "5d8f88a593fc9d97d7ee4966e5a029006633a00d2746f972fd65d038695023eb"), looks := true }, kinds := [], alts := [], laidByText := true, laidKinds := [.data], laidTests := true, laidLooks := .later }
def BytesUnframesCardSaid : Prop := Claim7.holds Tryd.pinned (.plain (OpenSpec.ofChange bytesUnframesSpec)) bytesUnframesCard

/-- THE TIED CARD OF 'octavolaw02.BytesInts'. -/
def bytesIntsCard : Claim7 := { stood := { row := bytesIntsRow, standIns := [], harness := (true, "5d8f88a593fc9d97d7ee4966e5a029006633a00d2746f972fd65d038695023eb"), looks := true }, kinds := [], alts := [], laidByText := true, laidKinds := [.data], laidTests := true, laidLooks := .later }
def BytesIntsCardSaid : Prop := Claim7.holds Tryd.pinned (.plain (OpenSpec.ofChange bytesIntsSpec)) bytesIntsCard

/-- THE TIED CARD OF 'octavolaw02.BytesTells'. -/
def bytesTellsCard : Claim7 := { stood := { row := bytesTellsRow, standIns := [], harness := (true, "5d8f88a593fc9d97d7ee4966e5a029006633a00d2746f972fd65d038695023eb"), looks := true }, kinds := [], alts := [], laidByText := true, laidKinds := [.data], laidTests := true, laidLooks := .later }
def BytesTellsCardSaid : Prop := Claim7.holds Tryd.pinned (.plain (OpenSpec.ofChange bytesTellsSpec)) bytesTellsCard

/-- THE SECOND FORM's CARD OF 'octavolaw02.BytesSums'. -/
def bytesSumsUptoCard : Claim7 := { stood := { row := bytesSumsUptoRow, standIns := [], harness := (true, "5d8f88a593fc9d97d7ee4966e5a029006633a00d2746f972fd65d038695023eb"), looks := true }, kinds := [], alts := [], laidByText := true, laidKinds := [.data], laidTests := true, laidLooks := .later }
def BytesSumsUptoCardSaid : Prop := Claim7.holds Tryd.pinned (.plain (OpenSpec.upto bytesSumsSpec)) bytesSumsUptoCard

/-- THE SECOND FORM's CARD OF 'octavolaw02.BytesUnframes'. -/
def bytesUnframesUptoCard : Claim7 := { stood := { row := bytesUnframesUptoRow, standIns := [], harness := (true, "5d8f88a593fc9d97d7ee4966e5a029006633a00d2746f972fd65d038695023eb"), looks := true }, kinds := [], alts := [], laidByText := true, laidKinds := [.data], laidTests := true, laidLooks := .later }
def BytesUnframesUptoCardSaid : Prop := Claim7.holds Tryd.pinned (.plain (OpenSpec.upto bytesUnframesSpec)) bytesUnframesUptoCard

/-- THE SECOND FORM's CARD OF 'octavolaw02.BytesInts'. -/
def bytesIntsUptoCard : Claim7 := { stood := { row := bytesIntsUptoRow, standIns := [], harness := (true, "5d8f88a593fc9d97d7ee4966e5a029006633a00d2746f972fd65d038695023eb"), looks := true }, kinds := [], alts := [], laidByText := true, laidKinds := [.data], laidTests := true, laidLooks := .later }
def BytesIntsUptoCardSaid : Prop := Claim7.holds Tryd.pinned (.plain (OpenSpec.upto bytesIntsSpec)) bytesIntsUptoCard

/-- THE SECOND FORM's CARD OF 'octavolaw02.BytesTells'. -/
def bytesTellsUptoCard : Claim7 := { stood := { row := bytesTellsUptoRow, standIns := [], harness := (true, "5d8f88a593fc9d97d7ee4966e5a029006633a00d2746f972fd65d038695023eb"), looks := true }, kinds := [], alts := [], laidByText := true, laidKinds := [.data], laidTests := true, laidLooks := .later }
def BytesTellsUptoCardSaid : Prop := Claim7.holds Tryd.pinned (.plain (OpenSpec.upto bytesTellsSpec)) bytesTellsUptoCard
end Rows
end Go.Proofs.YtkejnmallhoajaaDoor
