/-
  DERIVED. GIVEN WITH THE SEED: THE CARDS: each row of YtohndhmhgdelmaaDoorRows.lean that lists a variable, with what it lists TIED to the program's text (the seventh form; the later family's looks); each row that meets fmt, with fmt's text TOLD by the authors' own Lean function (tested against real Go, not proved from fmt's source: count such statements apart). THE CARD IS WHAT COUNTS. Prove the row's statement (the work); the ties are given (YtohndhmhgdelmaaDoorTie.lean); close each card by the builder's one call (the guide's Derived/Test/ToyasCard.lean, 'card_holds'). Laid BY PROGRAM, IN A SANDBOX (cutbox-door.mjs). By AI agents, Wed Nov 11 2026. No macro, syntax, notation, axiom, sorry.
-/
import Derived.Test.YtohndhmhgdelmaaDoorRows
import GoSem.ClaimSeven
namespace Go.Proofs.YtohndhmhgdelmaaDoor
namespace Rows

/-- THE TIED CARD OF 'octavolaw02.BytesBooks'. -/
def bytesBooksCard : Claim7 := { stood := { row := bytesBooksRow, standIns := [], harness := (true, "a770591a68fd25ef1c78c602449fe9a07f7c3f18f1f7a1641d0ed7df49c09ce8"), looks := true }, kinds := [], alts := [], laidByText := true, laidKinds := [.data], laidTests := true, laidLooks := .later }
def BytesBooksCardSaid : Prop := Claim7.holds Tryd.pinned (.plain (OpenSpec.ofChange bytesBooksSpec)) bytesBooksCard

/-- THE TIED CARD OF 'octavolaw02.BytesReads'. -/
def bytesReadsCard : Claim7 := { stood := { row := bytesReadsRow, standIns := [], harness := (true, "a770591a68fd25ef1c78c602449fe9a07f7c3f18f1f7a1641d0ed7df49c09ce8"), looks := true }, kinds := [], alts := [], laidByText := true, laidKinds := [.data], laidTests := true, laidLooks := .later }
def BytesReadsCardSaid : Prop := Claim7.holds Tryd.pinned (.plain (OpenSpec.ofChange bytesReadsSpec)) bytesReadsCard

/-- THE SECOND FORM's CARD OF 'octavolaw02.BytesBooks'. -/
def bytesBooksUptoCard : Claim7 := { stood := { row := bytesBooksUptoRow, standIns := [], harness := (true, "a770591a68fd25ef1c78c602449fe9a07f7c3f18f1f7a1641d0ed7df49c09ce8"), looks := true }, kinds := [], alts := [], laidByText := true, laidKinds := [.data], laidTests := true, laidLooks := .later }
def BytesBooksUptoCardSaid : Prop := Claim7.holds Tryd.pinned (.plain (OpenSpec.upto bytesBooksSpec)) bytesBooksUptoCard

/-- THE SECOND FORM's CARD OF 'octavolaw02.BytesReads'. -/
def bytesReadsUptoCard : Claim7 := { stood := { row := bytesReadsUptoRow, standIns := [], harness := (true, "a770591a68fd25ef1c78c602449fe9a07f7c3f18f1f7a1641d0ed7df49c09ce8"), looks := true }, kinds := [], alts := [], laidByText := true, laidKinds := [.data], laidTests := true, laidLooks := .later }
def BytesReadsUptoCardSaid : Prop := Claim7.holds Tryd.pinned (.plain (OpenSpec.upto bytesReadsSpec)) bytesReadsUptoCard
end Rows
end Go.Proofs.YtohndhmhgdelmaaDoor
