/-
  DERIVED. GIVEN WITH THE SEED: THE CARDS: each row of YtcheikpmhdliiaaDoorRows.lean that lists a variable, with what it lists TIED to the program's text (the seventh form; the later family's looks); each row that meets fmt, with fmt's text TOLD by the authors' own Lean function (tested against real Go, not proved from fmt's source: count such statements apart). THE CARD IS WHAT COUNTS. Prove the row's statement (the work); the ties are given (YtcheikpmhdliiaaDoorTie.lean); close each card by the builder's one call (the guide's Derived/Test/ToyasCard.lean, 'card_holds'). Laid BY PROGRAM, IN A SANDBOX (cutbox-door.mjs). By AI agents, Wed Nov 11 2026. No macro, syntax, notation, axiom, sorry.
-/
import Derived.Test.YtcheikpmhdliiaaDoorRows
import GoSem.ClaimSeven
namespace Go.Proofs.YtcheikpmhdliiaaDoor
namespace Rows

/-- THE TIED CARD OF 'octavolaw02.BytesOps'. -/
def bytesOpsCard : Claim7 := { stood := { row := bytesOpsRow, standIns := [], harness := (true, "34ce03b32c3146ac06337f1a73df03a463a8cbfd1960799ff2f74e09a56c61bb"), looks := true }, kinds := [], alts := [], laidByText := true, laidKinds := [.data], laidTests := true, laidLooks := .later }
def BytesOpsCardSaid : Prop := Claim7.holds Tryd.pinned (.plain (OpenSpec.ofChange bytesOpsSpec)) bytesOpsCard

/-- THE TIED CARD OF 'octavolaw04.JournalScans'. -/
def journalScansCard : Claim7 := { stood := { row := journalScansRow, standIns := [], harness := (true, "34ce03b32c3146ac06337f1a73df03a463a8cbfd1960799ff2f74e09a56c61bb"), looks := true }, kinds := [], alts := [], laidByText := true, laidKinds := [.data], laidTests := true, laidLooks := .later }
def JournalScansCardSaid : Prop := Claim7.holds Tryd.pinned (.plain (OpenSpec.ofChange journalScansSpec)) journalScansCard

/-- THE TIED CARD OF 'octavolaw04.JournalGroups'. -/
def journalGroupsCard : Claim7 := { stood := { row := journalGroupsRow, standIns := [], harness := (true, "34ce03b32c3146ac06337f1a73df03a463a8cbfd1960799ff2f74e09a56c61bb"), looks := true }, kinds := [], alts := [], laidByText := true, laidKinds := [.data], laidTests := true, laidLooks := .later }
def JournalGroupsCardSaid : Prop := Claim7.holds Tryd.pinned (.plain (OpenSpec.ofChange journalGroupsSpec)) journalGroupsCard

/-- THE TIED CARD OF 'octavolaw04.JournalCuts'. -/
def journalCutsCard : Claim7 := { stood := { row := journalCutsRow, standIns := [], harness := (true, "34ce03b32c3146ac06337f1a73df03a463a8cbfd1960799ff2f74e09a56c61bb"), looks := true }, kinds := [], alts := [], laidByText := true, laidKinds := [.data], laidTests := true, laidLooks := .later }
def JournalCutsCardSaid : Prop := Claim7.holds Tryd.pinned (.plain (OpenSpec.ofChange journalCutsSpec)) journalCutsCard

/-- THE TIED CARD OF 'octavolaw04.JournalBound'. -/
def journalBoundCard : Claim7 := { stood := { row := journalBoundRow, standIns := [], harness := (true, "34ce03b32c3146ac06337f1a73df03a463a8cbfd1960799ff2f74e09a56c61bb"), looks := true }, kinds := [], alts := [], laidByText := true, laidKinds := [.data], laidTests := true, laidLooks := .later }
def JournalBoundCardSaid : Prop := Claim7.holds Tryd.pinned (.plain (OpenSpec.ofChange journalBoundSpec)) journalBoundCard

/-- THE TIED CARD OF 'octavolaw04.JournalNext'. -/
def journalNextCard : Claim7 := { stood := { row := journalNextRow, standIns := [], harness := (true, "34ce03b32c3146ac06337f1a73df03a463a8cbfd1960799ff2f74e09a56c61bb"), looks := true }, kinds := [], alts := [], laidByText := true, laidKinds := [.data], laidTests := true, laidLooks := .later }
def JournalNextCardSaid : Prop := Claim7.holds Tryd.pinned (.plain (OpenSpec.ofChange journalNextSpec)) journalNextCard

/-- THE SECOND FORM's CARD OF 'octavolaw02.BytesOps'. -/
def bytesOpsUptoCard : Claim7 := { stood := { row := bytesOpsUptoRow, standIns := [], harness := (true, "34ce03b32c3146ac06337f1a73df03a463a8cbfd1960799ff2f74e09a56c61bb"), looks := true }, kinds := [], alts := [], laidByText := true, laidKinds := [.data], laidTests := true, laidLooks := .later }
def BytesOpsUptoCardSaid : Prop := Claim7.holds Tryd.pinned (.plain (OpenSpec.upto bytesOpsSpec)) bytesOpsUptoCard

/-- THE SECOND FORM's CARD OF 'octavolaw04.JournalScans'. -/
def journalScansUptoCard : Claim7 := { stood := { row := journalScansUptoRow, standIns := [], harness := (true, "34ce03b32c3146ac06337f1a73df03a463a8cbfd1960799ff2f74e09a56c61bb"), looks := true }, kinds := [], alts := [], laidByText := true, laidKinds := [.data], laidTests := true, laidLooks := .later }
def JournalScansUptoCardSaid : Prop := Claim7.holds Tryd.pinned (.plain (OpenSpec.upto journalScansSpec)) journalScansUptoCard

/-- THE SECOND FORM's CARD OF 'octavolaw04.JournalGroups'. -/
def journalGroupsUptoCard : Claim7 := { stood := { row := journalGroupsUptoRow, standIns := [], harness := (true, "34ce03b32c3146ac06337f1a73df03a463a8cbfd1960799ff2f74e09a56c61bb"), looks := true }, kinds := [], alts := [], laidByText := true, laidKinds := [.data], laidTests := true, laidLooks := .later }
def JournalGroupsUptoCardSaid : Prop := Claim7.holds Tryd.pinned (.plain (OpenSpec.upto journalGroupsSpec)) journalGroupsUptoCard

/-- THE SECOND FORM's CARD OF 'octavolaw04.JournalCuts'. -/
def journalCutsUptoCard : Claim7 := { stood := { row := journalCutsUptoRow, standIns := [], harness := (true, "34ce03b32c3146ac06337f1a73df03a463a8cbfd1960799ff2f74e09a56c61bb"), looks := true }, kinds := [], alts := [], laidByText := true, laidKinds := [.data], laidTests := true, laidLooks := .later }
def JournalCutsUptoCardSaid : Prop := Claim7.holds Tryd.pinned (.plain (OpenSpec.upto journalCutsSpec)) journalCutsUptoCard

/-- THE SECOND FORM's CARD OF 'octavolaw04.JournalBound'. -/
def journalBoundUptoCard : Claim7 := { stood := { row := journalBoundUptoRow, standIns := [], harness := (true, "34ce03b32c3146ac06337f1a73df03a463a8cbfd1960799ff2f74e09a56c61bb"), looks := true }, kinds := [], alts := [], laidByText := true, laidKinds := [.data], laidTests := true, laidLooks := .later }
def JournalBoundUptoCardSaid : Prop := Claim7.holds Tryd.pinned (.plain (OpenSpec.upto journalBoundSpec)) journalBoundUptoCard

/-- THE SECOND FORM's CARD OF 'octavolaw04.JournalNext'. -/
def journalNextUptoCard : Claim7 := { stood := { row := journalNextUptoRow, standIns := [], harness := (true, "34ce03b32c3146ac06337f1a73df03a463a8cbfd1960799ff2f74e09a56c61bb"), looks := true }, kinds := [], alts := [], laidByText := true, laidKinds := [.data], laidTests := true, laidLooks := .later }
def JournalNextUptoCardSaid : Prop := Claim7.holds Tryd.pinned (.plain (OpenSpec.upto journalNextSpec)) journalNextUptoCard
end Rows
end Go.Proofs.YtcheikpmhdliiaaDoor
