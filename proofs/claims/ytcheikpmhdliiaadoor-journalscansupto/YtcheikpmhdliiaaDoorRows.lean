/-
  NARROWER THAN 'FOR EVERY INPUT', by the rows' own cells (each row's printed sentence says how): BytesOps: laid · JournalScans: laid · JournalGroups: laid · JournalCuts: laid · JournalBound: laid · JournalNext: laid.
  DERIVED. THE GIVEN ROWS OF THIS SEAT. 6 by the template 'for every input the law returns true; each argument reads behind the call as it read before'; 0 by the template 'total and deterministic' (their statements: YtcheikpmhdliiaaDoorTotals.lean).
  GIVEN WITH THE SEED: the statements are not yours to turn. If you find one false, say at which input.
  Laid BY PROGRAM, IN A SANDBOX (cutbox-rows.mjs): the forced cells as the released guide's own fill.sh prints them over the translation e3f5dbd358c32123… (all of the seat's roots in one cut). By AI agents, Wed Nov 11 2026. No macro, syntax, notation, axiom, sorry.
-/
import Derived.Test.YtcheikpmhdliiaaDoorChecked
import GoSem.Claim
import GoSem.ClaimJoined
import GoSem.ClaimMapViews
import Derived.JoinedTies
import Derived.KernelRfl
namespace Go.Proofs.YtcheikpmhdliiaaDoor
/- THE CELL 'sum', in the pinned program and in every row, IS THE sha256 OF THE DUMP (.gsa) THAT YtcheikpmhdliiaaDoorProg.lean LOADS. Nothing in Lean hashes anything: it is a label: what it is worth is what the hold of that sum in a sandbox is worth. -/
noncomputable def Tryd.pinned : Pinned := { name := "ytcheikpmhdliiaadoor", sum := "e3f5dbd358c32123e0630180e858b8af3ad156913d48c95e12cbc4eb1a5f6035", checked := Tryd.checked }
namespace Rows
def none {H : Type} : Left H := { results := [], args := [] }

/- WHAT THE LISTED PACKAGE-LEVEL VARIABLES READ AS WHEN THE CALL BEGINS. Each datum BY PROGRAM (the guide's laid-datum.mjs) off the statement by which the dump's own 'gosem.cut.vars' lays the variable. In a bare row this is a premise. The card (YtcheikpmhdliiaaDoorCards.lean) ties it to the program's text. -/
def laid_octavo_bytes_sums {H : Type} : DataW H := .agg [.lit (.int .u32 0), .lit (.int .u32 498536548), .lit (.int .u32 997073096), .lit (.int .u32 651767980), .lit (.int .u32 1994146192), .lit (.int .u32 1802195444), .lit (.int .u32 1303535960), .lit (.int .u32 1342533948), .lit (.int .u32 3988292384), .lit (.int .u32 4027552580), .lit (.int .u32 3604390888), .lit (.int .u32 3412177804), .lit (.int .u32 2607071920), .lit (.int .u32 2262029012), .lit (.int .u32 2685067896), .lit (.int .u32 3183342108)]

/-- 'octavolaw02.BytesOps': WHATEVER THE INPUT: true; the input reads as it did. -/
def bytesOpsSpec : ChangeSpec := { name := "bytesOps", fn := fun _ => fun
  | [d] => { results := [.lit (.bool true)], args := [d] }
  | _ => none }
def bytesOpsRow : OpenClaim := { program := "ytcheikpmhdliiaadoor", sum := "e3f5dbd358c32123e0630180e858b8af3ad156913d48c95e12cbc4eb1a5f6035", func := "octavo/octavolaw02.BytesOps", spec := "bytesOps", unfollowed := true, recurses := true, named := ["octavo/bytes.sums"], apart := false, laid := [("octavo/bytes.sums", laid_octavo_bytes_sums)] }
def BytesOpsSaid : Prop := bytesOpsRow.holds Tryd.pinned (OpenSpec.ofChange bytesOpsSpec)

/-- ITS FALSE NEIGHBOUR: 'it returns false'. Refute it at one input. -/
def bytesOpsWrong : ChangeSpec := { name := "bytesOps", fn := fun _ => fun
  | [d] => { results := [.lit (.bool false)], args := [d] }
  | _ => none }
def BytesOpsWrongFalsely : Prop := bytesOpsRow.holds Tryd.pinned (OpenSpec.ofChange bytesOpsWrong)

/-- 'octavolaw04.JournalScans': WHATEVER THE INPUT: true; the input reads as it did. -/
def journalScansSpec : ChangeSpec := { name := "journalScans", fn := fun _ => fun
  | [d1, d2, d3] => { results := [.lit (.bool true)], args := [d1, d2, d3] }
  | _ => none }
def journalScansRow : OpenClaim := { program := "ytcheikpmhdliiaadoor", sum := "e3f5dbd358c32123e0630180e858b8af3ad156913d48c95e12cbc4eb1a5f6035", func := "octavo/octavolaw04.JournalScans", spec := "journalScans", unfollowed := true, recurses := true, named := ["octavo/bytes.sums"], apart := false, laid := [("octavo/bytes.sums", laid_octavo_bytes_sums)] }
def JournalScansSaid : Prop := journalScansRow.holds Tryd.pinned (OpenSpec.ofChange journalScansSpec)

/-- ITS FALSE NEIGHBOUR: 'it returns false'. Refute it at one input. -/
def journalScansWrong : ChangeSpec := { name := "journalScans", fn := fun _ => fun
  | [d1, d2, d3] => { results := [.lit (.bool false)], args := [d1, d2, d3] }
  | _ => none }
def JournalScansWrongFalsely : Prop := journalScansRow.holds Tryd.pinned (OpenSpec.ofChange journalScansWrong)

/-- 'octavolaw04.JournalGroups': WHATEVER THE INPUT: true; the input reads as it did. -/
def journalGroupsSpec : ChangeSpec := { name := "journalGroups", fn := fun _ => fun
  | [d1, d2] => { results := [.lit (.bool true)], args := [d1, d2] }
  | _ => none }
def journalGroupsRow : OpenClaim := { program := "ytcheikpmhdliiaadoor", sum := "e3f5dbd358c32123e0630180e858b8af3ad156913d48c95e12cbc4eb1a5f6035", func := "octavo/octavolaw04.JournalGroups", spec := "journalGroups", unfollowed := true, recurses := true, named := ["octavo/bytes.sums"], apart := false, laid := [("octavo/bytes.sums", laid_octavo_bytes_sums)] }
def JournalGroupsSaid : Prop := journalGroupsRow.holds Tryd.pinned (OpenSpec.ofChange journalGroupsSpec)

/-- ITS FALSE NEIGHBOUR: 'it returns false'. Refute it at one input. -/
def journalGroupsWrong : ChangeSpec := { name := "journalGroups", fn := fun _ => fun
  | [d1, d2] => { results := [.lit (.bool false)], args := [d1, d2] }
  | _ => none }
def JournalGroupsWrongFalsely : Prop := journalGroupsRow.holds Tryd.pinned (OpenSpec.ofChange journalGroupsWrong)

/-- 'octavolaw04.JournalCuts': WHATEVER THE INPUT: true; the input reads as it did. -/
def journalCutsSpec : ChangeSpec := { name := "journalCuts", fn := fun _ => fun
  | [d1, d2, d3] => { results := [.lit (.bool true)], args := [d1, d2, d3] }
  | _ => none }
def journalCutsRow : OpenClaim := { program := "ytcheikpmhdliiaadoor", sum := "e3f5dbd358c32123e0630180e858b8af3ad156913d48c95e12cbc4eb1a5f6035", func := "octavo/octavolaw04.JournalCuts", spec := "journalCuts", unfollowed := true, recurses := true, named := ["octavo/bytes.sums"], apart := false, laid := [("octavo/bytes.sums", laid_octavo_bytes_sums)] }
def JournalCutsSaid : Prop := journalCutsRow.holds Tryd.pinned (OpenSpec.ofChange journalCutsSpec)

/-- ITS FALSE NEIGHBOUR: 'it returns false'. Refute it at one input. -/
def journalCutsWrong : ChangeSpec := { name := "journalCuts", fn := fun _ => fun
  | [d1, d2, d3] => { results := [.lit (.bool false)], args := [d1, d2, d3] }
  | _ => none }
def JournalCutsWrongFalsely : Prop := journalCutsRow.holds Tryd.pinned (OpenSpec.ofChange journalCutsWrong)

/-- 'octavolaw04.JournalBound': WHATEVER THE INPUT: true; the input reads as it did. -/
def journalBoundSpec : ChangeSpec := { name := "journalBound", fn := fun _ => fun
  | [d1, d2, d3] => { results := [.lit (.bool true)], args := [d1, d2, d3] }
  | _ => none }
def journalBoundRow : OpenClaim := { program := "ytcheikpmhdliiaadoor", sum := "e3f5dbd358c32123e0630180e858b8af3ad156913d48c95e12cbc4eb1a5f6035", func := "octavo/octavolaw04.JournalBound", spec := "journalBound", unfollowed := true, recurses := true, named := ["octavo/bytes.sums"], apart := false, laid := [("octavo/bytes.sums", laid_octavo_bytes_sums)] }
def JournalBoundSaid : Prop := journalBoundRow.holds Tryd.pinned (OpenSpec.ofChange journalBoundSpec)

/-- ITS FALSE NEIGHBOUR: 'it returns false'. Refute it at one input. -/
def journalBoundWrong : ChangeSpec := { name := "journalBound", fn := fun _ => fun
  | [d1, d2, d3] => { results := [.lit (.bool false)], args := [d1, d2, d3] }
  | _ => none }
def JournalBoundWrongFalsely : Prop := journalBoundRow.holds Tryd.pinned (OpenSpec.ofChange journalBoundWrong)

/-- 'octavolaw04.JournalNext': WHATEVER THE INPUT: true; the input reads as it did. -/
def journalNextSpec : ChangeSpec := { name := "journalNext", fn := fun _ => fun
  | [d1, d2, d3] => { results := [.lit (.bool true)], args := [d1, d2, d3] }
  | _ => none }
def journalNextRow : OpenClaim := { program := "ytcheikpmhdliiaadoor", sum := "e3f5dbd358c32123e0630180e858b8af3ad156913d48c95e12cbc4eb1a5f6035", func := "octavo/octavolaw04.JournalNext", spec := "journalNext", unfollowed := true, recurses := true, named := ["octavo/bytes.sums"], apart := false, laid := [("octavo/bytes.sums", laid_octavo_bytes_sums)] }
def JournalNextSaid : Prop := journalNextRow.holds Tryd.pinned (OpenSpec.ofChange journalNextSpec)

/-- ITS FALSE NEIGHBOUR: 'it returns false'. Refute it at one input. -/
def journalNextWrong : ChangeSpec := { name := "journalNext", fn := fun _ => fun
  | [d1, d2, d3] => { results := [.lit (.bool false)], args := [d1, d2, d3] }
  | _ => none }
def JournalNextWrongFalsely : Prop := journalNextRow.holds Tryd.pinned (OpenSpec.ofChange journalNextWrong)

/- THE SECOND FORM. 'bulk': how many values and letters a reading holds, each counted each time it is reached (what is shared counts as often as it is met; a slice's spare places count too). A statement '..UptoSaid' is the law's where the arguments, and the package variables that the reading takes, are together of bulk at most 1048576: NARROWER than '..Said'. Prove '..Said' where nothing that the law and all that it calls make is longer than what came in: it says more and counts as full. Else prove '..UptoSaid'. A law counts once. -/
mutual
def uptoBulk {H : Type} : DataW H → Nat
  | .lit (.string bytes) => bytes.length + 1
  | .lit _ => 1
  | .nil => 1
  | .ptr d => uptoBulk d + 1
  | .slice elems spare => uptoBulkAll elems + uptoBulkAll spare + 1
  | .agg parts => uptoBulkAll parts + 1
  | .iface _ d => uptoBulk d + 1
  | .map entries => uptoBulkEntries entries + 1
  | .held _ => 1
def uptoBulkAll {H : Type} : List (DataW H) → Nat
  | [] => 0
  | d :: r => uptoBulk d + uptoBulkAll r
def uptoBulkEntries {H : Type} : List (Lit × DataW H) → Nat
  | [] => 0
  | x :: r => uptoBulkEntry x + uptoBulkEntries r
def uptoBulkEntry {H : Type} : Lit × DataW H → Nat
  | (.string bytes, d) => bytes.length + uptoBulk d + 1
  | (_, d) => uptoBulk d + 1
 end
def uptoSmall : (H : Type) → List (DataW H) → Bool := fun _ ds => decide (uptoBulkAll ds ≤ 1048576)
def OpenSpec.upto (s : _root_.Go.ChangeSpec) : _root_.Go.OpenSpec := { _root_.Go.OpenSpec.ofChange s with cond := some uptoSmall }

/-- 'octavolaw02.BytesOps', WHERE WHAT IT READS IS OF BULK AT MOST 1048576: true; the input reads as it did. -/
def bytesOpsUptoRow : OpenClaim := { program := "ytcheikpmhdliiaadoor", sum := "e3f5dbd358c32123e0630180e858b8af3ad156913d48c95e12cbc4eb1a5f6035", func := "octavo/octavolaw02.BytesOps", spec := "bytesOps", unfollowed := true, recurses := true, named := ["octavo/bytes.sums"], apart := false, laid := [("octavo/bytes.sums", laid_octavo_bytes_sums)], narrowed := true }
def BytesOpsUptoSaid : Prop := bytesOpsUptoRow.holds Tryd.pinned (OpenSpec.upto bytesOpsSpec)

/-- 'octavolaw04.JournalScans', WHERE WHAT IT READS IS OF BULK AT MOST 1048576: true; the input reads as it did. -/
def journalScansUptoRow : OpenClaim := { program := "ytcheikpmhdliiaadoor", sum := "e3f5dbd358c32123e0630180e858b8af3ad156913d48c95e12cbc4eb1a5f6035", func := "octavo/octavolaw04.JournalScans", spec := "journalScans", unfollowed := true, recurses := true, named := ["octavo/bytes.sums"], apart := false, laid := [("octavo/bytes.sums", laid_octavo_bytes_sums)], narrowed := true }
def JournalScansUptoSaid : Prop := journalScansUptoRow.holds Tryd.pinned (OpenSpec.upto journalScansSpec)

/-- 'octavolaw04.JournalGroups', WHERE WHAT IT READS IS OF BULK AT MOST 1048576: true; the input reads as it did. -/
def journalGroupsUptoRow : OpenClaim := { program := "ytcheikpmhdliiaadoor", sum := "e3f5dbd358c32123e0630180e858b8af3ad156913d48c95e12cbc4eb1a5f6035", func := "octavo/octavolaw04.JournalGroups", spec := "journalGroups", unfollowed := true, recurses := true, named := ["octavo/bytes.sums"], apart := false, laid := [("octavo/bytes.sums", laid_octavo_bytes_sums)], narrowed := true }
def JournalGroupsUptoSaid : Prop := journalGroupsUptoRow.holds Tryd.pinned (OpenSpec.upto journalGroupsSpec)

/-- 'octavolaw04.JournalCuts', WHERE WHAT IT READS IS OF BULK AT MOST 1048576: true; the input reads as it did. -/
def journalCutsUptoRow : OpenClaim := { program := "ytcheikpmhdliiaadoor", sum := "e3f5dbd358c32123e0630180e858b8af3ad156913d48c95e12cbc4eb1a5f6035", func := "octavo/octavolaw04.JournalCuts", spec := "journalCuts", unfollowed := true, recurses := true, named := ["octavo/bytes.sums"], apart := false, laid := [("octavo/bytes.sums", laid_octavo_bytes_sums)], narrowed := true }
def JournalCutsUptoSaid : Prop := journalCutsUptoRow.holds Tryd.pinned (OpenSpec.upto journalCutsSpec)

/-- 'octavolaw04.JournalBound', WHERE WHAT IT READS IS OF BULK AT MOST 1048576: true; the input reads as it did. -/
def journalBoundUptoRow : OpenClaim := { program := "ytcheikpmhdliiaadoor", sum := "e3f5dbd358c32123e0630180e858b8af3ad156913d48c95e12cbc4eb1a5f6035", func := "octavo/octavolaw04.JournalBound", spec := "journalBound", unfollowed := true, recurses := true, named := ["octavo/bytes.sums"], apart := false, laid := [("octavo/bytes.sums", laid_octavo_bytes_sums)], narrowed := true }
def JournalBoundUptoSaid : Prop := journalBoundUptoRow.holds Tryd.pinned (OpenSpec.upto journalBoundSpec)

/-- 'octavolaw04.JournalNext', WHERE WHAT IT READS IS OF BULK AT MOST 1048576: true; the input reads as it did. -/
def journalNextUptoRow : OpenClaim := { program := "ytcheikpmhdliiaadoor", sum := "e3f5dbd358c32123e0630180e858b8af3ad156913d48c95e12cbc4eb1a5f6035", func := "octavo/octavolaw04.JournalNext", spec := "journalNext", unfollowed := true, recurses := true, named := ["octavo/bytes.sums"], apart := false, laid := [("octavo/bytes.sums", laid_octavo_bytes_sums)], narrowed := true }
def JournalNextUptoSaid : Prop := journalNextUptoRow.holds Tryd.pinned (OpenSpec.upto journalNextSpec)

end Rows
end Go.Proofs.YtcheikpmhdliiaaDoor
