/-
  NARROWER THAN 'FOR EVERY INPUT', by the rows' own cells (each row's printed sentence says how): BytesSums: laid · BytesUnframes: laid · BytesInts: laid · BytesTells: laid.
  DERIVED. THE GIVEN ROWS OF THIS SEAT. 4 by the template 'for every input the law returns true; each argument reads behind the call as it read before'; 0 by the template 'total and deterministic' (their statements: YtkejnmallhoajaaDoorTotals.lean).
  GIVEN WITH THE SEED: the statements are not yours to turn. If you find one false, say at which input.
  Laid BY PROGRAM, IN A SANDBOX (cutbox-rows.mjs): the forced cells as the released guide's own fill.sh prints them over the translation 30737f3c8c735c56… (all of the seat's roots in one cut). By AI agents, Wed Nov 11 2026. No macro, syntax, notation, axiom, sorry.
-/
import Derived.Test.YtkejnmallhoajaaDoorChecked
import GoSem.Claim
import GoSem.ClaimJoined
import GoSem.ClaimMapViews
import Derived.JoinedTies
import Derived.KernelRfl
namespace Go.Proofs.YtkejnmallhoajaaDoor
/- THE CELL 'sum', in the pinned program and in every row, IS THE sha256 OF THE DUMP (.gsa) THAT YtkejnmallhoajaaDoorProg.lean LOADS. Nothing in Lean hashes anything: it is a label: what it is worth is what the hold of that sum in a sandbox is worth. -/
noncomputable def Tryd.pinned : Pinned := { name := "ytkejnmallhoajaadoor", sum := "30737f3c8c735c5690a80d9d86c532eda8d148be93140a82889c705cfbd70182", checked := Tryd.checked }
namespace Rows
def none {H : Type} : Left H := { results := [], args := [] }

/- WHAT THE LISTED PACKAGE-LEVEL VARIABLES READ AS WHEN THE CALL BEGINS. Each datum BY PROGRAM (the guide's laid-datum.mjs) off the statement by which the dump's own 'gosem.cut.vars' lays the variable. In a bare row this is a premise. The card (YtkejnmallhoajaaDoorCards.lean) ties it to the program's text. -/
def laid_octavo_bytes_sums {H : Type} : DataW H := .agg [.lit (.int .u32 0), .lit (.int .u32 498536548), .lit (.int .u32 997073096), .lit (.int .u32 651767980), .lit (.int .u32 1994146192), .lit (.int .u32 1802195444), .lit (.int .u32 1303535960), .lit (.int .u32 1342533948), .lit (.int .u32 3988292384), .lit (.int .u32 4027552580), .lit (.int .u32 3604390888), .lit (.int .u32 3412177804), .lit (.int .u32 2607071920), .lit (.int .u32 2262029012), .lit (.int .u32 2685067896), .lit (.int .u32 3183342108)]

/-- 'octavolaw02.BytesSums': WHATEVER THE INPUT: true; the input reads as it did. -/
def bytesSumsSpec : ChangeSpec := { name := "bytesSums", fn := fun _ => fun
  | [d] => { results := [.lit (.bool true)], args := [d] }
  | _ => none }
def bytesSumsRow : OpenClaim := { program := "ytkejnmallhoajaadoor", sum := "30737f3c8c735c5690a80d9d86c532eda8d148be93140a82889c705cfbd70182", func := "octavo/octavolaw02.BytesSums", spec := "bytesSums", unfollowed := true, recurses := true, named := ["octavo/bytes.sums"], apart := false, laid := [("octavo/bytes.sums", laid_octavo_bytes_sums)] }
def BytesSumsSaid : Prop := bytesSumsRow.holds Tryd.pinned (OpenSpec.ofChange bytesSumsSpec)

/-- ITS FALSE NEIGHBOUR: 'it returns false'. Refute it at one input. -/
def bytesSumsWrong : ChangeSpec := { name := "bytesSums", fn := fun _ => fun
  | [d] => { results := [.lit (.bool false)], args := [d] }
  | _ => none }
def BytesSumsWrongFalsely : Prop := bytesSumsRow.holds Tryd.pinned (OpenSpec.ofChange bytesSumsWrong)

/-- 'octavolaw02.BytesUnframes': WHATEVER THE INPUT: true; the input reads as it did. -/
def bytesUnframesSpec : ChangeSpec := { name := "bytesUnframes", fn := fun _ => fun
  | [d] => { results := [.lit (.bool true)], args := [d] }
  | _ => none }
def bytesUnframesRow : OpenClaim := { program := "ytkejnmallhoajaadoor", sum := "30737f3c8c735c5690a80d9d86c532eda8d148be93140a82889c705cfbd70182", func := "octavo/octavolaw02.BytesUnframes", spec := "bytesUnframes", unfollowed := true, recurses := true, named := ["octavo/bytes.sums"], apart := false, laid := [("octavo/bytes.sums", laid_octavo_bytes_sums)] }
def BytesUnframesSaid : Prop := bytesUnframesRow.holds Tryd.pinned (OpenSpec.ofChange bytesUnframesSpec)

/-- ITS FALSE NEIGHBOUR: 'it returns false'. Refute it at one input. -/
def bytesUnframesWrong : ChangeSpec := { name := "bytesUnframes", fn := fun _ => fun
  | [d] => { results := [.lit (.bool false)], args := [d] }
  | _ => none }
def BytesUnframesWrongFalsely : Prop := bytesUnframesRow.holds Tryd.pinned (OpenSpec.ofChange bytesUnframesWrong)

/-- 'octavolaw02.BytesInts': WHATEVER THE INPUT: true; the input reads as it did. -/
def bytesIntsSpec : ChangeSpec := { name := "bytesInts", fn := fun _ => fun
  | [d] => { results := [.lit (.bool true)], args := [d] }
  | _ => none }
def bytesIntsRow : OpenClaim := { program := "ytkejnmallhoajaadoor", sum := "30737f3c8c735c5690a80d9d86c532eda8d148be93140a82889c705cfbd70182", func := "octavo/octavolaw02.BytesInts", spec := "bytesInts", unfollowed := true, recurses := true, named := ["octavo/bytes.sums"], apart := false, laid := [("octavo/bytes.sums", laid_octavo_bytes_sums)] }
def BytesIntsSaid : Prop := bytesIntsRow.holds Tryd.pinned (OpenSpec.ofChange bytesIntsSpec)

/-- ITS FALSE NEIGHBOUR: 'it returns false'. Refute it at one input. -/
def bytesIntsWrong : ChangeSpec := { name := "bytesInts", fn := fun _ => fun
  | [d] => { results := [.lit (.bool false)], args := [d] }
  | _ => none }
def BytesIntsWrongFalsely : Prop := bytesIntsRow.holds Tryd.pinned (OpenSpec.ofChange bytesIntsWrong)

/-- 'octavolaw02.BytesTells': WHATEVER THE INPUT: true; the input reads as it did. -/
def bytesTellsSpec : ChangeSpec := { name := "bytesTells", fn := fun _ => fun
  | [d1, d2, d3] => { results := [.lit (.bool true)], args := [d1, d2, d3] }
  | _ => none }
def bytesTellsRow : OpenClaim := { program := "ytkejnmallhoajaadoor", sum := "30737f3c8c735c5690a80d9d86c532eda8d148be93140a82889c705cfbd70182", func := "octavo/octavolaw02.BytesTells", spec := "bytesTells", unfollowed := true, recurses := true, named := ["octavo/bytes.sums"], apart := false, laid := [("octavo/bytes.sums", laid_octavo_bytes_sums)] }
def BytesTellsSaid : Prop := bytesTellsRow.holds Tryd.pinned (OpenSpec.ofChange bytesTellsSpec)

/-- ITS FALSE NEIGHBOUR: 'it returns false'. Refute it at one input. -/
def bytesTellsWrong : ChangeSpec := { name := "bytesTells", fn := fun _ => fun
  | [d1, d2, d3] => { results := [.lit (.bool false)], args := [d1, d2, d3] }
  | _ => none }
def BytesTellsWrongFalsely : Prop := bytesTellsRow.holds Tryd.pinned (OpenSpec.ofChange bytesTellsWrong)

/- THE SECOND FORM. 'bulk': how many values and letters a reading holds, each counted each time it is reached (what is shared counts as often as it is met; a slice's spare places count too). A statement '..UptoSaid' is the law's where the arguments, and the package variables that the reading takes, are together of bulk at most 1048576: NARROWER than '..Said'. Prove '..Said' where nothing that the law and all that it calls make is longer than what came in: it says more and counts as full. Else prove '..UptoSaid'. A law counts once. -/
mutual
def uptoBulk {H : Type} : DataW H → Nat
  | .lit (.string bytes) => bytes.length + 1
  | .lit _ => 1
  | .nil => 1
  | .ptr d => uptoBulk d + 1
  | .slice elems spare => uptoBulkAll elems + uptoBulkAll spare + 1
  | .agg parts => uptoBulkAll parts + 1
  | .iface _ d => uptoBulk d + 1
  | .map entries => uptoBulkEntries entries + 1
  | .held _ => 1
def uptoBulkAll {H : Type} : List (DataW H) → Nat
  | [] => 0
  | d :: r => uptoBulk d + uptoBulkAll r
def uptoBulkEntries {H : Type} : List (Lit × DataW H) → Nat
  | [] => 0
  | x :: r => uptoBulkEntry x + uptoBulkEntries r
def uptoBulkEntry {H : Type} : Lit × DataW H → Nat
  | (.string bytes, d) => bytes.length + uptoBulk d + 1
  | (_, d) => uptoBulk d + 1
 end
def uptoSmall : (H : Type) → List (DataW H) → Bool := fun _ ds => decide (uptoBulkAll ds ≤ 1048576)
def OpenSpec.upto (s : _root_.Go.ChangeSpec) : _root_.Go.OpenSpec := { _root_.Go.OpenSpec.ofChange s with cond := some uptoSmall }

/-- 'octavolaw02.BytesSums', WHERE WHAT IT READS IS OF BULK AT MOST 1048576: true; the input reads as it did. -/
def bytesSumsUptoRow : OpenClaim := { program := "ytkejnmallhoajaadoor", sum := "30737f3c8c735c5690a80d9d86c532eda8d148be93140a82889c705cfbd70182", func := "octavo/octavolaw02.BytesSums", spec := "bytesSums", unfollowed := true, recurses := true, named := ["octavo/bytes.sums"], apart := false, laid := [("octavo/bytes.sums", laid_octavo_bytes_sums)], narrowed := true }
def BytesSumsUptoSaid : Prop := bytesSumsUptoRow.holds Tryd.pinned (OpenSpec.upto bytesSumsSpec)

/-- 'octavolaw02.BytesUnframes', WHERE WHAT IT READS IS OF BULK AT MOST 1048576: true; the input reads as it did. -/
def bytesUnframesUptoRow : OpenClaim := { program := "ytkejnmallhoajaadoor", sum := "30737f3c8c735c5690a80d9d86c532eda8d148be93140a82889c705cfbd70182", func := "octavo/octavolaw02.BytesUnframes", spec := "bytesUnframes", unfollowed := true, recurses := true, named := ["octavo/bytes.sums"], apart := false, laid := [("octavo/bytes.sums", laid_octavo_bytes_sums)], narrowed := true }
def BytesUnframesUptoSaid : Prop := bytesUnframesUptoRow.holds Tryd.pinned (OpenSpec.upto bytesUnframesSpec)

/-- 'octavolaw02.BytesInts', WHERE WHAT IT READS IS OF BULK AT MOST 1048576: true; the input reads as it did. -/
def bytesIntsUptoRow : OpenClaim := { program := "ytkejnmallhoajaadoor", sum := "30737f3c8c735c5690a80d9d86c532eda8d148be93140a82889c705cfbd70182", func := "octavo/octavolaw02.BytesInts", spec := "bytesInts", unfollowed := true, recurses := true, named := ["octavo/bytes.sums"], apart := false, laid := [("octavo/bytes.sums", laid_octavo_bytes_sums)], narrowed := true }
def BytesIntsUptoSaid : Prop := bytesIntsUptoRow.holds Tryd.pinned (OpenSpec.upto bytesIntsSpec)

/-- 'octavolaw02.BytesTells', WHERE WHAT IT READS IS OF BULK AT MOST 1048576: true; the input reads as it did. -/
def bytesTellsUptoRow : OpenClaim := { program := "ytkejnmallhoajaadoor", sum := "30737f3c8c735c5690a80d9d86c532eda8d148be93140a82889c705cfbd70182", func := "octavo/octavolaw02.BytesTells", spec := "bytesTells", unfollowed := true, recurses := true, named := ["octavo/bytes.sums"], apart := false, laid := [("octavo/bytes.sums", laid_octavo_bytes_sums)], narrowed := true }
def BytesTellsUptoSaid : Prop := bytesTellsUptoRow.holds Tryd.pinned (OpenSpec.upto bytesTellsSpec)

end Rows
end Go.Proofs.YtkejnmallhoajaaDoor
