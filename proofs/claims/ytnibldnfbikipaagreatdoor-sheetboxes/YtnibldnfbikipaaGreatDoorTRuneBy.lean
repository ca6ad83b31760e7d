/- ARParseRef2, TPure, TMem, TRune. -/
import Derived.Deep.MidRow
import Derived.Deep.WholeRow
import Derived.Laws.EntriesVeiled
import Derived.Laws.ResultCell
import Derived.Laws.Rows
import Derived.Lib.BufferOwn
import Derived.Maps.AppendAt
import Derived.Maps.Range
import Derived.Test.YtnibldnfbikipaaGreatDoorARParseRefQBy
set_option linter.unusedVariables false
set_option linter.unusedSimpArgs false
set_option maxHeartbeats 16000000
set_option maxRecDepth 100000
namespace Go.Proofs.YtnibldnfbikipaaGreatDoor
open Go.RowKit
theorem idx_list (l : List UInt8) (c : UInt8) (hl : l.length ≤ 140737488355328) : CS 269 #[.string ⟨l.toArray⟩, .int .u8 (c.toNat : Nat)] (.int .i64 (idxF c l)) := fun u => ridx_any ⟨l.toArray⟩ c (by rw [size_mk]; omega) u
theorem idx_none {c : UInt8} {l : List UInt8} (h : Ad.at_ c l = none) : idxF c l = -1 := by unfold idxF; rw [h]
theorem idx_some {c : UInt8} {l a b : List UInt8} (h : Ad.at_ c l = some (a, b)) : idxF c l = (a.length : Nat) := by unfold idxF; rw [h]
theorem ext_take (a b : List UInt8) (c : UInt8) : (⟨(a ++ c :: b).toArray⟩ : ByteArray).extract 0 a.length = ⟨a.toArray⟩ ∧ (⟨(a ++ c :: b).toArray⟩ : ByteArray).extract (a.length + 1) (⟨(a ++ c :: b).toArray⟩ : ByteArray).size = ⟨b.toArray⟩ := by
 constructor
 ·apply ByteArray.ext
  simp
 ·apply ByteArray.ext
  rw [size_mk]
  simp
  exact List.take_of_length_le (by omega)
theorem gn_cb (l : List UInt8) (hl : l.length ≤ 140737488355328) (w : World) : CB w 48 #[.string ⟨l.toArray⟩] (.bool (gnF l)) := fun u hu => rgoodname_any ⟨l.toArray⟩ (by rw [size_mk]; omega) u
theorem rparseref_any (l : List UInt8) (hl : l.length ≤ 140737488355328) (w : World) :
  Calls Tryz.prog 241 #[.string ⟨l.toArray⟩] w fun e w' => e = .returned (.tuple #[refR (Ad.refP gnF l), .bool (Ad.refP gnF l).isSome]) ∧ Below w.heap.size w w' := by
 have plain : ∀ (hq : ((⟨l.toArray⟩ : ByteArray).size = 0) ∨ ∃ hz : 0 < (⟨l.toArray⟩ : ByteArray).size, (((⟨l.toArray⟩ : ByteArray)[0].toNat : Int) == 91) = false), Calls Tryz.prog 241 #[.string ⟨l.toArray⟩] w fun e w' => e = .returned (.tuple #[refR (Ad.sheetP gnF [] l), .bool (Ad.sheetP gnF [] l).isSome]) ∧ Below w.heap.size w w' := fun hq => by
  have IY := idx_list l 33 hl
  unfold Ad.sheetP
  cases h : Ad.at_ 33 l with
  | none =>
   rw [idx_none h] at IY
   have PC : CB w 242 #[.string ⟨l.toArray⟩] _ := fun u hu => rparsecell_any l hl u
   simp only
   cases hc : Ad.cellP l with
   | none => rw [hc] at PC; exact rr_cell_no hq IY PC
   | some c => rw [hc] at PC; exact rr_cell_yes hq IY PC
  | some p =>
   obtain ⟨a, x⟩ := p
   have e := (Ad.at_some h).1
   have hlen := at_some_len h
   rw [idx_some h] at IY
   obtain ⟨x1, x2⟩ := ext_take a x 33
   rw [← e] at x1 x2
   have GS := gn_cb a (by omega) w
   have PC : CB w 242 #[.string ⟨x.toArray⟩] _ := fun u hu => rparsecell_any x (by omega) u
   have q1 : a.length ≤ (⟨l.toArray⟩ : ByteArray).size := by rw [size_mk]; omega
   have q2 : a.length + 1 ≤ (⟨l.toArray⟩ : ByteArray).size := by rw [size_mk]; omega
   have q3 : (⟨l.toArray⟩ : ByteArray).size ≤ 9223372036854775807 := by rw [size_mk]; omega
   simp only
   cases hg : gnF a
   ·rw [hg] at GS
    simp only [Bool.false_eq_true, if_false]
    exact rr_sheet_bad hq IY q1 rfl q2 q3 x1 x2 GS
   ·rw [hg] at GS
    simp only [if_true]
    cases hc : Ad.cellP x with
    | none => rw [hc] at PC; exact rr_sheet_no hq IY q1 rfl q2 q3 x1 x2 GS PC
    | some c => rw [hc] at PC; exact rr_sheet_yes hq IY q1 rfl q2 q3 x1 x2 GS PC
 cases l with
 | nil => exact plain (.inl rfl)
 | cons c m =>
  have e0 : (⟨(c :: m).toArray⟩ : ByteArray)[0]'(by rw [size_mk]; simp) = c := rfl
  have hz : 0 < (⟨(c :: m).toArray⟩ : ByteArray).size := by rw [size_mk]; simp
  rcases ch_facts c 91 with ⟨h1, h2⟩ | ⟨h1, h2⟩
  ·subst h1
   clear plain
   simp only [List.length_cons] at hl
   have IX := idx_list (91 :: m) 93 (by simp; omega)
   have e1 : Ad.refP gnF (91 :: m) = match Ad.at_ 93 m with
    | none => none
    | some (a, r) => if gnF a = true ∧ (Ad.at_ 33 r).isSome = true then Ad.sheetP gnF a r else none := rfl
   rw [e1]
   have e9 := at_cons_ne (c := 93) (x := 91) (r := m) (by decide)
   cases h9 : Ad.at_ 93 m with
   | none =>
    rw [h9] at e9
    rw [idx_none e9] at IX
    exact rr_noclose hz h2 IX
   | some p =>
    obtain ⟨a, r⟩ := p
    rw [h9] at e9
    rw [idx_some (a := 91 :: a) (b := r) e9] at IX
    have e := (Ad.at_some h9).1
    have hlen := at_some_len h9
    obtain ⟨x1, x2⟩ := ext_take (91 :: a) r 93
    have ex : (91 : UInt8) :: m = (91 :: a) ++ 93 :: r := by rw [e]; rfl
    rw [← ex] at x1 x2
    have q1 : (91 :: a).length ≤ (⟨(91 :: m).toArray⟩ : ByteArray).size := by rw [size_mk]; simp; omega
    have q2 : (91 :: a).length + 1 ≤ (⟨(91 :: m).toArray⟩ : ByteArray).size := by rw [size_mk]; simp; omega
    have q3 : (⟨(91 :: m).toArray⟩ : ByteArray).size ≤ 9223372036854775807 := by rw [size_mk]; simp; omega
    have hB : (⟨(91 :: m).toArray⟩ : ByteArray).extract 1 (91 :: a).length = ⟨a.toArray⟩ := by
     apply ByteArray.ext
     rw [e]
     simp
    have GB := gn_cb a (by omega) w
    simp only
    cases hg : gnF a
    ·rw [hg] at GB
     simp only [Bool.false_eq_true, false_and, if_false]
     exact rr_badbook hz h2 IX (by simp) q1 hB GB
    ·rw [hg] at GB
     simp only [true_and]
     have IY := idx_list r 33 (by omega)
     cases h3 : Ad.at_ 33 r with
     | none =>
      rw [idx_none h3] at IY
      rw [if_neg (by simp)]
      exact rr_nosheet hz h2 IX (by simp) q1 rfl q2 q3 hB x2 GB IY
     | some p =>
      obtain ⟨s, x⟩ := p
      rw [if_pos (by simp)]
      unfold Ad.sheetP
      rw [h3]
      have e3 := (Ad.at_some h3).1
      have hlen3 := at_some_len h3
      rw [idx_some h3] at IY
      obtain ⟨y1, y2⟩ := ext_take s x 33
      rw [← e3] at y1 y2
      have GS := gn_cb s (by omega) w
      have PC : CB w 242 #[.string ⟨x.toArray⟩] _ := fun u hu => rparsecell_any x (by omega) u
      have j1 : s.length ≤ (⟨r.toArray⟩ : ByteArray).size := by rw [size_mk]; omega
      have j2 : s.length + 1 ≤ (⟨r.toArray⟩ : ByteArray).size := by rw [size_mk]; omega
      have j3 : (⟨r.toArray⟩ : ByteArray).size ≤ 9223372036854775807 := by rw [size_mk]; omega
      simp only
      cases hg2 : gnF s
      ·rw [hg2] at GS
       simp only [Bool.false_eq_true, if_false]
       exact rr_book_bad hz h2 IX (by simp) q1 rfl q2 q3 hB x2 GB IY j1 rfl j2 j3 y1 y2 GS
      ·rw [hg2] at GS
       simp only [if_true]
       cases hc : Ad.cellP x with
       | none => rw [hc] at PC; exact rr_book_no hz h2 IX (by simp) q1 rfl q2 q3 hB x2 GB IY j1 rfl j2 j3 y1 y2 GS PC
       | some c => rw [hc] at PC; exact rr_book_yes hz h2 IX (by simp) q1 rfl q2 q3 hB x2 GB IY j1 rfl j2 j3 y1 y2 GS PC
  ·rw [Ad.refP_plain (by simpa using h1)]
   exact plain (.inr ⟨hz, h2⟩)
end Go.Proofs.YtnibldnfbikipaaGreatDoor
namespace Go.Tk
open Go.Ad
def runC (c : UInt8) : Bool := isL c || isD c || c == 95 || c == 36
def numC (c : UInt8) : Bool := isD c || c == 46
abbrev Tok := Sum Int (Sum (List UInt8) (Sum Ref (Sum (List UInt8 × List UInt8) (Sum (List UInt8) Nat))))
abbrev Tok.num (n : Int) : Tok := .inl n
abbrev Tok.str (s : List UInt8) : Tok := .inr (.inl s)
abbrev Tok.ref (r : Ref) : Tok := .inr (.inr (.inl r))
abbrev Tok.word (b s : List UInt8) : Tok := .inr (.inr (.inr (.inl (b, s))))
abbrev Tok.op (s : List UInt8) : Tok := .inr (.inr (.inr (.inr (.inl s))))
abbrev Tok.bad (n : Nat) : Tok := .inr (.inr (.inr (.inr (.inr n))))
theorem Tok.cs {motive : Tok → Prop} (num : ∀ n, motive (Tok.num n)) (str : ∀ s, motive (Tok.str s)) (ref : ∀ r, motive (Tok.ref r)) (word : ∀ b s, motive (Tok.word b s)) (op : ∀ s, motive (Tok.op s)) (bad : ∀ n, motive (Tok.bad n)) (t : Tok) : motive t := by
 rcases t with n | s | r | ⟨b, s⟩ | s | n
 ·exact num n
 ·exact str s
 ·exact ref r
 ·exact word b s
 ·exact op s
 ·exact bad n
def quoF : List UInt8 → Option (List UInt8 × List UInt8)
 | [] => none
 | [c] => if c = 34 then some ([], []) else none
 | c :: d :: r => if c = 34 then (if d = 34 then (quoF r).map fun p => (34 :: p.1, p.2) else some ([], d :: r)) else (quoF (d :: r)).map fun p => (c :: p.1, p.2)
def quoW : List UInt8 → List UInt8
 | [] => [34]
 | c :: r => if c = 34 then 34 :: 34 :: quoW r else c :: quoW r
def errN : Nat → List UInt8
 | 1 => [35, 68, 73, 86, 47, 48, 33]
 | 2 => [35, 86, 65, 76, 85, 69, 33]
 | 3 => [35, 82, 69, 70, 33]
 | 4 => [35, 78, 65, 77, 69, 63]
 | 5 => [35, 78, 85, 77, 33]
 | 6 => [35, 78, 47, 65]
 | 7 => [35, 67, 89, 67, 76, 69, 33]
 | 8 => [35, 76, 73, 78, 75, 33]
 | _ => []
def badF (l : List UInt8) : Option (Tok × List UInt8) := ([1, 2, 3, 4, 5, 6, 7, 8].find? fun i => (errN i).isPrefixOf l).map fun i => (.bad i, l.drop (errN i).length)
def ones : List UInt8 := [43, 45, 42, 47, 94, 38, 61, 60, 62, 37, 40, 41, 44, 58]
def two (c d : UInt8) : Bool := (c == 60 && d == 62) || (c == 60 && d == 61) || (c == 62 && d == 61)
def opF : List UInt8 → Option (Tok × List UInt8)
 | [] => none
 | [c] => if c ∈ ones then some (.op [c], []) else none
 | c :: d :: r => if two c d = true then some (.op [c, d], r) else if c ∈ ones then some (.op [c], d :: r) else none
section
variable (gn tru : List UInt8 → Bool) (pn : List UInt8 → Option Int) (wn : Int → List UInt8)
def tailN (b pre l : List UInt8) : Option (Tok × List UInt8) :=
 match l.dropWhile runC with
 | 33 :: r => (refP gn (pre ++ l.takeWhile runC ++ 33 :: r.takeWhile runC)).map fun x => (.ref x, r.dropWhile runC)
 | r => if b = [] then (match cellP (l.takeWhile runC) with
   | some c => some (.ref ⟨[], [], c⟩, r)
   | none => if gn (l.takeWhile runC) = true ∨ tru (l.takeWhile runC) = true then some (.word [] (l.takeWhile runC), r) else none)
  else if gn (l.takeWhile runC) = true then some (.word b (l.takeWhile runC), r) else none
def named (l : List UInt8) : Option (Tok × List UInt8) :=
 match l with
 | 91 :: m => match at_ 93 m with
  | none => none
  | some (a, r) => if gn a = true then tailN gn tru a (91 :: (a ++ [93])) r else none
 | l => tailN gn tru [] [] l
def one (l : List UInt8) : Option (Tok × List UInt8) :=
 match l with
 | [] => none
 | c :: r =>
  if isD c = true then (pn ((c :: r).takeWhile numC)).map fun n => (.num n, (c :: r).dropWhile numC)
  else if c = 34 then (quoF r).map fun p => (.str p.1, p.2)
  else if c = 35 then badF (c :: r)
  else if c = 91 ∨ c = 36 ∨ isL c = true then named gn tru (c :: r)
  else opF (c :: r)
def blank (c : UInt8) : Bool := c == 32 || c == 9
def lexN : Nat → List UInt8 → Option (List Tok)
 | 0, _ => none
 | _ + 1, [] => some []
 | k + 1, c :: r => if blank c = true then lexN k r else match one gn tru pn (c :: r) with
  | none => none
  | some (t, m) => (lexN k m).map (t :: ·)
def text : Tok → List UInt8
 | .inl n => wn n
 | .inr (.inl s) => 34 :: quoW s
 | .inr (.inr (.inl r)) => refW r
 | .inr (.inr (.inr (.inl (b, s)))) => if b = [] then s else 91 :: (b ++ 93 :: s)
 | .inr (.inr (.inr (.inr (.inl s)))) => s
 | .inr (.inr (.inr (.inr (.inr n)))) => errN n
end
theorem quo_len : ∀ (k : Nat) (l s r : List UInt8), l.length ≤ k → quoF l = some (s, r) → r.length < l.length
 | 0, l, s, r, hk, h => by
  have : l = [] := List.eq_nil_of_length_eq_zero (by omega)
  subst this; cases h
 | k + 1, [], s, r, hk, h => by cases h
 | k + 1, [c], s, r, hk, h => by
  unfold quoF at h
  split at h
  ·cases h; simp
  ·cases h
 | k + 1, c :: d :: l, s, r, hk, h => by
  unfold quoF at h
  simp only [List.length_cons] at hk ⊢
  split at h
  ·split at h
   ·cases hq : quoF l with
    | none => rw [hq] at h; cases h
    | some p =>
     rw [hq] at h
     cases h
     have := quo_len k l p.1 p.2 (by omega) hq
     omega
   ·cases h; simp
  ·cases hq : quoF (d :: l) with
   | none => rw [hq] at h; cases h
   | some p =>
    rw [hq] at h
    cases h
    have := quo_len k (d :: l) p.1 p.2 (by simp only [List.length_cons]; omega) hq
    simp only [List.length_cons] at this
    omega
theorem drop_le (p : UInt8 → Bool) : ∀ l : List UInt8, (l.dropWhile p).length ≤ l.length
 | [] => Nat.le_refl _
 | c :: r => by
  rw [List.dropWhile_cons]
  split
  ·have := drop_le p r; simp only [List.length_cons]; omega
  ·exact Nat.le_refl _
theorem drop_lt (p : UInt8 → Bool) {c : UInt8} {r : List UInt8} (h : p c = true) : ((c :: r).dropWhile p).length < (c :: r).length := by
 rw [List.dropWhile_cons, if_pos h]
 have := drop_le p r
 simp only [List.length_cons]; omega
theorem bad_len {l : List UInt8} {t : Tok} {r : List UInt8} (h : badF l = some (t, r)) : r.length < l.length := by
 unfold badF at h
 cases hf : [1, 2, 3, 4, 5, 6, 7, 8].find? fun i => (errN i).isPrefixOf l with
 | none => rw [hf] at h; cases h
 | some i =>
  rw [hf] at h
  cases h
  have h1 := List.find?_some hf
  have h2 := List.mem_of_find?_eq_some hf
  have h3 : 0 < (errN i).length ∧ (errN i).length ≤ l.length := by
   have := List.IsPrefix.length_le (List.isPrefixOf_iff_prefix.1 h1)
   refine ⟨?_, this⟩
   simp only [List.mem_cons, List.not_mem_nil, or_false] at h2
   rcases h2 with rfl | rfl | rfl | rfl | rfl | rfl | rfl | rfl <;> decide
  rw [List.length_drop]
  omega
theorem op_len {l : List UInt8} {t : Tok} {r : List UInt8} (h : opF l = some (t, r)) : r.length < l.length := by
 match l, h with
 | [], h => cases h
 | [c], h =>
  simp only [opF] at h
  split at h
  ·cases h; simp
  ·cases h
 | c :: d :: m, h =>
  simp only [opF] at h
  split at h
  ·cases h; simp; omega
  ·split at h
   ·cases h; simp
   ·cases h
theorem tail_len {gn tru : List UInt8 → Bool} {b pre l : List UInt8} {t : Tok} {r : List UInt8} (h : tailN gn tru b pre l = some (t, r)) : r.length ≤ l.length := by
 have hd := drop_le runC l
 unfold tailN at h
 split at h
 ·rename_i m hm
  rw [hm] at hd
  cases hr : refP gn (pre ++ l.takeWhile runC ++ 33 :: m.takeWhile runC) with
  | none => rw [hr] at h; cases h
  | some x =>
   rw [hr] at h
   cases h
   have := drop_le runC m
   simp only [List.length_cons] at hd
   omega
 ·split at h
  ·split at h
   ·cases h; exact hd
   ·split at h
    ·cases h; exact hd
    ·cases h
  ·split at h
   ·cases h; exact hd
   ·cases h
structure Ways (gn tru : List UInt8 → Bool) (pn : List UInt8 → Option Int) (wn : Int → List UInt8) (okN : Int → Prop) : Prop where
 names : Names gn
 first : ∀ c r, gn (c :: r) = true → isL c = true
 signs : ∀ l, gn l = true → ∀ x ∈ l, runC x = true
 nocell : ∀ l, gn l = true → cellP l = none
 truth : ∀ l, tru l = true → l ≠ [] ∧ (∀ x ∈ l, isL x = true) ∧ cellP l = none
 number : ∀ n, okN n → pn (wn n) = some n ∧ (∃ c r, wn n = c :: r ∧ isD c = true) ∧ ∀ x ∈ wn n, numC x = true
section
variable (gn tru : List UInt8 → Bool) (okN : Int → Prop)
def okT : Tok → Prop
 | .inl n => okN n
 | .inr (.inl _) => True
 | .inr (.inr (.inl r)) => goodR gn r
 | .inr (.inr (.inr (.inl (b, s)))) => (b = [] ∧ (gn s = true ∨ tru s = true)) ∨ (gn b = true ∧ gn s = true)
 | .inr (.inr (.inr (.inr (.inl s)))) => (∃ c, c ∈ ones ∧ s = [c]) ∨ (∃ c d, two c d = true ∧ s = [c, d])
 | .inr (.inr (.inr (.inr (.inr n)))) => 1 ≤ n ∧ n ≤ 8
end
theorem isL_run {c : UInt8} (h : isL c = true) : runC c = true := by unfold runC; rw [h]; rfl
theorem isL_notD {c : UInt8} (h : isL c = true) : isD c = false ∧ c ≠ 34 ∧ c ≠ 35 ∧ c ≠ 91 := by
 unfold isL at h
 simp only [Bool.or_eq_true, Bool.and_eq_true, decide_eq_true_eq] at h
 refine ⟨?_, ?_, ?_, ?_⟩
 ·unfold isD; rw [Bool.and_eq_false_iff, decide_eq_false_iff_not, decide_eq_false_iff_not]; omega
 ·rintro rfl; revert h; decide
 ·rintro rfl; revert h; decide
 ·rintro rfl; revert h; decide
section
variable {gn tru : List UInt8 → Bool} {pn : List UInt8 → Option Int} {wn : Int → List UInt8} {okN : Int → Prop}
theorem one_named {c : UInt8} {r : List UInt8} (h : c = 36 ∨ isL c = true) : one gn tru pn (c :: r) = tailN gn tru [] [] (c :: r) := by
 have hd : isD c = false ∧ c ≠ 34 ∧ c ≠ 35 ∧ c ≠ 91 := by
  rcases h with rfl | h
  ·decide
  ·exact isL_notD h
 unfold one
 simp only
 rw [if_neg (by rw [hd.1]; decide), if_neg hd.2.1, if_neg hd.2.2.1, if_pos (.inr h)]
 unfold named
 split
 ·rename_i m he
  simp only [List.cons.injEq] at he
  exact absurd he.1 hd.2.2.2
 ·rfl
end
end Go.Tk
namespace Go.Proofs.YtnibldnfbikipaaGreatDoor
open Go.RowKit
structure TT where
 k : Int
 n : Int
 s : ByteArray
 b : ByteArray
 h : ByteArray
 r : Int
 c : Int
 fr : Bool
 fc : Bool
abbrev tcs (k n : Int) (s b h : ByteArray) (r c : Int) (fr fc : Bool) : Array Value := #[.int .i64 k, .int .i64 n, .string s, .string b, .string h, .int .i64 r, .int .i64 c, .bool fr, .bool fc]
def TT.cs (t : TT) : Array Value := tcs t.k t.n t.s t.b t.h t.r t.c t.fr t.fc
abbrev ba (l : List UInt8) : ByteArray := ⟨l.toArray⟩
abbrev noB : ByteArray := ⟨#[]⟩
def tk : Tk.Tok → TT
 | .inl n => ⟨1, n, noB, noB, noB, 0, 0, false, false⟩
 | .inr (.inl s) => ⟨2, 0, ba s, noB, noB, 0, 0, false, false⟩
 | .inr (.inr (.inl r)) => ⟨3, 0, noB, ba r.book, ba r.sheet, r.cell.row, r.cell.col, r.cell.fr, r.cell.fc⟩
 | .inr (.inr (.inr (.inl (b, s)))) => ⟨4, 0, ba s, ba b, noB, 0, 0, false, false⟩
 | .inr (.inr (.inr (.inr (.inl s)))) => ⟨5, 0, ba s, noB, noB, 0, 0, false, false⟩
 | .inr (.inr (.inr (.inr (.inr n)))) => ⟨6, n, noB, noB, noB, 0, 0, false, false⟩
abbrev tk0 : Array Value := tcs 0 0 noB noB noB 0 0 false false
theorem inf156 : (Tryz.prog.info? 156).map (·.size) = some 9 := by kernel_rfl
theorem inf188 : (Tryz.prog.info? 188).map (·.size) = some 9 := by kernel_rfl
theorem sto {w : World} {g : Nat} {t : TypeId} {zs es : Array Value} (hg : w.heap[g]? = some (.cells zs t (0, 0))) (hi : (Tryz.prog.info? t).map (·.size) = some es.size) (hz : zs.size = es.size) (h1 : es.all (·.oneCell') = true) :
  (Instr.storeAt t (.pointer (some ⟨g, 0, none⟩)) (.agg es)).run Tryz.prog w = .ok () (w.setRow g es) := by
 have hr := run_storeVar_row (P := Tryz.prog) w g t t zs es hg hi (by omega) h1
 simp only [Instr.storeAt, Instr.sureAddr, Sem.run_bind, Sem.run_pure, Result.andThen_ok, hr]
theorem lod {w : World} {g : Nat} {t : TypeId} {es : Array Value} {d : TypeDesc} {z : Nat × Nat} (hg : w.heap[g]? = some (.cells es t z)) (hd : (match d with | .struct _ | .array _ _ => true | _ => false) = true) (hu : Tryz.prog.underlying t = some d) (hi : (Tryz.prog.info? t).map (·.size) = some es.size) :
  (Instr.loadAt t (.pointer (some ⟨g, 0, none⟩))).run Tryz.prog w = .ok (.agg es) w := by
 have hr := run_loadVar_row (P := Tryz.prog) w g t t es z d hg hu (by cases d <;> simp_all) hi
 simp only [Instr.loadAt, Instr.sureAddr, Sem.run_bind, Sem.run_pure, Result.andThen_ok, hr]
theorem setRow_grown (w : World) (g : Nat) (es : Array Value) : w.grownBy (w.setRow g es) (some g) :=
 ⟨rfl, rfl, rfl, by simp [World.setRow], fun i _ hi => setRow_other w g i es (fun e => hi (by rw [e]))⟩
theorem wpList_load_run {P : Program} {ops : Array Oper} {rest : List Oper} {o : Oper} {a : Act} {w : World} {Q : Exit → Act → World → Prop} (hgd : o.guard = none) (ty : TypeId) (x : Operand) (ho : o.op = .load ty x)
  (p v : Value) (hx : a.eval x = p) (hrun : (Instr.loadAt ty p).run P w = .ok v w) (h : wpList P ops Q rest (a.put o.dst v) w) : wpList P ops Q (o :: rest) a w := by
 refine wpList_plain hgd fun K hK => ?_
 unfold Oper.wp execOp
 simp only [ho, hx, Sem.run_bind, Sem.run_pure, hrun, Result.andThen_ok]
 exact hK _ _ h
theorem wpList_store_run {P : Program} {ops : Array Oper} {rest : List Oper} {o : Oper} {a : Act} {w : World} {Q : Exit → Act → World → Prop} (hgd : o.guard = none) (ty : TypeId) (x y : Operand) (ho : o.op = .store ty x y)
  (p v : Value) (w' : World) (hx : a.eval x = p) (hy : a.eval y = v) (hrun : (Instr.storeAt ty p v).run P w = .ok () w') (h : wpList P ops Q rest (a.put o.dst undef) w') : wpList P ops Q (o :: rest) a w := by
 refine wpList_plain hgd fun K hK => ?_
 unfold Oper.wp execOp
 simp only [ho, hx, hy, Sem.run_bind, Sem.run_pure, hrun, Result.andThen_ok]
 exact hK _ _ h
theorem results2_row {fn : Func} {p u : Tmp} {ty : TypeId} (h : fn.results = #[.cell p ty, .tmp u]) {tmps : Array Value} {w : World} {g : Nat} {t : TypeId} {cs : Array Value} {fr : Nat × Nat} {d : TypeDesc} {v2 : Value}
  (hp : tmps.getD p undef = .pointer (some ⟨g, 0, none⟩)) (hg : w.heap[g]? = some (.cells cs t fr))
  (hd : (match d with | .struct _ | .array _ _ => true | _ => false) = true) (hu : Tryz.prog.underlying ty = some d) (hi : (Tryz.prog.info? ty).map (·.size) = some cs.size) (hv : tmps.getD u undef = v2) :
  (results fn tmps).run Tryz.prog w = .ok (.tuple #[.agg cs, v2]) w := by
 rw [results_cell_tmp h, hp, hv]
 simp [asAddr, run_loadVar_row w g t ty cs fr d hg hu (by cases d <;> simp_all) hi, Result.andThen]
abbrev chooseV : Value := .func (.func 149) #[] #[]
abbrev lexO (l : List UInt8) : Obj := .cells #[.string (ba l), chooseV] 184
structure Tab9 (w : World) : Prop where
 t : Tab8 w
 ops : ∀ i (h : i < 17), w.cell? ⟨0, i, none⟩ = some (.string (ba ((([[60, 62], [60, 61], [62, 61], [43], [45], [42], [47], [94], [38], [61], [60], [62], [37], [40], [41], [44], [58]] : List (List UInt8))[i]'h))))
 m : ∃ m, w.cell? ⟨2, 0, none⟩ = some (.int .i64 m)
theorem cell_bel {w w' : World} (hb : Below w.heap.size w w') {a : Addr} {v : Value} (h : w.cell? a = some v) : w'.cell? a = some v :=
 (World.cell?_of_block (hb.block _ (World.block_lt_of_cell? w a h))).trans h
theorem Tab9.below {w w' : World} (h : Tab9 w) (hb : Below w.heap.size w w') : Tab9 w' :=
 ⟨h.t.below hb, fun i hi => cell_bel hb (h.ops i hi), h.m.imp fun m hm => cell_bel hb hm⟩
structure LX (W : World) (b : Nat) (l : List UInt8) (w : World) : Prop where
 tab : Tab9 W
 bel : Below W.heap.size W w
 lo : W.heap.size ≤ b
 blk : w.heap[b]? = some (lexO l)
theorem LX.lt {W w : World} {b : Nat} {l : List UInt8} (h : LX W b l w) : b < w.heap.size := lt_of h.blk
theorem LX.t {W w : World} {b : Nat} {l : List UInt8} (h : LX W b l w) : Tab9 w := h.tab.below h.bel
theorem LX.cells {W w : World} {b : Nat} {l : List UInt8} (h : LX W b l w) : w.cell? ⟨b, 0, none⟩ = some (.string (ba l)) ∧ w.cell? ⟨b, 1, none⟩ = some chooseV ∧ w.frozen? ⟨b, 0, none⟩ = false := by
 simp [World.cell?, World.frozen?, h.blk]
theorem LX.grown {W w w' : World} {b : Nat} {l : List UInt8} (h : LX W b l w) {row : Option Nat} (hg : w.grownBy w' row) (hr : ∀ k, row = some k → W.heap.size ≤ k ∧ k ≠ b) : LX W b l w' :=
 ⟨h.tab, h.bel.grown hg h.bel.size (fun k hk => (hr k hk).1), h.lo, (hg.block b h.lt (fun e => (hr b e.symm).2 rfl)).trans h.blk⟩
theorem LX.below {W w w' : World} {b : Nat} {l : List UInt8} (h : LX W b l w) (hb : Below w.heap.size w w') : LX W b l w' :=
 ⟨h.tab, bel_step h.bel (hb), h.lo, (hb.block b h.lt).trans h.blk⟩
theorem LX.alloc {W w : World} {b : Nat} {l : List UInt8} (h : LX W b l w) (o : Obj) : LX W b l (w.alloc o) := h.below (bel_alloc (Below.refl _ _) o)
theorem LX.drew {W w : World} {b : Nat} {l : List UInt8} (h : LX W b l w) : LX W b l w.drew := ⟨h.tab, h.bel.drew, h.lo, h.blk⟩
theorem LX.set {W w : World} {b : Nat} {l : List UInt8} (h : LX W b l w) (m : List UInt8) : LX W b m (w.setCell ⟨b, 0, none⟩ (.string (ba m))) :=
 ⟨h.tab, h.bel.setCell h.lo _, h.lo, by simp [World.setCell, Array.getElem?_modify, h.blk]⟩
theorem grown_below {w w' : World} {row : Option Nat} (h : Below w.heap.size w w') : w.grownBy w' row := ⟨h.os, h.tape, h.output, h.size, fun i hi _ => h.block i hi⟩
theorem grown_trans {a w w' : World} {row : Option Nat} (h : a.grownBy w row) (k : w.grownBy w' row) : a.grownBy w' row := World.grownBy.trans h k
def St (W : World) (b : Nat) (l : List UInt8) (w w' : World) : Prop := LX W b l w' ∧ w.grownBy w' (some b)
theorem St.refl {W w : World} {b : Nat} {l : List UInt8} (h : LX W b l w) : St W b l w w := ⟨h, World.grownBy.refl _ _⟩
theorem St.step {W w w1 w2 : World} {b : Nat} {l m : List UInt8} (h : St W b l w w1) (k : St W b m w1 w2) : St W b m w w2 := ⟨k.1, grown_trans h.2 k.2⟩
theorem St.bel {W w w1 w2 : World} {b : Nat} {l : List UInt8} (h : St W b l w w1) (hb : Below w1.heap.size w1 w2) : St W b l w w2 := ⟨h.1.below hb, grown_trans h.2 (grown_below hb)⟩
theorem St.alloc {W w w1 : World} {b : Nat} {l : List UInt8} (h : St W b l w w1) (o : Obj) : St W b l w (w1.alloc o) := h.bel (bel_alloc (Below.refl _ _) o)
theorem St.drew {W w w1 : World} {b : Nat} {l : List UInt8} (h : St W b l w w1) : St W b l w w1.drew := ⟨h.1.drew, grown_trans h.2 ⟨rfl, rfl, rfl, Nat.le_refl _, fun _ _ _ => rfl⟩⟩
theorem St.set {W w w1 : World} {b : Nat} {l : List UInt8} (h : St W b l w w1) (m : List UInt8) : St W b m w (w1.setCell ⟨b, 0, none⟩ (.string (ba m))) := ⟨h.1.set m, grown_trans h.2 (Lib.grownBy_setCell _ _ _ _)⟩
theorem St.grown {W w w1 w2 : World} {b g : Nat} {l : List UInt8} (h : St W b l w w1) (hg : w1.grownBy w2 (some g)) (h1 : w.heap.size ≤ g) (h2 : b < w.heap.size) : St W b l w w2 :=
 ⟨h.1.grown hg (fun k hk => by cases hk; exact ⟨by have := h.1.lo; omega, by omega⟩), World.grownBy.andThen h.2 hg (fun j hj => by cases hj; exact .inl h1)⟩
theorem St.kept {W w w1 : World} {b : Nat} {l : List UInt8} (h : St W b l w w1) {i : Nat} {o : Obj} (hi : w.heap[i]? = some o) (hb : i ≠ b) : w1.heap[i]? = some o :=
 (h.2.block i (lt_of hi) (fun e => hb (Option.some.inj e))).trans hi
structure Asks (f : Nat) (p : UInt8 → Bool) (hi : Bool) : Prop where
 low : ∀ (c : UInt8) (u : World), c.toNat < 128 → Calls Tryz.prog f #[.int .i32 (c.toNat : Nat)] u fun e w' => e = .returned (.bool (p c)) ∧ w' = u
 high : ∀ (r : Nat) (u : World), 128 ≤ r → Calls Tryz.prog f #[.int .i32 (r : Nat)] u fun e w' => e = .returned (.bool hi) ∧ w' = u
 byte : ∀ c : UInt8, 128 ≤ c.toNat → p c = hi
theorem tdigit_any (n : Nat) (w : World) : Calls Tryz.prog 187 #[.int .i32 (n : Nat)] w fun e w' => e = .returned (.bool (decide (48 ≤ n) && decide (n ≤ 57))) ∧ w' = w := by
 go_enter Tryz.func187, Tryz.ntmps187
 go_wp2
 all_goals (go_ret; refine ⟨ret_bool ?_, rfl⟩; rw [Bool.eq_iff_iff]; simp; omega)
theorem tletter_any (n : Nat) (w : World) : Calls Tryz.prog 191 #[.int .i32 (n : Nat)] w fun e w' => e = .returned (.bool ((decide (65 ≤ n) && decide (n ≤ 90)) || (decide (97 ≤ n) && decide (n ≤ 122)))) ∧ w' = w := by
 go_enter Tryz.func191, Tryz.ntmps191
 go_wp2
 all_goals (go_ret; refine ⟨ret_bool ?_, rfl⟩; rw [Bool.eq_iff_iff]; simp; omega)
theorem tblank_any (n : Nat) (w : World) : Calls Tryz.prog 195 #[.int .i32 (n : Nat)] w fun e w' => e = .returned (.bool (decide (n = 32) || decide (n = 9))) ∧ w' = w := by
 go_enter Tryz.func195, Tryz.ntmps195
 go_wp2
 all_goals (go_ret; refine ⟨ret_bool ?_, rfl⟩; rw [Bool.eq_iff_iff]; simp; omega)
theorem tquote_any (n : Nat) (w : World) : Calls Tryz.prog 229 #[.int .i32 (n : Nat)] w fun e w' => e = .returned (.bool (!decide (n = 34))) ∧ w' = w := by
 go_enter Tryz.func229, Tryz.ntmps229
 go_wp2
 all_goals (go_ret; refine ⟨ret_bool ?_, rfl⟩; rw [Bool.eq_iff_iff]; simp; omega)
theorem tpoint_any (n : Nat) (w : World) : Calls Tryz.prog 227 #[.int .i32 (n : Nat)] w fun e w' => e = .returned (.bool ((decide (48 ≤ n) && decide (n ≤ 57)) || decide (n = 46))) ∧ w' = w := by
 have D := fun u => tdigit_any n u
 cases h : (decide (48 ≤ n) && decide (n ≤ 57))
 all_goals
  rw [h] at D
  go_enter Tryz.func227, Tryz.ntmps227
  go_wp2_with (go_at_call 187; refine (D _).mono ?_; rintro e w' ⟨rfl, hw⟩; obtain rfl := hw.symm; clear hw)
  all_goals (go_ret; refine ⟨ret_bool ?_, rfl⟩; rw [Bool.eq_iff_iff]; simp; try omega)
theorem trun_any (n : Nat) (w : World) : Calls Tryz.prog 231 #[.int .i32 (n : Nat)] w fun e w' => e = .returned (.bool ((((decide (65 ≤ n) && decide (n ≤ 90)) || (decide (97 ≤ n) && decide (n ≤ 122))) || (decide (48 ≤ n) && decide (n ≤ 57))) || decide (n = 95) || decide (n = 36))) ∧ w' = w := by
 have L := fun u => tletter_any n u
 have D := fun u => tdigit_any n u
 cases h : ((decide (65 ≤ n) && decide (n ≤ 90)) || (decide (97 ≤ n) && decide (n ≤ 122))) <;> cases k : (decide (48 ≤ n) && decide (n ≤ 57))
 all_goals
  rw [h] at L
  rw [k] at D
  go_enter Tryz.func231, Tryz.ntmps231
  go_wp2_with (first | (go_at_call 187; refine (D _).mono ?_; rintro e w' ⟨rfl, hw⟩; obtain rfl := hw.symm; clear hw) | (go_at_call 191; refine (L _).mono ?_; rintro e w' ⟨rfl, hw⟩; obtain rfl := hw.symm; clear hw))
  all_goals (go_ret; refine ⟨ret_bool ?_, rfl⟩; rw [Bool.eq_iff_iff]; simp; try omega)
theorem u8_eq (c : UInt8) (d : UInt8) : (c == d) = decide (c.toNat = d.toNat) := by
 rw [Bool.eq_iff_iff]; simp [← UInt8.toNat_inj]
theorem asks_blank : Asks 195 Tk.blank false := ⟨fun c u _ => by
  have := tblank_any c.toNat u
  rw [show (decide (c.toNat = 32) || decide (c.toNat = 9)) = Tk.blank c by unfold Tk.blank; rw [u8_eq, u8_eq]; rfl] at this
  exact this,
 fun r u h => by
  have := tblank_any r u
  rw [show (decide (r = 32) || decide (r = 9)) = false by simp; omega] at this
  exact this,
 fun c h => by unfold Tk.blank; rw [u8_eq, u8_eq]; simp; omega⟩
theorem asks_point : Asks 227 Tk.numC false := ⟨fun c u _ => by
  have := tpoint_any c.toNat u
  rw [show ((decide (48 ≤ c.toNat) && decide (c.toNat ≤ 57)) || decide (c.toNat = 46)) = Tk.numC c by unfold Tk.numC Ad.isD; rw [u8_eq]; rfl] at this
  exact this,
 fun r u h => by
  have := tpoint_any r u
  rw [show ((decide (48 ≤ r) && decide (r ≤ 57)) || decide (r = 46)) = false by simp; omega] at this
  exact this,
 fun c h => by unfold Tk.numC Ad.isD; rw [u8_eq]; simp; omega⟩
theorem asks_quote : Asks 229 (fun c => !(c == 34)) true := ⟨fun c u _ => by
  have := tquote_any c.toNat u
  rw [show (!decide (c.toNat = 34)) = !(c == 34) by rw [u8_eq]; rfl] at this
  exact this,
 fun r u h => by
  have := tquote_any r u
  rw [show (!decide (r = 34)) = true by simp; omega] at this
  exact this,
 fun c h => by rw [u8_eq]; simp; omega⟩
theorem asks_run : Asks 231 Tk.runC false := ⟨fun c u _ => by
  have := trun_any c.toNat u
  rw [show ((((decide (65 ≤ c.toNat) && decide (c.toNat ≤ 90)) || (decide (97 ≤ c.toNat) && decide (c.toNat ≤ 122))) || (decide (48 ≤ c.toNat) && decide (c.toNat ≤ 57))) || decide (c.toNat = 95) || decide (c.toNat = 36)) = Tk.runC c by unfold Tk.runC Ad.isD Ad.isL; rw [u8_eq, u8_eq, Bool.or_comm (decide (65 ≤ c.toNat) && decide (c.toNat ≤ 90))]; rfl] at this
  exact this,
 fun r u h => by
  have := trun_any r u
  rw [show ((((decide (65 ≤ r) && decide (r ≤ 90)) || (decide (97 ≤ r) && decide (r ≤ 122))) || (decide (48 ≤ r) && decide (r ≤ 57))) || decide (r = 95) || decide (r = 36)) = false by simp; omega] at this
  exact this,
 fun c h => by unfold Tk.runC Ad.isD Ad.isL; rw [u8_eq, u8_eq]; simp; omega⟩
end Go.Proofs.YtnibldnfbikipaaGreatDoor
