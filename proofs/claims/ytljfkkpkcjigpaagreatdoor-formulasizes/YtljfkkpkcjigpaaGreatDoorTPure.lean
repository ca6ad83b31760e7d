import Derived.Test.YtljfkkpkcjigpaaGreatDoorARParseRefQ
import Derived.Test.YtljfkkpkcjigpaaGreatDoorAMem
set_option linter.unusedVariables false
set_option linter.unusedSimpArgs false
/- ParseRef of the reference, for every text. -/
namespace Go.Proofs.YtljfkkpkcjigpaaGreatDoor
open Go.RowKit
set_option maxRecDepth 100000
set_option linter.unusedVariables false
set_option linter.unusedSimpArgs false
theorem idx_list (l : List UInt8) (c : UInt8) (hl : l.length ≤ 140737488355328) : CS 168 #[.string ⟨l.toArray⟩, .int .u8 (c.toNat : Nat)] (.int .i64 (idxF c l)) := fun u => ridx_any ⟨l.toArray⟩ c (by rw [size_mk]; omega) u
theorem idx_none {c : UInt8} {l : List UInt8} (h : Ad.at_ c l = none) : idxF c l = -1 := by unfold idxF; rw [h]
theorem idx_some {c : UInt8} {l a b : List UInt8} (h : Ad.at_ c l = some (a, b)) : idxF c l = (a.length : Nat) := by unfold idxF; rw [h]
theorem ext_take (a b : List UInt8) (c : UInt8) : (⟨(a ++ c :: b).toArray⟩ : ByteArray).extract 0 a.length = ⟨a.toArray⟩ ∧ (⟨(a ++ c :: b).toArray⟩ : ByteArray).extract (a.length + 1) (⟨(a ++ c :: b).toArray⟩ : ByteArray).size = ⟨b.toArray⟩ := by
  constructor
  · apply ByteArray.ext
    simp
  · apply ByteArray.ext
    rw [size_mk]
    simp
    exact List.take_of_length_le (by omega)
theorem gn_cb (l : List UInt8) (hl : l.length ≤ 140737488355328) (w : World) : CB w 100 #[.string ⟨l.toArray⟩] (.bool (gnF l)) := fun u hu => rgoodname_any ⟨l.toArray⟩ (by rw [size_mk]; omega) u
theorem rparseref_any (l : List UInt8) (hl : l.length ≤ 140737488355328) (w : World) :
    Calls Tryz.prog 129 #[.string ⟨l.toArray⟩] w fun e w' => e = .returned (.tuple #[refR (Ad.refP gnF l), .bool (Ad.refP gnF l).isSome]) ∧ Below w.heap.size w w' := by
  have plain : ∀ (hq : ((⟨l.toArray⟩ : ByteArray).size = 0) ∨ ∃ hz : 0 < (⟨l.toArray⟩ : ByteArray).size, (((⟨l.toArray⟩ : ByteArray)[0].toNat : Int) == 91) = false), Calls Tryz.prog 129 #[.string ⟨l.toArray⟩] w fun e w' => e = .returned (.tuple #[refR (Ad.sheetP gnF [] l), .bool (Ad.sheetP gnF [] l).isSome]) ∧ Below w.heap.size w w' := fun hq => by
    have IY := idx_list l 33 hl
    unfold Ad.sheetP
    cases h : Ad.at_ 33 l with
    | none =>
      rw [idx_none h] at IY
      have PC : CB w 130 #[.string ⟨l.toArray⟩] _ := fun u hu => rparsecell_any l hl u
      simp only
      cases hc : Ad.cellP l with
      | none => rw [hc] at PC; exact rr_cell_no hq IY PC
      | some c => rw [hc] at PC; exact rr_cell_yes hq IY PC
    | some p =>
      obtain ⟨a, x⟩ := p
      have e := (Ad.at_some h).1
      have hlen := at_some_len h
      rw [idx_some h] at IY
      obtain ⟨x1, x2⟩ := ext_take a x 33
      rw [← e] at x1 x2
      have GS := gn_cb a (by omega) w
      have PC : CB w 130 #[.string ⟨x.toArray⟩] _ := fun u hu => rparsecell_any x (by omega) u
      have q1 : a.length ≤ (⟨l.toArray⟩ : ByteArray).size := by rw [size_mk]; omega
      have q2 : a.length + 1 ≤ (⟨l.toArray⟩ : ByteArray).size := by rw [size_mk]; omega
      have q3 : (⟨l.toArray⟩ : ByteArray).size ≤ 9223372036854775807 := by rw [size_mk]; omega
      simp only
      cases hg : gnF a
      · rw [hg] at GS
        simp only [Bool.false_eq_true, if_false]
        exact rr_sheet_bad hq IY q1 rfl q2 q3 x1 x2 GS
      · rw [hg] at GS
        simp only [if_true]
        cases hc : Ad.cellP x with
        | none => rw [hc] at PC; exact rr_sheet_no hq IY q1 rfl q2 q3 x1 x2 GS PC
        | some c => rw [hc] at PC; exact rr_sheet_yes hq IY q1 rfl q2 q3 x1 x2 GS PC
  cases l with
  | nil => exact plain (.inl rfl)
  | cons c m =>
    have e0 : (⟨(c :: m).toArray⟩ : ByteArray)[0]'(by rw [size_mk]; simp) = c := rfl
    have hz : 0 < (⟨(c :: m).toArray⟩ : ByteArray).size := by rw [size_mk]; simp
    rcases ch_facts c 91 with ⟨h1, h2⟩ | ⟨h1, h2⟩
    · subst h1
      clear plain
      simp only [List.length_cons] at hl
      have IX := idx_list (91 :: m) 93 (by simp; omega)
      have e1 : Ad.refP gnF (91 :: m) = match Ad.at_ 93 m with
        | none => none
        | some (a, r) => if gnF a = true ∧ (Ad.at_ 33 r).isSome = true then Ad.sheetP gnF a r else none := rfl
      rw [e1]
      have e9 := at_cons_ne (c := 93) (x := 91) (r := m) (by decide)
      cases h9 : Ad.at_ 93 m with
      | none =>
        rw [h9] at e9
        rw [idx_none e9] at IX
        exact rr_noclose hz h2 IX
      | some p =>
        obtain ⟨a, r⟩ := p
        rw [h9] at e9
        rw [idx_some (a := 91 :: a) (b := r) e9] at IX
        have e := (Ad.at_some h9).1
        have hlen := at_some_len h9
        obtain ⟨x1, x2⟩ := ext_take (91 :: a) r 93
        have ex : (91 : UInt8) :: m = (91 :: a) ++ 93 :: r := by rw [e]; rfl
        rw [← ex] at x1 x2
        have q1 : (91 :: a).length ≤ (⟨(91 :: m).toArray⟩ : ByteArray).size := by rw [size_mk]; simp; omega
        have q2 : (91 :: a).length + 1 ≤ (⟨(91 :: m).toArray⟩ : ByteArray).size := by rw [size_mk]; simp; omega
        have q3 : (⟨(91 :: m).toArray⟩ : ByteArray).size ≤ 9223372036854775807 := by rw [size_mk]; simp; omega
        have hB : (⟨(91 :: m).toArray⟩ : ByteArray).extract 1 (91 :: a).length = ⟨a.toArray⟩ := by
          apply ByteArray.ext
          rw [e]
          simp
        have GB := gn_cb a (by omega) w
        simp only
        cases hg : gnF a
        · rw [hg] at GB
          simp only [Bool.false_eq_true, false_and, if_false]
          exact rr_badbook hz h2 IX (by simp) q1 hB GB
        · rw [hg] at GB
          simp only [true_and]
          have IY := idx_list r 33 (by omega)
          cases h3 : Ad.at_ 33 r with
          | none =>
            rw [idx_none h3] at IY
            rw [if_neg (by simp)]
            exact rr_nosheet hz h2 IX (by simp) q1 rfl q2 q3 hB x2 GB IY
          | some p =>
            obtain ⟨s, x⟩ := p
            rw [if_pos (by simp)]
            unfold Ad.sheetP
            rw [h3]
            have e3 := (Ad.at_some h3).1
            have hlen3 := at_some_len h3
            rw [idx_some h3] at IY
            obtain ⟨y1, y2⟩ := ext_take s x 33
            rw [← e3] at y1 y2
            have GS := gn_cb s (by omega) w
            have PC : CB w 130 #[.string ⟨x.toArray⟩] _ := fun u hu => rparsecell_any x (by omega) u
            have j1 : s.length ≤ (⟨r.toArray⟩ : ByteArray).size := by rw [size_mk]; omega
            have j2 : s.length + 1 ≤ (⟨r.toArray⟩ : ByteArray).size := by rw [size_mk]; omega
            have j3 : (⟨r.toArray⟩ : ByteArray).size ≤ 9223372036854775807 := by rw [size_mk]; omega
            simp only
            cases hg2 : gnF s
            · rw [hg2] at GS
              simp only [Bool.false_eq_true, if_false]
              exact rr_book_bad hz h2 IX (by simp) q1 rfl q2 q3 hB x2 GB IY j1 rfl j2 j3 y1 y2 GS
            · rw [hg2] at GS
              simp only [if_true]
              cases hc : Ad.cellP x with
              | none => rw [hc] at PC; exact rr_book_no hz h2 IX (by simp) q1 rfl q2 q3 hB x2 GB IY j1 rfl j2 j3 y1 y2 GS PC
              | some c => rw [hc] at PC; exact rr_book_yes hz h2 IX (by simp) q1 rfl q2 q3 hB x2 GB IY j1 rfl j2 j3 y1 y2 GS PC
    · rw [Ad.refP_plain (by simpa using h1)]
      exact plain (.inr ⟨hz, h2⟩)
end Go.Proofs.YtljfkkpkcjigpaaGreatDoor

/- Tokens of a formula's text, as Lean functions of lists of bytes; no walk, no program. -/
namespace Go.Tk
open Go.Ad
set_option linter.unusedVariables false

/-- Letters, digits, _ and $. -/
def runC (c : UInt8) : Bool := isL c || isD c || c == 95 || c == 36
/-- Digits and points. -/
def numC (c : UInt8) : Bool := isD c || c == 46
/-- A token: a number, a text, a ref, a word behind its book, an operator, an error. -/
abbrev Tok := Sum Int (Sum (List UInt8) (Sum Ref (Sum (List UInt8 × List UInt8) (Sum (List UInt8) Nat))))
abbrev Tok.num (n : Int) : Tok := .inl n
abbrev Tok.str (s : List UInt8) : Tok := .inr (.inl s)
abbrev Tok.ref (r : Ref) : Tok := .inr (.inr (.inl r))
abbrev Tok.word (b s : List UInt8) : Tok := .inr (.inr (.inr (.inl (b, s))))
abbrev Tok.op (s : List UInt8) : Tok := .inr (.inr (.inr (.inr (.inl s))))
abbrev Tok.bad (n : Nat) : Tok := .inr (.inr (.inr (.inr (.inr n))))
theorem Tok.cs {motive : Tok → Prop} (num : ∀ n, motive (Tok.num n)) (str : ∀ s, motive (Tok.str s)) (ref : ∀ r, motive (Tok.ref r)) (word : ∀ b s, motive (Tok.word b s)) (op : ∀ s, motive (Tok.op s)) (bad : ∀ n, motive (Tok.bad n)) (t : Tok) : motive t := by
  rcases t with n | s | r | ⟨b, s⟩ | s | n
  · exact num n
  · exact str s
  · exact ref r
  · exact word b s
  · exact op s
  · exact bad n
/-- What stands in quotes, behind the first one, and what comes behind the last one. -/
def quoF : List UInt8 → Option (List UInt8 × List UInt8)
  | [] => none
  | [c] => if c = 34 then some ([], []) else none
  | c :: d :: r => if c = 34 then (if d = 34 then (quoF r).map fun p => (34 :: p.1, p.2) else some ([], d :: r)) else (quoF (d :: r)).map fun p => (c :: p.1, p.2)
def quoW : List UInt8 → List UInt8
  | [] => [34]
  | c :: r => if c = 34 then 34 :: 34 :: quoW r else c :: quoW r
/-- The names of the eight errors. -/
def errN : Nat → List UInt8
  | 1 => [35, 68, 73, 86, 47, 48, 33]
  | 2 => [35, 86, 65, 76, 85, 69, 33]
  | 3 => [35, 82, 69, 70, 33]
  | 4 => [35, 78, 65, 77, 69, 63]
  | 5 => [35, 78, 85, 77, 33]
  | 6 => [35, 78, 47, 65]
  | 7 => [35, 67, 89, 67, 76, 69, 33]
  | 8 => [35, 76, 73, 78, 75, 33]
  | _ => []
def badF (l : List UInt8) : Option (Tok × List UInt8) := ([1, 2, 3, 4, 5, 6, 7, 8].find? fun i => (errN i).isPrefixOf l).map fun i => (.bad i, l.drop (errN i).length)
def ones : List UInt8 := [43, 45, 42, 47, 94, 38, 61, 60, 62, 37, 40, 41, 44, 58]
def two (c d : UInt8) : Bool := (c == 60 && d == 62) || (c == 60 && d == 61) || (c == 62 && d == 61)
def opF : List UInt8 → Option (Tok × List UInt8)
  | [] => none
  | [c] => if c ∈ ones then some (.op [c], []) else none
  | c :: d :: r => if two c d = true then some (.op [c, d], r) else if c ∈ ones then some (.op [c], d :: r) else none
section
variable (gn tru : List UInt8 → Bool) (pn : List UInt8 → Option Int) (wn : Int → List UInt8)
/-- A ref or a word, behind its book b; pre is how the book was written. -/
def tailN (b pre l : List UInt8) : Option (Tok × List UInt8) :=
  match l.dropWhile runC with
  | 33 :: r => (refP gn (pre ++ l.takeWhile runC ++ 33 :: r.takeWhile runC)).map fun x => (.ref x, r.dropWhile runC)
  | r => if b = [] then (match cellP (l.takeWhile runC) with
      | some c => some (.ref ⟨[], [], c⟩, r)
      | none => if gn (l.takeWhile runC) = true ∨ tru (l.takeWhile runC) = true then some (.word [] (l.takeWhile runC), r) else none)
    else if gn (l.takeWhile runC) = true then some (.word b (l.takeWhile runC), r) else none
def named (l : List UInt8) : Option (Tok × List UInt8) :=
  match l with
  | 91 :: m => match at_ 93 m with
    | none => none
    | some (a, r) => if gn a = true then tailN gn tru a (91 :: (a ++ [93])) r else none
  | l => tailN gn tru [] [] l
/-- The token that a text begins with, and what comes behind it. -/
def one (l : List UInt8) : Option (Tok × List UInt8) :=
  match l with
  | [] => none
  | c :: r =>
    if isD c = true then (pn ((c :: r).takeWhile numC)).map fun n => (.num n, (c :: r).dropWhile numC)
    else if c = 34 then (quoF r).map fun p => (.str p.1, p.2)
    else if c = 35 then badF (c :: r)
    else if c = 91 ∨ c = 36 ∨ isL c = true then named gn tru (c :: r)
    else opF (c :: r)
def blank (c : UInt8) : Bool := c == 32 || c == 9
def lexN : Nat → List UInt8 → Option (List Tok)
  | 0, _ => none
  | _ + 1, [] => some []
  | k + 1, c :: r => if blank c = true then lexN k r else match one gn tru pn (c :: r) with
    | none => none
    | some (t, m) => (lexN k m).map (t :: ·)
/-- A token's text. -/
def text : Tok → List UInt8
  | .inl n => wn n
  | .inr (.inl s) => 34 :: quoW s
  | .inr (.inr (.inl r)) => refW r
  | .inr (.inr (.inr (.inl (b, s)))) => if b = [] then s else 91 :: (b ++ 93 :: s)
  | .inr (.inr (.inr (.inr (.inl s)))) => s
  | .inr (.inr (.inr (.inr (.inr n)))) => errN n
end
/-! ### What comes behind is less -/
theorem quo_len : ∀ (k : Nat) (l s r : List UInt8), l.length ≤ k → quoF l = some (s, r) → r.length < l.length
  | 0, l, s, r, hk, h => by
    have : l = [] := List.eq_nil_of_length_eq_zero (by omega)
    subst this; cases h
  | k + 1, [], s, r, hk, h => by cases h
  | k + 1, [c], s, r, hk, h => by
    unfold quoF at h
    split at h
    · cases h; simp
    · cases h
  | k + 1, c :: d :: l, s, r, hk, h => by
    unfold quoF at h
    simp only [List.length_cons] at hk ⊢
    split at h
    · split at h
      · cases hq : quoF l with
        | none => rw [hq] at h; cases h
        | some p =>
          rw [hq] at h
          cases h
          have := quo_len k l p.1 p.2 (by omega) hq
          omega
      · cases h; simp
    · cases hq : quoF (d :: l) with
      | none => rw [hq] at h; cases h
      | some p =>
        rw [hq] at h
        cases h
        have := quo_len k (d :: l) p.1 p.2 (by simp only [List.length_cons]; omega) hq
        simp only [List.length_cons] at this
        omega
theorem drop_le (p : UInt8 → Bool) : ∀ l : List UInt8, (l.dropWhile p).length ≤ l.length
  | [] => Nat.le_refl _
  | c :: r => by
    rw [List.dropWhile_cons]
    split
    · have := drop_le p r; simp only [List.length_cons]; omega
    · exact Nat.le_refl _
theorem drop_lt (p : UInt8 → Bool) {c : UInt8} {r : List UInt8} (h : p c = true) : ((c :: r).dropWhile p).length < (c :: r).length := by
  rw [List.dropWhile_cons, if_pos h]
  have := drop_le p r
  simp only [List.length_cons]; omega
theorem bad_len {l : List UInt8} {t : Tok} {r : List UInt8} (h : badF l = some (t, r)) : r.length < l.length := by
  unfold badF at h
  cases hf : [1, 2, 3, 4, 5, 6, 7, 8].find? fun i => (errN i).isPrefixOf l with
  | none => rw [hf] at h; cases h
  | some i =>
    rw [hf] at h
    cases h
    have h1 := List.find?_some hf
    have h2 := List.mem_of_find?_eq_some hf
    have h3 : 0 < (errN i).length ∧ (errN i).length ≤ l.length := by
      have := List.IsPrefix.length_le (List.isPrefixOf_iff_prefix.1 h1)
      refine ⟨?_, this⟩
      simp only [List.mem_cons, List.not_mem_nil, or_false] at h2
      rcases h2 with rfl | rfl | rfl | rfl | rfl | rfl | rfl | rfl <;> decide
    rw [List.length_drop]
    omega
theorem op_len {l : List UInt8} {t : Tok} {r : List UInt8} (h : opF l = some (t, r)) : r.length < l.length := by
  match l, h with
  | [], h => cases h
  | [c], h =>
    simp only [opF] at h
    split at h
    · cases h; simp
    · cases h
  | c :: d :: m, h =>
    simp only [opF] at h
    split at h
    · cases h; simp; omega
    · split at h
      · cases h; simp
      · cases h
theorem tail_len {gn tru : List UInt8 → Bool} {b pre l : List UInt8} {t : Tok} {r : List UInt8} (h : tailN gn tru b pre l = some (t, r)) : r.length ≤ l.length := by
  have hd := drop_le runC l
  unfold tailN at h
  split at h
  · rename_i m hm
    rw [hm] at hd
    cases hr : refP gn (pre ++ l.takeWhile runC ++ 33 :: m.takeWhile runC) with
    | none => rw [hr] at h; cases h
    | some x =>
      rw [hr] at h
      cases h
      have := drop_le runC m
      simp only [List.length_cons] at hd
      omega
  · split at h
    · split at h
      · cases h; exact hd
      · split at h
        · cases h; exact hd
        · cases h
    · split at h
      · cases h; exact hd
      · cases h
/-! ### A token's text is read as the token -/
/-- What is asked of names, truths and numbers. -/
structure Ways (gn tru : List UInt8 → Bool) (pn : List UInt8 → Option Int) (wn : Int → List UInt8) (okN : Int → Prop) : Prop where
  names : Names gn
  first : ∀ c r, gn (c :: r) = true → isL c = true
  signs : ∀ l, gn l = true → ∀ x ∈ l, runC x = true
  nocell : ∀ l, gn l = true → cellP l = none
  truth : ∀ l, tru l = true → l ≠ [] ∧ (∀ x ∈ l, isL x = true) ∧ cellP l = none
  number : ∀ n, okN n → pn (wn n) = some n ∧ (∃ c r, wn n = c :: r ∧ isD c = true) ∧ ∀ x ∈ wn n, numC x = true
section
variable (gn tru : List UInt8 → Bool) (okN : Int → Prop)
/-- A token that may be. -/
def okT : Tok → Prop
  | .inl n => okN n
  | .inr (.inl _) => True
  | .inr (.inr (.inl r)) => goodR gn r
  | .inr (.inr (.inr (.inl (b, s)))) => (b = [] ∧ (gn s = true ∨ tru s = true)) ∨ (gn b = true ∧ gn s = true)
  | .inr (.inr (.inr (.inr (.inl s)))) => (∃ c, c ∈ ones ∧ s = [c]) ∨ (∃ c d, two c d = true ∧ s = [c, d])
  | .inr (.inr (.inr (.inr (.inr n)))) => 1 ≤ n ∧ n ≤ 8
end
/-- What may come directly behind a token. -/
def stops : Tok → List UInt8 → Prop
  | .inl _, r => ∀ c, r.head? = some c → numC c = false
  | .inr (.inl _), r => r.head? ≠ some 34
  | .inr (.inr (.inl _)), r => ∀ c, r.head? = some c → runC c = false ∧ c ≠ 33
  | .inr (.inr (.inr (.inl (_, _)))), r => ∀ c, r.head? = some c → runC c = false ∧ c ≠ 33
  | .inr (.inr (.inr (.inr (.inl [c])))), r => ∀ d, r.head? = some d → two c d = false
  | .inr (.inr (.inr (.inr (.inl _)))), _ => True
  | .inr (.inr (.inr (.inr (.inr _)))), _ => True
theorem while_app {p : UInt8 → Bool} : ∀ {w r : List UInt8}, (∀ x ∈ w, p x = true) → (∀ c, r.head? = some c → p c = false) → (w ++ r).takeWhile p = w ∧ (w ++ r).dropWhile p = r
  | [], r, _, hr => by
    cases r with
    | nil => exact ⟨rfl, rfl⟩
    | cons c r => simp [hr c rfl]
  | x :: w, r, hw, hr => by
    obtain ⟨h1, h2⟩ := while_app (w := w) (fun y hy => hw y (List.mem_cons_of_mem _ hy)) hr
    rw [List.cons_append, List.takeWhile_cons, List.dropWhile_cons, if_pos (hw x (List.mem_cons_self ..)), if_pos (hw x (List.mem_cons_self ..)), h1, h2]
    exact ⟨rfl, rfl⟩
theorem quo_back : ∀ (s r : List UInt8), r.head? ≠ some 34 → quoF (quoW s ++ r) = some (s, r)
  | [], r, h => by
    cases r with
    | nil => rfl
    | cons c r =>
      have hc : c ≠ 34 := fun e => h (by rw [e]; rfl)
      show quoF (34 :: c :: r) = _
      unfold quoF
      rw [if_pos rfl, if_neg hc]
  | c :: s, r, h => by
    have ih := quo_back s r h
    unfold quoW
    by_cases hc : c = 34
    · rw [if_pos hc]
      subst hc
      show quoF (34 :: 34 :: (quoW s ++ r)) = _
      unfold quoF
      rw [if_pos rfl, if_pos rfl, ih]
      rfl
    · rw [if_neg hc]
      show quoF (c :: (quoW s ++ r)) = _
      cases hq : quoW s ++ r with
      | nil => rw [hq] at ih; cases ih
      | cons d m =>
        rw [hq] at ih
        unfold quoF
        rw [if_neg hc, ih]
        rfl
theorem bad_back {n : Nat} (h1 : 1 ≤ n) (h2 : n ≤ 8) (r : List UInt8) : badF (errN n ++ r) = some (.bad n, r) := by
  have h : n = 1 ∨ n = 2 ∨ n = 3 ∨ n = 4 ∨ n = 5 ∨ n = 6 ∨ n = 7 ∨ n = 8 := by omega
  rcases h with rfl | rfl | rfl | rfl | rfl | rfl | rfl | rfl <;> rfl
theorem isL_run {c : UInt8} (h : isL c = true) : runC c = true := by unfold runC; rw [h]; rfl
theorem isD_run {c : UInt8} (h : isD c = true) : runC c = true := by unfold runC; rw [h]; simp
theorem isL_notD {c : UInt8} (h : isL c = true) : isD c = false ∧ c ≠ 34 ∧ c ≠ 35 ∧ c ≠ 91 := by
  unfold isL at h
  simp only [Bool.or_eq_true, Bool.and_eq_true, decide_eq_true_eq] at h
  refine ⟨?_, ?_, ?_, ?_⟩
  · unfold isD; rw [Bool.and_eq_false_iff, decide_eq_false_iff_not, decide_eq_false_iff_not]; omega
  · rintro rfl; revert h; decide
  · rintro rfl; revert h; decide
  · rintro rfl; revert h; decide
theorem cell_run {c : Cell} (h : inF c) : ∀ x ∈ cellW c, runC x = true := fun x hx => by
  rcases cell_signs h x hx with rfl | h | h
  · decide
  · exact isD_run h
  · exact isL_run h
section
variable {gn tru : List UInt8 → Bool} {pn : List UInt8 → Option Int} {wn : Int → List UInt8} {okN : Int → Prop}
theorem tail_plain {b pre w r : List UInt8} (hw : ∀ x ∈ w, runC x = true) (hr : ∀ c, r.head? = some c → runC c = false ∧ c ≠ 33) :
    tailN gn tru b pre (w ++ r) = if b = [] then (match cellP w with
      | some c => some (.ref ⟨[], [], c⟩, r)
      | none => if gn w = true ∨ tru w = true then some (.word [] w, r) else none)
    else if gn w = true then some (.word b w, r) else none := by
  obtain ⟨h1, h2⟩ := while_app hw fun c hc => (hr c hc).1
  unfold tailN
  rw [h1, h2]
  split
  · exact absurd rfl (hr 33 rfl).2
  · rfl
theorem tail_sheet {b pre w v r : List UInt8} (hw : ∀ x ∈ w, runC x = true) (hv : ∀ x ∈ v, runC x = true) (hr : ∀ c, r.head? = some c → runC c = false ∧ c ≠ 33) :
    tailN gn tru b pre (w ++ 33 :: (v ++ r)) = (refP gn (pre ++ w ++ 33 :: v)).map fun x => (.ref x, r) := by
  obtain ⟨h1, h2⟩ := while_app (p := runC) (w := w) (r := 33 :: (v ++ r)) hw fun c hc => by
    simp only [List.head?_cons, Option.some.injEq] at hc
    rw [← hc]; decide
  obtain ⟨h3, h4⟩ := while_app hv fun c hc => (hr c hc).1
  unfold tailN
  rw [h1, h2]
  simp only
  rw [h3, h4]
theorem one_named {c : UInt8} {r : List UInt8} (h : c = 36 ∨ isL c = true) : one gn tru pn (c :: r) = tailN gn tru [] [] (c :: r) := by
  have hd : isD c = false ∧ c ≠ 34 ∧ c ≠ 35 ∧ c ≠ 91 := by
    rcases h with rfl | h
    · decide
    · exact isL_notD h
  unfold one
  simp only
  rw [if_neg (by rw [hd.1]; decide), if_neg hd.2.1, if_neg hd.2.2.1, if_pos (.inr h)]
  unfold named
  split
  · rename_i m he
    simp only [List.cons.injEq] at he
    exact absurd he.1 hd.2.2.2
  · rfl
theorem one_book (W : Ways gn tru pn wn okN) {b l : List UInt8} (hb : gn b = true) : one gn tru pn (91 :: (b ++ 93 :: l)) = tailN gn tru b (91 :: (b ++ [93])) l := by
  unfold one
  simp only
  rw [if_neg (by decide), if_neg (by decide), if_neg (by decide), if_pos (.inl trivial)]
  unfold named
  simp only
  rw [at_app _ fun x hx => ((W.names b hb).2 x hx).2.2]
  simp only
  rw [if_pos hb]
theorem one_op {c : UInt8} {r : List UInt8} (hc : c ∈ ones) : one gn tru pn (c :: r) = opF (c :: r) := by
  have h : isD c = false ∧ c ≠ 34 ∧ c ≠ 35 ∧ ¬ (c = 91 ∨ c = 36 ∨ isL c = true) := by
    unfold ones at hc
    simp only [List.mem_cons, List.not_mem_nil, or_false] at hc
    rcases hc with rfl | rfl | rfl | rfl | rfl | rfl | rfl | rfl | rfl | rfl | rfl | rfl | rfl | rfl <;> decide
  unfold one
  simp only
  rw [if_neg (by rw [h.1]; decide), if_neg h.2.1, if_neg h.2.2.1, if_neg h.2.2.2]
/-- A token's text, and then what may come behind it, is read as the token. -/
theorem one_back (W : Ways gn tru pn wn okN) : ∀ (t : Tok) (r : List UInt8), okT gn tru okN t → stops t r → one gn tru pn (text wn t ++ r) = some (t, r)
  | .inl n, r, ht, hs => by
    obtain ⟨h1, ⟨c, m, h2, h3⟩, h4⟩ := W.number n ht
    obtain ⟨h5, h6⟩ := while_app (p := numC) (r := r) h4 hs
    show one gn tru pn (wn n ++ r) = _
    rw [h2] at h5 h6 ⊢
    rw [List.cons_append] at h5 h6 ⊢
    unfold one
    simp only
    rw [if_pos h3, h5, h6, ← h2, h1]
    rfl
  | .inr (.inl s), r, ht, hs => by
    show one gn tru pn (34 :: (quoW s ++ r)) = _
    unfold one
    simp only
    rw [if_neg (by decide), if_pos trivial, quo_back s r hs]
    rfl
  | .inr (.inr (.inl x)), r, ht, hs => by
    have hb := ref_back W.names ht
    obtain ⟨book, sheet, c⟩ := x
    obtain ⟨hc, hsh, hbk⟩ := ht
    dsimp only at hc hsh hbk
    have e : text wn (.ref ⟨book, sheet, c⟩) = refW ⟨book, sheet, c⟩ := rfl
    rw [e]
    by_cases e1 : sheet = []
    · have e2 : book = [] := by
        rcases hbk with h | ⟨_, h⟩
        · exact h
        · exact absurd e1 h
      subst e1 e2
      have ew : refW ⟨[], [], c⟩ = cellW c := rfl
      rw [ew]
      cases hw : cellW c with
      | nil => exact absurd hw cell_ne
      | cons y q =>
        have hy : y = 36 ∨ isL y = true := by
          unfold cellW at hw
          by_cases hf : c.fc = true
          · rw [if_pos hf] at hw
            simp only [List.singleton_append, List.cons.injEq] at hw
            exact .inl hw.1.symm
          · rw [if_neg hf] at hw
            simp only [List.nil_append, List.cons.injEq] at hw
            exact .inr (hw.1 ▸ (colC_L hc.2.2.1 hc.2.2.2).1)
        rw [List.cons_append, one_named hy, ← List.cons_append, ← hw, tail_plain (cell_run hc) hs, if_pos rfl, cell_back hc]
    · have hg := hsh.resolve_left e1
      obtain ⟨y, q, hy⟩ : ∃ y q, sheet = y :: q := by
        cases sheet with
        | nil => exact absurd rfl e1
        | cons y q => exact ⟨y, q, rfl⟩
      by_cases e2 : book = []
      · subst e2
        have ew : refW ⟨[], sheet, c⟩ = sheet ++ 33 :: cellW c := by
          unfold refW
          simp only [if_true, List.nil_append, if_neg e1, List.append_assoc, List.singleton_append]
        rw [ew] at hb ⊢
        have hL := W.first y q (hy ▸ hg)
        have : one gn tru pn (sheet ++ 33 :: cellW c ++ r) = tailN gn tru [] [] (sheet ++ 33 :: (cellW c ++ r)) := by
          rw [hy, List.append_assoc, List.cons_append, one_named (.inr hL)]
          rfl
        rw [this, tail_sheet (W.signs sheet hg) (cell_run hc) hs, List.nil_append, hb]
        rfl
      · have hg2 := (hbk.resolve_left e2).1
        have ew : refW ⟨book, sheet, c⟩ = 91 :: (book ++ 93 :: (sheet ++ 33 :: cellW c)) := by
          unfold refW
          simp only [if_neg e1, if_neg e2, List.append_assoc, List.nil_append, List.cons_append]
        rw [ew] at hb ⊢
        have : one gn tru pn (91 :: (book ++ 93 :: (sheet ++ 33 :: cellW c)) ++ r) = tailN gn tru book (91 :: (book ++ [93])) (sheet ++ 33 :: (cellW c ++ r)) := by
          rw [List.cons_append, List.append_assoc, List.cons_append, one_book W hg2, List.append_assoc]
          rfl
        rw [this, tail_sheet (W.signs sheet hg) (cell_run hc) hs]
        have e3 : 91 :: (book ++ [93]) ++ sheet ++ 33 :: cellW c = 91 :: (book ++ 93 :: (sheet ++ 33 :: cellW c)) := by
          simp only [List.cons_append, List.append_assoc, List.nil_append]
        rw [e3, hb]
        rfl
  | .inr (.inr (.inr (.inl (b, s)))), r, ht, hs => by
    rcases ht with ⟨rfl, hg⟩ | ⟨hb, hg⟩
    · have e : text wn (.word [] s) = s := rfl
      rw [e]
      have hf : (∃ c q, s = c :: q ∧ isL c = true) ∧ (∀ x ∈ s, runC x = true) ∧ cellP s = none := by
        rcases hg with hg | hg
        · obtain ⟨hne, _⟩ := W.names s hg
          cases s with
          | nil => exact absurd rfl hne
          | cons c q => exact ⟨⟨c, q, rfl, W.first c q hg⟩, W.signs _ hg, W.nocell _ hg⟩
        · obtain ⟨hne, h1, h2⟩ := W.truth s hg
          cases s with
          | nil => exact absurd rfl hne
          | cons c q => exact ⟨⟨c, q, rfl, h1 c (List.mem_cons_self ..)⟩, fun x hx => isL_run (h1 x hx), h2⟩
      obtain ⟨⟨c, q, rfl, hL⟩, hw, hc⟩ := hf
      rw [List.cons_append, one_named (.inr hL), ← List.cons_append, tail_plain hw hs, if_pos rfl, hc]
      simp only
      rw [if_pos hg]
    · have hne := (W.names b hb).1
      have e : text wn (.word b s) = 91 :: (b ++ 93 :: s) := if_neg hne
      rw [e, List.cons_append, List.append_assoc, List.cons_append, one_book W hb, tail_plain (W.signs s hg) hs, if_neg hne, if_pos hg]
  | .inr (.inr (.inr (.inr (.inl s)))), r, ht, hs => by
    rcases ht with ⟨c, hc, rfl⟩ | ⟨c, d, h2, rfl⟩
    · show one gn tru pn (c :: r) = _
      rw [one_op hc]
      cases r with
      | nil => simp only [opF]; rw [if_pos hc]
      | cons d m =>
        have : two c d = false := hs d rfl
        simp only [opF]
        rw [if_neg (by rw [this]; decide), if_pos hc]
    · show one gn tru pn (c :: d :: r) = _
      have hc : c ∈ ones := by
        unfold two at h2
        simp only [Bool.or_eq_true, Bool.and_eq_true, beq_iff_eq] at h2
        rcases h2 with (⟨rfl, _⟩ | ⟨rfl, _⟩) | ⟨rfl, _⟩ <;> decide
      rw [one_op hc]
      simp only [opF]
      rw [if_pos h2]
  | .inr (.inr (.inr (.inr (.inr n)))), r, ht, hs => by
    have hh : ∃ q, errN n = 35 :: q := by
      obtain ⟨h1, h2⟩ := ht
      have h : n = 1 ∨ n = 2 ∨ n = 3 ∨ n = 4 ∨ n = 5 ∨ n = 6 ∨ n = 7 ∨ n = 8 := by omega
      rcases h with rfl | rfl | rfl | rfl | rfl | rfl | rfl | rfl <;> exact ⟨_, rfl⟩
    obtain ⟨q, hq⟩ := hh
    have hb := bad_back ht.1 ht.2 r
    show one gn tru pn (errN n ++ r) = _
    rw [hq] at hb ⊢
    rw [List.cons_append] at hb ⊢
    unfold one
    simp only
    rw [if_neg (by decide), if_neg (by decide), if_pos trivial, hb]
end
end Go.Tk
