/- TPure, TMem. -/
import Derived.Test.YtljfkkpkcjigpaaGreatDoorNLoopa
import Derived.Test.YtljfkkpkcjigpaaGreatDoorARParseRef2a
import Derived.Deep.WholeRow
import Derived.Deep.MidRow
import Derived.Laws.Rows
import Derived.Laws.ResultCell
import Derived.Laws.EntriesVeiled
import Derived.Lib.BufferOwn
import Derived.Maps.AppendAt
import Derived.Maps.Range
set_option linter.unusedVariables false
set_option linter.unusedSimpArgs false
namespace Go.Tk
open Go.Ad

def runC (c : UInt8) : Bool := isL c || isD c || c == 95 || c == 36
def numC (c : UInt8) : Bool := isD c || c == 46
abbrev Tok := Sum Int (Sum (List UInt8) (Sum Ref (Sum (List UInt8 × List UInt8) (Sum (List UInt8) Nat))))
abbrev Tok.num (n : Int) : Tok := .inl n
abbrev Tok.str (s : List UInt8) : Tok := .inr (.inl s)
abbrev Tok.ref (r : Ref) : Tok := .inr (.inr (.inl r))
abbrev Tok.word (b s : List UInt8) : Tok := .inr (.inr (.inr (.inl (b, s))))
abbrev Tok.op (s : List UInt8) : Tok := .inr (.inr (.inr (.inr (.inl s))))
abbrev Tok.bad (n : Nat) : Tok := .inr (.inr (.inr (.inr (.inr n))))
theorem Tok.cs {motive : Tok → Prop} (num : ∀ n, motive (Tok.num n)) (str : ∀ s, motive (Tok.str s)) (ref : ∀ r, motive (Tok.ref r)) (word : ∀ b s, motive (Tok.word b s)) (op : ∀ s, motive (Tok.op s)) (bad : ∀ n, motive (Tok.bad n)) (t : Tok) : motive t := by
  rcases t with n | s | r | ⟨b, s⟩ | s | n
  · exact num n
  · exact str s
  · exact ref r
  · exact word b s
  · exact op s
  · exact bad n
def quoF : List UInt8 → Option (List UInt8 × List UInt8)
  | [] => none
  | [c] => if c = 34 then some ([], []) else none
  | c :: d :: r => if c = 34 then (if d = 34 then (quoF r).map fun p => (34 :: p.1, p.2) else some ([], d :: r)) else (quoF (d :: r)).map fun p => (c :: p.1, p.2)
def quoW : List UInt8 → List UInt8
  | [] => [34]
  | c :: r => if c = 34 then 34 :: 34 :: quoW r else c :: quoW r
def errN : Nat → List UInt8
  | 1 => [35, 68, 73, 86, 47, 48, 33]
  | 2 => [35, 86, 65, 76, 85, 69, 33]
  | 3 => [35, 82, 69, 70, 33]
  | 4 => [35, 78, 65, 77, 69, 63]
  | 5 => [35, 78, 85, 77, 33]
  | 6 => [35, 78, 47, 65]
  | 7 => [35, 67, 89, 67, 76, 69, 33]
  | 8 => [35, 76, 73, 78, 75, 33]
  | _ => []
def badF (l : List UInt8) : Option (Tok × List UInt8) := ([1, 2, 3, 4, 5, 6, 7, 8].find? fun i => (errN i).isPrefixOf l).map fun i => (.bad i, l.drop (errN i).length)
def ones : List UInt8 := [43, 45, 42, 47, 94, 38, 61, 60, 62, 37, 40, 41, 44, 58]
def two (c d : UInt8) : Bool := (c == 60 && d == 62) || (c == 60 && d == 61) || (c == 62 && d == 61)
def opF : List UInt8 → Option (Tok × List UInt8)
  | [] => none
  | [c] => if c ∈ ones then some (.op [c], []) else none
  | c :: d :: r => if two c d = true then some (.op [c, d], r) else if c ∈ ones then some (.op [c], d :: r) else none
section
variable (gn tru : List UInt8 → Bool) (pn : List UInt8 → Option Int) (wn : Int → List UInt8)
def tailN (b pre l : List UInt8) : Option (Tok × List UInt8) :=
  match l.dropWhile runC with
  | 33 :: r => (refP gn (pre ++ l.takeWhile runC ++ 33 :: r.takeWhile runC)).map fun x => (.ref x, r.dropWhile runC)
  | r => if b = [] then (match cellP (l.takeWhile runC) with
      | some c => some (.ref ⟨[], [], c⟩, r)
      | none => if gn (l.takeWhile runC) = true ∨ tru (l.takeWhile runC) = true then some (.word [] (l.takeWhile runC), r) else none)
    else if gn (l.takeWhile runC) = true then some (.word b (l.takeWhile runC), r) else none
def named (l : List UInt8) : Option (Tok × List UInt8) :=
  match l with
  | 91 :: m => match at_ 93 m with
    | none => none
    | some (a, r) => if gn a = true then tailN gn tru a (91 :: (a ++ [93])) r else none
  | l => tailN gn tru [] [] l
def one (l : List UInt8) : Option (Tok × List UInt8) :=
  match l with
  | [] => none
  | c :: r =>
    if isD c = true then (pn ((c :: r).takeWhile numC)).map fun n => (.num n, (c :: r).dropWhile numC)
    else if c = 34 then (quoF r).map fun p => (.str p.1, p.2)
    else if c = 35 then badF (c :: r)
    else if c = 91 ∨ c = 36 ∨ isL c = true then named gn tru (c :: r)
    else opF (c :: r)
def blank (c : UInt8) : Bool := c == 32 || c == 9
def lexN : Nat → List UInt8 → Option (List Tok)
  | 0, _ => none
  | _ + 1, [] => some []
  | k + 1, c :: r => if blank c = true then lexN k r else match one gn tru pn (c :: r) with
    | none => none
    | some (t, m) => (lexN k m).map (t :: ·)
def text : Tok → List UInt8
  | .inl n => wn n
  | .inr (.inl s) => 34 :: quoW s
  | .inr (.inr (.inl r)) => refW r
  | .inr (.inr (.inr (.inl (b, s)))) => if b = [] then s else 91 :: (b ++ 93 :: s)
  | .inr (.inr (.inr (.inr (.inl s)))) => s
  | .inr (.inr (.inr (.inr (.inr n)))) => errN n
end
theorem quo_len : ∀ (k : Nat) (l s r : List UInt8), l.length ≤ k → quoF l = some (s, r) → r.length < l.length
  | 0, l, s, r, hk, h => by
    have : l = [] := List.eq_nil_of_length_eq_zero (by omega)
    subst this; cases h
  | k + 1, [], s, r, hk, h => by cases h
  | k + 1, [c], s, r, hk, h => by
    unfold quoF at h
    split at h
    · cases h; simp
    · cases h
  | k + 1, c :: d :: l, s, r, hk, h => by
    unfold quoF at h
    simp only [List.length_cons] at hk ⊢
    split at h
    · split at h
      · cases hq : quoF l with
        | none => rw [hq] at h; cases h
        | some p =>
          rw [hq] at h
          cases h
          have := quo_len k l p.1 p.2 (by omega) hq
          omega
      · cases h; simp
    · cases hq : quoF (d :: l) with
      | none => rw [hq] at h; cases h
      | some p =>
        rw [hq] at h
        cases h
        have := quo_len k (d :: l) p.1 p.2 (by simp only [List.length_cons]; omega) hq
        simp only [List.length_cons] at this
        omega
theorem drop_le (p : UInt8 → Bool) : ∀ l : List UInt8, (l.dropWhile p).length ≤ l.length
  | [] => Nat.le_refl _
  | c :: r => by
    rw [List.dropWhile_cons]
    split
    · have := drop_le p r; simp only [List.length_cons]; omega
    · exact Nat.le_refl _
theorem drop_lt (p : UInt8 → Bool) {c : UInt8} {r : List UInt8} (h : p c = true) : ((c :: r).dropWhile p).length < (c :: r).length := by
  rw [List.dropWhile_cons, if_pos h]
  have := drop_le p r
  simp only [List.length_cons]; omega
theorem bad_len {l : List UInt8} {t : Tok} {r : List UInt8} (h : badF l = some (t, r)) : r.length < l.length := by
  unfold badF at h
  cases hf : [1, 2, 3, 4, 5, 6, 7, 8].find? fun i => (errN i).isPrefixOf l with
  | none => rw [hf] at h; cases h
  | some i =>
    rw [hf] at h
    cases h
    have h1 := List.find?_some hf
    have h2 := List.mem_of_find?_eq_some hf
    have h3 : 0 < (errN i).length ∧ (errN i).length ≤ l.length := by
      have := List.IsPrefix.length_le (List.isPrefixOf_iff_prefix.1 h1)
      refine ⟨?_, this⟩
      simp only [List.mem_cons, List.not_mem_nil, or_false] at h2
      rcases h2 with rfl | rfl | rfl | rfl | rfl | rfl | rfl | rfl <;> decide
    rw [List.length_drop]
    omega
theorem op_len {l : List UInt8} {t : Tok} {r : List UInt8} (h : opF l = some (t, r)) : r.length < l.length := by
  match l, h with
  | [], h => cases h
  | [c], h =>
    simp only [opF] at h
    split at h
    · cases h; simp
    · cases h
  | c :: d :: m, h =>
    simp only [opF] at h
    split at h
    · cases h; simp; omega
    · split at h
      · cases h; simp
      · cases h
theorem tail_len {gn tru : List UInt8 → Bool} {b pre l : List UInt8} {t : Tok} {r : List UInt8} (h : tailN gn tru b pre l = some (t, r)) : r.length ≤ l.length := by
  have hd := drop_le runC l
  unfold tailN at h
  split at h
  · rename_i m hm
    rw [hm] at hd
    cases hr : refP gn (pre ++ l.takeWhile runC ++ 33 :: m.takeWhile runC) with
    | none => rw [hr] at h; cases h
    | some x =>
      rw [hr] at h
      cases h
      have := drop_le runC m
      simp only [List.length_cons] at hd
      omega
  · split at h
    · split at h
      · cases h; exact hd
      · split at h
        · cases h; exact hd
        · cases h
    · split at h
      · cases h; exact hd
      · cases h
structure Ways (gn tru : List UInt8 → Bool) (pn : List UInt8 → Option Int) (wn : Int → List UInt8) (okN : Int → Prop) : Prop where
  names : Names gn
  first : ∀ c r, gn (c :: r) = true → isL c = true
  signs : ∀ l, gn l = true → ∀ x ∈ l, runC x = true
  nocell : ∀ l, gn l = true → cellP l = none
  truth : ∀ l, tru l = true → l ≠ [] ∧ (∀ x ∈ l, isL x = true) ∧ cellP l = none
  number : ∀ n, okN n → pn (wn n) = some n ∧ (∃ c r, wn n = c :: r ∧ isD c = true) ∧ ∀ x ∈ wn n, numC x = true
section
variable (gn tru : List UInt8 → Bool) (okN : Int → Prop)
def okT : Tok → Prop
  | .inl n => okN n
  | .inr (.inl _) => True
  | .inr (.inr (.inl r)) => goodR gn r
  | .inr (.inr (.inr (.inl (b, s)))) => (b = [] ∧ (gn s = true ∨ tru s = true)) ∨ (gn b = true ∧ gn s = true)
  | .inr (.inr (.inr (.inr (.inl s)))) => (∃ c, c ∈ ones ∧ s = [c]) ∨ (∃ c d, two c d = true ∧ s = [c, d])
  | .inr (.inr (.inr (.inr (.inr n)))) => 1 ≤ n ∧ n ≤ 8
end
def stops : Tok → List UInt8 → Prop
  | .inl _, r => ∀ c, r.head? = some c → numC c = false
  | .inr (.inl _), r => r.head? ≠ some 34
  | .inr (.inr (.inl _)), r => ∀ c, r.head? = some c → runC c = false ∧ c ≠ 33
  | .inr (.inr (.inr (.inl (_, _)))), r => ∀ c, r.head? = some c → runC c = false ∧ c ≠ 33
  | .inr (.inr (.inr (.inr (.inl [c])))), r => ∀ d, r.head? = some d → two c d = false
  | .inr (.inr (.inr (.inr (.inl _)))), _ => True
  | .inr (.inr (.inr (.inr (.inr _)))), _ => True
theorem while_app {p : UInt8 → Bool} : ∀ {w r : List UInt8}, (∀ x ∈ w, p x = true) → (∀ c, r.head? = some c → p c = false) → (w ++ r).takeWhile p = w ∧ (w ++ r).dropWhile p = r
  | [], r, _, hr => by
    cases r with
    | nil => exact ⟨rfl, rfl⟩
    | cons c r => simp [hr c rfl]
  | x :: w, r, hw, hr => by
    obtain ⟨h1, h2⟩ := while_app (w := w) (fun y hy => hw y (List.mem_cons_of_mem _ hy)) hr
    rw [List.cons_append, List.takeWhile_cons, List.dropWhile_cons, if_pos (hw x (List.mem_cons_self ..)), if_pos (hw x (List.mem_cons_self ..)), h1, h2]
    exact ⟨rfl, rfl⟩
theorem quo_back : ∀ (s r : List UInt8), r.head? ≠ some 34 → quoF (quoW s ++ r) = some (s, r)
  | [], r, h => by
    cases r with
    | nil => rfl
    | cons c r =>
      have hc : c ≠ 34 := fun e => h (by rw [e]; rfl)
      show quoF (34 :: c :: r) = _
      unfold quoF
      rw [if_pos rfl, if_neg hc]
  | c :: s, r, h => by
    have ih := quo_back s r h
    unfold quoW
    by_cases hc : c = 34
    · rw [if_pos hc]
      subst hc
      show quoF (34 :: 34 :: (quoW s ++ r)) = _
      unfold quoF
      rw [if_pos rfl, if_pos rfl, ih]
      rfl
    · rw [if_neg hc]
      show quoF (c :: (quoW s ++ r)) = _
      cases hq : quoW s ++ r with
      | nil => rw [hq] at ih; cases ih
      | cons d m =>
        rw [hq] at ih
        unfold quoF
        rw [if_neg hc, ih]
        rfl
theorem bad_back {n : Nat} (h1 : 1 ≤ n) (h2 : n ≤ 8) (r : List UInt8) : badF (errN n ++ r) = some (.bad n, r) := by
  have h : n = 1 ∨ n = 2 ∨ n = 3 ∨ n = 4 ∨ n = 5 ∨ n = 6 ∨ n = 7 ∨ n = 8 := by omega
  rcases h with rfl | rfl | rfl | rfl | rfl | rfl | rfl | rfl <;> rfl
theorem isL_run {c : UInt8} (h : isL c = true) : runC c = true := by unfold runC; rw [h]; rfl
theorem isD_run {c : UInt8} (h : isD c = true) : runC c = true := by unfold runC; rw [h]; simp
theorem isL_notD {c : UInt8} (h : isL c = true) : isD c = false ∧ c ≠ 34 ∧ c ≠ 35 ∧ c ≠ 91 := by
  unfold isL at h
  simp only [Bool.or_eq_true, Bool.and_eq_true, decide_eq_true_eq] at h
  refine ⟨?_, ?_, ?_, ?_⟩
  · unfold isD; rw [Bool.and_eq_false_iff, decide_eq_false_iff_not, decide_eq_false_iff_not]; omega
  · rintro rfl; revert h; decide
  · rintro rfl; revert h; decide
  · rintro rfl; revert h; decide
theorem cell_run {c : Cell} (h : inF c) : ∀ x ∈ cellW c, runC x = true := fun x hx => by
  rcases cell_signs h x hx with rfl | h | h
  · decide
  · exact isD_run h
  · exact isL_run h
section
variable {gn tru : List UInt8 → Bool} {pn : List UInt8 → Option Int} {wn : Int → List UInt8} {okN : Int → Prop}
theorem tail_plain {b pre w r : List UInt8} (hw : ∀ x ∈ w, runC x = true) (hr : ∀ c, r.head? = some c → runC c = false ∧ c ≠ 33) :
    tailN gn tru b pre (w ++ r) = if b = [] then (match cellP w with
      | some c => some (.ref ⟨[], [], c⟩, r)
      | none => if gn w = true ∨ tru w = true then some (.word [] w, r) else none)
    else if gn w = true then some (.word b w, r) else none := by
  obtain ⟨h1, h2⟩ := while_app hw fun c hc => (hr c hc).1
  unfold tailN
  rw [h1, h2]
  split
  · exact absurd rfl (hr 33 rfl).2
  · rfl
theorem tail_sheet {b pre w v r : List UInt8} (hw : ∀ x ∈ w, runC x = true) (hv : ∀ x ∈ v, runC x = true) (hr : ∀ c, r.head? = some c → runC c = false ∧ c ≠ 33) :
    tailN gn tru b pre (w ++ 33 :: (v ++ r)) = (refP gn (pre ++ w ++ 33 :: v)).map fun x => (.ref x, r) := by
  obtain ⟨h1, h2⟩ := while_app (p := runC) (w := w) (r := 33 :: (v ++ r)) hw fun c hc => by
    simp only [List.head?_cons, Option.some.injEq] at hc
    rw [← hc]; decide
  obtain ⟨h3, h4⟩ := while_app hv fun c hc => (hr c hc).1
  unfold tailN
  rw [h1, h2]
  simp only
  rw [h3, h4]
theorem one_named {c : UInt8} {r : List UInt8} (h : c = 36 ∨ isL c = true) : one gn tru pn (c :: r) = tailN gn tru [] [] (c :: r) := by
  have hd : isD c = false ∧ c ≠ 34 ∧ c ≠ 35 ∧ c ≠ 91 := by
    rcases h with rfl | h
    · decide
    · exact isL_notD h
  unfold one
  simp only
  rw [if_neg (by rw [hd.1]; decide), if_neg hd.2.1, if_neg hd.2.2.1, if_pos (.inr h)]
  unfold named
  split
  · rename_i m he
    simp only [List.cons.injEq] at he
    exact absurd he.1 hd.2.2.2
  · rfl
theorem one_book (W : Ways gn tru pn wn okN) {b l : List UInt8} (hb : gn b = true) : one gn tru pn (91 :: (b ++ 93 :: l)) = tailN gn tru b (91 :: (b ++ [93])) l := by
  unfold one
  simp only
  rw [if_neg (by decide), if_neg (by decide), if_neg (by decide), if_pos (.inl trivial)]
  unfold named
  simp only
  rw [at_app _ fun x hx => ((W.names b hb).2 x hx).2.2]
  simp only
  rw [if_pos hb]
theorem one_op {c : UInt8} {r : List UInt8} (hc : c ∈ ones) : one gn tru pn (c :: r) = opF (c :: r) := by
  have h : isD c = false ∧ c ≠ 34 ∧ c ≠ 35 ∧ ¬ (c = 91 ∨ c = 36 ∨ isL c = true) := by
    unfold ones at hc
    simp only [List.mem_cons, List.not_mem_nil, or_false] at hc
    rcases hc with rfl | rfl | rfl | rfl | rfl | rfl | rfl | rfl | rfl | rfl | rfl | rfl | rfl | rfl <;> decide
  unfold one
  simp only
  rw [if_neg (by rw [h.1]; decide), if_neg h.2.1, if_neg h.2.2.1, if_neg h.2.2.2]
theorem one_back (W : Ways gn tru pn wn okN) : ∀ (t : Tok) (r : List UInt8), okT gn tru okN t → stops t r → one gn tru pn (text wn t ++ r) = some (t, r)
  | .inl n, r, ht, hs => by
    obtain ⟨h1, ⟨c, m, h2, h3⟩, h4⟩ := W.number n ht
    obtain ⟨h5, h6⟩ := while_app (p := numC) (r := r) h4 hs
    show one gn tru pn (wn n ++ r) = _
    rw [h2] at h5 h6 ⊢
    rw [List.cons_append] at h5 h6 ⊢
    unfold one
    simp only
    rw [if_pos h3, h5, h6, ← h2, h1]
    rfl
  | .inr (.inl s), r, ht, hs => by
    show one gn tru pn (34 :: (quoW s ++ r)) = _
    unfold one
    simp only
    rw [if_neg (by decide), if_pos trivial, quo_back s r hs]
    rfl
  | .inr (.inr (.inl x)), r, ht, hs => by
    have hb := ref_back W.names ht
    obtain ⟨book, sheet, c⟩ := x
    obtain ⟨hc, hsh, hbk⟩ := ht
    dsimp only at hc hsh hbk
    have e : text wn (.ref ⟨book, sheet, c⟩) = refW ⟨book, sheet, c⟩ := rfl
    rw [e]
    by_cases e1 : sheet = []
    · have e2 : book = [] := by
        rcases hbk with h | ⟨_, h⟩
        · exact h
        · exact absurd e1 h
      subst e1 e2
      have ew : refW ⟨[], [], c⟩ = cellW c := rfl
      rw [ew]
      cases hw : cellW c with
      | nil => exact absurd hw cell_ne
      | cons y q =>
        have hy : y = 36 ∨ isL y = true := by
          unfold cellW at hw
          by_cases hf : c.fc = true
          · rw [if_pos hf] at hw
            simp only [List.singleton_append, List.cons.injEq] at hw
            exact .inl hw.1.symm
          · rw [if_neg hf] at hw
            simp only [List.nil_append, List.cons.injEq] at hw
            exact .inr (hw.1 ▸ (colC_L hc.2.2.1 hc.2.2.2).1)
        rw [List.cons_append, one_named hy, ← List.cons_append, ← hw, tail_plain (cell_run hc) hs, if_pos rfl, cell_back hc]
    · have hg := hsh.resolve_left e1
      obtain ⟨y, q, hy⟩ : ∃ y q, sheet = y :: q := by
        cases sheet with
        | nil => exact absurd rfl e1
        | cons y q => exact ⟨y, q, rfl⟩
      by_cases e2 : book = []
      · subst e2
        have ew : refW ⟨[], sheet, c⟩ = sheet ++ 33 :: cellW c := by
          unfold refW
          simp only [if_true, List.nil_append, if_neg e1, List.append_assoc, List.singleton_append]
        rw [ew] at hb ⊢
        have hL := W.first y q (hy ▸ hg)
        have : one gn tru pn (sheet ++ 33 :: cellW c ++ r) = tailN gn tru [] [] (sheet ++ 33 :: (cellW c ++ r)) := by
          rw [hy, List.append_assoc, List.cons_append, one_named (.inr hL)]
          rfl
        rw [this, tail_sheet (W.signs sheet hg) (cell_run hc) hs, List.nil_append, hb]
        rfl
      · have hg2 := (hbk.resolve_left e2).1
        have ew : refW ⟨book, sheet, c⟩ = 91 :: (book ++ 93 :: (sheet ++ 33 :: cellW c)) := by
          unfold refW
          simp only [if_neg e1, if_neg e2, List.append_assoc, List.nil_append, List.cons_append]
        rw [ew] at hb ⊢
        have : one gn tru pn (91 :: (book ++ 93 :: (sheet ++ 33 :: cellW c)) ++ r) = tailN gn tru book (91 :: (book ++ [93])) (sheet ++ 33 :: (cellW c ++ r)) := by
          rw [List.cons_append, List.append_assoc, List.cons_append, one_book W hg2, List.append_assoc]
          rfl
        rw [this, tail_sheet (W.signs sheet hg) (cell_run hc) hs]
        have e3 : 91 :: (book ++ [93]) ++ sheet ++ 33 :: cellW c = 91 :: (book ++ 93 :: (sheet ++ 33 :: cellW c)) := by
          simp only [List.cons_append, List.append_assoc, List.nil_append]
        rw [e3, hb]
        rfl
  | .inr (.inr (.inr (.inl (b, s)))), r, ht, hs => by
    rcases ht with ⟨rfl, hg⟩ | ⟨hb, hg⟩
    · have e : text wn (.word [] s) = s := rfl
      rw [e]
      have hf : (∃ c q, s = c :: q ∧ isL c = true) ∧ (∀ x ∈ s, runC x = true) ∧ cellP s = none := by
        rcases hg with hg | hg
        · obtain ⟨hne, _⟩ := W.names s hg
          cases s with
          | nil => exact absurd rfl hne
          | cons c q => exact ⟨⟨c, q, rfl, W.first c q hg⟩, W.signs _ hg, W.nocell _ hg⟩
        · obtain ⟨hne, h1, h2⟩ := W.truth s hg
          cases s with
          | nil => exact absurd rfl hne
          | cons c q => exact ⟨⟨c, q, rfl, h1 c (List.mem_cons_self ..)⟩, fun x hx => isL_run (h1 x hx), h2⟩
      obtain ⟨⟨c, q, rfl, hL⟩, hw, hc⟩ := hf
      rw [List.cons_append, one_named (.inr hL), ← List.cons_append, tail_plain hw hs, if_pos rfl, hc]
      simp only
      rw [if_pos hg]
    · have hne := (W.names b hb).1
      have e : text wn (.word b s) = 91 :: (b ++ 93 :: s) := if_neg hne
      rw [e, List.cons_append, List.append_assoc, List.cons_append, one_book W hb, tail_plain (W.signs s hg) hs, if_neg hne, if_pos hg]
  | .inr (.inr (.inr (.inr (.inl s)))), r, ht, hs => by
    rcases ht with ⟨c, hc, rfl⟩ | ⟨c, d, h2, rfl⟩
    · show one gn tru pn (c :: r) = _
      rw [one_op hc]
      cases r with
      | nil => simp only [opF]; rw [if_pos hc]
      | cons d m =>
        have : two c d = false := hs d rfl
        simp only [opF]
        rw [if_neg (by rw [this]; decide), if_pos hc]
    · show one gn tru pn (c :: d :: r) = _
      have hc : c ∈ ones := by
        unfold two at h2
        simp only [Bool.or_eq_true, Bool.and_eq_true, beq_iff_eq] at h2
        rcases h2 with (⟨rfl, _⟩ | ⟨rfl, _⟩) | ⟨rfl, _⟩ <;> decide
      rw [one_op hc]
      simp only [opF]
      rw [if_pos h2]
  | .inr (.inr (.inr (.inr (.inr n)))), r, ht, hs => by
    have hh : ∃ q, errN n = 35 :: q := by
      obtain ⟨h1, h2⟩ := ht
      have h : n = 1 ∨ n = 2 ∨ n = 3 ∨ n = 4 ∨ n = 5 ∨ n = 6 ∨ n = 7 ∨ n = 8 := by omega
      rcases h with rfl | rfl | rfl | rfl | rfl | rfl | rfl | rfl <;> exact ⟨_, rfl⟩
    obtain ⟨q, hq⟩ := hh
    have hb := bad_back ht.1 ht.2 r
    show one gn tru pn (errN n ++ r) = _
    rw [hq] at hb ⊢
    rw [List.cons_append] at hb ⊢
    unfold one
    simp only
    rw [if_neg (by decide), if_neg (by decide), if_pos trivial, hb]
end
end Go.Tk

namespace Go.Proofs.YtljfkkpkcjigpaaGreatDoor
open Go.RowKit
set_option maxRecDepth 100000
structure TT where
  k : Int
  n : Int
  s : ByteArray
  b : ByteArray
  h : ByteArray
  r : Int
  c : Int
  fr : Bool
  fc : Bool
abbrev tcs (k n : Int) (s b h : ByteArray) (r c : Int) (fr fc : Bool) : Array Value := #[.int .i64 k, .int .i64 n, .string s, .string b, .string h, .int .i64 r, .int .i64 c, .bool fr, .bool fc]
def TT.cs (t : TT) : Array Value := tcs t.k t.n t.s t.b t.h t.r t.c t.fr t.fc
abbrev ba (l : List UInt8) : ByteArray := ⟨l.toArray⟩
abbrev noB : ByteArray := ⟨#[]⟩
def tk : Tk.Tok → TT
  | .inl n => ⟨1, n, noB, noB, noB, 0, 0, false, false⟩
  | .inr (.inl s) => ⟨2, 0, ba s, noB, noB, 0, 0, false, false⟩
  | .inr (.inr (.inl r)) => ⟨3, 0, noB, ba r.book, ba r.sheet, r.cell.row, r.cell.col, r.cell.fr, r.cell.fc⟩
  | .inr (.inr (.inr (.inl (b, s)))) => ⟨4, 0, ba s, ba b, noB, 0, 0, false, false⟩
  | .inr (.inr (.inr (.inr (.inl s)))) => ⟨5, 0, ba s, noB, noB, 0, 0, false, false⟩
  | .inr (.inr (.inr (.inr (.inr n)))) => ⟨6, n, noB, noB, noB, 0, 0, false, false⟩
abbrev tk0 : Array Value := tcs 0 0 noB noB noB 0 0 false false
theorem inf70 : (Tryz.prog.info? 70).map (·.size) = some 9 := by kernel_rfl
theorem sto {w : World} {g : Nat} {t : TypeId} {zs es : Array Value} (hg : w.heap[g]? = some (.cells zs t (0, 0))) (hi : (Tryz.prog.info? t).map (·.size) = some es.size) (hz : zs.size = es.size) (h1 : es.all (·.oneCell') = true) :
    (Instr.storeAt t (.pointer (some ⟨g, 0, none⟩)) (.agg es)).run Tryz.prog w = .ok () (w.setRow g es) := by
  have hr := run_storeVar_row (P := Tryz.prog) w g t t zs es hg hi (by omega) h1
  simp only [Instr.storeAt, Instr.sureAddr, Sem.run_bind, Sem.run_pure, Result.andThen_ok, hr]
theorem lod {w : World} {g : Nat} {t : TypeId} {es : Array Value} {d : TypeDesc} {z : Nat × Nat} (hg : w.heap[g]? = some (.cells es t z)) (hd : (match d with | .struct _ | .array _ _ => true | _ => false) = true) (hu : Tryz.prog.underlying t = some d) (hi : (Tryz.prog.info? t).map (·.size) = some es.size) :
    (Instr.loadAt t (.pointer (some ⟨g, 0, none⟩))).run Tryz.prog w = .ok (.agg es) w := by
  have hr := run_loadVar_row (P := Tryz.prog) w g t t es z d hg hu (by cases d <;> simp_all) hi
  simp only [Instr.loadAt, Instr.sureAddr, Sem.run_bind, Sem.run_pure, Result.andThen_ok, hr]
theorem setRow_grown (w : World) (g : Nat) (es : Array Value) : w.grownBy (w.setRow g es) (some g) :=
  ⟨rfl, rfl, rfl, by simp [World.setRow], fun i _ hi => setRow_other w g i es (fun e => hi (by rw [e]))⟩
theorem wpList_load_run {P : Program} {ops : Array Oper} {rest : List Oper} {o : Oper} {a : Act} {w : World} {Q : Exit → Act → World → Prop} (hgd : o.guard = none) (ty : TypeId) (x : Operand) (ho : o.op = .load ty x)
    (p v : Value) (hx : a.eval x = p) (hrun : (Instr.loadAt ty p).run P w = .ok v w) (h : wpList P ops Q rest (a.put o.dst v) w) : wpList P ops Q (o :: rest) a w := by
  refine wpList_plain hgd fun K hK => ?_
  unfold Oper.wp execOp
  simp only [ho, hx, Sem.run_bind, Sem.run_pure, hrun, Result.andThen_ok]
  exact hK _ _ h
theorem wpList_store_run {P : Program} {ops : Array Oper} {rest : List Oper} {o : Oper} {a : Act} {w : World} {Q : Exit → Act → World → Prop} (hgd : o.guard = none) (ty : TypeId) (x y : Operand) (ho : o.op = .store ty x y)
    (p v : Value) (w' : World) (hx : a.eval x = p) (hy : a.eval y = v) (hrun : (Instr.storeAt ty p v).run P w = .ok () w') (h : wpList P ops Q rest (a.put o.dst undef) w') : wpList P ops Q (o :: rest) a w := by
  refine wpList_plain hgd fun K hK => ?_
  unfold Oper.wp execOp
  simp only [ho, hx, hy, Sem.run_bind, Sem.run_pure, hrun, Result.andThen_ok]
  exact hK _ _ h
theorem results2_row {fn : Func} {p u : Tmp} {ty : TypeId} (h : fn.results = #[.cell p ty, .tmp u]) {tmps : Array Value} {w : World} {g : Nat} {t : TypeId} {cs : Array Value} {fr : Nat × Nat} {d : TypeDesc} {v2 : Value}
    (hp : tmps.getD p undef = .pointer (some ⟨g, 0, none⟩)) (hg : w.heap[g]? = some (.cells cs t fr))
    (hd : (match d with | .struct _ | .array _ _ => true | _ => false) = true) (hu : Tryz.prog.underlying ty = some d) (hi : (Tryz.prog.info? ty).map (·.size) = some cs.size) (hv : tmps.getD u undef = v2) :
    (results fn tmps).run Tryz.prog w = .ok (.tuple #[.agg cs, v2]) w := by
  rw [results_cell_tmp h, hp, hv]
  simp [asAddr, run_loadVar_row w g t ty cs fr d hg hu (by cases d <;> simp_all) hi, Result.andThen]
abbrev chooseV : Value := .func (.func 39) #[] #[]
abbrev lexO (l : List UInt8) : Obj := .cells #[.string (ba l), chooseV] 68
structure Tab9 (w : World) : Prop where
  t : Tab8 w
  ops : ∀ i (h : i < 17), w.cell? ⟨0, i, none⟩ = some (.string (ba ((([[60, 62], [60, 61], [62, 61], [43], [45], [42], [47], [94], [38], [61], [60], [62], [37], [40], [41], [44], [58]] : List (List UInt8))[i]'h))))
  m : ∃ m, w.cell? ⟨2, 0, none⟩ = some (.int .i64 m)
theorem cell_bel {w w' : World} (hb : Below w.heap.size w w') {a : Addr} {v : Value} (h : w.cell? a = some v) : w'.cell? a = some v :=
  (World.cell?_of_block (hb.block _ (World.block_lt_of_cell? w a h))).trans h
theorem Tab9.below {w w' : World} (h : Tab9 w) (hb : Below w.heap.size w w') : Tab9 w' :=
  ⟨h.t.below hb, fun i hi => cell_bel hb (h.ops i hi), h.m.imp fun m hm => cell_bel hb hm⟩
structure LX (W : World) (b : Nat) (l : List UInt8) (w : World) : Prop where
  tab : Tab9 W
  bel : Below W.heap.size W w
  lo : W.heap.size ≤ b
  blk : w.heap[b]? = some (lexO l)
theorem LX.lt {W w : World} {b : Nat} {l : List UInt8} (h : LX W b l w) : b < w.heap.size := lt_of h.blk
theorem LX.t {W w : World} {b : Nat} {l : List UInt8} (h : LX W b l w) : Tab9 w := h.tab.below h.bel
theorem LX.cells {W w : World} {b : Nat} {l : List UInt8} (h : LX W b l w) : w.cell? ⟨b, 0, none⟩ = some (.string (ba l)) ∧ w.cell? ⟨b, 1, none⟩ = some chooseV ∧ w.frozen? ⟨b, 0, none⟩ = false := by
  simp [World.cell?, World.frozen?, h.blk]
theorem LX.grown {W w w' : World} {b : Nat} {l : List UInt8} (h : LX W b l w) {row : Option Nat} (hg : w.grownBy w' row) (hr : ∀ k, row = some k → W.heap.size ≤ k ∧ k ≠ b) : LX W b l w' :=
  ⟨h.tab, h.bel.grown hg h.bel.size (fun k hk => (hr k hk).1), h.lo, (hg.block b h.lt (fun e => (hr b e.symm).2 rfl)).trans h.blk⟩
theorem LX.below {W w w' : World} {b : Nat} {l : List UInt8} (h : LX W b l w) (hb : Below w.heap.size w w') : LX W b l w' :=
  ⟨h.tab, bel_step h.bel (hb), h.lo, (hb.block b h.lt).trans h.blk⟩
theorem LX.alloc {W w : World} {b : Nat} {l : List UInt8} (h : LX W b l w) (o : Obj) : LX W b l (w.alloc o) := h.below (bel_alloc (Below.refl _ _) o)
theorem LX.drew {W w : World} {b : Nat} {l : List UInt8} (h : LX W b l w) : LX W b l w.drew := ⟨h.tab, h.bel.drew, h.lo, h.blk⟩
theorem LX.set {W w : World} {b : Nat} {l : List UInt8} (h : LX W b l w) (m : List UInt8) : LX W b m (w.setCell ⟨b, 0, none⟩ (.string (ba m))) :=
  ⟨h.tab, h.bel.setCell h.lo _, h.lo, by simp [World.setCell, Array.getElem?_modify, h.blk]⟩
theorem grown_below {w w' : World} {row : Option Nat} (h : Below w.heap.size w w') : w.grownBy w' row := ⟨h.os, h.tape, h.output, h.size, fun i hi _ => h.block i hi⟩
theorem grown_trans {a w w' : World} {row : Option Nat} (h : a.grownBy w row) (k : w.grownBy w' row) : a.grownBy w' row := World.grownBy.trans h k
def St (W : World) (b : Nat) (l : List UInt8) (w w' : World) : Prop := LX W b l w' ∧ w.grownBy w' (some b)
theorem St.refl {W w : World} {b : Nat} {l : List UInt8} (h : LX W b l w) : St W b l w w := ⟨h, World.grownBy.refl _ _⟩
theorem St.step {W w w1 w2 : World} {b : Nat} {l m : List UInt8} (h : St W b l w w1) (k : St W b m w1 w2) : St W b m w w2 := ⟨k.1, grown_trans h.2 k.2⟩
theorem St.bel {W w w1 w2 : World} {b : Nat} {l : List UInt8} (h : St W b l w w1) (hb : Below w1.heap.size w1 w2) : St W b l w w2 := ⟨h.1.below hb, grown_trans h.2 (grown_below hb)⟩
theorem St.alloc {W w w1 : World} {b : Nat} {l : List UInt8} (h : St W b l w w1) (o : Obj) : St W b l w (w1.alloc o) := h.bel (bel_alloc (Below.refl _ _) o)
theorem St.drew {W w w1 : World} {b : Nat} {l : List UInt8} (h : St W b l w w1) : St W b l w w1.drew := ⟨h.1.drew, grown_trans h.2 ⟨rfl, rfl, rfl, Nat.le_refl _, fun _ _ _ => rfl⟩⟩
theorem St.set {W w w1 : World} {b : Nat} {l : List UInt8} (h : St W b l w w1) (m : List UInt8) : St W b m w (w1.setCell ⟨b, 0, none⟩ (.string (ba m))) := ⟨h.1.set m, grown_trans h.2 (Lib.grownBy_setCell _ _ _ _)⟩
theorem St.grown {W w w1 w2 : World} {b g : Nat} {l : List UInt8} (h : St W b l w w1) (hg : w1.grownBy w2 (some g)) (h1 : w.heap.size ≤ g) (h2 : b < w.heap.size) : St W b l w w2 :=
  ⟨h.1.grown hg (fun k hk => by cases hk; exact ⟨by have := h.1.lo; omega, by omega⟩), World.grownBy.andThen h.2 hg (fun j hj => by cases hj; exact .inl h1)⟩
theorem St.kept {W w w1 : World} {b : Nat} {l : List UInt8} (h : St W b l w w1) {i : Nat} {o : Obj} (hi : w.heap[i]? = some o) (hb : i ≠ b) : w1.heap[i]? = some o :=
  (h.2.block i (lt_of hi) (fun e => hb (Option.some.inj e))).trans hi
end Go.Proofs.YtljfkkpkcjigpaaGreatDoor
