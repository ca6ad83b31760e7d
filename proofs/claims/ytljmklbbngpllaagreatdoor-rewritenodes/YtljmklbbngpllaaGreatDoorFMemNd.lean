/- FPure, FMem. -/
import Derived.Deep.Slices
import Derived.Deep.Trees
import Derived.Test.YtljmklbbngpllaaGreatDoorTMemNd
set_option linter.unusedVariables false
set_option linter.unusedSimpArgs false
set_option maxHeartbeats 16000000
set_option maxRecDepth 100000
namespace Go.Fm
open Go.Ad Go.Tk
structure Lab where
  k : Int
  s : ByteArray
  vk : Int
  vn : Int
  vs : ByteArray
  b1 : ByteArray
  h1 : ByteArray
  r1 : Int
  c1 : Int
  fr1 : Bool
  fc1 : Bool
  b2 : ByteArray
  h2 : ByteArray
  r2 : Int
  c2 : Int
  fr2 : Bool
  fc2 : Bool
abbrev F := Go.Deep.BT Lab
abbrev T := Lab × F
def kids : F → List T
  | .nil => []
  | .node _ _ a l r => (a, l) :: kids r
def mk : List T → F
  | [] => .nil
  | t :: r => .node 0 0 t.1 t.2 (mk r)
theorem kR : ∀ l : List T, kids (mk l) = l
  | [] => rfl
  | (a, l) :: r => by rw [mk, kids, kR r]
theorem ind {P : T → Prop} (h : ∀ t, (∀ s ∈ kids t.2, P s) → P t) : ∀ t, P t := by
  have key : ∀ f : F, ∀ s ∈ kids f, P s := by
    intro f
    induction f with
    | nil => intro s hs; cases hs
    | node b o a l r ihl ihr =>
      intro s hs
      rcases List.mem_cons.1 hs with rfl | hs
      · exact h _ ihl
      · exact ihr s hs
  exact fun t => h t (key t.2)
def depth : F → Nat
  | .nil => 0
  | .node _ _ _ l r => max (depth l + 1) (depth r)
def size : F → Nat
  | .nil => 0
  | .node _ _ _ l r => size l + 1 + size r
def pre : F → List T
  | .nil => []
  | .node _ _ a l r => (a, l) :: (pre l ++ pre r)
def dT (t : T) : Nat := depth t.2 + 1
def zT (t : T) : Nat := size t.2 + 1
def dQ (t : T) : List T := t :: pre t.2
theorem vW : ∀ f : F, (pre f).length = size f := by
  intro f
  induction f with
  | nil => rfl
  | node b o a l r ihl ihr => simp only [pre, size, List.length_cons, List.length_append, ihl, ihr]; omega
theorem zC (t : T) : (dQ t).length = zT t := by simp only [dQ, zT, List.length_cons, vW]
theorem gW : ∀ f : F, pre f = (kids f).flatMap dQ := by
  intro f
  induction f with
  | nil => rfl
  | node b o a l r ihl ihr => rw [pre, kids, List.flatMap_cons, ihr]; rfl
theorem fT : ∀ f : F, size f = ((kids f).map zT).sum := by
  intro f
  induction f with
  | nil => rfl
  | node b o a l r ihl ihr => rw [size, kids, List.map_cons, List.sum_cons, ihr]; rfl
theorem rE : ∀ f : F, depth f = (kids f).foldl (fun m t => max m (dT t)) 0 := by
  have key : ∀ (f : F) (m : Nat), (kids f).foldl (fun m t => max m (dT t)) m = max m (depth f) := by
    intro f
    induction f with
    | nil => intro m; simp [kids, depth]
    | node b o a l r ihl ihr =>
      intro m
      rw [kids, List.foldl_cons, ihr, depth]
      show max (max m (depth l + 1)) (depth r) = _
      omega
  intro f
  rw [key f 0]; omega
theorem aAW : ∀ f : F, depth f ≤ size f := by
  intro f
  induction f with
  | nil => exact Nat.le_refl _
  | node b o a l r ihl ihr => simp only [depth, size]; omega
def same : F → F → Prop
  | .nil, .nil => True
  | .node _ _ a l r, .node _ _ a' l' r' => a = a' ∧ same l l' ∧ same r r'
  | _, _ => False
def aEX (s t : T) : Prop := s.1 = t.1 ∧ same s.2 t.2
def nf : F → F
  | .nil => .nil
  | .node _ _ a l r => .node 0 0 a (nf l) (nf r)
def nT (t : T) : T := (t.1, nf t.2)
theorem aCZ : ∀ f g : F, same f g ↔ ((kids f).length = (kids g).length ∧ ∀ i (h : i < (kids f).length) (h' : i < (kids g).length), aEX (kids f)[i] (kids g)[i]) := by
  intro f
  induction f with
  | nil =>
    intro g
    cases g with
    | nil => exact ⟨fun _ => ⟨rfl, fun i h => by cases h⟩, fun _ => trivial⟩
    | node b o a l r => exact ⟨fun h => h.elim, fun h => by have := h.1; simp [kids] at this⟩
  | node b o a l r ihl ihr =>
    intro g
    cases g with
    | nil => exact ⟨fun h => h.elim, fun h => by have := h.1; simp [kids] at this⟩
    | node b' o' a' l' r' =>
      constructor
      · rintro ⟨h1, h2, h3⟩
        obtain ⟨h4, h5⟩ := (ihr r').1 h3
        refine ⟨by simp [kids, h4], fun i h h' => ?_⟩
        cases i with
        | zero => exact ⟨h1, h2⟩
        | succ i => exact h5 i (by simpa [kids] using h) (by simpa [kids] using h')
      · rintro ⟨h4, h5⟩
        have h0 := h5 0 (by simp [kids]) (by simp [kids])
        exact ⟨h0.1, h0.2, (ihr r').2 ⟨by simpa [kids] using h4, fun i h h' => h5 (i + 1) (by simpa [kids] using h) (by simpa [kids] using h')⟩⟩
section
variable (ok : Lab → Nat → Bool)
def gw : Nat → F → Bool
  | _, .nil => true
  | d, .node _ _ a l r => (decide (d ≠ 0) && ok a (kids l).length && gw (d - 1) l) && gw d r
def gT (d : Nat) (t : T) : Bool := decide (d ≠ 0) && ok t.1 (kids t.2).length && gw ok (d - 1) t.2
theorem aGZ : ∀ (f : F) (d : Nat), gw ok d f = (kids f).all (gT ok d) := by
  intro f
  induction f with
  | nil => intro d; rfl
  | node b o a l r ihl ihr => intro d; rw [gw, kids, List.all_cons, ihr]; rfl
end
def bE : List Tok → List UInt8
  | .inr (.inr (.inr (.inr (.inl s)))) :: _ => s
  | _ => []
def bY (s : List UInt8) : Nat :=
  if s = [61] ∨ s = [60, 62] ∨ s = [60] ∨ s = [60, 61] ∨ s = [62] ∨ s = [62, 61] then 1
  else if s = [38] then 2 else if s = [43] ∨ s = [45] then 3 else if s = [42] ∨ s = [47] then 4 else if s = [94] then 5 else 0
def bs (l : List UInt8) : ByteArray := ⟨l.toArray⟩
abbrev nb : ByteArray := ⟨#[]⟩
def eF (k : Int) (s : ByteArray) : Lab := ⟨k, s, 0, 0, nb, nb, nb, 0, 0, false, false, nb, nb, 0, 0, false, false⟩
def iH (k n : Int) (s : ByteArray) : Lab := ⟨1, nb, k, n, s, nb, nb, 0, 0, false, false, nb, nb, 0, 0, false, false⟩
def aJQ (r : Ref) : Lab := ⟨2, nb, 0, 0, nb, bs r.book, bs r.sheet, r.cell.row, r.cell.col, r.cell.fr, r.cell.fc, nb, nb, 0, 0, false, false⟩
def aJR (r q : Ref) : Lab := ⟨3, nb, 0, 0, nb, bs r.book, bs r.sheet, r.cell.row, r.cell.col, r.cell.fr, r.cell.fc, bs q.book, bs q.sheet, q.cell.row, q.cell.col, q.cell.fr, q.cell.fc⟩
def aG0 (b s : List UInt8) : Lab := ⟨4, bs s, 0, 0, nb, bs b, nb, 0, 0, false, false, nb, nb, 0, 0, false, false⟩
def tree (a : Lab) (l : List T) : T := (a, mk l)
def unT (s : List UInt8) (n : T) : T := tree (eF 5 (bs s)) [n]
def zD (s : List UInt8) (n m : T) : T := tree (eF 6 (bs s)) [n, m]
abbrev Part := List Tok → Option (T × List Tok)
def dJ (part : Part) (lv : Nat) : Nat → T → List Tok → Option (T × List Tok)
  | 0, n, ts => some (n, ts)
  | k + 1, n, ts => if bY (bE ts) = lv then (part ts.tail).bind fun p => dJ part lv k (zD (bE ts) n p.1) p.2 else some (n, ts)
def iI : Nat → T → List Tok → T × List Tok
  | 0, n, ts => (n, ts)
  | k + 1, n, ts => if bE ts = [37] then iI k (unT [37] n) ts.tail else (n, ts)
def cB (part : Part) : Nat → List T → List Tok → Option (List T × List Tok)
  | 0, _, _ => none
  | k + 1, acc, ts => if bE ts = [41] then some (acc, ts.tail) else if bE ts = [44] then (part ts.tail).bind fun p => cB part k (acc ++ [p.1]) p.2 else none
section
variable (up : List UInt8 → List UInt8) (tr : List UInt8 → Option Int)
def lM (part : Part) (s : List UInt8) (ts : List Tok) : Option (T × List Tok) :=
  if bE ts = [41] then some (tree (eF 7 (bs (up s))) [], ts.tail)
  else (part ts).bind fun p => (cB part (ts.length + 1) [p.1] p.2).bind fun q => if q.1.length ≤ 16 then some (tree (eF 7 (bs (up s))) q.1, q.2) else none
def iJ (part : Part) : List Tok → Option (T × List Tok)
  | [] => none
  | .inl n :: r => some (tree (iH 1 n nb) [], r)
  | .inr (.inl s) :: r => some (tree (iH 2 0 (bs s)) [], r)
  | .inr (.inr (.inl x)) :: r => if bE r = [58] then (match r.tail with
      | .inr (.inr (.inl y)) :: q => if y.sheet = [] then some (tree (aJR x y) [], q) else none
      | _ => none) else some (tree (aJQ x) [], r)
  | .inr (.inr (.inr (.inl (b, s)))) :: r => if b = [] ∧ bE r = [40] then lM up part s r.tail else (match tr s with
      | some n => some (tree (iH 3 n nb) [], r)
      | none => some (tree (aG0 b s) [], r))
  | .inr (.inr (.inr (.inr (.inl s)))) :: r => if s = [40] then (part r).bind fun p => if bE p.2 = [41] then some (p.1, p.2.tail) else none else none
  | .inr (.inr (.inr (.inr (.inr n)))) :: r => some (tree (iH 4 n nb) [], r)
def psN : Nat → Nat → List Tok → Option (T × List Tok)
  | 0, _, _ => none
  | f + 1, lv, ts =>
    if lv ≤ 5 then (psN f (lv + 1) ts).bind fun p => dJ (psN f (lv + 1)) lv ts.length p.1 p.2
    else if lv = 6 then (if bE ts = [45] then (psN f 6 ts.tail).map fun p => (unT [45] p.1, p.2) else psN f 7 ts)
    else if lv = 7 then (psN f 8 ts).map fun p => iI ts.length p.1 p.2
    else iJ up tr (psN f 1) ts
def need (lv : Nat) (ts : List Tok) : Nat := 9 * ts.length + (9 - lv)
def ps (lv : Nat) (ts : List Tok) : Option (T × List Tok) := psN up tr (need lv ts) lv ts
def Less (part : Part) : Prop := ∀ ts n r, part ts = some (n, r) → r.length < ts.length
theorem bA {ts : List Tok} {s : List UInt8} (h : bE ts = s) (hs : s ≠ []) : ts.tail.length + 1 = ts.length ∧ ts = Tok.op s :: ts.tail := by
  cases ts with
  | nil => exact absurd h.symm hs
  | cons t r =>
    refine ⟨rfl, ?_⟩
    cases t using Tk.Tok.cs with
    | op x => have : x = s := h
              subst this; rfl
    | num n => exact absurd h.symm hs
    | str n => exact absurd h.symm hs
    | ref n => exact absurd h.symm hs
    | word b n => exact absurd h.symm hs
    | bad n => exact absurd h.symm hs
theorem kS {s : List UInt8} (h : bY s ≠ 0) : s ≠ [] := by rintro rfl; exact h (by decide)
theorem aB2 (s : List UInt8) : bY s ≤ 5 := by
  unfold bY
  repeat' split
  all_goals omega
theorem aB3 {part : Part} (hp : Less part) {lv : Nat} (hlv : lv ≠ 0) : ∀ (k : Nat) (n : T) (ts : List Tok) (m : T) (r : List Tok), dJ part lv k n ts = some (m, r) → r.length ≤ ts.length
  | 0, n, ts, m, r, h => by cases h; exact Nat.le_refl _
  | k + 1, n, ts, m, r, h => by
    unfold dJ at h
    split at h
    · rename_i hs
      have h1 := (bA (ts := ts) rfl (kS (by omega))).1
      cases hq : part ts.tail with
      | none => rw [hq] at h; cases h
      | some p =>
        rw [hq] at h
        have h2 := hp _ p.1 p.2 hq
        have h3 := aB3 hp hlv k _ _ _ _ h
        omega
    · cases h; exact Nat.le_refl _
theorem aEY : ∀ (k : Nat) (n : T) (ts : List Tok), (iI k n ts).2.length ≤ ts.length
  | 0, n, ts => Nat.le_refl _
  | k + 1, n, ts => by
    unfold iI
    split
    · have := aEY k (unT [37] n) ts.tail
      have h1 : ts.tail.length ≤ ts.length := by rw [List.length_tail]; omega
      omega
    · exact Nat.le_refl _
theorem aB4 {part : Part} (hp : Less part) : ∀ (k : Nat) (acc : List T) (ts : List Tok) (m : List T) (r : List Tok), cB part k acc ts = some (m, r) → r.length < ts.length
  | 0, acc, ts, m, r, h => by cases h
  | k + 1, acc, ts, m, r, h => by
    unfold cB at h
    split at h
    · rename_i hs
      have h1 := (bA (ts := ts) hs (by decide)).1
      cases h; omega
    · split at h
      · rename_i hs
        have h1 := (bA (ts := ts) hs (by decide)).1
        cases hq : part ts.tail with
        | none => rw [hq] at h; cases h
        | some p =>
          rw [hq] at h
          have h2 := hp _ p.1 p.2 hq
          have h3 := aB4 hp k _ _ _ _ h
          omega
      · cases h
theorem aG1 {part : Part} (hp : Less part) {s : List UInt8} {ts : List Tok} {m : T} {r : List Tok} (h : lM up part s ts = some (m, r)) : r.length < ts.length := by
  unfold lM at h
  split at h
  · rename_i hs
    have h1 := (bA (ts := ts) hs (by decide)).1
    cases h; omega
  · cases hq : part ts with
    | none => rw [hq] at h; cases h
    | some p =>
      rw [hq] at h
      have h2 := hp _ p.1 p.2 hq
      simp only [Option.bind_some] at h
      cases ha : cB part (ts.length + 1) [p.1] p.2 with
      | none => rw [ha] at h; cases h
      | some q =>
        rw [ha] at h
        simp only [Option.bind_some] at h
        have h3 := aB4 hp _ _ _ q.1 q.2 ha
        split at h
        · cases h; omega
        · cases h
theorem aIP {part : Part} (hp : Less part) : Less (iJ up tr part) := by
  intro ts m r h
  cases ts with
  | nil => cases h
  | cons t q =>
    simp only [List.length_cons]
    cases t using Tk.Tok.cs with
    | num n => cases h; omega
    | str s => cases h; omega
    | bad n => cases h; omega
    | ref x =>
      simp only [iJ] at h
      split at h
      · rename_i hs
        have h1 := (bA (ts := q) hs (by decide)).1
        split at h
        · rename_i y q' he
          rw [he] at h1
          simp only [List.length_cons] at h1
          split at h
          · cases h; omega
          · cases h
        · cases h
      · cases h; omega
    | word b s =>
      simp only [iJ] at h
      split at h
      · rename_i hs
        have h1 := (bA (ts := q) hs.2 (by decide)).1
        have := aG1 up hp h
        omega
      · split at h
        · cases h; omega
        · cases h; omega
    | op s =>
      simp only [iJ] at h
      split at h
      · cases hq : part q with
        | none => rw [hq] at h; cases h
        | some p =>
          rw [hq] at h
          have h2 := hp _ p.1 p.2 hq
          simp only [Option.bind_some] at h
          split at h
          · cases h
            have : p.2.tail.length ≤ p.2.length := by rw [List.length_tail]; omega
            omega
          · cases h
      · cases h
theorem dN : ∀ (f lv : Nat), 1 ≤ lv → Less (psN up tr f lv)
  | 0, lv, _ => fun ts n r h => by cases h
  | f + 1, lv, hlv => fun ts n r h => by
    unfold psN at h
    split at h
    · cases hq : psN up tr f (lv + 1) ts with
      | none => rw [hq] at h; cases h
      | some p =>
        rw [hq] at h
        have h2 := dN f (lv + 1) (by omega) _ p.1 p.2 hq
        have h3 := aB3 (dN f (lv + 1) (by omega)) (by omega) _ _ _ _ _ h
        omega
    · split at h
      · split at h
        · rename_i hs
          have h1 := (bA (ts := ts) hs (by decide)).1
          cases hq : psN up tr f 6 ts.tail with
          | none => rw [hq] at h; cases h
          | some p =>
            rw [hq] at h
            have h2 := dN f 6 (by omega) _ p.1 p.2 hq
            cases h; omega
        · exact dN f 7 (by omega) _ n r h
      · split at h
        · cases hq : psN up tr f 8 ts with
          | none => rw [hq] at h; cases h
          | some p =>
            rw [hq] at h
            have h2 := dN f 8 (by omega) _ p.1 p.2 hq
            have h3 := aEY ts.length p.1 p.2
            simp only [Option.map_some, Option.some.injEq] at h
            rw [h] at h3
            exact Nat.lt_of_le_of_lt h3 h2
        · exact aIP up tr (dN f 1 (Nat.le_refl _)) _ n r h
def Alike (p q : Part) (n : Nat) : Prop := ∀ ts : List Tok, ts.length ≤ n → p ts = q ts
theorem lX {p q : Part} {lv : Nat} (hlv : lv ≠ 0) (hp : Less p) : ∀ (k : Nat) (n : T) (ts : List Tok), Alike p q (ts.length - 1) → dJ p lv k n ts = dJ q lv k n ts
  | 0, n, ts, h => rfl
  | k + 1, n, ts, h => by
    unfold dJ
    split
    · rename_i hs
      have h1 := (bA (ts := ts) rfl (kS (by omega))).1
      rw [← h ts.tail (by omega)]
      cases hq : p ts.tail with
      | none => rfl
      | some x =>
        have h2 := hp _ x.1 x.2 hq
        exact lX hlv hp k _ _ (fun us hu => h us (by omega))
    · rfl
theorem oF {p : Part} {lv : Nat} (hlv : lv ≠ 0) (hp : Less p) : ∀ (k : Nat) (n : T) (ts : List Tok) (k' : Nat), ts.length ≤ k → ts.length ≤ k' → dJ p lv k n ts = dJ p lv k' n ts
  | 0, n, ts, 0, h, h' => rfl
  | 0, n, ts, k' + 1, h, h' => by
    have : ts = [] := List.eq_nil_of_length_eq_zero (by omega)
    subst this
    unfold dJ
    rw [if_neg (by show bY [] ≠ lv; intro e; exact hlv (by rw [← e]; decide))]
  | k + 1, n, ts, 0, h, h' => by
    have : ts = [] := List.eq_nil_of_length_eq_zero (by omega)
    subst this
    unfold dJ
    rw [if_neg (by show bY [] ≠ lv; intro e; exact hlv (by rw [← e]; decide))]
  | k + 1, n, ts, k' + 1, h, h' => by
    unfold dJ
    split
    · rename_i hs
      have h1 := (bA (ts := ts) rfl (kS (by omega))).1
      cases hq : p ts.tail with
      | none => rfl
      | some x =>
        have h2 := hp _ x.1 x.2 hq
        exact oF hlv hp k _ _ k' (by omega) (by omega)
    · rfl
theorem zF : ∀ (k : Nat) (n : T) (ts : List Tok) (k' : Nat), ts.length ≤ k → ts.length ≤ k' → iI k n ts = iI k' n ts
  | 0, n, ts, 0, h, h' => rfl
  | 0, n, ts, k' + 1, h, h' => by
    have : ts = [] := List.eq_nil_of_length_eq_zero (by omega)
    subst this; rfl
  | k + 1, n, ts, 0, h, h' => by
    have : ts = [] := List.eq_nil_of_length_eq_zero (by omega)
    subst this; rfl
  | k + 1, n, ts, k' + 1, h, h' => by
    unfold iI
    split
    · rename_i hs
      have h1 := (bA (ts := ts) hs (by decide)).1
      exact zF k _ _ k' (by omega) (by omega)
    · rfl
theorem rF {p q : Part} (hp : Less p) : ∀ (k : Nat) (acc : List T) (ts : List Tok), Alike p q (ts.length - 1) → cB p k acc ts = cB q k acc ts
  | 0, acc, ts, h => rfl
  | k + 1, acc, ts, h => by
    unfold cB
    split
    · rfl
    · split
      · rename_i hs
        have h1 := (bA (ts := ts) hs (by decide)).1
        rw [← h ts.tail (by omega)]
        cases hq : p ts.tail with
        | none => rfl
        | some x =>
          have h2 := hp _ x.1 x.2 hq
          exact rF hp k _ _ (fun us hu => h us (by omega))
      · rfl
theorem oG {p : Part} (hp : Less p) : ∀ (k : Nat) (acc : List T) (ts : List Tok) (k' : Nat), ts.length < k → ts.length < k' → cB p k acc ts = cB p k' acc ts
  | 0, acc, ts, k', h, h' => absurd h (Nat.not_lt_zero _)
  | k + 1, acc, ts, 0, h, h' => absurd h' (Nat.not_lt_zero _)
  | k + 1, acc, ts, k' + 1, h, h' => by
    unfold cB
    split
    · rfl
    · split
      · rename_i hs
        have h1 := (bA (ts := ts) hs (by decide)).1
        cases hq : p ts.tail with
        | none => rfl
        | some x =>
          have h2 := hp _ x.1 x.2 hq
          exact oG hp k _ _ k' (by omega) (by omega)
      · rfl
theorem aAX {p q : Part} (hp : Less p) (s : List UInt8) (ts : List Tok) (h : Alike p q ts.length) : lM up p s ts = lM up q s ts := by
  unfold lM
  split
  · rfl
  · rw [← h ts (Nat.le_refl _)]
    cases hq : p ts with
    | none => rfl
    | some x =>
      have h2 := hp _ x.1 x.2 hq
      simp only [Option.bind_some]
      rw [rF hp _ _ _ (fun us hu => h us (by omega))]
theorem uJ {p q : Part} (hp : Less p) (ts : List Tok) (h : Alike p q (ts.length - 1)) : iJ up tr p ts = iJ up tr q ts := by
  cases ts with
  | nil => rfl
  | cons t r =>
    simp only [List.length_cons, Nat.add_sub_cancel] at h
    cases t using Tk.Tok.cs with
    | num n => rfl
    | str s => rfl
    | bad n => rfl
    | ref x => rfl
    | word b s =>
      simp only [iJ]
      split
      · rw [aAX up hp s r.tail (fun us hu => h us (by rw [List.length_tail] at hu; omega))]
      · rfl
    | op s =>
      simp only [iJ]
      rw [h r (Nat.le_refl _)]
theorem iY : ∀ (f g lv : Nat) (ts : List Tok), 1 ≤ lv → need lv ts ≤ f → need lv ts ≤ g → psN up tr f lv ts = psN up tr g lv ts
  | 0, g, lv, ts, hlv, h, h' => by
    unfold need at h h'
    by_cases h8 : lv ≤ 8
    · omega
    · have h0 : ts = [] := List.eq_nil_of_length_eq_zero (by omega)
      subst h0
      cases g with
      | zero => rfl
      | succ g =>
        unfold psN
        rw [if_neg (by omega), if_neg (by omega), if_neg (by omega)]
        rfl
  | f + 1, 0, lv, ts, hlv, h, h' => by
    unfold need at h h'
    by_cases h8 : lv ≤ 8
    · omega
    · have h0 : ts = [] := List.eq_nil_of_length_eq_zero (by omega)
      subst h0
      unfold psN
      rw [if_neg (by omega), if_neg (by omega), if_neg (by omega)]
      rfl
  | f + 1, g + 1, lv, ts, hlv, h, h' => by
    unfold need at h h'
    have al : ∀ m, 1 ≤ m → ∀ us : List Tok, us.length < ts.length → psN up tr f m us = psN up tr g m us := fun m hm us hu =>
      iY f g m us hm (by unfold need; omega) (by unfold need; omega)
    unfold psN
    split
    · rw [iY f g (lv + 1) ts (by omega) (by unfold need; omega) (by unfold need; omega)]
      cases hq : psN up tr g (lv + 1) ts with
      | none => rfl
      | some x =>
        simp only [Option.bind_some]
        have h2 := dN up tr g (lv + 1) (by omega) _ x.1 x.2 hq
        exact lX (by omega) (dN up tr f (lv + 1) (by omega)) _ _ _ (fun us hu => al _ (by omega) us (by omega))
    · split
      · split
        · rename_i hs
          have h1 := (bA (ts := ts) hs (by decide)).1
          rw [al 6 (by omega) ts.tail (by omega)]
        · rename_i hl _
          exact iY f g 7 ts (by omega) (by unfold need; omega) (by unfold need; omega)
      · split
        · rw [iY f g 8 ts (by omega) (by unfold need; omega) (by unfold need; omega)]
        · cases ts with
          | nil => rfl
          | cons t r => exact uJ up tr (dN up tr f 1 (Nat.le_refl _)) _ (fun us hu => al 1 (Nat.le_refl _) us (by simp at hu ⊢; omega))
theorem jP {lv : Nat} (hlv : 1 ≤ lv) : Less (ps up tr lv) := fun ts n r h => dN up tr _ lv hlv ts n r h
theorem aIQ {lv : Nat} (h1 : 1 ≤ lv) (h5 : lv ≤ 5) (ts : List Tok) : ps up tr lv ts = (ps up tr (lv + 1) ts).bind fun p => dJ (ps up tr (lv + 1)) lv p.2.length p.1 p.2 := by
  have e : need lv ts = need (lv + 1) ts + 1 := by unfold need; omega
  unfold ps
  rw [e]
  conv => lhs; unfold psN
  rw [if_pos h5]
  cases hq : psN up tr (need (lv + 1) ts) (lv + 1) ts with
  | none => rfl
  | some x =>
    simp only [Option.bind_some]
    have h2 := dN up tr _ (lv + 1) (by omega) _ x.1 x.2 hq
    rw [oF (by omega) (dN up tr _ (lv + 1) (by omega)) ts.length x.1 x.2 x.2.length (by omega) (Nat.le_refl _)]
    exact lX (by omega) (dN up tr _ (lv + 1) (by omega)) _ _ _ (fun us hu => iY up tr _ _ _ us (by omega) (by unfold need; omega) (Nat.le_refl _))
theorem aIR (ts : List Tok) : ps up tr 6 ts = if bE ts = [45] then (ps up tr 6 ts.tail).map fun p => (unT [45] p.1, p.2) else ps up tr 7 ts := by
  have e : need 6 ts = need 7 ts + 1 := by unfold need; omega
  conv => lhs; unfold ps; rw [e]; unfold psN
  rw [if_neg (by omega), if_pos rfl]
  split
  · rename_i hs
    have h1 := (bA (ts := ts) hs (by decide)).1
    rw [iY up tr (need 7 ts) (need 6 ts.tail) 6 ts.tail (by omega) (by unfold need; omega) (Nat.le_refl _)]
    rfl
  · rfl
theorem aIS (ts : List Tok) : ps up tr 7 ts = (ps up tr 8 ts).map fun p => iI p.2.length p.1 p.2 := by
  have e : need 7 ts = need 8 ts + 1 := by unfold need; omega
  conv => lhs; unfold ps; rw [e]; unfold psN
  rw [if_neg (by omega), if_neg (by omega), if_pos rfl]
  unfold ps
  cases hq : psN up tr (need 8 ts) 8 ts with
  | none => rfl
  | some x =>
    have h2 := dN up tr _ 8 (by omega) _ x.1 x.2 hq
    simp only [Option.map_some]
    rw [zF ts.length x.1 x.2 x.2.length (by omega) (Nat.le_refl _)]
theorem aIT (ts : List Tok) : ps up tr 8 ts = iJ up tr (ps up tr 1) ts := by
  have e : need 8 ts = 9 * ts.length + 1 := by unfold need; omega
  conv => lhs; unfold ps; rw [e]; unfold psN
  rw [if_neg (by omega), if_neg (by omega), if_neg (by omega)]
  cases ts with
  | nil => rfl
  | cons t r => exact uJ up tr (dN up tr _ 1 (Nat.le_refl _)) _ (fun us hu => iY up tr _ _ _ us (by omega) (by unfold need; simp at hu ⊢; omega) (Nat.le_refl _))
end
end Go.Fm
namespace Go.Proofs.YtljmklbbngpllaaGreatDoor
open Go.RowKit Go.Fm
def lcl (a : Lab) (sl : Value) : List Value := [.int .i64 a.k, .string a.s, .int .i64 a.vk, .int .i64 a.vn, .string a.vs, .string a.b1, .string a.h1, .int .i64 a.r1, .int .i64 a.c1, .bool a.fr1, .bool a.fc1, .string a.b2, .string a.h2, .int .i64 a.r2, .int .i64 a.c2, .bool a.fr2, .bool a.fc2, sl]
def lcs (a : Lab) (sl : Value) : Array Value := (lcl a sl).toArray
theorem iB (a : Lab) (sl : Value) : (lcl a sl).length = 18 := rfl
theorem aV (a : Lab) (sl : Value) : (lcs a sl).size = 18 := rfl
theorem aG2 (a : Lab) (p : Option Addr) (n c : Nat) : ∀ u ∈ lcl a (.slice p n c), u.oneCell' = true := by
 intro u hu
 simp only [lcl, List.mem_cons, List.not_mem_nil, or_false] at hu
 rcases hu with rfl | rfl | rfl | rfl | rfl | rfl | rfl | rfl | rfl | rfl | rfl | rfl | rfl | rfl | rfl | rfl | rfl | rfl <;> rfl
theorem iC (a : Lab) (p : Option Addr) (n c : Nat) : (lcs a (.slice p n c)).all (·.oneCell') = true := by
 unfold lcs
 rw [List.all_toArray, List.all_eq_true]
 exact aG2 a p n c
def InF (w : World) : Addr → F → Prop
 | _, .nil => True
 | a, .node _ _ l f r => (∃ p n c, (∀ j v, (lcl l (.slice p n c))[j]? = some v → w.cell? (a.add j) = some v) ∧ n = (kids f).length ∧ (f = .nil ∨ ∃ a', p = some a' ∧ InF w a' f)) ∧ InF w (a.add 18) r
def SF (w : World) (p : Option Addr) (n : Nat) (f : F) : Prop := n = (kids f).length ∧ (f = .nil ∨ ∃ a, p = some a ∧ InF w a f)
def NT (w : World) (es : Array Value) (t : T) : Prop := ∃ p n c, es = lcs t.1 (.slice p n c) ∧ SF w p n t.2
theorem InF.below : ∀ {f : F} {w w' : World} {a : Addr}, InF w a f → Below w.heap.size w w' → InF w' a f := by
 intro f
 induction f with
 | nil => intro w w' a _ _; trivial
 | node b o l f r ihf ihr =>
  intro w w' a h hb
  obtain ⟨⟨p, n, c, h1, h2, h3⟩, h4⟩ := h
  exact ⟨⟨p, n, c, fun j v hj => bM hb (h1 j v hj), h2, h3.imp id fun ⟨a', e, hi⟩ => ⟨a', e, ihf hi hb⟩⟩, ihr h4 hb⟩
theorem SF.below {w w' : World} {p : Option Addr} {n : Nat} {f : F} (h : SF w p n f) (hb : Below w.heap.size w w') : SF w' p n f :=
 ⟨h.1, h.2.imp id fun ⟨a, e, hi⟩ => ⟨a, e, hi.below hb⟩⟩
theorem NT.below {w w' : World} {es : Array Value} {t : T} (h : NT w es t) (hb : Below w.heap.size w w') : NT w' es t := by
 obtain ⟨p, n, c, e, hs⟩ := h
 exact ⟨p, n, c, e, hs.below hb⟩
theorem bS : (Tryz.prog.info? 28).map (·.size) = some 18 := by kernel_rfl
abbrev nd0 : Array Value := #[.int .i64 0, .string noB, .int .i64 0, .int .i64 0, .string noB, .string noB, .string noB, .int .i64 0, .int .i64 0, .bool false, .bool false, .string noB, .string noB, .int .i64 0, .int .i64 0, .bool false, .bool false, .slice none 0 0]
theorem aAY : (Tryz.prog.info? 28).map (fun i => (i.zero, i.size, i.bytes)) = some (some (.agg nd0), 18, 192) := by kernel_rfl
theorem bW {P : Program} (w : World) (x : Addr) (ty : TypeId) (cs : List Value) (d : TypeDesc) (hc : ∀ j v, cs[j]? = some v → w.cell? (x.add j) = some v)
  (hu : P.underlying ty = some d) (hd : d.isRow = true) (hi : (P.info? ty).map (·.size) = some cs.length) :
  (Instr.loadAt ty (.pointer (some x))).run P w = .ok (.agg cs.toArray) w := by
 have hl : (loadCells x cs.length).run P w = .ok cs.toArray w := run_loadCells_list (P := P) w x cs hc
 cases hq : P.info? ty with
 | none => simp [hq] at hi
 | some i =>
  have hs : i.size = cs.length := by simpa [hq] using hi
  have hagg : (isAgg ty).run P w = .ok true w := by
   unfold isAgg
   rw [Sem.run_bind, run_underlying hu w]
   cases d <;> simp_all
  simp [Instr.loadAt, Instr.sureAddr, loadVar, Sem.run_bind, hagg, sizeOf, typeInfo, hq, hs, hl]
theorem InF.get : ∀ {f : F} {w : World} {a : Addr}, InF w a f → ∀ (k : Nat) (hk : k < (kids f).length), ∃ es, (Instr.loadAt 28 (.pointer (some (a.add (k * 18))))).run Tryz.prog w = .ok (.agg es) w ∧ NT w es (kids f)[k] := by
 intro f
 induction f with
 | nil => intro w a _ k hk; simp [kids] at hk
 | node b o l f r ihf ihr =>
  intro w a h k hk
  obtain ⟨⟨p, n, c, h1, h2, h3⟩, h4⟩ := h
  cases k with
  | zero =>
   refine ⟨lcs l (.slice p n c), ?_, p, n, c, rfl, h2, h3⟩
   have : a.add (0 * 18) = a.add 0 := by simp
   rw [this]
   refine bW w (a.add 0) 28 (lcl l (.slice p n c)) _ (fun j v hj => ?_) Tryz.underlying28 rfl (by rw [iB]; exact bS)
   rw [Go.Deep.add_add, Nat.zero_add]
   exact h1 j v hj
  | succ k =>
   obtain ⟨es, e1, e2⟩ := ihr h4 k (by simpa [kids] using hk)
   refine ⟨es, ?_, e2⟩
   rw [Go.Deep.add_add] at e1
   rw [show (k + 1) * 18 = 18 + k * 18 by omega]
   exact e1
theorem SF.get {w : World} {p : Option Addr} {n : Nat} {f : F} (h : SF w p n f) (k : Nat) (hk : k < n) : ∃ a es t, p = some a ∧ (Instr.loadAt 28 (.pointer (some (a.add (k * 18))))).run Tryz.prog w = .ok (.agg es) w ∧ (kids f)[k]? = some t ∧ NT w es t := by
 obtain ⟨h1, h2⟩ := h
 rcases h2 with rfl | ⟨a, rfl, hi⟩
 ·simp [kids] at h1; omega
 ·obtain ⟨es, e1, e2⟩ := hi.get k (by omega)
  exact ⟨a, es, _, rfl, e1, List.getElem?_eq_getElem (by omega), e2⟩
theorem kC (w : World) {es : Array Value} {t : T} (h : NT w es t) :
  (Instr.storeAt 28 (.pointer (some ⟨w.heap.size, 0, none⟩)) (.agg es)).run Tryz.prog (w.alloc (.cells nd0 28)) = .ok () (w.alloc (.cells es 28)) ∧
  ∀ u : World, u.heap[w.heap.size]? = some (.cells es 28) → (Instr.loadAt 28 (.pointer (some ⟨w.heap.size, 0, none⟩))).run Tryz.prog u = .ok (.agg es) u := by
 obtain ⟨p, n, c, rfl, hs⟩ := h
 refine ⟨run_storeAt_new w 28 nd0 _ (by rw [aV]; exact bS) rfl (iC _ _ _ _), fun u hu => ?_⟩
 exact lod (z := (0, 0)) hu rfl Tryz.underlying28 (by rw [aV]; exact bS)
theorem aY {u : World} {g : Nat} {a : Lab} {sl : Value} {z : Nat × Nat} (h : u.heap[g]? = some (.cells (lcs a sl) 28 z)) : u.cell? ⟨g, 17, none⟩ = some sl := by
 rw [cell_of_row u g 17 _ 28 z h]; rfl
end Go.Proofs.YtljmklbbngpllaaGreatDoor
