/- AParseRef, ARParseRef, TPure, TMem. -/
import Derived.Deep.MidRow
import Derived.Deep.WholeRow
import Derived.Laws.EntriesVeiled
import Derived.Laws.ResultCell
import Derived.Laws.Rows
import Derived.Lib.BufferOwn
import Derived.Maps.AppendAt
import Derived.Maps.Range
import Derived.Test.YtljmklbbngpllaaGreatDoorARefPNd
set_option linter.unusedVariables false
set_option linter.unusedSimpArgs false
set_option maxHeartbeats 16000000
set_option maxRecDepth 100000
namespace Go.Proofs.YtljmklbbngpllaaGreatDoor
open Go.RowKit
theorem aEM {A A1 : ByteArray} {g : Bool} {w : World} (CP : ∀ u, Calls Tryz.prog 33 #[.string A, .string ⟨#[91]⟩] u fun e w' => e = .returned (.tuple #[.string A1, .bool false]) ∧ w' = u) (GN : RC w 154 #[.string A] (.bool g)) :
  Calls Tryz.prog 192 #[.string A] w fun e w' => e = .returned (.tuple #[.string ⟨#[]⟩, .string A, .bool g]) ∧ Below w.heap.size w w' := by
 have HB0 : Hid (Below w.heap.size w w) := Below.refl _ _
 go_enter Tryz.func192, Tryz.ntmps192
 go_wp2_with (first | (go_at_call 33; refine (CP _).mono ?_; rintro e w' ⟨rfl, hw⟩; obtain rfl := hw.symm; clear hw) | (go_at_call 154; refine (GN _ HB0.out).mono ?_; rintro e w1 ⟨rfl, hb⟩; have HB1 : Hid (Below w.heap.size w w1) := hb; clear hb))
 go_ret3
 exact ⟨rfl, HB1.out⟩
theorem aGM {A A1 B S : ByteArray} {x g h : Bool} {w : World} (CP : ∀ u, Calls Tryz.prog 33 #[.string A, .string ⟨#[91]⟩] u fun e w' => e = .returned (.tuple #[.string A1, .bool true]) ∧ w' = u)
  (CU : RC w 186 #[.string A1, .string ⟨#[93]⟩] (.tuple #[.string B, .string S, .bool x])) (GB : RC w 154 #[.string B] (.bool g)) (GS : RC w 154 #[.string S] (.bool h)) :
  Calls Tryz.prog 192 #[.string A] w fun e w' => e = .returned (.tuple #[.string B, .string S, .bool (g && h)]) ∧ Below w.heap.size w w' := by
 have HB0 : Hid (Below w.heap.size w w) := Below.refl _ _
 cases g
 ·go_enter Tryz.func192, Tryz.ntmps192
  go_wp2_with (first | (go_at_call 33; refine (CP _).mono ?_; rintro e w' ⟨rfl, hw⟩; obtain rfl := hw.symm; clear hw) | (go_at_call 186; refine (CU _ HB0.out).mono ?_; rintro e w1 ⟨rfl, hb⟩; have HB1 : Hid (Below w.heap.size w w1) := hb; clear hb) | (go_at_call_of 154 B; refine (GB _ HB1.out).mono ?_; rintro e w2 ⟨rfl, hb⟩; have HB2 : Hid (Below w.heap.size w w2) := hb; clear hb))
  go_ret3
  exact ⟨rfl, HB2.out⟩
 ·go_enter Tryz.func192, Tryz.ntmps192
  go_wp2_with (first | (go_at_call 33; refine (CP _).mono ?_; rintro e w' ⟨rfl, hw⟩; obtain rfl := hw.symm; clear hw) | (go_at_call 186; refine (CU _ HB0.out).mono ?_; rintro e w1 ⟨rfl, hb⟩; have HB1 : Hid (Below w.heap.size w w1) := hb; clear hb) | (go_at_call_of 154 B; refine (GB _ HB1.out).mono ?_; rintro e w2 ⟨rfl, hb⟩; have HB2 : Hid (Below w.heap.size w w2) := hb; clear hb) | (go_at_call_of 154 S; refine (GS _ HB2.out).mono ?_; rintro e w3 ⟨rfl, hb⟩; have HB3 : Hid (Below w.heap.size w w3) := hb; clear hb))
  go_ret3
  exact ⟨rfl, HB3.out⟩
theorem lU (l : List UInt8) (hl : l.length ≤ 140737488355328) (w : World) (T : tC w) : RC w 154 #[.string ⟨l.toArray⟩] (.bool (gnF l)) :=
 RC.of fun u hu => bU ⟨l.toArray⟩ (by rw [size_mk]; omega) u (T.t.below hu)
theorem yU (c : UInt8) (l : List UInt8) : (gI c l).1.length ≤ l.length ∧ (gI c l).2.1.length ≤ l.length := by
 cases h : Ad.at_ c l with
 | none => rw [kK h]; simp
 | some p =>
  obtain ⟨a, b⟩ := p
  have := oW h
  rw [kL h]
  simp only
  omega
theorem aAO (l : List UInt8) (hl : l.length ≤ 140737488355328) (w : World) (T : tC w) :
  Calls Tryz.prog 192 #[.string ⟨l.toArray⟩] w fun e w' => e = .returned (.tuple #[.string ⟨(qY l).1.toArray⟩, .string ⟨(qY l).2.1.toArray⟩, .bool (qY l).2.2]) ∧ Below w.heap.size w w' := by
 have CP := fun u => kM 91 l u
 have hs := Ad.iL 91 l
 unfold qY
 cases hx : (Ad.strip 91 l).1
 ·rw [hx] at CP
  exact aEM CP (lU l hl w T)
 ·rw [hx] at CP hs
  rw [if_pos rfl]
  have hl2 := yU 93 (Ad.strip 91 l).2
  have g1 := lU (gI 93 (Ad.strip 91 l).2).1 (by omega) w T
  have g2 := lU (gI 93 (Ad.strip 91 l).2).2.1 (by omega) w T
  exact aGM CP (RC.of fun u hu => qN 93 (Ad.strip 91 l).2 u (by omega)) g1 g2
theorem aEN {A N X : ByteArray} {o : Option Ad.Cell} {w : World} (CU : RC (w.alloc bR) 186 #[.string A, .string ⟨#[33]⟩] (.tuple #[.string N, .string X, .bool false]))
  (PC : ∀ u, Below w.heap.size w u → Calls Tryz.prog 153 #[.string A] u fun e w' => e = .returned (.tuple #[yS o, .bool o.isSome]) ∧ Below u.heap.size u w') :
  Calls Tryz.prog 152 #[.string A] w fun e w' => e = .returned (.tuple #[yS o, .bool o.isSome]) ∧ Below w.heap.size w w' := by
 have HB0 : Hid (Below (w.alloc bR).heap.size (w.alloc bR) (w.alloc bR)) := Below.refl _ _
 cases o with
 | none =>
  go_enter Tryz.func152, Tryz.ntmps152
  go_wp2_with (go_at_call 186; refine (CU _ HB0.out).mono ?_; rintro e w1 ⟨rfl, hb⟩; have HB1 : Hid (Below (w.alloc bR).heap.size (w.alloc bR) w1) := hb; clear hb)
  refine (PC _ (aR HB1.out)).mono ?_
  rintro e w2 ⟨rfl, hb⟩
  have z1 := (hb.block _ (aS (new1 HB1.out))).trans (new1 HB1.out)
  have Z1 : Hid (w2.heap[w.heap.size]? = some bR) := z1
  have HB2 : Hid (Below w.heap.size w w2) := aG (aR HB1.out) hb
  obtain ⟨d0, d1, d2, d3, d4, d5⟩ := aP z1
  obtain ⟨e0, e1, e2, e3, e4, e5⟩ := bH z1
  clear z1 hb
  unfold yS
  go_wp2
  exact bodyPost_ret (kQ rfl rfl (aCQ Z1.out) rfl) rfl ⟨rfl, iN HB2.out (Nat.le_refl _)⟩
 | some c =>
  go_enter Tryz.func152, Tryz.ntmps152
  go_wp2_with (go_at_call 186; refine (CU _ HB0.out).mono ?_; rintro e w1 ⟨rfl, hb⟩; have HB1 : Hid (Below (w.alloc bR).heap.size (w.alloc bR) w1) := hb; clear hb)
  refine (PC _ (aR HB1.out)).mono ?_
  rintro e w2 ⟨rfl, hb⟩
  have z1 := (hb.block _ (aS (new1 HB1.out))).trans (new1 HB1.out)
  have Z1 : Hid (w2.heap[w.heap.size]? = some bR) := z1
  have HB2 : Hid (Below w.heap.size w w2) := aG (aR HB1.out) hb
  obtain ⟨d0, d1, d2, d3, d4, d5⟩ := aP z1
  obtain ⟨e0, e1, e2, e3, e4, e5⟩ := bH z1
  clear z1 hb
  unfold yS
  go_wp2
  exact bodyPost_ret (kQ rfl rfl (aCQ Z1.out) rfl) rfl ⟨rfl, iN HB2.out (Nat.le_refl _)⟩
theorem yV {u : World} {g : Nat} {o : Obj} (h : u.heap[g]? = some o) (p : Obj) : (u.alloc p).heap[g]? = some o := (Below.heap_alloc u p _ (aS h)).trans h
theorem aEO {A N X B S : ByteArray} {g k : Bool} {b s : ByteArray} {r c : Int} {fr fc : Bool} {w : World} (CU : RC (w.alloc bR) 186 #[.string A, .string ⟨#[33]⟩] (.tuple #[.string N, .string X, .bool true]))
  (NM : RC (w.alloc bR) 192 #[.string N] (.tuple #[.string B, .string S, .bool g])) (PC : ∀ u, Below w.heap.size w u → Calls Tryz.prog 153 #[.string X] u fun e w' => e = .returned (.tuple #[bC b s r c fr fc, .bool k]) ∧ Below u.heap.size u w') (hk : (g && k) = false) :
  Calls Tryz.prog 152 #[.string A] w fun e w' => e = .returned (.tuple #[xC, .bool false]) ∧ Below w.heap.size w w' := by
 have HB0 : Hid (Below (w.alloc bR).heap.size (w.alloc bR) (w.alloc bR)) := Below.refl _ _
 cases g
 all_goals
  try (obtain rfl : k = false := hk)
  go_enter Tryz.func152, Tryz.ntmps152
  go_wp2_with (first | (go_at_call 186; refine (CU _ HB0.out).mono ?_; rintro e w1 ⟨rfl, hb⟩; have HB1 : Hid (Below (w.alloc bR).heap.size (w.alloc bR) w1) := hb; clear hb) | (go_at_call 192; refine (NM _ HB1.out).mono ?_; rintro e w2 ⟨rfl, hb⟩; have HB2 : Hid (Below (w.alloc bR).heap.size (w.alloc bR) w2) := hb; clear hb))
  refine (PC _ (aR HB2.out)).mono ?_
  rintro e w3 ⟨rfl, hb⟩
  have z1 := (hb.block _ (aS (new1 HB2.out))).trans (new1 HB2.out)
  have HB3 : Hid (Below w.heap.size w (w3.alloc (aU b s r c fr fc))) := aA (aG (aR HB2.out) hb) _
  have Z1 : Hid ((w3.alloc (aU b s r c fr fc)).heap[w.heap.size]? = some bR) := yV z1 _
  obtain ⟨d0, d1, d2, d3, d4, d5⟩ := aP Z1.out
  obtain ⟨e0, e1, e2, e3, e4, e5⟩ := bH Z1.out
  clear z1 hb
  go_wp2
  exact bodyPost_ret (kQ rfl rfl (aCQ Z1.out) rfl) rfl ⟨rfl, iN HB3.out (Nat.le_refl _)⟩
theorem aIL {A N X B S : ByteArray} {b s : ByteArray} {r c : Int} {fr fc : Bool} {w : World} (CU : RC (w.alloc bR) 186 #[.string A, .string ⟨#[33]⟩] (.tuple #[.string N, .string X, .bool true]))
  (NM : RC (w.alloc bR) 192 #[.string N] (.tuple #[.string B, .string S, .bool true])) (PC : ∀ u, Below w.heap.size w u → Calls Tryz.prog 153 #[.string X] u fun e w' => e = .returned (.tuple #[bC b s r c fr fc, .bool true]) ∧ Below u.heap.size u w') :
  Calls Tryz.prog 152 #[.string A] w fun e w' => e = .returned (.tuple #[bC B S r c fr fc, .bool true]) ∧ Below w.heap.size w w' := by
 have HB0 : Hid (Below (w.alloc bR).heap.size (w.alloc bR) (w.alloc bR)) := Below.refl _ _
 go_enter Tryz.func152, Tryz.ntmps152
 go_wp2_with (first | (go_at_call 186; refine (CU _ HB0.out).mono ?_; rintro e w1 ⟨rfl, hb⟩; have HB1 : Hid (Below (w.alloc bR).heap.size (w.alloc bR) w1) := hb; clear hb) | (go_at_call 192; refine (NM _ HB1.out).mono ?_; rintro e w2 ⟨rfl, hb⟩; have HB2 : Hid (Below (w.alloc bR).heap.size (w.alloc bR) w2) := hb; clear hb))
 refine (PC _ (aR HB2.out)).mono ?_
 rintro e w3 ⟨rfl, hb⟩
 have z1 := (hb.block _ (aS (new1 HB2.out))).trans (new1 HB2.out)
 have HB3 : Hid (Below w.heap.size w (w3.alloc (aU B S r c fr fc))) := aA (aG (aR HB2.out) hb) _
 have Z1 : Hid ((w3.alloc (aU B S r c fr fc)).heap[w.heap.size]? = some bR) := yV z1 _
 obtain ⟨d0, d1, d2, d3, d4, d5⟩ := aP Z1.out
 obtain ⟨e0, e1, e2, e3, e4, e5⟩ := bH Z1.out
 clear z1 hb
 go_wp2
 exact bodyPost_ret (kQ rfl rfl (aCQ Z1.out) rfl) rfl ⟨rfl, iN HB3.out (Nat.le_refl _)⟩
theorem vR (l : List UInt8) (hl : l.length ≤ 140737488355328) (w : World) (T : tC w) :
  Calls Tryz.prog 152 #[.string ⟨l.toArray⟩] w fun e w' => e = .returned (.tuple #[aKF (Ad.mM gnF l), .bool (Ad.mM gnF l).isSome]) ∧ Below w.heap.size w w' := by
 rw [← aGL]
 unfold aBV
 have CU : RC (w.alloc bR) 186 #[.string ⟨l.toArray⟩, .string ⟨#[33]⟩] _ := RC.of fun u hu => qN 33 l u (by omega)
 have T1 : tC (w.alloc bR) := T.below (aA (Below.refl _ _) _)
 cases h : Ad.at_ 33 l with
 | none =>
  rw [kK h] at CU
  have := aEN (o := Ad.cellP l) CU fun u hu => iG l hl u (T.below hu)
  cases hc : Ad.cellP l with
  | none => rw [hc] at this; exact this
  | some c => rw [hc] at this; exact this
 | some p =>
  obtain ⟨a, x⟩ := p
  have hlen := oW h
  rw [kL h] at CU
  have NM : RC (w.alloc bR) 192 #[.string ⟨a.toArray⟩] _ := RC.of fun u hu => aAO a (by omega) u (T1.below hu)
  have PC := fun u (hu : Below w.heap.size w u) => iG x (by omega) u (T.below hu)
  simp only
  cases hg : (qY a).2.2
  ·rw [hg] at NM
   simp only [Bool.false_eq_true, if_false]
   cases hc : Ad.cellP x with
   | none => rw [hc] at PC; exact aEO CU NM PC rfl
   | some c => rw [hc] at PC; exact aEO CU NM PC rfl
  ·rw [hg] at NM
   simp only [if_true]
   cases hc : Ad.cellP x with
   | none => rw [hc] at PC; exact aEO CU NM PC rfl
   | some c => rw [hc] at PC; exact aIL CU NM PC
abbrev CB (w : World) (f : Nat) (args : Array Value) (r : Value) : Prop := ∀ u, Below w.heap.size w u → Calls Tryz.prog f args u fun e w' => e = .returned r ∧ Below u.heap.size u w'
end Go.Proofs.YtljmklbbngpllaaGreatDoor
namespace Go.Tk
open Go.Ad
def bG (c : UInt8) : Bool := isL c || isD c || c == 95 || c == 36
def eX (c : UInt8) : Bool := isD c || c == 46
abbrev Tok := Sum Int (Sum (List UInt8) (Sum Ref (Sum (List UInt8 × List UInt8) (Sum (List UInt8) Nat))))
abbrev Tok.num (n : Int) : Tok := .inl n
abbrev Tok.str (s : List UInt8) : Tok := .inr (.inl s)
abbrev Tok.ref (r : Ref) : Tok := .inr (.inr (.inl r))
abbrev Tok.word (b s : List UInt8) : Tok := .inr (.inr (.inr (.inl (b, s))))
abbrev Tok.op (s : List UInt8) : Tok := .inr (.inr (.inr (.inr (.inl s))))
abbrev Tok.bad (n : Nat) : Tok := .inr (.inr (.inr (.inr (.inr n))))
theorem Tok.cs {motive : Tok → Prop} (num : ∀ n, motive (Tok.num n)) (str : ∀ s, motive (Tok.str s)) (ref : ∀ r, motive (Tok.ref r)) (word : ∀ b s, motive (Tok.word b s)) (op : ∀ s, motive (Tok.op s)) (bad : ∀ n, motive (Tok.bad n)) (t : Tok) : motive t := by
 rcases t with n | s | r | ⟨b, s⟩ | s | n
 ·exact num n
 ·exact str s
 ·exact ref r
 ·exact word b s
 ·exact op s
 ·exact bad n
def dF : List UInt8 → Option (List UInt8 × List UInt8)
 | [] => none
 | [c] => if c = 34 then some ([], []) else none
 | c :: d :: r => if c = 34 then (if d = 34 then (dF r).map fun p => (34 :: p.1, p.2) else some ([], d :: r)) else (dF (d :: r)).map fun p => (c :: p.1, p.2)
def pO : List UInt8 → List UInt8
 | [] => [34]
 | c :: r => if c = 34 then 34 :: 34 :: pO r else c :: pO r
def gJ : Nat → List UInt8
 | 1 => [35, 68, 73, 86, 47, 48, 33]
 | 2 => [35, 86, 65, 76, 85, 69, 33]
 | 3 => [35, 82, 69, 70, 33]
 | 4 => [35, 78, 65, 77, 69, 63]
 | 5 => [35, 78, 85, 77, 33]
 | 6 => [35, 78, 47, 65]
 | 7 => [35, 67, 89, 67, 76, 69, 33]
 | 8 => [35, 76, 73, 78, 75, 33]
 | _ => []
def pQ (l : List UInt8) : Option (Tok × List UInt8) := ([1, 2, 3, 4, 5, 6, 7, 8].find? fun i => (gJ i).isPrefixOf l).map fun i => (.bad i, l.drop (gJ i).length)
def ones : List UInt8 := [43, 45, 42, 47, 94, 38, 61, 60, 62, 37, 40, 41, 44, 58]
def two (c d : UInt8) : Bool := (c == 60 && d == 62) || (c == 60 && d == 61) || (c == 62 && d == 61)
def opF : List UInt8 → Option (Tok × List UInt8)
 | [] => none
 | [c] => if c ∈ ones then some (.op [c], []) else none
 | c :: d :: r => if two c d = true then some (.op [c, d], r) else if c ∈ ones then some (.op [c], d :: r) else none
section
variable (gn tru : List UInt8 → Bool) (pn : List UInt8 → Option Int) (wn : Int → List UInt8)
def gV (b pre l : List UInt8) : Option (Tok × List UInt8) :=
 match l.dropWhile bG with
 | 33 :: r => (mM gn (pre ++ l.takeWhile bG ++ 33 :: r.takeWhile bG)).map fun x => (.ref x, r.dropWhile bG)
 | r => if b = [] then (match cellP (l.takeWhile bG) with
   | some c => some (.ref ⟨[], [], c⟩, r)
   | none => if gn (l.takeWhile bG) = true ∨ tru (l.takeWhile bG) = true then some (.word [] (l.takeWhile bG), r) else none)
  else if gn (l.takeWhile bG) = true then some (.word b (l.takeWhile bG), r) else none
def named (l : List UInt8) : Option (Tok × List UInt8) :=
 match l with
 | 91 :: m => match at_ 93 m with
  | none => none
  | some (a, r) => if gn a = true then gV gn tru a (91 :: (a ++ [93])) r else none
 | l => gV gn tru [] [] l
def one (l : List UInt8) : Option (Tok × List UInt8) :=
 match l with
 | [] => none
 | c :: r =>
  if isD c = true then (pn ((c :: r).takeWhile eX)).map fun n => (.num n, (c :: r).dropWhile eX)
  else if c = 34 then (dF r).map fun p => (.str p.1, p.2)
  else if c = 35 then pQ (c :: r)
  else if c = 91 ∨ c = 36 ∨ isL c = true then named gn tru (c :: r)
  else opF (c :: r)
def blank (c : UInt8) : Bool := c == 32 || c == 9
def jY : Nat → List UInt8 → Option (List Tok)
 | 0, _ => none
 | _ + 1, [] => some []
 | k + 1, c :: r => if blank c = true then jY k r else match one gn tru pn (c :: r) with
  | none => none
  | some (t, m) => (jY k m).map (t :: ·)
def text : Tok → List UInt8
 | .inl n => wn n
 | .inr (.inl s) => 34 :: pO s
 | .inr (.inr (.inl r)) => qD r
 | .inr (.inr (.inr (.inl (b, s)))) => if b = [] then s else 91 :: (b ++ 93 :: s)
 | .inr (.inr (.inr (.inr (.inl s)))) => s
 | .inr (.inr (.inr (.inr (.inr n)))) => gJ n
end
theorem vS : ∀ (k : Nat) (l s r : List UInt8), l.length ≤ k → dF l = some (s, r) → r.length < l.length
 | 0, l, s, r, hk, h => by
  have : l = [] := List.eq_nil_of_length_eq_zero (by omega)
  subst this; cases h
 | k + 1, [], s, r, hk, h => by cases h
 | k + 1, [c], s, r, hk, h => by
  unfold dF at h
  split at h
  ·cases h; simp
  ·cases h
 | k + 1, c :: d :: l, s, r, hk, h => by
  unfold dF at h
  simp only [List.length_cons] at hk ⊢
  split at h
  ·split at h
   ·cases hq : dF l with
    | none => rw [hq] at h; cases h
    | some p =>
     rw [hq] at h
     cases h
     have := vS k l p.1 p.2 (by omega) hq
     omega
   ·cases h; simp
  ·cases hq : dF (d :: l) with
   | none => rw [hq] at h; cases h
   | some p =>
    rw [hq] at h
    cases h
    have := vS k (d :: l) p.1 p.2 (by simp only [List.length_cons]; omega) hq
    simp only [List.length_cons] at this
    omega
theorem iA (p : UInt8 → Bool) : ∀ l : List UInt8, (l.dropWhile p).length ≤ l.length
 | [] => Nat.le_refl _
 | c :: r => by
  rw [List.dropWhile_cons]
  split
  ·have := iA p r; simp only [List.length_cons]; omega
  ·exact Nat.le_refl _
theorem aBW (p : UInt8 → Bool) {c : UInt8} {r : List UInt8} (h : p c = true) : ((c :: r).dropWhile p).length < (c :: r).length := by
 rw [List.dropWhile_cons, if_pos h]
 have := iA p r
 simp only [List.length_cons]; omega
theorem aGN {l : List UInt8} {t : Tok} {r : List UInt8} (h : pQ l = some (t, r)) : r.length < l.length := by
 unfold pQ at h
 cases hf : [1, 2, 3, 4, 5, 6, 7, 8].find? fun i => (gJ i).isPrefixOf l with
 | none => rw [hf] at h; cases h
 | some i =>
  rw [hf] at h
  cases h
  have h1 := List.find?_some hf
  have h2 := List.mem_of_find?_eq_some hf
  have h3 : 0 < (gJ i).length ∧ (gJ i).length ≤ l.length := by
   have := List.IsPrefix.length_le (List.isPrefixOf_iff_prefix.1 h1)
   refine ⟨?_, this⟩
   simp only [List.mem_cons, List.not_mem_nil, or_false] at h2
   rcases h2 with rfl | rfl | rfl | rfl | rfl | rfl | rfl | rfl <;> decide
  rw [List.length_drop]
  omega
theorem aIM {l : List UInt8} {t : Tok} {r : List UInt8} (h : opF l = some (t, r)) : r.length < l.length := by
 match l, h with
 | [], h => cases h
 | [c], h =>
  simp only [opF] at h
  split at h
  ·cases h; simp
  ·cases h
 | c :: d :: m, h =>
  simp only [opF] at h
  split at h
  ·cases h; simp; omega
  ·split at h
   ·cases h; simp
   ·cases h
theorem qO {gn tru : List UInt8 → Bool} {b pre l : List UInt8} {t : Tok} {r : List UInt8} (h : gV gn tru b pre l = some (t, r)) : r.length ≤ l.length := by
 have hd := iA bG l
 unfold gV at h
 split at h
 ·rename_i m hm
  rw [hm] at hd
  cases hr : mM gn (pre ++ l.takeWhile bG ++ 33 :: m.takeWhile bG) with
  | none => rw [hr] at h; cases h
  | some x =>
   rw [hr] at h
   cases h
   have := iA bG m
   simp only [List.length_cons] at hd
   omega
 ·split at h
  ·split at h
   ·cases h; exact hd
   ·split at h
    ·cases h; exact hd
    ·cases h
  ·split at h
   ·cases h; exact hd
   ·cases h
structure aLb (gn tru : List UInt8 → Bool) (pn : List UInt8 → Option Int) (wn : Int → List UInt8) (okN : Int → Prop) : Prop where
 names : Names gn
 first : ∀ c r, gn (c :: r) = true → isL c = true
 signs : ∀ l, gn l = true → ∀ x ∈ l, bG x = true
 aKG : ∀ l, gn l = true → cellP l = none
 truth : ∀ l, tru l = true → l ≠ [] ∧ (∀ x ∈ l, isL x = true) ∧ cellP l = none
 number : ∀ n, okN n → pn (wn n) = some n ∧ (∃ c r, wn n = c :: r ∧ isD c = true) ∧ ∀ x ∈ wn n, eX x = true
section
variable (gn tru : List UInt8 → Bool) (okN : Int → Prop)
def okT : Tok → Prop
 | .inl n => okN n
 | .inr (.inl _) => True
 | .inr (.inr (.inl r)) => aD6 gn r
 | .inr (.inr (.inr (.inl (b, s)))) => (b = [] ∧ (gn s = true ∨ tru s = true)) ∨ (gn b = true ∧ gn s = true)
 | .inr (.inr (.inr (.inr (.inl s)))) => (∃ c, c ∈ ones ∧ s = [c]) ∨ (∃ c d, two c d = true ∧ s = [c, d])
 | .inr (.inr (.inr (.inr (.inr n)))) => 1 ≤ n ∧ n ≤ 8
end
theorem aGO {c : UInt8} (h : isL c = true) : bG c = true := by unfold bG; rw [h]; rfl
end Go.Tk
namespace Go.Proofs.YtljmklbbngpllaaGreatDoor
open Go.RowKit
structure TT where
 k : Int
 n : Int
 s : ByteArray
 b : ByteArray
 h : ByteArray
 r : Int
 c : Int
 fr : Bool
 fc : Bool
abbrev tcs (k n : Int) (s b h : ByteArray) (r c : Int) (fr fc : Bool) : Array Value := #[.int .i64 k, .int .i64 n, .string s, .string b, .string h, .int .i64 r, .int .i64 c, .bool fr, .bool fc]
def TT.cs (t : TT) : Array Value := tcs t.k t.n t.s t.b t.h t.r t.c t.fr t.fc
abbrev ba (l : List UInt8) : ByteArray := ⟨l.toArray⟩
abbrev noB : ByteArray := ⟨#[]⟩
def tk : Tk.Tok → TT
 | .inl n => ⟨1, n, noB, noB, noB, 0, 0, false, false⟩
 | .inr (.inl s) => ⟨2, 0, ba s, noB, noB, 0, 0, false, false⟩
 | .inr (.inr (.inl r)) => ⟨3, 0, noB, ba r.book, ba r.sheet, r.cell.row, r.cell.col, r.cell.fr, r.cell.fc⟩
 | .inr (.inr (.inr (.inl (b, s)))) => ⟨4, 0, ba s, ba b, noB, 0, 0, false, false⟩
 | .inr (.inr (.inr (.inr (.inl s)))) => ⟨5, 0, ba s, noB, noB, 0, 0, false, false⟩
 | .inr (.inr (.inr (.inr (.inr n)))) => ⟨6, n, noB, noB, noB, 0, 0, false, false⟩
abbrev tk0 : Array Value := tcs 0 0 noB noB noB 0 0 false false
theorem dI : (Tryz.prog.info? 123).map (·.size) = some 9 := by kernel_rfl
theorem sto {w : World} {g : Nat} {t : TypeId} {zs es : Array Value} (hg : w.heap[g]? = some (.cells zs t (0, 0))) (hi : (Tryz.prog.info? t).map (·.size) = some es.size) (hz : zs.size = es.size) (h1 : es.all (·.oneCell') = true) :
  (Instr.storeAt t (.pointer (some ⟨g, 0, none⟩)) (.agg es)).run Tryz.prog w = .ok () (w.setRow g es) := by
 have hr := run_storeVar_row (P := Tryz.prog) w g t t zs es hg hi (by omega) h1
 simp only [Instr.storeAt, Instr.sureAddr, Sem.run_bind, Sem.run_pure, Result.andThen_ok, hr]
theorem lod {w : World} {g : Nat} {t : TypeId} {es : Array Value} {d : TypeDesc} {z : Nat × Nat} (hg : w.heap[g]? = some (.cells es t z)) (hd : (match d with | .struct _ | .array _ _ => true | _ => false) = true) (hu : Tryz.prog.underlying t = some d) (hi : (Tryz.prog.info? t).map (·.size) = some es.size) :
  (Instr.loadAt t (.pointer (some ⟨g, 0, none⟩))).run Tryz.prog w = .ok (.agg es) w := by
 have hr := run_loadVar_row (P := Tryz.prog) w g t t es z d hg hu (by cases d <;> simp_all) hi
 simp only [Instr.loadAt, Instr.sureAddr, Sem.run_bind, Sem.run_pure, Result.andThen_ok, hr]
theorem aC (w : World) (g : Nat) (es : Array Value) : w.grownBy (w.setRow g es) (some g) :=
 ⟨rfl, rfl, rfl, by simp [World.setRow], fun i _ hi => setRow_other w g i es (fun e => hi (by rw [e]))⟩
theorem aB {P : Program} {ops : Array Oper} {rest : List Oper} {o : Oper} {a : Act} {w : World} {Q : Exit → Act → World → Prop} (hgd : o.guard = none) (ty : TypeId) (x : Operand) (ho : o.op = .load ty x)
  (p v : Value) (hx : a.eval x = p) (hrun : (Instr.loadAt ty p).run P w = .ok v w) (h : wpList P ops Q rest (a.put o.dst v) w) : wpList P ops Q (o :: rest) a w := by
 refine wpList_plain hgd fun K hK => ?_
 unfold Oper.wp execOp
 simp only [ho, hx, Sem.run_bind, Sem.run_pure, hrun, Result.andThen_ok]
 exact hK _ _ h
theorem aD {P : Program} {ops : Array Oper} {rest : List Oper} {o : Oper} {a : Act} {w : World} {Q : Exit → Act → World → Prop} (hgd : o.guard = none) (ty : TypeId) (x y : Operand) (ho : o.op = .store ty x y)
  (p v : Value) (w' : World) (hx : a.eval x = p) (hy : a.eval y = v) (hrun : (Instr.storeAt ty p v).run P w = .ok () w') (h : wpList P ops Q rest (a.put o.dst undef) w') : wpList P ops Q (o :: rest) a w := by
 refine wpList_plain hgd fun K hK => ?_
 unfold Oper.wp execOp
 simp only [ho, hx, hy, Sem.run_bind, Sem.run_pure, hrun, Result.andThen_ok]
 exact hK _ _ h
theorem fE {fn : Func} {p u : Tmp} {ty : TypeId} (h : fn.results = #[.cell p ty, .tmp u]) {tmps : Array Value} {w : World} {g : Nat} {t : TypeId} {cs : Array Value} {fr : Nat × Nat} {d : TypeDesc} {v2 : Value}
  (hp : tmps.getD p undef = .pointer (some ⟨g, 0, none⟩)) (hg : w.heap[g]? = some (.cells cs t fr))
  (hd : (match d with | .struct _ | .array _ _ => true | _ => false) = true) (hu : Tryz.prog.underlying ty = some d) (hi : (Tryz.prog.info? ty).map (·.size) = some cs.size) (hv : tmps.getD u undef = v2) :
  (results fn tmps).run Tryz.prog w = .ok (.tuple #[.agg cs, v2]) w := by
 rw [results_cell_tmp h, hp, hv]
 simp [asAddr, run_loadVar_row w g t ty cs fr d hg hu (by cases d <;> simp_all) hi, Result.andThen]
abbrev nC : Value := .func (.func 76) #[] #[]
abbrev aJI (l : List UInt8) : Obj := .cells #[.string (ba l), nC] 121
structure dB (w : World) : Prop where
 t : tC w
 ops : ∀ i (h : i < 17), w.cell? ⟨0, i, none⟩ = some (.string (ba ((([[60, 62], [60, 61], [62, 61], [43], [45], [42], [47], [94], [38], [61], [60], [62], [37], [40], [41], [44], [58]] : List (List UInt8))[i]'h))))
 m : ∃ m, w.cell? ⟨2, 0, none⟩ = some (.int .i64 m)
theorem bM {w w' : World} (hb : Below w.heap.size w w') {a : Addr} {v : Value} (h : w.cell? a = some v) : w'.cell? a = some v :=
 (World.cell?_of_block (hb.block _ (World.block_lt_of_cell? w a h))).trans h
theorem dB.below {w w' : World} (h : dB w) (hb : Below w.heap.size w w') : dB w' :=
 ⟨h.t.below hb, fun i hi => bM hb (h.ops i hi), h.m.imp fun m hm => bM hb hm⟩
structure LX (W : World) (b : Nat) (l : List UInt8) (w : World) : Prop where
 tab : dB W
 bel : Below W.heap.size W w
 lo : W.heap.size ≤ b
 blk : w.heap[b]? = some (aJI l)
theorem LX.lt {W w : World} {b : Nat} {l : List UInt8} (h : LX W b l w) : b < w.heap.size := aS h.blk
theorem LX.t {W w : World} {b : Nat} {l : List UInt8} (h : LX W b l w) : dB w := h.tab.below h.bel
theorem LX.cells {W w : World} {b : Nat} {l : List UInt8} (h : LX W b l w) : w.cell? ⟨b, 0, none⟩ = some (.string (ba l)) ∧ w.cell? ⟨b, 1, none⟩ = some nC ∧ w.frozen? ⟨b, 0, none⟩ = false := by
 simp [World.cell?, World.frozen?, h.blk]
theorem LX.grown {W w w' : World} {b : Nat} {l : List UInt8} (h : LX W b l w) {row : Option Nat} (hg : w.grownBy w' row) (hr : ∀ k, row = some k → W.heap.size ≤ k ∧ k ≠ b) : LX W b l w' :=
 ⟨h.tab, h.bel.grown hg h.bel.size (fun k hk => (hr k hk).1), h.lo, (hg.block b h.lt (fun e => (hr b e.symm).2 rfl)).trans h.blk⟩
theorem LX.below {W w w' : World} {b : Nat} {l : List UInt8} (h : LX W b l w) (hb : Below w.heap.size w w') : LX W b l w' :=
 ⟨h.tab, aG h.bel (hb), h.lo, (hb.block b h.lt).trans h.blk⟩
theorem LX.alloc {W w : World} {b : Nat} {l : List UInt8} (h : LX W b l w) (o : Obj) : LX W b l (w.alloc o) := h.below (aA (Below.refl _ _) o)
theorem LX.drew {W w : World} {b : Nat} {l : List UInt8} (h : LX W b l w) : LX W b l w.drew := ⟨h.tab, h.bel.drew, h.lo, h.blk⟩
theorem LX.set {W w : World} {b : Nat} {l : List UInt8} (h : LX W b l w) (m : List UInt8) : LX W b m (w.setCell ⟨b, 0, none⟩ (.string (ba m))) :=
 ⟨h.tab, h.bel.setCell h.lo _, h.lo, by simp [World.setCell, Array.getElem?_modify, h.blk]⟩
theorem aZ {w w' : World} {row : Option Nat} (h : Below w.heap.size w w') : w.grownBy w' row := ⟨h.os, h.tape, h.output, h.size, fun i hi _ => h.block i hi⟩
theorem aM {a w w' : World} {row : Option Nat} (h : a.grownBy w row) (k : w.grownBy w' row) : a.grownBy w' row := World.grownBy.trans h k
def St (W : World) (b : Nat) (l : List UInt8) (w w' : World) : Prop := LX W b l w' ∧ w.grownBy w' (some b)
theorem St.refl {W w : World} {b : Nat} {l : List UInt8} (h : LX W b l w) : St W b l w w := ⟨h, World.grownBy.refl _ _⟩
theorem St.step {W w w1 w2 : World} {b : Nat} {l m : List UInt8} (h : St W b l w w1) (k : St W b m w1 w2) : St W b m w w2 := ⟨k.1, aM h.2 k.2⟩
theorem St.bel {W w w1 w2 : World} {b : Nat} {l : List UInt8} (h : St W b l w w1) (hb : Below w1.heap.size w1 w2) : St W b l w w2 := ⟨h.1.below hb, aM h.2 (aZ hb)⟩
theorem St.alloc {W w w1 : World} {b : Nat} {l : List UInt8} (h : St W b l w w1) (o : Obj) : St W b l w (w1.alloc o) := h.bel (aA (Below.refl _ _) o)
theorem St.drew {W w w1 : World} {b : Nat} {l : List UInt8} (h : St W b l w w1) : St W b l w w1.drew := ⟨h.1.drew, aM h.2 ⟨rfl, rfl, rfl, Nat.le_refl _, fun _ _ _ => rfl⟩⟩
theorem St.set {W w w1 : World} {b : Nat} {l : List UInt8} (h : St W b l w w1) (m : List UInt8) : St W b m w (w1.setCell ⟨b, 0, none⟩ (.string (ba m))) := ⟨h.1.set m, aM h.2 (Lib.grownBy_setCell _ _ _ _)⟩
theorem St.grown {W w w1 w2 : World} {b g : Nat} {l : List UInt8} (h : St W b l w w1) (hg : w1.grownBy w2 (some g)) (h1 : w.heap.size ≤ g) (h2 : b < w.heap.size) : St W b l w w2 :=
 ⟨h.1.grown hg (fun k hk => by cases hk; exact ⟨by have := h.1.lo; omega, by omega⟩), World.grownBy.andThen h.2 hg (fun j hj => by cases hj; exact .inl h1)⟩
theorem St.kept {W w w1 : World} {b : Nat} {l : List UInt8} (h : St W b l w w1) {i : Nat} {o : Obj} (hi : w.heap[i]? = some o) (hb : i ≠ b) : w1.heap[i]? = some o :=
 (h.2.block i (aS hi) (fun e => hb (Option.some.inj e))).trans hi
end Go.Proofs.YtljmklbbngpllaaGreatDoor
