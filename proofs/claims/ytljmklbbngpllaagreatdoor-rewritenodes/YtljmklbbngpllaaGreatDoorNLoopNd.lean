/- APure, ABase, AMem, NPure, NSmall, NLoop. -/
import Derived.Below
import Derived.BigQuiet
import Derived.Deep.QuietTactic
import Derived.Deep.RegionHeldLaw
import Derived.JoinedTies
import Derived.KernelRfl
import Derived.Laws.RangeAny
import Derived.Laws.StructEq
import Derived.Lib.AtoiAll
import Derived.Lib.ItoaNum
import Derived.Lib.SlBytesConst
import Derived.LoopTactic
import Derived.RowKit
import Derived.Test.YtljmklbbngpllaaGreatDoorProg
import Derived.WalkKit
import GoSem.Claim
import GoSem.ClaimJoined
import GoSem.ClaimMapViews
set_option linter.unusedVariables false
set_option linter.unusedSimpArgs false
set_option maxHeartbeats 16000000
set_option maxRecDepth 100000
namespace Go.Ad
open Go.Lib
def isL (c : UInt8) : Bool := (decide (97 ≤ c.toNat) && decide (c.toNat ≤ 122)) || (decide (65 ≤ c.toNat) && decide (c.toNat ≤ 90))
def isD (c : UInt8) : Bool := decide (48 ≤ c.toNat) && decide (c.toNat ≤ 57)
def sU (c : UInt8) : Nat := if 97 ≤ c.toNat then c.toNat - 96 else c.toNat - 64
def strip (c : UInt8) : List UInt8 → Bool × List UInt8
 | [] => (false, [])
 | x :: r => if x = c then (true, r) else (false, x :: r)
def gH : List UInt8 → Nat
 | [a] => if isD a = true ∧ a ≠ 48 then a.toNat - 48 else 0
 | [a, b] => if isD a = true ∧ isD b = true ∧ a ≠ 48 then (a.toNat - 48) * 10 + (b.toNat - 48) else 0
 | _ => 0
theorem mJ (a : UInt8) : gH [a] = if isD a = true ∧ a ≠ 48 then a.toNat - 48 else 0 := rfl
theorem mK (a b : UInt8) : gH [a, b] = if isD a = true ∧ isD b = true ∧ a ≠ 48 then (a.toNat - 48) * 10 + (b.toNat - 48) else 0 := rfl
theorem bV (c x : UInt8) (r : List UInt8) : strip c (x :: r) = if x = c then (true, r) else (false, x :: r) := rfl
structure Cell where
 row : Nat
 col : Nat
 fr : Bool
 fc : Bool
def inF (c : Cell) : Prop := 1 ≤ c.row ∧ c.row ≤ 64 ∧ 1 ≤ c.col ∧ c.col ≤ 26
def aD4 (fc : Bool) (c : UInt8) (l : List UInt8) : Option Cell :=
 if isL c = true ∧ 1 ≤ gH (strip 36 l).2 ∧ gH (strip 36 l).2 ≤ 64 then some ⟨gH (strip 36 l).2, sU c, (strip 36 l).1, fc⟩ else none
def cellP (l : List UInt8) : Option Cell :=
 match (strip 36 l).2 with
 | c :: r => aD4 (strip 36 l).1 c r
 | [] => none
def eT (n : Nat) : UInt8 := UInt8.ofNat (64 + n)
def cellW (c : Cell) : List UInt8 := (if c.fc = true then [36] else []) ++ (eT c.col :: ((if c.fr = true then [36] else []) ++ decDigits c.row))
theorem toNat_ofNat {n : Nat} (h : n < 256) : (UInt8.ofNat n).toNat = n := by simp; omega
theorem qC {a b : UInt8} (h : a.toNat = b.toNat) : a = b := UInt8.toNat_inj.1 h
theorem aBN {c : UInt8} (h : isL c = true) : 1 ≤ sU c ∧ sU c ≤ 26 ∧ c ≠ 36 := by
 unfold isL at h
 simp only [Bool.or_eq_true, Bool.and_eq_true, decide_eq_true_eq] at h
 refine ⟨?_, ?_, fun e => ?_⟩
 ·unfold sU; split <;> omega
 ·unfold sU; split <;> omega
 ·have : c.toNat = 36 := by rw [e]; rfl
  omega
theorem kJ {n : Nat} (h : n < 10) : (UInt8.ofNat (48 + n)).toNat = 48 + n := toNat_ofNat (by omega)
theorem aD5 {n : Nat} (h1 : 1 ≤ n) (h2 : n ≤ 64) : gH (decDigits n) = n ∧ (strip 36 (decDigits n)).1 = false ∧ (strip 36 (decDigits n)).2 = decDigits n ∧ ∀ c ∈ decDigits n, isD c = true := by
 by_cases h : n < 10
 ·have e := kJ h
  rw [decDigits_one h]
  have hd : isD (UInt8.ofNat (48 + n)) = true := by unfold isD; rw [e]; simp; omega
  have h48 : UInt8.ofNat (48 + n) ≠ 48 := fun x => by rw [x] at e; have : (48 : UInt8).toNat = 48 := rfl; omega
  have h36 : UInt8.ofNat (48 + n) ≠ 36 := fun x => by rw [x] at e; have : (36 : UInt8).toNat = 36 := rfl; omega
  refine ⟨?_, ?_, ?_, fun c hc => ?_⟩
  ·rw [mJ, if_pos ⟨hd, h48⟩, e]; omega
  ·rw [bV, if_neg h36]
  ·rw [bV, if_neg h36]
  ·simp only [List.mem_singleton] at hc; rw [hc]; exact hd
 ·have e1 := kJ (n := n / 10) (by omega)
  have e2 := kJ (n := n % 10) (by omega)
  rw [decDigits, dif_neg h, decDigits_one (by omega)]
  simp only [List.singleton_append]
  have hd1 : isD (UInt8.ofNat (48 + n / 10)) = true := by unfold isD; rw [e1]; simp; omega
  have hd2 : isD (UInt8.ofNat (48 + n % 10)) = true := by unfold isD; rw [e2]; simp; omega
  have h48 : UInt8.ofNat (48 + n / 10) ≠ 48 := fun x => by rw [x] at e1; have : (48 : UInt8).toNat = 48 := rfl; omega
  have h36 : UInt8.ofNat (48 + n / 10) ≠ 36 := fun x => by rw [x] at e1; have : (36 : UInt8).toNat = 36 := rfl; omega
  refine ⟨?_, ?_, ?_, fun c hc => ?_⟩
  ·rw [mK, if_pos ⟨hd1, hd2, h48⟩, e1, e2]; omega
  ·rw [bV, if_neg h36]
  ·rw [bV, if_neg h36]
  ·simp only [List.mem_cons, List.not_mem_nil, or_false] at hc
   rcases hc with rfl | rfl
   ·exact hd1
   ·exact hd2
theorem aGw {l : List UInt8} (h : 1 ≤ gH l) : (decDigits (gH l)).length = l.length := by
 match l, h with
 | [a], h =>
  rw [mJ] at h ⊢
  split at h
  ·rename_i hh
   have := hh.1
   unfold isD at this
   simp only [Bool.and_eq_true, decide_eq_true_eq] at this
   rw [if_pos hh, decDigits_one (by omega)]
   rfl
  ·omega
 | [a, b], h =>
  rw [mK] at h ⊢
  split at h
  ·rename_i hh
   obtain ⟨h1, h2, h3⟩ := hh
   have ha : a.toNat ≠ 48 := fun e => h3 (qC e)
   have q1 := h1
   have q2 := h2
   unfold isD at q1 q2
   simp only [Bool.and_eq_true, decide_eq_true_eq] at q1 q2
   rw [if_pos ⟨h1, h2, h3⟩, decDigits, dif_neg (by omega), decDigits_one (by omega)]
   rfl
  ·omega
 | [], h => simp [gH] at h
 | _ :: _ :: _ :: _, h => simp [gH] at h
theorem iL (c : UInt8) : ∀ l : List UInt8, l.length = (if (strip c l).1 = true then 1 else 0) + (strip c l).2.length
 | [] => by simp [strip]
 | x :: r => by
  rw [bV]
  split <;> simp <;> omega
theorem aCv (c : UInt8) (l : List UInt8) : strip c (c :: l) = (true, l) := by simp [strip]
theorem cell_of {l : List UInt8} {c : Cell} (h : cellP l = some c) : inF c ∧ (cellW c).length = l.length := by
 unfold cellP at h
 have e1 := iL 36 l
 cases hs : (strip 36 l).2 with
 | nil => rw [hs] at h; cases h
 | cons x r =>
  rw [hs] at h e1
  simp only at h
  unfold aD4 at h
  split at h
  ·rename_i hh
   obtain ⟨g1, g2, g3⟩ := hh
   have e2 := iL 36 r
   have e3 := aGw g2
   obtain ⟨b1, b2, _⟩ := aBN g1
   cases h
   refine ⟨⟨g2, g3, b1, b2⟩, ?_⟩
   unfold cellW
   simp only [List.length_append, List.length_cons, e3]
   simp only [List.length_cons] at e1
   generalize (strip 36 l).1 = f1 at *
   generalize (strip 36 r).1 = f2 at *
   cases f1 <;> cases f2 <;> simp at e1 e2 ⊢ <;> omega
  ·cases h
theorem aGx {c : Cell} : cellW c ≠ [] := by
 unfold cellW
 simp
def at_ (c : UInt8) : List UInt8 → Option (List UInt8 × List UInt8)
 | [] => none
 | x :: r => if x = c then some ([], r) else (at_ c r).map fun p => (x :: p.1, p.2)
theorem aAv {c : UInt8} : ∀ {l : List UInt8} (m : List UInt8), (∀ x ∈ l, x ≠ c) → at_ c (l ++ c :: m) = some (l, m)
 | [], m, _ => by simp [at_]
 | x :: r, m, h => by
  rw [List.cons_append]
  unfold at_
  rw [if_neg (h x (List.mem_cons_self ..)), aAv m fun y hy => h y (List.mem_cons_of_mem _ hy)]
  rfl
theorem gZ {c : UInt8} : ∀ {l a b : List UInt8}, at_ c l = some (a, b) → l = a ++ c :: b ∧ ∀ x ∈ a, x ≠ c
 | [], a, b, h => by cases h
 | x :: r, a, b, h => by
  unfold at_ at h
  by_cases e : x = c
  ·rw [if_pos e] at h
   cases h
   exact ⟨by rw [e]; rfl, fun y hy => by cases hy⟩
  ·rw [if_neg e] at h
   cases hr : at_ c r with
   | none => rw [hr] at h; cases h
   | some p =>
    rw [hr] at h
    cases h
    obtain ⟨h1, h2⟩ := gZ (a := p.1) (b := p.2) hr
    refine ⟨by rw [List.cons_append, ← h1], fun y hy => ?_⟩
    rcases List.mem_cons.1 hy with rfl | hy
    ·exact e
    ·exact h2 y hy
structure Ref where
 book : List UInt8
 sheet : List UInt8
 cell : Cell
section
variable (gn : List UInt8 → Bool)
def jQ (book l : List UInt8) : Option Ref :=
 match at_ 33 l with
 | none => (cellP l).map fun c => ⟨book, [], c⟩
 | some (a, r) => if gn a = true then (cellP r).map fun c => ⟨book, a, c⟩ else none
def mM (l : List UInt8) : Option Ref :=
 match l with
 | 91 :: m =>
  match at_ 93 m with
  | none => none
  | some (a, r) => if gn a = true ∧ (at_ 33 r).isSome = true then jQ gn a r else none
 | l => jQ gn [] l
def aD6 (r : Ref) : Prop := inF r.cell ∧ (r.sheet = [] ∨ gn r.sheet = true) ∧ (r.book = [] ∨ (gn r.book = true ∧ r.sheet ≠ []))
end
def qD (r : Ref) : List UInt8 :=
 (if r.book = [] then [] else 91 :: (r.book ++ [93])) ++ ((if r.sheet = [] then [] else r.sheet ++ [33]) ++ cellW r.cell)
def Names (gn : List UInt8 → Bool) : Prop := ∀ l, gn l = true → l ≠ [] ∧ ∀ x ∈ l, x ≠ 33 ∧ x ≠ 91 ∧ x ≠ 93
theorem aAw {gn : List UInt8 → Bool} {l : List UInt8} (h : l.head? ≠ some 91) : mM gn l = jQ gn [] l := by
 unfold mM
 split
 ·simp at h
 ·rfl
theorem xB {gn : List UInt8 → Bool} (hn : Names gn) {book l : List UInt8} {r : Ref} (h : jQ gn book l = some r) :
  r.book = book ∧ inF r.cell ∧ (r.sheet = [] ∨ gn r.sheet = true) ∧ ((at_ 33 l).isSome = true → r.sheet ≠ []) ∧ ((if r.sheet = [] then [] else r.sheet ++ [33]) ++ cellW r.cell).length = l.length := by
 unfold jQ at h
 cases ha : at_ 33 l with
 | none =>
  rw [ha] at h
  simp only at h
  cases hc : cellP l with
  | none => rw [hc] at h; cases h
  | some c =>
   rw [hc] at h
   cases h
   obtain ⟨q1, q2⟩ := cell_of hc
   exact ⟨rfl, q1, .inl rfl, fun e => (by cases e), by simpa using q2⟩
 | some p =>
  obtain ⟨a, m⟩ := p
  rw [ha] at h
  simp only at h
  split at h
  ·rename_i hg
   cases hc : cellP m with
   | none => rw [hc] at h; cases h
   | some c =>
    rw [hc] at h
    cases h
    obtain ⟨q1, q2⟩ := cell_of hc
    obtain ⟨e1, _⟩ := gZ ha
    have hne := (hn a hg).1
    refine ⟨rfl, q1, .inr hg, fun _ => hne, ?_⟩
    simp only [if_neg hne, List.length_append, List.length_cons, List.length_nil, q2, e1]
    omega
  ·cases h
theorem aIz {gn : List UInt8 → Bool} (hn : Names gn) {l : List UInt8} {r : Ref} (h : mM gn l = some r) : aD6 gn r ∧ (qD r).length = l.length := by
 unfold mM at h
 split at h
 ·rename_i m
  cases ha : at_ 93 m with
  | none => rw [ha] at h; cases h
  | some p =>
   obtain ⟨a, t⟩ := p
   rw [ha] at h
   simp only at h
   split at h
   ·rename_i hg
    obtain ⟨q1, q2, q3, q4, q5⟩ := xB hn h
    obtain ⟨e1, _⟩ := gZ ha
    have hne := (hn a hg.1).1
    refine ⟨⟨q2, q3, .inr ⟨by rw [q1]; exact hg.1, q4 hg.2⟩⟩, ?_⟩
    unfold qD
    rw [List.length_append, q5, q1, if_neg hne, e1]
    simp only [List.length_cons, List.length_append, List.length_nil]
    omega
   ·cases h
 ·obtain ⟨q1, q2, q3, q4, q5⟩ := xB hn h
  refine ⟨⟨q2, q3, .inl q1⟩, ?_⟩
  unfold qD
  rw [List.length_append, q5, q1, if_pos rfl]
  simp
theorem aIA {l : List UInt8} (h : 1 ≤ gH l) : decDigits (gH l) = l := by
 match l, h with
 | [a], h =>
  rw [mJ] at h ⊢
  split at h
  ·rename_i hh
   have := hh.1
   unfold isD at this
   simp only [Bool.and_eq_true, decide_eq_true_eq] at this
   rw [if_pos hh, decDigits_one (by omega)]
   congr 1
   apply qC
   rw [kJ (by omega)]
   omega
  ·omega
 | [a, b], h =>
  rw [mK] at h ⊢
  split at h
  ·rename_i hh
   obtain ⟨h1, h2, h3⟩ := hh
   have ha : a.toNat ≠ 48 := fun e => h3 (qC e)
   have q1 := h1
   have q2 := h2
   unfold isD at q1 q2
   simp only [Bool.and_eq_true, decide_eq_true_eq] at q1 q2
   rw [if_pos ⟨h1, h2, h3⟩, decDigits, dif_neg (by omega), decDigits_one (by omega)]
   have e1 : UInt8.ofNat (48 + ((a.toNat - 48) * 10 + (b.toNat - 48)) / 10) = a := by
    apply qC
    rw [kJ (by omega)]
    omega
   have e2 : UInt8.ofNat (48 + ((a.toNat - 48) * 10 + (b.toNat - 48)) % 10) = b := by
    apply qC
    rw [kJ (by omega)]
    omega
   rw [e1, e2]
   rfl
  ·omega
 | [], h => simp [gH] at h
 | _ :: _ :: _ :: _, h => simp [gH] at h
theorem aD7 {l : List UInt8} (h : 1 ≤ gH l) : atoiAll l = .ok (gH l : Nat) := by
 match l, h with
 | [a], h =>
  rw [mJ] at h ⊢
  split at h
  ·rename_i hh
   have := hh.1
   unfold isD at this
   simp only [Bool.and_eq_true, decide_eq_true_eq] at this
   rw [if_pos hh]
   unfold atoiAll
   simp only
   rw [if_neg (by omega)]
   unfold parseMag
   rw [if_neg (by simp)]
   unfold parseUint10
   rw [if_pos (by omega), if_neg (by omega), if_neg (by omega)]
   unfold parseUint10
   simp only
   rw [if_neg (by omega), if_neg (by omega), if_neg (by omega)]
   congr 2
   omega
  ·omega
 | [a, b], h =>
  rw [mK] at h ⊢
  split at h
  ·rename_i hh
   obtain ⟨h1, h2, h3⟩ := hh
   have q1 := h1
   have q2 := h2
   unfold isD at q1 q2
   simp only [Bool.and_eq_true, decide_eq_true_eq] at q1 q2
   rw [if_pos ⟨h1, h2, h3⟩]
   unfold atoiAll
   simp only
   rw [if_neg (by omega)]
   unfold parseMag
   rw [if_neg (by simp)]
   unfold parseUint10
   rw [if_pos (by omega), if_neg (by omega), if_neg (by omega)]
   unfold parseUint10
   rw [if_pos (by omega), if_neg (by omega), if_neg (by omega)]
   unfold parseUint10
   simp only
   rw [if_neg (by omega), if_neg (by omega), if_neg (by omega)]
   congr 2
   omega
  ·omega
 | [], h => simp [gH] at h
 | _ :: _ :: _ :: _, h => simp [gH] at h
def qE (l : List UInt8) : Int := match atoiAll l with
 | .ok v => if itoa v = l then v else 0
 | _ => 0
def jR (n : Int) : Prop := 1 ≤ n ∧ n ≤ 64
theorem aD8 (l : List UInt8) : (jR (qE l) ∧ qE l = (gH l : Nat)) ∨ (¬ jR (qE l) ∧ ¬ (1 ≤ gH l ∧ gH l ≤ 64)) := by
 by_cases h : jR (qE l)
 ·left
  refine ⟨h, ?_⟩
  unfold jR at h
  unfold qE at h ⊢
  cases ha : atoiAll l with
  | ok v =>
   rw [ha] at h
   simp only at h ⊢
   by_cases e : itoa v = l
   ·rw [if_pos e] at h ⊢
    obtain ⟨h1, h2⟩ := h
    unfold itoa at e
    rw [if_neg (by omega)] at e
    have := (aD5 (n := v.toNat) (by omega) (by omega)).1
    rw [e] at this
    omega
   ·rw [if_neg e] at h
    omega
  | «syntax» => rw [ha] at h; simp only at h; omega
  | range => rw [ha] at h; simp only at h; omega
 ·right
  refine ⟨h, fun ⟨h1, h2⟩ => h ?_⟩
  have ha := aD7 h1
  have he := aIA h1
  unfold qE jR
  rw [ha]
  simp only
  have e : itoa ((gH l : Nat) : Int) = l := by
   unfold itoa
   rw [if_neg (by omega), Int.toNat_natCast, he]
  rw [if_pos e]
  omega
end Go.Ad
namespace Go.Proofs.YtljmklbbngpllaaGreatDoor
open Go.RowKit
abbrev bC (b s : ByteArray) (r c : Int) (fr fc : Bool) : Value := .agg #[.string b, .string s, .int .i64 r, .int .i64 c, .bool fr, .bool fc]
abbrev xC : Value := bC ⟨#[]⟩ ⟨#[]⟩ 0 0 false false
abbrev xD (b s : ByteArray) (r c : Int) : Value := .agg #[.string b, .string s, .int .i64 r, .int .i64 c]
def In64 (n : Int) : Prop := -9223372036854775808 ≤ n ∧ n ≤ 9223372036854775807
def inB (r c : Int) : Bool := decide (1 ≤ r) && decide (r ≤ 64) && decide (1 ≤ c) && decide (c ≤ 26)
theorem bJ {a b : Bool} (h : a = b) : (Ending.returned (.bool a)) = .returned (.bool b) := by rw [h]
theorem lJ (w : World) (s : ByteArray) : ∃ (c : Nat) (wb : World), (convert 9 134 (.string s)).run Tryz.prog w = .ok (.slice (some ⟨w.heap.size, 0, none⟩) s.size c) wb ∧
  (∀ (k : Nat) (h : k < s.size), wb.cell? ⟨w.heap.size, k, none⟩ = some (.int .u8 (s[k].toNat : Int))) ∧ Below w.heap.size w wb := by
 refine ⟨_, _, run_bytes_of_string w 9 134 5 s Tryz.underlying9 Tryz.underlying134 Tryz.underlying5, fun k h => ?_, ?_⟩
 ·have h2 : k < s.data.size := h
  rw [show w.heap.size = w.drew.heap.size from rfl, World.cell?_alloc_mark, bytesRow_at _ _ _ h2]
  rfl
 ·exact ((Below.refl w.heap.size w).drew).alloc (Nat.le_refl _) _
theorem iU (c : UInt8) (w : World) : Calls Tryz.prog 193 #[.int .u8 (c.toNat : Nat)] w fun e w' => e = .returned (.bool (Ad.isL c)) ∧ w' = w := by
 have hc : c.toNat < 256 := c.toNat_lt
 unfold Ad.isL
 generalize c.toNat = n at *
 go_enter Tryz.func193, Tryz.ntmps193
 go_wp2
 all_goals (go_ret; refine ⟨bJ ?_, rfl⟩; rw [Bool.eq_iff_iff]; simp; omega)
theorem tJ (c : UInt8) (w : World) : Calls Tryz.prog 221 #[.int .u8 (c.toNat : Nat)] w fun e w' => e = .returned (.bool (Ad.isD c)) ∧ w' = w := by
 have hc : c.toNat < 256 := c.toNat_lt
 unfold Ad.isD
 generalize c.toNat = n at *
 go_enter Tryz.func221, Tryz.ntmps221
 go_wp2
 all_goals (go_ret; refine ⟨bJ ?_, rfl⟩; rw [Bool.eq_iff_iff]; simp; omega)
theorem aD9 (r c : Int) (w : World) : Calls Tryz.prog 196 #[.int .i64 r, .int .i64 c] w fun e w' => e = .returned (.bool (inB r c)) ∧ w' = w := by
 unfold inB
 go_enter Tryz.func196, Tryz.ntmps196
 go_wp2
 all_goals (go_ret; refine ⟨bJ ?_, rfl⟩; rw [Bool.eq_iff_iff]; simp; omega)
theorem qF (b : Bool) (w : World) : Calls Tryz.prog 213 #[.bool b] w fun e w' => e = .returned (.string (if b = true then ⟨#[36]⟩ else ⟨#[]⟩)) ∧ w' = w := by
 cases b
 all_goals
  go_enter Tryz.func213, Tryz.ntmps213
  go_wp2
  go_ret
  exact ⟨rfl, rfl⟩
theorem aR {w w1 : World} {o : Obj} (hb : Below (w.alloc o).heap.size (w.alloc o) w1) : Below w.heap.size w w1 :=
 ((Below.refl _ _).alloc (Nat.le_refl _) o).trans (hb.mono (by simp))
theorem aG {w w1 w2 : World} (h : Below w.heap.size w w1) (hb : Below w1.heap.size w1 w2) : Below w.heap.size w w2 := h.trans (hb.mono h.size)
theorem aA {w w1 : World} (h : Below w.heap.size w w1) (o : Obj) : Below w.heap.size w (w1.alloc o) := h.alloc h.size _
theorem aCw {w x : World} {a b : Obj} (h : Below ((w.alloc a).alloc b).heap.size ((w.alloc a).alloc b) x) : Below w.heap.size w x := aR (aR h)
theorem aS {u : World} {g : Nat} {o : Obj} (h : u.heap[g]? = some o) : g < u.heap.size := (Array.getElem?_eq_some_iff.1 h).1
theorem new1 {w x : World} {o : Obj} (h : Below (w.alloc o).heap.size (w.alloc o) x) : x.heap[w.heap.size]? = some o := by
 rw [h.block _ (by simp)]
 exact heap_alloc_new w o
theorem new2 {w x : World} {a b : Obj} (h : Below ((w.alloc a).alloc b).heap.size ((w.alloc a).alloc b) x) : x.heap[w.heap.size]? = some a ∧ x.heap[w.heap.size + 1]? = some b := by
 refine ⟨new1 (aR h), ?_⟩
 have := new1 h
 simpa using this
theorem xE {w x : World} {a b c : Obj} (h : Below (((w.alloc a).alloc b).alloc c).heap.size (((w.alloc a).alloc b).alloc c) x) : x.heap[w.heap.size]? = some a ∧ x.heap[w.heap.size + 1]? = some b ∧ x.heap[w.heap.size + 2]? = some c := by
 obtain ⟨h1, h2⟩ := new2 (aR h)
 refine ⟨h1, h2, ?_⟩
 have := new1 h
 simpa using this
section
variable {u : World} {g : Nat} {a b c d e f : Value}
theorem aP {t : TypeId} (h : u.heap[g]? = some (.cells #[a, b, c, d, e, f] t (0, 0))) : u.cell? ⟨g, 0, none⟩ = some a ∧ u.cell? ⟨g, 1, none⟩ = some b ∧ u.cell? ⟨g, 2, none⟩ = some c ∧ u.cell? ⟨g, 3, none⟩ = some d ∧ u.cell? ⟨g, 4, none⟩ = some e ∧ u.cell? ⟨g, 5, none⟩ = some f := by
 simp [World.cell?, h]
theorem bH {t : TypeId} (h : u.heap[g]? = some (.cells #[a, b, c, d, e, f] t (0, 0))) : u.frozen? ⟨g, 0, none⟩ = false ∧ u.frozen? ⟨g, 1, none⟩ = false ∧ u.frozen? ⟨g, 2, none⟩ = false ∧ u.frozen? ⟨g, 3, none⟩ = false ∧ u.frozen? ⟨g, 4, none⟩ = false ∧ u.frozen? ⟨g, 5, none⟩ = false := by
 simp [World.frozen?, h]
theorem pW {t : TypeId} (h : u.heap[g]? = some (.cells #[a, b, c, d] t (0, 0))) : u.cell? ⟨g, 0, none⟩ = some a ∧ u.cell? ⟨g, 1, none⟩ = some b ∧ u.cell? ⟨g, 2, none⟩ = some c ∧ u.cell? ⟨g, 3, none⟩ = some d := by
 simp [World.cell?, h]
theorem aEa {t : TypeId} (h : u.heap[g]? = some (.cells #[a, b, c, d] t (0, 0))) : u.frozen? ⟨g, 0, none⟩ = false ∧ u.frozen? ⟨g, 1, none⟩ = false ∧ u.frozen? ⟨g, 2, none⟩ = false ∧ u.frozen? ⟨g, 3, none⟩ = false := by
 simp [World.frozen?, h]
end
abbrev aU (b s : ByteArray) (r c : Int) (fr fc : Bool) : Obj := .cells #[.string b, .string s, .int .i64 r, .int .i64 c, .bool fr, .bool fc] 25
def RC (W : World) (f : Nat) (args : Array Value) (r : Value) : Prop := ∀ u, Below W.heap.size W u → Calls Tryz.prog f args u fun e w' => e = .returned r ∧ Below W.heap.size W w'
theorem RC.of {W : World} {f : Nat} {args : Array Value} {r : Value} (h : ∀ u, Below W.heap.size W u → Calls Tryz.prog f args u fun e w' => e = .returned r ∧ Below u.heap.size u w') : RC W f args r := fun u hu =>
 (h u hu).mono fun _ _ ⟨h1, h2⟩ => ⟨h1, aG hu h2⟩
theorem RC.same {W : World} {f : Nat} {args : Array Value} {r : Value} (h : ∀ u, Below W.heap.size W u → Calls Tryz.prog f args u fun e w' => e = .returned r ∧ w' = u) : RC W f args r := fun u hu =>
 (h u hu).mono fun _ _ ⟨h1, h2⟩ => ⟨h1, by rw [h2]; exact hu⟩
end Go.Proofs.YtljmklbbngpllaaGreatDoor
namespace Go.Proofs.YtljmklbbngpllaaGreatDoor
def gd (n : Int) : Bool := decide (-100000000000 ≤ n) && decide (n ≤ 100000000000)
def ans (n : Int) : Int × Bool := if gd n = true then (n, true) else (0, false)
def vE (n : Int) : Int := if n < 0 then -n else n
def aCx (n : Int) (b : Bool) : Int := if b = true then -n else n
def dF (a b : Int) : Int × Bool := if (gd a && gd b) = true ∧ b ≠ 0 then ans (a.tdiv b * 10000) else (0, false)
theorem aIB (n : Int) : gd (ans n).1 = true := by unfold ans; split <;> simp_all [gd]
def fc : Nat → Int
 | 0 => 1
 | n + 1 => fc n * ((n : Int) + 1)
end Go.Proofs.YtljmklbbngpllaaGreatDoor
namespace Go.Proofs.YtljmklbbngpllaaGreatDoor
open Go.RowKit
def two (r : Int × Bool) : Value := .tuple #[.int .i64 r.1, .bool r.2]
theorem iM (n : Int) (w : World) : Calls Tryz.prog 218 #[.int .i64 n] w fun e w' => e = .returned (.bool (gd n)) ∧ w' = w := by
 go_enter Tryz.func218, Tryz.ntmps218
 go_wp2
 all_goals (go_ret; rename_i h; refine ⟨?_, rfl⟩; congr 2; simp [gd]; try omega)
theorem gQ (n : Int) (w : World) : Calls Tryz.prog 143 #[.int .i64 n] w fun e w' => e = .returned (.bool (gd n)) ∧ w' = w := by
 go_enter Tryz.func143, Tryz.ntmps143
 go_wp2
 all_goals (go_ret; rename_i h; refine ⟨?_, rfl⟩; congr 2; simp [gd]; try omega)
theorem qG (n : Int) (w : World) : Calls Tryz.prog 189 #[.int .i64 n] w fun e w' => e = .returned (two (ans n)) ∧ w' = w := by
 cases hg : gd n
 all_goals
  go_enter Tryz.func189, Tryz.ntmps189
  go_wp2_with (go_at_call 218; refine (iM _ _).mono ?_; rintro e w' ⟨rfl, hw⟩; obtain rfl := hw.symm; clear hw; rw [hg])
  go_ret2
  exact ⟨by simp [two, ans, hg], rfl⟩
theorem xG (n : Int) (h0 : -9223372036854775807 ≤ n) (h1 : n ≤ 9223372036854775807) (w : World) : Calls Tryz.prog 171 #[.int .i64 n] w fun e w' => e = .returned (.int .i64 (vE n)) ∧ w' = w := by
 by_cases h : n < 0
 ·rw [show vE n = -n from if_pos h]
  go_enter Tryz.func171, Tryz.ntmps171
  go_wp2
  go_ret
  exact ⟨rfl, rfl⟩
 ·rw [show vE n = n from if_neg h]
  go_enter Tryz.func171, Tryz.ntmps171
  go_wp2
  go_ret
  exact ⟨rfl, rfl⟩
theorem qH (n : Int) (b : Bool) (h0 : -9223372036854775807 ≤ n) (h1 : n ≤ 9223372036854775807) (w : World) : Calls Tryz.prog 190 #[.int .i64 n, .bool b] w fun e w' => e = .returned (.int .i64 (aCx n b)) ∧ w' = w := by
 unfold aCx
 cases b
 all_goals
  go_enter Tryz.func190, Tryz.ntmps190
  go_wp2
  go_ret
  exact ⟨rfl, rfl⟩
theorem aEb : ∀ j : Nat, j ≤ 11 → (10 : Int) ^ j ≤ 100000000000 ∧ 1 ≤ (10 : Int) ^ j := by decide
theorem aEc (k : Nat) (hk : k ≤ 12) (w : World) : Calls Tryz.prog 188 #[.int .i64 k] w fun e w' => e = .returned (.int .i64 (10 ^ k)) ∧ w' = w := by
 go_enter Tryz.func188, Tryz.ntmps188
 go_wp2
 go_loop [3, 5] (fun p i => ∃ (j : Nat) (P : Int), j ≤ k ∧ i = .int .i64 j ∧ p = .int .i64 P ∧ Hid (P = 10 ^ j)) (fun _ i => k - (intOf i).toNat)
 case atStart => exact ⟨0, 1, Nat.zero_le _, rfl, rfl, rfl⟩
 case round =>
  obtain ⟨j, P, hj, rfl, rfl, hP⟩ := hrel
  by_cases hlt : j < k
  ·have hb := aEb j (by omega)
   have hE : Hid (P * 10 = 10 ^ (j + 1)) := by
    show _ = _
    rw [hP.out, Int.pow_succ]
   rw [← hP.out] at hb
   go_wp2
   go_round
   case rel => exact ⟨j + 1, P * 10, by omega, by go_num, rfl, hE.out⟩
   case measure => simp [intOf]; omega
  ·obtain rfl : j = k := by omega
   go_wp2
   go_ret
   exact ⟨by rw [← hP.out]; rfl, rfl⟩
end Go.Proofs.YtljmklbbngpllaaGreatDoor
