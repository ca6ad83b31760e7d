/- BPure, PTok, FPar1. -/
import Derived.Lib.IndexBytes
import Derived.Lib.Replace
import Derived.Lib.SplitLaws
import Derived.Test.YtljmklbbngpllaaGreatDoorTSameNd
set_option linter.unusedVariables false
set_option linter.unusedSimpArgs false
set_option maxHeartbeats 16000000
set_option maxRecDepth 100000
namespace Go.Proofs.YtljmklbbngpllaaGreatDoor
open Go.RowKit
def okN (n : Int) : Prop := 0 ≤ n ∧ n ≤ 100000000000
theorem aFi (c : UInt8) : isD c = Ad.isD c := rfl
theorem eY {l : List UInt8} (h : gnF l = true) : l.length ≤ 16 ∧ jM l = true ∧ l.all okC = true ∧ lcF l = false := by
 unfold gnF at h
 simp only [Bool.and_eq_true, Bool.not_eq_true'] at h
 obtain ⟨a, b, c⟩ := mX h.1.1
 exact ⟨a, b, c, h.1.2⟩
theorem aC3 {n : Int} (h : okN n) : (∃ c r, iE n = c :: r ∧ Ad.isD c = true) ∧ (∀ x ∈ iE n, Tk.eX x = true) ∧ (iE n).length ≤ 20 := by
 have hn : ¬ n < 0 := by have := h.1; omega
 have hq : n.natAbs / 10000 < 10 ^ 8 := by have := h.2; omega
 obtain ⟨l1, l2⟩ := vG 8 (n.natAbs / 10000) (by decide) hq
 have ha := aGy (n.natAbs / 10000)
 have hd : ∀ x ∈ Lib.decDigits (n.natAbs / 10000), Tk.eX x = true := fun x hx => by
  have := List.all_eq_true.1 ha x hx
  unfold Tk.eX
  rw [← aFi, this]; rfl
 unfold iE
 rw [if_neg hn, List.nil_append]
 have hr : n.natAbs % 10000 < 10000 := by omega
 have ht : (∀ x ∈ (if n.natAbs % 10000 = 0 then [] else 46 :: jU (n.natAbs % 10000)), Tk.eX x = true) ∧ (if n.natAbs % 10000 = 0 then [] else 46 :: jU (n.natAbs % 10000)).length ≤ 5 := by
  by_cases h0 : n.natAbs % 10000 = 0
  ·rw [if_pos h0]; exact ⟨fun x hx => (by cases hx), Nat.zero_le _⟩
  ·rw [if_neg h0]
   obtain ⟨a, b, c⟩ := (mO _ _ _).1 (qJ _ hr h0).1
   refine ⟨fun x hx => ?_, by simp only [List.length_cons]; omega⟩
   rcases List.mem_cons.1 hx with rfl | hx
   ·rfl
   ·have := List.all_eq_true.1 a x hx
    unfold Tk.eX
    rw [← aFi, this]; rfl
 refine ⟨?_, fun x hx => ?_, by rw [List.length_append]; have := ht.2; omega⟩
 ·cases hdd : Lib.decDigits (n.natAbs / 10000) with
  | nil => rw [hdd] at l1; simp at l1
  | cons c r =>
   refine ⟨c, _, rfl, ?_⟩
   rw [hdd, List.all_cons, Bool.and_eq_true] at ha
   exact ha.1
 ·rcases List.mem_append.1 hx with hx | hx
  ·exact hd x hx
  ·exact ht.1 x hx
theorem aG9 (n : Nat) : aCx (n : Int) false = n := rfl
theorem aIX {c : UInt8} {r : List UInt8} {n : Int} (hc : Ad.isD c = true) (h : pnF (c :: r) = some n) : okN n := by
 unfold pnF at h
 split at h
 ·rename_i h2
  have hg := yM (c :: r)
  cases h
  unfold gd at hg
  simp only [Bool.and_eq_true, decide_eq_true_eq] at hg
  refine ⟨?_, hg.2⟩
  have hd : dash (c :: r) = false := by
   unfold dash
   rw [List.head?_cons]
   simp only [beq_eq_false_iff_ne, ne_eq, Option.some.injEq]
   rintro rfl
   exact absurd hc (by decide)
  unfold bZ
  split
  ·rw [hd, aG9]
   unfold ans
   split
   ·exact Int.natCast_nonneg _
   ·exact Int.le_refl _
  ·exact Int.le_refl _
 ·cases h
theorem aB8 {b pre l m : List UInt8} {t : Tk.Tok} (hb : b = [] ∨ gnF b = true) (h : Tk.gV gnF trB b pre l = some (t, m)) : Tk.okT gnF trB okN t := by
 unfold Tk.gV at h
 split at h
 ·rename_i q hq
  cases hp : Ad.mM gnF (pre ++ l.takeWhile Tk.bG ++ 33 :: q.takeWhile Tk.bG) with
  | none => rw [hp] at h; cases h
  | some x =>
   rw [hp] at h
   cases h
   exact (Ad.aIz yO hp).1
 ·split at h
  ·split at h
   ·rename_i c hc
    cases h
    exact ⟨(Ad.cell_of hc).1, .inl rfl, .inl rfl⟩
   ·split at h
    ·rename_i hw
     cases h
     exact .inl ⟨rfl, hw⟩
    ·cases h
  ·rename_i hne
   split at h
   ·rename_i hw
    cases h
    exact .inr ⟨hb.resolve_left hne, hw⟩
   ·cases h
theorem aIY {l m : List UInt8} {t : Tk.Tok} (h : Tk.one gnF trB pnF l = some (t, m)) : Tk.okT gnF trB okN t := by
 cases l with
 | nil => cases h
 | cons c r =>
  unfold Tk.one at h
  simp only at h
  split at h
  ·rename_i hd
   cases hp : pnF ((c :: r).takeWhile Tk.eX) with
   | none => rw [hp] at h; cases h
   | some n =>
    rw [hp] at h
    cases h
    rw [List.takeWhile_cons, if_pos (by unfold Tk.eX; rw [hd]; rfl)] at hp
    exact aIX hd hp
  ·split at h
   ·cases hq : Tk.dF r with
    | none => rw [hq] at h; cases h
    | some p => rw [hq] at h; cases h; exact trivial
   ·split at h
    ·unfold Tk.pQ at h
     cases hf : [1, 2, 3, 4, 5, 6, 7, 8].find? fun i => (Tk.gJ i).isPrefixOf (c :: r) with
     | none => rw [hf] at h; cases h
     | some i =>
      rw [hf] at h
      cases h
      have := List.mem_of_find?_eq_some hf
      simp only [List.mem_cons, List.not_mem_nil, or_false] at this
      show 1 ≤ i ∧ i ≤ 8
      omega
    ·split at h
     ·unfold Tk.named at h
      split at h
      ·rename_i m' he
       cases he
       cases ha : Ad.at_ 93 r with
       | none => rw [ha] at h; cases h
       | some p =>
        obtain ⟨a, q⟩ := p
        rw [ha] at h
        simp only at h
        split at h
        ·rename_i hg; exact aB8 (.inr hg) h
        ·cases h
      ·exact aB8 (.inl rfl) h
     ·rcases r with _ | ⟨d, r⟩
      ·simp only [Tk.opF] at h
       split at h
       ·rename_i hm; cases h; exact .inl ⟨c, hm, rfl⟩
       ·cases h
      ·simp only [Tk.opF] at h
       split at h
       ·rename_i hm; cases h; exact .inr ⟨c, d, hm, rfl⟩
       ·split at h
        ·rename_i hm; cases h; exact .inl ⟨c, hm, rfl⟩
        ·cases h
theorem wB : ∀ (k : Nat) (l : List UInt8) (L : List Tk.Tok), Tk.jY gnF trB pnF k l = some L → ∀ t ∈ L, Tk.okT gnF trB okN t
 | 0, l, L, h => by cases h
 | k + 1, [], L, h => by cases h; intro t ht; cases ht
 | k + 1, c :: r, L, h => by
  unfold Tk.jY at h
  split at h
  ·exact wB k r L h
  ·cases ho : Tk.one gnF trB pnF (c :: r) with
   | none => rw [ho] at h; cases h
   | some p =>
    rw [ho] at h
    simp only at h
    cases hk : Tk.jY gnF trB pnF k p.2 with
    | none => rw [hk] at h; cases h
    | some M =>
     rw [hk] at h
     cases h
     intro t ht
     rcases List.mem_cons.1 ht with rfl | ht
     ·exact aIY (m := p.2) ho
     ·exact wB k p.2 M hk t ht
theorem aIZ {l : List UInt8} {L : List Tk.Tok} (h : gM l = some L) : ∀ t ∈ L, Tk.okT gnF trB okN t := wB _ _ _ h
def oaF (x y : List UInt8) : Bool := if x = [60] then (y == [61] || y == [62] || y == [62, 61]) else if x = [62] then y == [61] else false
def apT : Tk.Tok → Tk.Tok → Bool
 | .inr (.inr (.inr (.inr (.inl x)))), .inr (.inr (.inr (.inr (.inl y)))) => oaF x y
 | .inr (.inr (.inr (.inr (.inl _)))), _ => false
 | _, .inr (.inr (.inr (.inr (.inl _)))) => false
 | _, _ => true
def rM : Option Tk.Tok → Tk.Tok → List UInt8
 | none, _ => []
 | some p, t => if apT p t = true then [32] else []
def txT (t : Tk.Tok) : List UInt8 := Tk.text iE t
def prT : Option Tk.Tok → List Tk.Tok → List UInt8
 | _, [] => []
 | o, t :: r => rM o t ++ (txT t ++ prT (some t) r)
def lastT : Option Tk.Tok → List Tk.Tok → Option Tk.Tok
 | o, [] => o
 | _, t :: r => lastT (some t) r
theorem zN : ∀ (L : List Tk.Tok) (o : Option Tk.Tok) (t : Tk.Tok), prT o (L ++ [t]) = prT o L ++ (rM (lastT o L) t ++ txT t)
 | [], o, t => by simp [prT, lastT]
 | x :: L, o, t => by
  rw [List.cons_append]
  show rM o x ++ (txT x ++ prT (some x) (L ++ [t])) = rM o x ++ (txT x ++ prT (some x) L) ++ (rM (lastT (some x) L) t ++ txT t)
  rw [zN L (some x) t]
  simp
theorem rO : ∀ (L : List Tk.Tok) (o : Option Tk.Tok) (t : Tk.Tok), lastT o (L ++ [t]) = some t
 | [], _, _ => rfl
 | x :: L, _, t => rO L (some x) t
theorem rP : ∀ (a r : List UInt8), (∀ x ∈ a, x ≠ 34) → Tk.pO (a ++ r) = a ++ Tk.pO r
 | [], r, _ => rfl
 | x :: a, r, h => by
  show (if x = 34 then _ else x :: Tk.pO (a ++ r)) = _
  rw [if_neg (h x (by simp)), rP a r (fun y hy => h y (by simp [hy]))]
  rfl
theorem aFj {c : UInt8} : ∀ {l a r : List UInt8}, Ad.at_ c l = some (a, r) → ∀ x ∈ a, x ≠ c
 | [], a, r, h => by cases h
 | y :: l, a, r, h => by
  unfold Ad.at_ at h
  split at h
  ·cases h; intro x hx; cases hx
  ·rename_i hy
   cases hq : Ad.at_ c l with
   | none => rw [hq] at h; cases h
   | some p =>
    rw [hq] at h
    cases h
    intro x hx
    rcases List.mem_cons.1 hx with rfl | hx
    ·exact hy
    ·exact aFj (a := p.1) (r := p.2) hq x hx
theorem zO {c : UInt8} : ∀ {l : List UInt8}, Ad.at_ c l = none → ∀ x ∈ l, x ≠ c
 | [], _ => fun x hx => by cases hx
 | y :: l, h => by
  unfold Ad.at_ at h
  split at h
  ·cases h
  ·rename_i hy
   cases hq : Ad.at_ c l with
   | some p => rw [hq] at h; cases h
   | none =>
    intro x hx
    rcases List.mem_cons.1 hx with rfl | hx
    ·exact hy
    ·exact zO hq x hx
theorem aHa : ∀ (k : Nat) (s : List UInt8), s.length ≤ k → Lib.replaceK [34] [34, 34] (Lib.count s [34]) s ++ [34] = Tk.pO s := by
 intro k
 induction k with
 | zero =>
  intro s hs
  have : s = [] := List.eq_nil_of_length_eq_zero (by omega)
  subst this
  rw [Lib.count_one]
  rfl
 | succ k ih =>
  intro s hs
  cases ha : Ad.at_ 34 s with
  | none =>
   have hno := zO ha
   rw [Lib.count_one, List.count_eq_zero_of_not_mem (fun h => hno 34 h rfl)]
   have := rP s [] hno
   rw [List.append_nil] at this
   rw [this]
   rfl
  | some p =>
   obtain ⟨a, r⟩ := p
   have hno := aFj ha
   have he : s = a ++ 34 :: r := at_eq ha
   have hix : Lib.index s [34] = (a.length : Nat) := by
    rw [Lib.index_one]
    have hge := Lib.indexByte_ge s 34
    by_cases h1 : Lib.indexByte s 34 = -1
    ·rw [(jV 34 s).1 h1] at ha; cases ha
    ·obtain ⟨i, hi⟩ : ∃ i : Nat, Lib.indexByte s 34 = i := ⟨(Lib.indexByte s 34).toNat, by omega⟩
     have h2 := (jV 34 s).2 i hi
     rw [ha] at h2
     cases h2
     rw [hi, List.length_take]
     have := congrArg List.length he
     simp at this
     omega
   have hc : Lib.count s [34] = Lib.count r [34] + 1 := by
    rw [Lib.count_one, Lib.count_one, he, List.count_append, List.count_eq_zero_of_not_mem (fun h => hno 34 h rfl)]
    simp
   have hr : r.length ≤ k := by have := congrArg List.length he; simp at this; omega
   rw [hc, Lib.replaceK_hit _ _ _ _ _ hix]
   have e1 : s.take a.length = a := by rw [he]; exact List.take_left
   have e2 : s.drop (a.length + ([34] : List UInt8).length) = r := by
    rw [he]
    show (a ++ 34 :: r).drop (a.length + 1) = r
    rw [← List.drop_drop]
    rw [List.drop_left]
    rfl
   rw [e1, e2, List.append_assoc, List.append_assoc, ih r hr, he, rP a (34 :: r) hno]
   rfl
theorem aHb (s : List UInt8) : Lib.replaceAll s [34] [34, 34] ++ [34] = Tk.pO s := by
 show (if ([34] == [34, 34] : Bool) = true then s else Lib.replaceK [34] [34, 34] (Lib.replaceNum s [34] (-1)) s) ++ [34] = _
 rw [if_neg (by decide)]
 have : Lib.replaceNum s [34] (-1) = Lib.count s [34] := by unfold Lib.replaceNum; rw [if_pos (.inl (by decide))]
 rw [this]
 exact aHa s.length s (Nat.le_refl _)
theorem rQ : ∀ s : List UInt8, (Tk.pO s).length ≤ 2 * s.length + 1
 | [] => Nat.le_refl _
 | c :: r => by
  have := rQ r
  show (if c = 34 then 34 :: 34 :: Tk.pO r else c :: Tk.pO r).length ≤ _
  split <;> simp <;> omega
def smT : Tk.Tok → Prop
 | .inr (.inl s) => s.length ≤ 255
 | _ => True
theorem rR : ∀ (k : Nat) (l s r : List UInt8), l.length ≤ k → Tk.dF l = some (s, r) → s.length ≤ l.length
 | 0, l, s, r, hk, h => by
  have : l = [] := List.eq_nil_of_length_eq_zero (by omega)
  subst this; cases h
 | k + 1, [], s, r, hk, h => by cases h
 | k + 1, [c], s, r, hk, h => by
  unfold Tk.dF at h
  split at h
  ·cases h; simp
  ·cases h
 | k + 1, c :: d :: l, s, r, hk, h => by
  unfold Tk.dF at h
  simp only [List.length_cons] at hk ⊢
  split at h
  ·split at h
   ·cases hq : Tk.dF l with
    | none => rw [hq] at h; cases h
    | some p =>
     rw [hq] at h
     cases h
     have := rR k l p.1 p.2 (by omega) hq
     simp only [List.length_cons]; omega
   ·cases h; simp
  ·cases hq : Tk.dF (d :: l) with
   | none => rw [hq] at h; cases h
   | some p =>
    rw [hq] at h
    cases h
    have := rR k (d :: l) p.1 p.2 (by simp only [List.length_cons]; omega) hq
    simp only [List.length_cons] at this ⊢; omega
theorem aI0 {l m : List UInt8} {t : Tk.Tok} (hl : l.length ≤ 255) (h : Tk.one gnF trB pnF l = some (t, m)) : smT t := by
 cases t using Tk.Tok.cs with
 | str s =>
  cases l with
  | nil => cases h
  | cons c r =>
   unfold Tk.one at h
   simp only at h
   split at h
   ·cases hp : pnF ((c :: r).takeWhile Tk.eX) with
    | none => rw [hp] at h; cases h
    | some n => rw [hp] at h; cases h
   ·split at h
    ·cases hq : Tk.dF r with
     | none => rw [hq] at h; cases h
     | some p =>
      rw [hq] at h
      cases h
      have := rR r.length r p.1 p.2 (Nat.le_refl _) hq
      show p.1.length ≤ 255
      simp only [List.length_cons] at hl; omega
    ·split at h
     ·unfold Tk.pQ at h
      cases hf : [1, 2, 3, 4, 5, 6, 7, 8].find? fun i => (Tk.gJ i).isPrefixOf (c :: r) with
      | none => rw [hf] at h; cases h
      | some i => rw [hf] at h; cases h
     ·have tl : ∀ {b pre q : List UInt8}, Tk.gV gnF trB b pre q = some (.str s, m) → False := fun {b pre q} h => by
       unfold Tk.gV at h
       split at h
       ·rename_i z hz
        cases hp : Ad.mM gnF (pre ++ q.takeWhile Tk.bG ++ 33 :: z.takeWhile Tk.bG) with
        | none => rw [hp] at h; cases h
        | some x => rw [hp] at h; cases h
       ·split at h
        ·split at h
         ·cases h
         ·split at h <;> cases h
        ·split at h <;> cases h
      split at h
      ·unfold Tk.named at h
       split at h
       ·rename_i m' he
        cases he
        cases ha : Ad.at_ 93 r with
        | none => rw [ha] at h; cases h
        | some p =>
         obtain ⟨a, q⟩ := p
         rw [ha] at h
         simp only at h
         split at h
         ·exact (tl h).elim
         ·cases h
       ·exact (tl h).elim
      ·rcases r with _ | ⟨d, r⟩
       ·simp only [Tk.opF] at h
        split at h <;> cases h
       ·simp only [Tk.opF] at h
        split at h
        ·cases h
        ·split at h <;> cases h
 | num n => trivial
 | ref r => trivial
 | word b s => trivial
 | op x => trivial
 | bad n => trivial
theorem wC : ∀ (k : Nat) (l : List UInt8) (L : List Tk.Tok), l.length ≤ 255 → Tk.jY gnF trB pnF k l = some L → ∀ t ∈ L, smT t
 | 0, l, L, _, h => by cases h
 | k + 1, [], L, _, h => by cases h; intro t ht; cases ht
 | k + 1, c :: r, L, hl, h => by
  unfold Tk.jY at h
  split at h
  ·exact wC k r L (by simp only [List.length_cons] at hl; omega) h
  ·cases ho : Tk.one gnF trB pnF (c :: r) with
   | none => rw [ho] at h; cases h
   | some p =>
    rw [ho] at h
    simp only at h
    cases hk : Tk.jY gnF trB pnF k p.2 with
    | none => rw [hk] at h; cases h
    | some M =>
     rw [hk] at h
     cases h
     intro t ht
     rcases List.mem_cons.1 ht with rfl | ht
     ·exact aI0 (m := p.2) hl ho
     ·exact wC k p.2 M (by have := nE (t := p.1) (m := p.2) ho; omega) hk t ht
theorem aI1 {l : List UInt8} {L : List Tk.Tok} (hl : l.length ≤ 255) (h : gM l = some L) : ∀ t ∈ L, smT t := wC _ _ _ hl h
theorem aC4 {c : Ad.Cell} (h : Ad.inF c) : (Ad.cellW c).length ≤ 5 := by
 have := (vG 2 c.row (by decide) (by have := h.2.1; omega)).2
 unfold Ad.cellW
 rw [List.length_append, List.length_cons, List.length_append]
 have h1 : (if c.fc = true then ([36] : List UInt8) else []).length ≤ 1 := by split <;> simp
 have h2 : (if c.fr = true then ([36] : List UInt8) else []).length ≤ 1 := by split <;> simp
 omega
theorem aFk {t : Tk.Tok} (h : Tk.okT gnF trB okN t) (hs : smT t) : (txT t).length ≤ 600 := by
 cases t using Tk.Tok.cs with
 | num n => have := (aC3 h).2.2; show (iE n).length ≤ 600; omega
 | str s =>
  have : s.length ≤ 255 := hs
  have := rQ s
  show (34 :: Tk.pO s).length ≤ 600
  simp only [List.length_cons]; omega
 | ref r =>
  obtain ⟨hc, h1, h2⟩ := h
  have hcl := aC4 hc
  show (Ad.qD r).length ≤ 600
  unfold Ad.qD
  rw [List.length_append, List.length_append]
  have g1 : (if r.book = [] then ([] : List UInt8) else 91 :: (r.book ++ [93])).length ≤ 18 := by
   split
   ·simp
   ·rename_i e
    have := (eY (h2.resolve_left e).1).1
    simp; omega
  have g2 : (if r.sheet = [] then ([] : List UInt8) else r.sheet ++ [33]).length ≤ 17 := by
   split
   ·simp
   ·rename_i e
    have := (eY (h1.resolve_left e)).1
    simp; omega
  omega
 | word b s =>
  show (if b = [] then s else 91 :: (b ++ 93 :: s)).length ≤ 600
  rcases h with ⟨rfl, h⟩ | ⟨h1, h2⟩
  ·rw [if_pos rfl]
   rcases h with h | h
   ·have := (eY h).1; omega
   ·have e : (szF 97 65 s).length = s.length := by simp [szF]
    rcases rG h with h | h
    ·rw [h] at e; simp at e; omega
    ·rw [h] at e; simp at e; omega
  ·have a1 := (eY h1).1
   have a2 := (eY h2).1
   split <;> simp <;> omega
 | op x =>
  show x.length ≤ 600
  rcases h with ⟨c, _, rfl⟩ | ⟨c, d, _, rfl⟩ <;> simp
 | bad n =>
  have h' : 1 ≤ n ∧ n ≤ 8 := h
  have : n = 1 ∨ n = 2 ∨ n = 3 ∨ n = 4 ∨ n = 5 ∨ n = 6 ∨ n = 7 ∨ n = 8 := by omega
  show (Tk.gJ n).length ≤ 600
  rcases this with rfl | rfl | rfl | rfl | rfl | rfl | rfl | rfl <;> decide
end Go.Proofs.YtljmklbbngpllaaGreatDoor
namespace Go.Proofs.YtljmklbbngpllaaGreatDoor
open Go.RowKit Go.Fm
abbrev aFl (v : Value) : Obj := .cells #[v] 99
def TS (w : World) (v : Value) (L : List TT) : Prop := (L = [] ∧ ∃ a c, v = .slice a 0 c) ∨ ∃ g o c, v = .slice (some ⟨g, o, none⟩) L.length c ∧ 0 < L.length ∧ L.length ≤ c ∧ ∀ i j x (hi : i < L.length), L[i].cl[j]? = some x → w.cell? ⟨g, o + (i * 9 + j), none⟩ = some x
theorem TS.of {e : TypeId} {base : Nat} {w : World} {v : Value} {L : List TT} (h : cO e base w v L) : TS w v L := by
 have hc := fun g (hg : v.ownBlock = some g) => World.ownsRow.cells h hg
 rcases h.2 with ⟨rfl, h0⟩ | ⟨g, cap, cur, rfl, _, _, h1, h2, _⟩
 ·have : L = [] := List.eq_nil_of_length_eq_zero h0
  exact .inl ⟨this, none, 0, rfl⟩
 ·by_cases hl : L = []
  ·subst hl; exact .inl ⟨rfl, _, _, rfl⟩
  ·refine .inr ⟨g, 0, cap, rfl, List.length_pos_iff.2 hl, h1, fun i j x hi hx => ?_⟩
   have hadd : ∀ k, (⟨g, 0, none⟩ : Addr).add k = ⟨g, k, none⟩ := fun k => by unfold Addr.add; split <;> simp_all
   have := hc g rfl (i * 9 + j) x (vZ L i j x hi hx)
   rw [hadd] at this
   rw [Nat.zero_add]; exact this
theorem TS.slice {w : World} {v : Value} {L : List TT} (h : TS w v L) : ∃ a c, v = .slice a L.length c := by
 rcases h with ⟨rfl, a, c, rfl⟩ | ⟨g, o, c, rfl, _⟩
 ·exact ⟨a, c, rfl⟩
 ·exact ⟨_, c, rfl⟩
theorem TS.cons {w : World} {v : Value} {t : TT} {L : List TT} (h : TS w v (t :: L)) : ∃ g o c, v = .slice (some ⟨g, o, none⟩) (L.length + 1) c ∧ L.length + 1 ≤ c ∧ (∀ j x, t.cl[j]? = some x → w.cell? ⟨g, o + j, none⟩ = some x) ∧
  TS w (.slice (if c = 1 then some ⟨g, o, none⟩ else some ⟨g, o + 9, none⟩) L.length (c - 1)) L := by
 rcases h with ⟨h, _⟩ | ⟨g, o, c, h1, h2, h3, h4⟩
 ·cases h
 ·refine ⟨g, o, c, h1, h3, fun j x hx => by simpa using h4 0 j x (by simp) hx, ?_⟩
  by_cases hl : L = []
  ·subst hl; exact .inl ⟨rfl, _, _, rfl⟩
  ·have hp := List.length_pos_iff.2 hl
   simp only [List.length_cons] at h3
   rw [if_neg (by omega)]
   refine .inr ⟨g, o + 9, c - 1, rfl, hp, by omega, fun i j x hi hx => ?_⟩
   have := h4 (i + 1) j x (by simpa using hi) hx
   rw [show o + 9 + (i * 9 + j) = o + ((i + 1) * 9 + j) by omega]
   exact this
def OkL (L : List Tk.Tok) : Prop := ∀ t ∈ L, Tk.okT gnF trB okN t ∧ smT t
structure PR (W : World) (b : Nat) (L : List Tk.Tok) (w : World) : Prop where
 tab : dB W
 bel : Below W.heap.size W w
 lo : W.heap.size ≤ b
 ok : OkL L
 blk : ∃ v, w.heap[b]? = some (aFl v) ∧ TS W v (L.map tk)
theorem PR.lt {W w : World} {b : Nat} {L : List Tk.Tok} (h : PR W b L w) : b < w.heap.size := by obtain ⟨v, h1, _⟩ := h.blk; exact aS h1
theorem PR.t {W w : World} {b : Nat} {L : List Tk.Tok} (h : PR W b L w) : dB w := h.tab.below h.bel
theorem PR.grown {W w w' : World} {b : Nat} {L : List Tk.Tok} (h : PR W b L w) {row : Option Nat} (hg : w.grownBy w' row) (hr : ∀ k, row = some k → W.heap.size ≤ k ∧ k ≠ b) : PR W b L w' := by
 obtain ⟨v, h1, h2⟩ := h.blk
 exact ⟨h.tab, h.bel.grown hg h.bel.size (fun k hk => (hr k hk).1), h.lo, h.ok, v, (hg.block b h.lt (fun e => (hr b e.symm).2 rfl)).trans h1, h2⟩
theorem PR.below {W w w' : World} {b : Nat} {L : List Tk.Tok} (h : PR W b L w) (hb : Below w.heap.size w w') : PR W b L w' := h.grown (aZ (row := none) hb) (fun k e => by cases e)
theorem PR.alloc {W w : World} {b : Nat} {L : List Tk.Tok} (h : PR W b L w) (o : Obj) : PR W b L (w.alloc o) := h.below (aA (Below.refl _ _) o)
theorem PR.drew {W w : World} {b : Nat} {L : List Tk.Tok} (h : PR W b L w) : PR W b L w.drew := h.below (Below.refl _ _).drew
def Sp (W : World) (b : Nat) (L : List Tk.Tok) (w w' : World) : Prop := PR W b L w' ∧ w.grownBy w' (some b)
theorem Sp.refl {W w : World} {b : Nat} {L : List Tk.Tok} (h : PR W b L w) : Sp W b L w w := ⟨h, World.grownBy.refl _ _⟩
theorem Sp.step {W w w1 w2 : World} {b : Nat} {L M : List Tk.Tok} (h : Sp W b L w w1) (k : Sp W b M w1 w2) : Sp W b M w w2 := ⟨k.1, aM h.2 k.2⟩
theorem Sp.bel {W w w1 w2 : World} {b : Nat} {L : List Tk.Tok} (h : Sp W b L w w1) (hb : Below w1.heap.size w1 w2) : Sp W b L w w2 := ⟨h.1.below hb, aM h.2 (aZ hb)⟩
theorem Sp.alloc {W w w1 : World} {b : Nat} {L : List Tk.Tok} (h : Sp W b L w w1) (o : Obj) : Sp W b L w (w1.alloc o) := h.bel (aA (Below.refl _ _) o)
theorem Sp.jB {W w w1 : World} {b : Nat} {L : List Tk.Tok} {o : Obj} (h : Sp W b L (w.alloc o) w1) : Sp W b L w w1 := ⟨h.1, aM (World.grownBy_alloc w o _) h.2⟩
theorem Sp.kept {W w w1 : World} {b : Nat} {L : List Tk.Tok} (h : Sp W b L w w1) {i : Nat} {o : Obj} (hi : w.heap[i]? = some o) (hb : i ≠ b) : w1.heap[i]? = some o :=
 (h.2.block i (aS hi) (fun e => hb (Option.some.inj e))).trans hi
theorem Sp.grown {W w w1 w2 : World} {b g : Nat} {L : List Tk.Tok} (h : Sp W b L w w1) (hg : w1.grownBy w2 (some g)) (h1 : w.heap.size ≤ g) (h2 : b < w.heap.size) : Sp W b L w w2 :=
 ⟨h.1.grown hg (fun k hk => by cases hk; exact ⟨by have := h.1.lo; omega, by omega⟩), World.grownBy.andThen h.2 hg (fun j hj => by cases hj; exact .inl h1)⟩
abbrev bQ : List PanicEntry := [{ v := .iface 47 (.int .i64 10), recovered := false }]
theorem aI2 {W w : World} {b : Nat} (X : PR W b [] w) : Calls Tryz.prog 156 #[.pointer (some ⟨b, 0, none⟩)] w fun e w' => e = .returned (.string noB) ∧ w' = w := by
 obtain ⟨v, hv, hs⟩ := X.blk
 obtain ⟨a, c, rfl⟩ := hs.slice
 have hc : w.cell? ⟨b, 0, none⟩ = some (.slice a 0 c) := by rw [cell_of_row w b 0 _ 99 (0, 0) hv]; rfl
 go_enter Tryz.func156, Tryz.ntmps156
 go_wp2
 go_ret
 exact ⟨rfl, rfl⟩
theorem aHc {W w : World} {b : Nat} {t : Tk.Tok} {L : List Tk.Tok} (X : PR W b (t :: L) w) (hn : L.length ≤ 255) : Calls Tryz.prog 156 #[.pointer (some ⟨b, 0, none⟩)] w fun e w' => e = .returned (.string (if (tk t).k = 5 then (tk t).s else noB)) ∧ w' = w := by
 obtain ⟨v, hv, hs⟩ := X.blk
 rw [List.map_cons] at hs
 obtain ⟨g, o, c, rfl, hlc, hcs, _⟩ := hs.cons
 rw [List.length_map] at hv hlc
 have hc : w.cell? ⟨b, 0, none⟩ = some (.slice (some ⟨g, o, none⟩) (L.length + 1) c) := by rw [cell_of_row w b 0 _ 99 (0, 0) hv]; rfl
 have h0 : w.cell? ⟨g, o, none⟩ = some (.int .i64 (tk t).k) := bM X.bel (hcs 0 _ rfl)
 have h2 : w.cell? ⟨g, o + 2, none⟩ = some (.string (tk t).s) := bM X.bel (hcs 2 _ rfl)
 have hl : (((L.length : Int) + 1) == 0) = false := by simp; omega
 generalize (tk t).k = k at *
 generalize (tk t).s = s at *
 generalize L.length = n at *
 clear hs hcs X hv
 by_cases h5 : k = 5
 ·subst h5
  rw [if_pos rfl]
  go_enter Tryz.func156, Tryz.ntmps156
  go_wp2
  all_goals (go_ret; exact ⟨rfl, rfl⟩)
 ·rw [if_neg h5]
  have h5b : (k != 5) = true := by simpa using h5
  go_enter Tryz.func156, Tryz.ntmps156
  go_wp2
  all_goals (go_ret; exact ⟨rfl, rfl⟩)
theorem aI3 (L : List Tk.Tok) : (match L with | [] => noB | t :: _ => if (tk t).k = 5 then (tk t).s else noB) = ba (bE L) := by
 cases L with
 | nil => rfl
 | cons t L => cases t using Tk.Tok.cs <;> rfl
theorem aA3 {W w : World} {b : Nat} {L : List Tk.Tok} (X : PR W b L w) (hn : L.length ≤ 256) : Calls Tryz.prog 156 #[.pointer (some ⟨b, 0, none⟩)] w fun e w' => e = .returned (.string (ba (bE L))) ∧ w' = w := by
 rw [← aI3 L]
 cases L with
 | nil => exact aI2 X
 | cons t L => exact aHc X (by simpa using hn)
end Go.Proofs.YtljmklbbngpllaaGreatDoor
