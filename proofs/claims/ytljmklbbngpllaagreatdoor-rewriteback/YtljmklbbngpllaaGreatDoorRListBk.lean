/- RwPure, RwMath, HFun, HRef, HRSpan, RwMath2, RList. -/
import Derived.Test.YtljmklbbngpllaaGreatDoorRwOpenBk
set_option linter.unusedVariables false
set_option linter.unusedSimpArgs false
set_option maxHeartbeats 16000000
set_option maxRecDepth 100000
namespace Go.Proofs.YtljmklbbngpllaaGreatDoor.Rw
open Go.RowKit Go.Fm
def top (l : Lab) : Rf := ⟨l.b1, l.h1, l.r1, l.c1, l.fr1, l.fc1⟩
def tof (l : Lab) : Rf := ⟨l.b2, l.h2, l.r2, l.c2, l.fr2, l.fc2⟩
def jH (x : Rf) : Lab := ⟨2, nb, 0, 0, nb, x.b, x.h, x.r, x.c, x.fr, x.fc, nb, nb, 0, 0, false, false⟩
def dZ (x y : Rf) : Lab := ⟨3, nb, 0, 0, nb, x.b, x.h, x.r, x.c, x.fr, x.fc, y.b, y.h, y.r, y.c, y.fr, y.fc⟩
def gone : Lab := iZ 4 3 nb
def kd (k : Int) : Bool := (k == 2) || (k == 3)
def nm (C : Chg) (H : Hm) (l : Lab) : Bool := kd l.k && ofR C H (top l)
def rfL (C : Chg) (x : Rf) : Lab := if mvB C x = true then jH (mvX C x) else gone
def chR (C : Chg) (x : Rf) : Bool := if mvB C x = true then !eqR (mvX C x) x else true
def arL (C : Chg) (x y : Rf) : Lab := if arB C (lo x y) (hi x y) = true then dZ (arX C (lo x y) (hi x y)) (arY C (lo x y) (hi x y)) else gone
def chA (C : Chg) (x y : Rf) : Bool := if arB C (lo x y) (hi x y) = true then (!eqR (arX C (lo x y) (hi x y)) x || !eqR (arY C (lo x y) (hi x y)) y) else true
def rwL (C : Chg) (l : Lab) : Lab := if l.k = 2 then rfL C (top l) else arL C (top l) (tof l)
def rwC (C : Chg) (l : Lab) : Bool := if l.k = 2 then chR C (top l) else chA C (top l) (tof l)
section
variable (C : Chg) (H : Hm)
def rwF : F → F
 | .nil => .nil
 | .node _ _ l f r => if nm C H l = true then .node 0 0 (rwL C l) .nil (rwF r) else .node 0 0 l (rwF f) (rwF r)
def rwA : F → Bool
 | .nil => false
 | .node _ _ l f r => (if nm C H l = true then rwC C l else rwA f) || rwA r
def rwT (t : T) : T := if nm C H t.1 = true then (rwL C t.1, .nil) else (t.1, rwF C H t.2)
def rwB (t : T) : Bool := if nm C H t.1 = true then rwC C t.1 else rwA C H t.2
theorem aIu : ∀ f : F, kids (rwF C H f) = (kids f).map (rwT C H) := by
 intro f
 induction f with
 | nil => rfl
 | node b o l f r ihf ihr =>
  unfold rwF
  rw [kids, List.map_cons]
  unfold rwT
  show kids (if nm C H l = true then _ else _) = (if nm C H l = true then _ else _) :: _
  split <;> rw [kids, ihr] <;> rfl
theorem aJ1 : ∀ f : F, rwA C H f = (kids f).any (rwB C H) := by
 intro f
 induction f with
 | nil => rfl
 | node b o l f r ihf ihr =>
  unfold rwA
  rw [kids, List.any_cons, ihr]
  rfl
theorem aIv : ∀ f : F, size (rwF C H f) ≤ size f := by
 intro f
 induction f with
 | nil => exact Nat.le_refl _
 | node b o l f r ihf ihr =>
  unfold rwF
  split <;> simp only [size] <;> omega
theorem aGt (t : T) : zT (rwT C H t) ≤ zT t := by
 unfold rwT zT
 have := aIv C H t.2
 split
 ·simp only [size]; omega
 ·simp only; omega
end
theorem aLQ {x y : Rf} (h : eqR x y = true) : x = y := by
 unfold eqR at h
 simp only [Bool.and_eq_true, beq_iff_eq] at h
 obtain ⟨h1, h2, h3, h4, h5, h6⟩ := h
 obtain ⟨b, s, r, c, fr, fc⟩ := x
 obtain ⟨b', s', r', c', fr', fc'⟩ := y
 simp only at *
 rw [gB (by simp [h1] : (b.toList == b'.toList) = true), gB (by simp [h2] : (s.toList == s'.toList) = true), h3, h4, h5, h6]
theorem aBM {l : Lab} {n : Nat} (hk : l.k = 2) (h : okL l n = true) : l = jH (top l) ∧ n = 0 ∧ bB l.b1 l.h1 l.r1 l.c1 = true := by
 unfold okL iN fD qH sV gM at h
 simp only [hk] at h
 simp only [Bool.and_eq_true] at h
 obtain ⟨⟨h1, h2⟩, h3⟩ := h
 refine ⟨qL (by have h4 := h1; simp at h4; exact h4), by simpa using h2, by simpa using h3⟩
theorem aBN {l : Lab} {n : Nat} (hk : l.k = 3) (h : okL l n = true) : l = dZ (top l) (tof l) ∧ n = 0 ∧ (paB l.b1 l.h1 l.r1 l.c1 l.fr1 l.fc1 l.b2 l.h2 l.r2 l.c2 l.fr2 l.fc2).toList.isEmpty = false := by
 unfold okL iN fD qH sV gM at h
 simp only [hk] at h
 simp only [Bool.and_eq_true] at h
 obtain ⟨⟨h1, h2⟩, h3⟩ := h
 refine ⟨qL (by have h4 := h1; simp at h4; exact h4), by simpa using h2, by simpa using h3⟩
theorem aKM {C : Chg} {H : Hm} {l : Lab} (h : nm C H l = true) : l.k = 2 ∨ l.k = 3 := by
 unfold nm kd at h
 simp only [Bool.and_eq_true, Bool.or_eq_true, beq_iff_eq] at h
 exact h.1
theorem aCP {l : Lab} {C : Chg} {H : Hm} {f : F} (h : okL l (kids f).length = true) (hn : nm C H l = true) : f = .nil := by
 have : (kids f).length = 0 := by
  rcases aKM hn with hk | hk
  ·exact (aBM hk h).2.1
  ·exact (aBN hk h).2.1
 cases f with
 | nil => rfl
 | node _ _ _ _ _ => simp [kids] at this
end Go.Proofs.YtljmklbbngpllaaGreatDoor.Rw
namespace Go.Proofs.YtljmklbbngpllaaGreatDoor.Hs
open Go.RowKit
theorem uQ (a n m : Int) (w : World) : Calls Tryz.prog 52 #[shV a n m] w fun e w' => e = .returned (.bool (bB a n m)) ∧ Below w.heap.size w w' := by
 have HB1 : Hid (Below w.heap.size w (w.alloc (shO a n m 40))) := aC (Below.refl _ _) _
 generalize hR : bB a n m = R
 have HR : Hid (bB a n m = R) := hR
 clear hR
 by_cases h1 : m < 1
 ·go_enter Tryz.func52, Tryz.ntmps52
  go_wp2
  all_goals (go_ret; refine ⟨bF ?_, HB1.out⟩; rw [← HR.out]; rw [Bool.eq_iff_iff, dF]; simp; try omega)
 by_cases h2 : 1000 < m
 ·go_enter Tryz.func52, Tryz.ntmps52
  go_wp2
  all_goals (go_ret; refine ⟨bF ?_, HB1.out⟩; rw [← HR.out]; rw [Bool.eq_iff_iff, dF]; simp; try omega)
 by_cases h3 : a < 1
 ·go_enter Tryz.func52, Tryz.ntmps52
  go_wp2
  all_goals (go_ret; refine ⟨bF ?_, HB1.out⟩; rw [← HR.out]; rw [Bool.eq_iff_iff, dF]; simp; try omega)
 by_cases h4 : m < a
 ·go_enter Tryz.func52, Tryz.ntmps52
  go_wp2
  all_goals (go_ret; refine ⟨bF ?_, HB1.out⟩; rw [← HR.out]; rw [Bool.eq_iff_iff, dF]; simp; try omega)
 by_cases h5 : 1 ≤ n
 ·go_enter Tryz.func52, Tryz.ntmps52
  go_wp2
  all_goals (go_ret; refine ⟨bF ?_, HB1.out⟩; rw [← HR.out]; rw [Bool.eq_iff_iff, dF]; simp; try omega)
 by_cases h6 : n ≤ -1
 ·go_enter Tryz.func52, Tryz.ntmps52
  go_wp2
  all_goals (go_ret; refine ⟨bF ?_, HB1.out⟩; rw [← HR.out]; rw [Bool.eq_iff_iff, dF]; simp; try omega)
 ·go_enter Tryz.func52, Tryz.ntmps52
  go_wp2
  all_goals (go_ret; refine ⟨bF ?_, HB1.out⟩; rw [← HR.out]; rw [Bool.eq_iff_iff, dF]; simp; try omega)
abbrev aJ2 (g : Nat) : Value := .func (.func 66) #[] #[.pointer (some ⟨g, 0, none⟩), .pointer (some ⟨g + 1, 0, none⟩)]
structure Mov (u : World) (g : Nat) (a n m : Int) : Prop where
 box : u.heap[g]? = some (.cells #[.int .i64 a, .int .i64 n, .int .i64 m] 32)
 nxt : u.heap[g + 1]? = some (.cells #[.int .i64 (nxF a n)] 3)
theorem tC {u : World} {g : Nat} {a n m : Int} (h : Mov u g a n m) (ha : 1 ≤ a) (ha2 : a ≤ 1000) (hn : -1000 ≤ n) (hn2 : n ≤ 1000) (p : Int) (hp : 1 ≤ p) (hp2 : p ≤ 1000) :
  Calls Tryz.prog 66 #[.int .i64 p, .pointer (some ⟨g, 0, none⟩), .pointer (some ⟨g + 1, 0, none⟩)] u fun e w' => e = .returned (.tuple #[.int .i64 (mvF a n p), .bool (mvB a n p)]) ∧ w' = u := by
 obtain ⟨c0, c1, c2⟩ := jX h.box
 have c3 : u.cell? ⟨g + 1, 0, none⟩ = some (.int .i64 (nxF a n)) := by simp [World.cell?, h.nxt]
 unfold mvF mvB
 generalize nxF a n = x at *
 by_cases h1 : p < a
 ·rw [if_pos h1, decide_eq_true h1, Bool.true_or]
  go_enter Tryz.func66, Tryz.ntmps66
  go_wp2
  go_ret2
  exact ⟨rfl, rfl⟩
 by_cases h2 : p < x
 ·rw [if_neg h1, if_pos h2, decide_eq_false h1, decide_eq_true h2, Bool.false_or, Bool.not_true]
  go_enter Tryz.func66, Tryz.ntmps66
  go_wp2
  go_ret2
  exact ⟨rfl, rfl⟩
 ·rw [if_neg h1, if_neg h2, decide_eq_false h1, decide_eq_false h2, Bool.false_or, Bool.not_false]
  go_enter Tryz.func66, Tryz.ntmps66
  go_wp2
  go_ret2
  exact ⟨rfl, rfl⟩
theorem aCQ (w : World) (a n m x : Int) (hx : x = nxF a n) : Mov ((w.alloc (shO a n m 32)).alloc (.cells #[.int .i64 x] 3)) w.heap.size a n m := by
 subst hx
 have hb : Below (w.alloc (shO a n m 32)).heap.size (w.alloc (shO a n m 32)) ((w.alloc (shO a n m 32)).alloc (.cells #[.int .i64 (nxF a n)] 3)) := aC (Below.refl _ _) _
 refine ⟨new1 hb, ?_⟩
 have := heap_alloc_new (w.alloc (shO a n m 32)) (.cells #[.int .i64 (nxF a n)] 3)
 simpa using this
theorem vP (a n m : Int) (ha : 1 ≤ a) (ha2 : a ≤ 1000) (hn : -1000 ≤ n) (hn2 : n ≤ 1000) (w : World) :
  Calls Tryz.prog 40 #[shV a n m] w fun e w' => e = .returned (aJ2 w.heap.size) ∧ Hid (Mov w' w.heap.size a n m) ∧ Hid (Below w.heap.size w w') := by
 by_cases h1 : n < 0
 ·have HM : Hid (Mov ((w.alloc (shO a n m 32)).alloc (.cells #[.int .i64 (a - n)] 3)) w.heap.size a n m) := aCQ w a n m (a - n) (by unfold nxF; rw [if_pos h1])
  have HB : Hid (Below w.heap.size w ((w.alloc (shO a n m 32)).alloc (.cells #[.int .i64 (a - n)] 3))) := aC (aC (Below.refl _ _) _) _
  go_enter Tryz.func40, Tryz.ntmps40
  go_wp2
  go_ret
  exact ⟨rfl, HM, HB⟩
 ·have HM : Hid (Mov ((w.alloc (shO a n m 32)).alloc (.cells #[.int .i64 a] 3)) w.heap.size a n m) := aCQ w a n m a (by unfold nxF; rw [if_neg h1])
  have HB : Hid (Below w.heap.size w ((w.alloc (shO a n m 32)).alloc (.cells #[.int .i64 a] 3))) := aC (aC (Below.refl _ _) _) _
  go_enter Tryz.func40, Tryz.ntmps40
  go_wp2
  go_ret
  exact ⟨rfl, HM, HB⟩
theorem qN {a n m : Int} (h : bB a n m = true) : 1 ≤ m ∧ m ≤ 1000 ∧ 1 ≤ a ∧ a ≤ m ∧ n ≠ 0 ∧ -(m - a + 1) ≤ n ∧ n ≤ m - a + 1 := dF.1 h
theorem aGu {a n p : Int} (ha : 1 ≤ a) (ha2 : a ≤ 1000) (hn : -1000 ≤ n) (hn2 : n ≤ 1000) (hp : 1 ≤ p) (hp2 : p ≤ 1000) : 1 ≤ mvF a n p ∧ mvF a n p ≤ 2000 := by
 unfold mvF nxF; repeat' split
 all_goals omega
theorem aO {w x : World} {a n m : Int} {t : TypeId} (h : Below (w.alloc (shO a n m t)).heap.size (w.alloc (shO a n m t)) x) :
  x.cell? ⟨w.heap.size, 0, none⟩ = some (.int .i64 a) ∧ x.cell? ⟨w.heap.size, 1, none⟩ = some (.int .i64 n) ∧ x.cell? ⟨w.heap.size, 2, none⟩ = some (.int .i64 m) := jX (new1 h)
theorem aCR (a n m p : Int) (w : World) : Calls Tryz.prog 21 #[shV a n m, .int .i64 p] w fun e w' => e = .returned (.tuple #[.int .i64 (iB a n m p), .bool (posB a n m p)]) ∧ Below w.heap.size w w' := by
 have HB0 : Hid (Below (w.alloc (shO a n m 32)).heap.size (w.alloc (shO a n m 32)) (w.alloc (shO a n m 32))) := Below.refl _ _
 have HG : RC (w.alloc (shO a n m 32)) 19 #[shV a n m] _ := RC.of fun u => iG a n m u
 have HH : RC (w.alloc (shO a n m 32)) 39 #[shV a n m, .int .i64 p] _ := RC.of fun u => qM a n m p u
 cases hg : bB a n m
 ·have e1 : posB a n m p = false := by unfold posB; rw [hg]; rfl
  have e2 : iB a n m p = 0 := by unfold iB; rw [e1]; rfl
  rw [e1, e2]
  rw [hg] at HG
  go_enter Tryz.func21, Tryz.ntmps21
  go_wp2_with (go_at_call 19; refine (HG _ HB0.out).mono ?_; clear HG; rintro e w1 ⟨rfl, hb⟩; have HB1 : Hid (Below (w.alloc (shO a n m 32)).heap.size (w.alloc (shO a n m 32)) w1) := hb; clear hb; obtain ⟨c0, c1, c2⟩ := aO HB1.out)
  go_ret2
  exact ⟨rfl, aS HB1.out⟩
 cases hh : (decide (1 ≤ p) && decide (p ≤ m))
 ·have e1 : posB a n m p = false := by unfold posB; rw [hg, hh]; rfl
  have e2 : iB a n m p = 0 := by unfold iB; rw [e1]; rfl
  rw [e1, e2]
  rw [hg] at HG
  rw [hh] at HH
  clear hh
  go_enter Tryz.func21, Tryz.ntmps21
  go_wp2_with (first
   | (go_at_call 19; refine (HG _ HB0.out).mono ?_; clear HG; rintro e w1 ⟨rfl, hb⟩; have HB1 : Hid (Below (w.alloc (shO a n m 32)).heap.size (w.alloc (shO a n m 32)) w1) := hb; clear hb; obtain ⟨c0, c1, c2⟩ := aO HB1.out)
   | (go_at_call 39; refine (HH _ HB1.out).mono ?_; clear HH; rintro e w2 ⟨rfl, hb⟩; have HB2 : Hid (Below (w.alloc (shO a n m 32)).heap.size (w.alloc (shO a n m 32)) w2) := hb; clear hb c0 c1 c2; obtain ⟨c0, c1, c2⟩ := aO HB2.out))
  go_ret2
  exact ⟨rfl, aS HB2.out⟩
 have hb := qN hg
 have hp : 1 ≤ p ∧ p ≤ m := by simpa using hh
 rw [hg] at HG
 rw [hh] at HH
 have HM : Hid (∀ u, Calls Tryz.prog 40 #[shV a n m] u fun e w' => e = .returned (aJ2 u.heap.size) ∧ Hid (Mov w' u.heap.size a n m) ∧ Hid (Below u.heap.size u w')) := fun u => vP a n m (by omega) (by omega) (by omega) (by omega) u
 have H1 : Hid (∀ (u : World) (g : Nat), Mov u g a n m → Calls Tryz.prog 66 #[.int .i64 p, .pointer (some ⟨g, 0, none⟩), .pointer (some ⟨g + 1, 0, none⟩)] u fun e w' => e = .returned (.tuple #[.int .i64 (mvF a n p), .bool (mvB a n p)]) ∧ w' = u) := fun u g h => tC h (by omega) (by omega) (by omega) (by omega) p (by omega) (by omega)
 have hv := aGu (a := a) (n := n) (p := p) (by omega) (by omega) (by omega) (by omega) (by omega) (by omega)
 have E : Hid (posB a n m p = (mvB a n p && decide (mvF a n p ≤ m))) := by unfold Hid posB; rw [hg, hh]; rfl
 have E2 : Hid (iB a n m p = if posB a n m p = true then mvF a n p else 0) := rfl
 generalize mvF a n p = x at *
 generalize mvB a n p = y at *
 generalize posB a n m p = pb at *
 generalize iB a n m p = pf at *
 clear hh hg hp hb
 cases y
 ·obtain rfl : pb = false := E.out
  obtain rfl : pf = 0 := E2.out
  go_enter Tryz.func21, Tryz.ntmps21
  go_wp2_with (first
   | (go_at_call 19; refine (HG _ HB0.out).mono ?_; clear HG; rintro e w1 ⟨rfl, hb⟩; have HB1 : Hid (Below (w.alloc (shO a n m 32)).heap.size (w.alloc (shO a n m 32)) w1) := hb; clear hb; obtain ⟨c0, c1, c2⟩ := aO HB1.out)
   | (go_at_call 39; refine (HH _ HB1.out).mono ?_; clear HH; rintro e w2 ⟨rfl, hb⟩; have HB2 : Hid (Below (w.alloc (shO a n m 32)).heap.size (w.alloc (shO a n m 32)) w2) := hb; clear hb c0 c1 c2; obtain ⟨c0, c1, c2⟩ := aO HB2.out)
   | (go_at_call 40; refine (HM.out _).mono ?_; clear HM; rintro e w3 ⟨rfl, Hm, hb⟩; have HB3 : Hid (Below (w.alloc (shO a n m 32)).heap.size (w.alloc (shO a n m 32)) w3) := aJ HB2.out hb.out; clear hb c0 c1 c2; obtain ⟨c0, c1, c2⟩ := aO HB3.out)
   | (go_at_call 66; refine (H1.out _ _ Hm.out).mono ?_; clear H1; rintro e w4 ⟨rfl, hw⟩; obtain rfl := hw.symm; clear hw))
  go_ret2
  exact ⟨rfl, aS HB3.out⟩
 by_cases hx : m < x
 ·obtain rfl : pb = false := E.out.trans (by simp; omega)
  obtain rfl : pf = 0 := E2.out
  go_enter Tryz.func21, Tryz.ntmps21
  go_wp2_with (first
   | (go_at_call 19; refine (HG _ HB0.out).mono ?_; clear HG; rintro e w1 ⟨rfl, hb⟩; have HB1 : Hid (Below (w.alloc (shO a n m 32)).heap.size (w.alloc (shO a n m 32)) w1) := hb; clear hb; obtain ⟨c0, c1, c2⟩ := aO HB1.out)
   | (go_at_call 39; refine (HH _ HB1.out).mono ?_; clear HH; rintro e w2 ⟨rfl, hb⟩; have HB2 : Hid (Below (w.alloc (shO a n m 32)).heap.size (w.alloc (shO a n m 32)) w2) := hb; clear hb c0 c1 c2; obtain ⟨c0, c1, c2⟩ := aO HB2.out)
   | (go_at_call 40; refine (HM.out _).mono ?_; clear HM; rintro e w3 ⟨rfl, Hm, hb⟩; have HB3 : Hid (Below (w.alloc (shO a n m 32)).heap.size (w.alloc (shO a n m 32)) w3) := aJ HB2.out hb.out; clear hb c0 c1 c2; obtain ⟨c0, c1, c2⟩ := aO HB3.out)
   | (go_at_call 66; refine (H1.out _ _ Hm.out).mono ?_; clear H1; rintro e w4 ⟨rfl, hw⟩; obtain rfl := hw.symm; clear hw))
  go_ret2
  exact ⟨rfl, aS HB3.out⟩
 ·obtain rfl : pb = true := E.out.trans (by simp; omega)
  obtain rfl : pf = x := E2.out
  go_enter Tryz.func21, Tryz.ntmps21
  go_wp2_with (first
   | (go_at_call 19; refine (HG _ HB0.out).mono ?_; clear HG; rintro e w1 ⟨rfl, hb⟩; have HB1 : Hid (Below (w.alloc (shO a n m 32)).heap.size (w.alloc (shO a n m 32)) w1) := hb; clear hb; obtain ⟨c0, c1, c2⟩ := aO HB1.out)
   | (go_at_call 39; refine (HH _ HB1.out).mono ?_; clear HH; rintro e w2 ⟨rfl, hb⟩; have HB2 : Hid (Below (w.alloc (shO a n m 32)).heap.size (w.alloc (shO a n m 32)) w2) := hb; clear hb c0 c1 c2; obtain ⟨c0, c1, c2⟩ := aO HB2.out)
   | (go_at_call 40; refine (HM.out _).mono ?_; clear HM; rintro e w3 ⟨rfl, Hm, hb⟩; have HB3 : Hid (Below (w.alloc (shO a n m 32)).heap.size (w.alloc (shO a n m 32)) w3) := aJ HB2.out hb.out; clear hb c0 c1 c2; obtain ⟨c0, c1, c2⟩ := aO HB3.out)
   | (go_at_call 66; refine (H1.out _ _ Hm.out).mono ?_; clear H1; rintro e w4 ⟨rfl, hw⟩; obtain rfl := hw.symm; clear hw))
  go_ret2
  exact ⟨rfl, aS HB3.out⟩
theorem wG {w w1 : World} {g : Nat} {a b c : Value} (hg : w.heap.size ≤ g) (h : Below w.heap.size w w1) : Below w.heap.size w (((w1.setCell ⟨g, 0, none⟩ a).setCell ⟨g, 1, none⟩ b).setCell ⟨g, 2, none⟩ c) :=
 ((h.setCell hg _).setCell hg _).setCell hg _
theorem aCS {a n m lo hi : Int} (h : spB a n m lo hi = true) : spL a n m lo hi = loF a n lo ∧ spH a n m lo hi = hiF a n m hi := by
 unfold spL spH; rw [h]; exact ⟨rfl, rfl⟩
end Go.Proofs.YtljmklbbngpllaaGreatDoor.Hs
namespace Go.Proofs.YtljmklbbngpllaaGreatDoor.Rw
open Go.RowKit Go.Fm
theorem aIw {r c : Int} : inB r c = true ↔ 1 ≤ r ∧ r ≤ 64 ∧ 1 ≤ c ∧ c ≤ 26 := by
 unfold inB
 simp [and_assoc]
theorem iE {b s : ByteArray} {r c : Int} (h : bB b s r c = true) : 1 ≤ r ∧ r ≤ 64 ∧ 1 ≤ c ∧ c ≤ 26 := by
 unfold bB at h
 simp only [Bool.and_eq_true] at h
 exact aIw.1 h.1
theorem aCT {b1 s1 b2 s2 : ByteArray} {r1 c1 r2 c2 : Int} {fr1 fc1 fr2 fc2 : Bool} : (paB b1 s1 r1 c1 fr1 fc1 b2 s2 r2 c2 fr2 fc2).toList.isEmpty = false ↔ (bB b1 s1 r1 c1 = true ∧ bB b2 s2 r2 c2 = true ∧ s2.toList = []) := by
 unfold paB
 split
 ·rename_i h
  refine ⟨fun _ => h, fun _ => ?_⟩
  rw [ByteArray.toList_eq]
  simp
 ·rename_i h
  refine ⟨fun e => ?_, fun e => absurd e h⟩
  rw [ByteArray.toList_eq] at e
  simp at e
def most (C : Chg) : Int := if C.co = true then 26 else 64
end Go.Proofs.YtljmklbbngpllaaGreatDoor.Rw
namespace Go.Proofs.YtljmklbbngpllaaGreatDoor
open Go.RowKit Go.Fm
theorem InF.nk : ∀ {f : F} {w : World} {a : Addr}, InF w a f → InK (fun i => i < w.heap.size) w a f := by
 intro f
 induction f with
 | nil => intro w a _; trivial
 | node b o l f r ihf ihr =>
  intro w a h
  obtain ⟨⟨p, n, c, h1, h2, h3⟩, h4⟩ := h
  have hlt : a.block < w.heap.size := by
   have := World.block_lt_of_cell? w (a.add 0) (h1 0 _ rfl)
   rwa [show (a.add 0).block = a.block by unfold Addr.add; split <;> rfl] at this
  exact ⟨⟨p, n, c, hlt, h1, h2, h3.imp id fun ⟨a', e, hi⟩ => ⟨a', e, ihf hi⟩⟩, ihr h4⟩
theorem NT.nk {w : World} {es : Array Value} {t : T} (h : NT w es t) : NK (fun i => i < w.heap.size) w es t := by
 obtain ⟨p, n, c, e, h1, h2⟩ := h
 exact ⟨p, n, c, e, h1, h2.imp id fun ⟨a, e, hi⟩ => ⟨a, e, hi.nk⟩⟩
theorem InK.get {K : Nat → Prop} : ∀ {f : F} {w : World} {a : Addr}, InK K w a f → ∀ (k : Nat) (hk : k < (kids f).length), ∃ es, (Instr.loadAt 28 (.pointer (some (a.add (k * 18))))).run Tryz.prog w = .ok (.agg es) w ∧ NK K w es (kids f)[k] := by
 intro f
 induction f with
 | nil => intro w a _ k hk; simp [kids] at hk
 | node b o l f r ihf ihr =>
  intro w a h k hk
  obtain ⟨⟨p, n, c, h0, h1, h2, h3⟩, h4⟩ := h
  cases k with
  | zero =>
   refine ⟨lcs l (.slice p n c), ?_, p, n, c, rfl, h2, h3⟩
   have : a.add (0 * 18) = a.add 0 := by simp
   rw [this]
   refine bW w (a.add 0) 28 (lcl l (.slice p n c)) _ (fun j v hj => ?_) Tryz.underlying28 rfl (by rw [iU]; exact bV)
   rw [Go.Deep.add_add, Nat.zero_add]
   exact h1 j v hj
  | succ k =>
   obtain ⟨es, e1, e2⟩ := ihr h4 k (by simpa [kids] using hk)
   refine ⟨es, ?_, e2⟩
   rw [Go.Deep.add_add] at e1
   rw [show (k + 1) * 18 = 18 + k * 18 by omega]
   exact e1
def SK (K : Nat → Prop) (w : World) (p : Option Addr) (n : Nat) (f : F) : Prop := n = (kids f).length ∧ (f = .nil ∨ ∃ a, p = some a ∧ InK K w a f)
theorem SK.grown {K : Nat → Prop} {w w' : World} {p : Option Addr} {n : Nat} {f : F} {row : Option Nat} (h : SK K w p n f) (hg : w.grownBy w' row) (hr : ∀ g, row = some g → ¬ K g) : SK K w' p n f := ⟨h.1, h.2.imp id fun ⟨a, e, hi⟩ => ⟨a, e, hi.grown hg hr⟩⟩
theorem SK.get {K : Nat → Prop} {w : World} {p : Option Addr} {n : Nat} {f : F} (h : SK K w p n f) (k : Nat) (hk : k < n) : ∃ a es t, p = some a ∧ (Instr.loadAt 28 (.pointer (some (a.add (k * 18))))).run Tryz.prog w = .ok (.agg es) w ∧ (kids f)[k]? = some t ∧ NK K w es t := by
 obtain ⟨h1, h2⟩ := h
 rcases h2 with rfl | ⟨a, rfl, hi⟩
 ·simp [kids] at h1; omega
 ·obtain ⟨es, e1, e2⟩ := hi.get k (by omega)
  exact ⟨a, es, _, rfl, e1, List.getElem?_eq_getElem (by omega), e2⟩
def NA' (es : Array Value) : Prop := es.size = 18 ∧ es.all (·.oneCell') = true
theorem aD4 {base aKN : Nat} {w : World} {v v2 : Value} {L L2 : List (Array Value × T)} (h : fH base w v L) (h2 : fH aKN w v2 L2) (hne : L2 ≠ []) (hone : ∀ x ∈ L2, NA' x.1) (hn : L.length + L2.length ≤ 100000) (hbase : base ≤ w.heap.size) :
  ∃ v' w', Hid ((Builtin.append_ #[26, 26] 26 #[v, v2]).run Tryz.prog w = .ok v' w') ∧ fH base w' v' (L ++ L2) ∧ w.grownBy w' v.ownBlock ∧ (v'.ownBlock = v.ownBlock ∨ v'.ownBlock = some w.heap.size) := by
 obtain ⟨i0, hi, hz0, hz1, hz2⟩ := info_parts aBq
 have aKO : ∀ M : List (Array Value × T), (∀ x ∈ M, NA' x.1) → (M.flatMap (·.1.toList)).length = M.length * 18 := by
  intro M
  induction M with
  | nil => intro _; rfl
  | cons x M ih =>
   intro hM
   rw [List.flatMap_cons, List.length_append, ih (fun y hy => hM y (by simp [hy])), List.length_cons]
   have := (hM x (by simp)).1
   simp at this ⊢
   omega
 have hc := fun g (hg : v2.ownBlock = some g) => World.ownsRow.cells h2 hg
 rcases h2.2 with ⟨e, h0⟩ | ⟨g, cap, cur, rfl, _, _, hle, _⟩
 ·exact absurd (List.eq_nil_of_length_eq_zero h0) hne
 ·obtain ⟨v', w', r1, o1, g1, _, g2⟩ := run_append_own_at w base 26 26 28 i0 _ 18 192 Tryz.underlying26 hi hz0 hz1 hz2 rfl (by decide) v _ _ h ⟨g, 0, none⟩ L2.length cap (L2.flatMap (·.1.toList)) (aKO L2 hone)
   (fun j x hj => hc g rfl j x hj) (by
    intro x hx
    obtain ⟨y, hy, hxy⟩ := List.mem_flatMap.1 hx
    have := (hone y hy).2
    rw [Array.all_eq_true_iff_forall_mem] at this
    exact this x (by simpa using hxy)) (by simp only [maxLen]; omega) (by have := List.length_pos_iff.2 hne; omega) hbase
  refine ⟨v', w', r1, ?_, g1, g2⟩
  unfold fH
  rw [List.length_append, List.flatMap_append]
  exact o1
theorem vQ : ∀ t : T, zT t ≤ 900 → ∀ (K : Nat → Prop) (w : World) (es : Array Value), NK K w es t → (∀ i, K i → i < w.heap.size) → Calls Tryz.prog 32 #[.agg es] w fun e w' => ∃ v L, e = .returned v ∧ fH w.heap.size w' v L ∧ L.map (·.2) = dA t ∧ (∀ x ∈ L, NK K w' x.1 x.2) ∧ Below w.heap.size w w' := by
 refine ind ?_
 intro t ih hz K w es h hK
 have HK : Hid (∀ s ∈ kids t.2, ∀ (K : Nat → Prop) (w : World) (es : Array Value), NK K w es s → (∀ i, K i → i < w.heap.size) → Calls Tryz.prog 32 #[.agg es] w fun e w' => ∃ v L, e = .returned v ∧ fH w.heap.size w' v L ∧ L.map (·.2) = dA s ∧ (∀ x ∈ L, NK K w' x.1 x.2) ∧ Below w.heap.size w w') := fun s hs => ih s hs (by have := kW hs; omega)
 have hpre : (dA t).length ≤ 900 := by rw [rW]; exact hz
 have hkl := lW t
 have h0 := h
 obtain ⟨p, n, c, rfl, hs⟩ := h
 have HSK : Hid (SK K w p n t.2) := hs
 have H0 := heap_alloc_new w (.cells (lcs t.1 (.slice p n c)) 28)
 have c17 := aU H0
 have HB0 : Below w.heap.size w (w.alloc (.cells (lcs t.1 (.slice p n c)) 28)) := aC (Below.refl _ _) _
 have RL : Hid _ := h0.lod H0
 have RB : Hid ((Instr.buildSlice 26 1 #[(0, .agg (lcs t.1 (.slice p n c)))]).run Tryz.prog (w.alloc (.cells (lcs t.1 (.slice p n c)) 28)) = .ok (.slice (some ⟨w.heap.size + 1, 0, none⟩) 1 1) ((w.alloc (.cells (lcs t.1 (.slice p n c)) 28)).alloc (.cells (lcs t.1 (.slice p n c)) 28))) := by
  have := lU (w.alloc (.cells (lcs t.1 (.slice p n c)) 28)) t.1 p n c
  rw [show (w.alloc (.cells (lcs t.1 (.slice p n c)) 28)).heap.size = w.heap.size + 1 by simp] at this
  exact this
 obtain ⟨W, hW⟩ : ∃ W, (w.alloc (.cells (lcs t.1 (.slice p n c)) 28)).alloc (.cells (lcs t.1 (.slice p n c)) 28) = W := ⟨_, rfl⟩
 have HBW : Hid (Below w.heap.size w W) := by show Below _ _ _; rw [← hW]; exact aC HB0 _
 have HO : Hid (fH w.heap.size W (.slice (some ⟨w.heap.size + 1, 0, none⟩) 1 1) [(lcs t.1 (.slice p n c), t)]) := by
  have := aAs (base := w.heap.size) (w := w.alloc (.cells (lcs t.1 (.slice p n c)) 28)) h0 (by simp)
  rw [show (w.alloc (.cells (lcs t.1 (.slice p n c)) 28)).heap.size = w.heap.size + 1 by simp, hW] at this
  exact this
 have aLR : W.cell? ⟨w.heap.size, 17, none⟩ = some (.slice p n c) := by rw [← hW]; exact bS (aC (Below.refl _ _) _) c17
 have HN0 : Hid (NK K W (lcs t.1 (.slice p n c)) t) := h0.below HBW.out
 rw [hW] at RB
 have HNn : Hid (n = (kids t.2).length) := hs.1
 have HKK : Hid (∀ i, K i → i < w.heap.size) := hK
 have HPR : Hid ((dA t).length ≤ 900) := hpre
 have aJh : n ≤ 900 := by have := hs.1; omega
 clear ih h0 hs hK hz hkl hpre
 generalize lcs t.1 (.slice p n c) = bx at *
 go_enter Tryz.func32, Tryz.ntmps32
 go_wp2_with (first
  | (refine aA rfl 28 _ rfl _ _ rfl RL.out ?_; clear RL)
  | (refine aX rfl 26 1 _ rfl _ _ _ (by go_simp) RB.out ?_; clear RB))
 clear c17 H0 HB0
 go_loopw [3, 11] (fun v i wr => ∃ (k : Nat) (L : List (Array Value × T)), k ≤ n ∧ i = .int .i64 (k : Nat) ∧ Hid (fH w.heap.size wr v L) ∧ Hid (L.map (·.2) = t :: ((kids t.2).take k).flatMap dA) ∧ Hid (∀ x ∈ L, NK K wr x.1 x.2) ∧ Hid (Below w.heap.size w wr)) (fun _ i _ => n - (intOf i).toNat)
 case atStart => exact ⟨0, [(bx, t)], Nat.zero_le _, rfl, HO, rfl, fun x hx => by rw [List.mem_singleton.1 hx]; exact HN0.out, HBW⟩
 case round =>
  obtain ⟨k, L, hk, rfl, HW, HL, HN, HB⟩ := hrel
  clear HO HN0 HBW aLR
  obtain ⟨va, vc, rfl⟩ := iM HW.out
  by_cases hlt : k < n
  ·have hki : (k : Int) < n := by omega
   have aKP : SK K wr p n t.2 := HSK.out.grown (bD (row := none) HB.out) (fun g e => by cases e)
   obtain ⟨a', es, s, rfl, RL, HI, hNK⟩ := aKP.get k hlt
   have RLh : Hid _ := RL
   obtain ⟨b1, b2⟩ := mY wr hNK.nt
   have RS : Hid _ := b1
   have RL2 : Hid _ := b2 _ (heap_alloc_new wr _)
   have HM : s ∈ kids t.2 := List.mem_of_getElem? HI
   have hKr : ∀ i, K i → i < (wr.alloc (.cells es 28)).heap.size := fun i hi => by have := HKK.out i hi; have := HB.out.size; simp; omega
   have C := HK.out s HM K (wr.alloc (.cells es 28)) es (hNK.below (aC (Below.refl _ _) _)) hKr
   have hlenL : L.length ≤ 900 := by
    have h1 := congrArg List.length HL.out
    rw [List.length_map] at h1
    have h2 := HPR.out
    unfold dA at h2
    rw [iL] at h2
    have h3 : (((kids t.2).take k).flatMap dA).length ≤ ((kids t.2).flatMap dA).length := by
     conv => rhs; rw [← List.take_append_drop k (kids t.2), List.flatMap_append, List.length_append]
     omega
    simp only [List.length_cons] at h1 h2
    omega
   have aFI : (dA s).length ≤ 900 := by
    have h2 := HPR.out
    unfold dA at h2
    rw [iL] at h2
    have h3 : (dA s).length ≤ ((kids t.2).flatMap dA).length := by
     have : ∀ l : List T, s ∈ l → (dA s).length ≤ (l.flatMap dA).length := by
      intro l
      induction l with
      | nil => intro h; cases h
      | cons x l ihl =>
       intro h
       rw [List.flatMap_cons, List.length_append]
       rcases List.mem_cons.1 h with rfl | h
       ·omega
       ·have := ihl h; omega
     exact this _ HM
    simp only [List.length_cons] at h2
    omega
   have HT : Hid ((t :: ((kids t.2).take k).flatMap dA) ++ dA s = t :: ((kids t.2).take (k + 1)).flatMap dA) := by
    show _ = _
    have hkl : k < (kids t.2).length := by have := HNn.out; omega
    have hsk : (kids t.2)[k] = s := by rw [List.getElem?_eq_getElem hkl] at HI; exact Option.some.inj HI
    rw [List.take_succ_eq_append_getElem hkl, List.flatMap_append, hsk]
    simp
   have C' : Calls Tryz.prog 32 #[.agg es] (wr.alloc (.cells es 28)) fun e w3 => ∃ v2 v' w5 L', e = .returned v2 ∧ Hid ((Builtin.append_ #[26, 26] 26 #[.slice va L.length vc, v2]).run Tryz.prog w3 = .ok v' w5) ∧ Hid (fH w.heap.size w5 v' L') ∧ Hid (L'.map (·.2) = t :: ((kids t.2).take (k + 1)).flatMap dA) ∧ Hid (∀ x ∈ L', NK K w5 x.1 x.2) ∧ Hid (Below w.heap.size w w5) := C.mono (by
    rintro e w3 ⟨v2, L2, rfl, o2, m2, n2, b3⟩
    have hB3 : Below w.heap.size w w3 := aJ (aC HB.out _) b3
    have hW3 : fH w.heap.size w3 (.slice va L.length vc) L := iD HW.out (bD (row := none) (aJ (aC (Below.refl _ _) (.cells es 28)) b3)) (by cases (Value.slice va L.length vc).ownBlock <;> simp)
    have hL2 : L2.length = (dA s).length := by rw [← m2, List.length_map]
    have hne2 : L2 ≠ [] := by
     intro e
     rw [e] at hL2
     unfold dA at hL2
     simp at hL2
    obtain ⟨v', w5, R, o5, g5, g6⟩ := aD4 hW3 o2 hne2 (fun x hx => ⟨(n2 x hx).size, (n2 x hx).one⟩) (by omega) hB3.size
    have hown : ∀ g, (Value.slice va L.length vc).ownBlock = some g → w.heap.size ≤ g := fun g hg => (World.ownsRow.lt HW.out g hg).1
    have hnk : ∀ g, (Value.slice va L.length vc).ownBlock = some g → ¬ K g := fun g hg hk => by have := hown g hg; have := HKK.out g hk; omega
    refine ⟨v2, v', w5, L ++ L2, rfl, R, o5, ?_, fun x hx => ?_, hB3.grown g5 hB3.size hown⟩
    ·show _ = _
     rw [List.map_append, HL.out, m2, HT.out]
    ·rcases List.mem_append.1 hx with hx | hx
     ·exact ((HN.out x hx).below (aJ (aC (Below.refl _ _) (.cells es 28)) b3)).grown g5 hnk
     ·exact (n2 x hx).grown g5 hnk)
   clear C HI hNK RL b1 b2 HM hKr aKP HT hlenL aFI HL HN HW
   go_wp2_with (first
    | (refine aA rfl 28 _ rfl _ _ rfl RLh.out ?_; clear RLh)
    | (refine aB rfl 28 _ _ rfl _ _ _ rfl rfl RS.out ?_; clear RS)
    | (refine aA rfl 28 _ rfl _ _ rfl RL2.out ?_; clear RL2)
    | (go_at_call 32; refine C'.mono ?_; rintro e w3 ⟨v2, v', w5, L', rfl, RA, HO5, HL5, HN5, HB5⟩)
    | (at_builtin; refine wpList_append_run rfl _ _ 26 rfl _ _ _ _ rfl rfl RA.out ?_))
   go_roundw
   case rel => exact ⟨k + 1, L', by omega, by go_num, HO5, HL5, HN5, HB5⟩
   case measure => simp [intOf]; omega
  ·have hki : ¬ (k : Int) < n := by omega
   have HE : Hid (L.map (·.2) = dA t) := by
    show _ = _
    rw [HL.out, List.take_of_length_le (by have := HNn.out; omega)]
    unfold dA
    rw [iL]
    rfl
   go_wp2
   go_ret
   exact ⟨_, rfl, L, HW.out, HE.out, fun _ _ _ h => HN.out _ h, HB.out⟩
end Go.Proofs.YtljmklbbngpllaaGreatDoor
