/- HFun, HSpan. -/
import Derived.Test.YtljmklbbngpllaaGreatDoorRwOpenOt
set_option linter.unusedVariables false
set_option linter.unusedSimpArgs false
set_option maxHeartbeats 16000000
set_option maxRecDepth 100000
namespace Go.Proofs.YtljmklbbngpllaaGreatDoor.Hs
open Go.RowKit
theorem rgood_any (a n m : Int) (w : World) : Calls Tryz.prog 52 #[shV a n m] w fun e w' => e = .returned (.bool (goodB a n m)) ∧ Below w.heap.size w w' := by
 have HB1 : Hid (Below w.heap.size w (w.alloc (shO a n m 40))) := bel_alloc (Below.refl _ _) _
 generalize hR : goodB a n m = R
 have HR : Hid (goodB a n m = R) := hR
 clear hR
 by_cases h1 : m < 1
 ·go_enter Tryz.func52, Tryz.ntmps52
  go_wp2
  all_goals (go_ret; refine ⟨ret_bool ?_, HB1.out⟩; rw [← HR.out]; rw [Bool.eq_iff_iff, goodB_iff]; simp; try omega)
 by_cases h2 : 1000 < m
 ·go_enter Tryz.func52, Tryz.ntmps52
  go_wp2
  all_goals (go_ret; refine ⟨ret_bool ?_, HB1.out⟩; rw [← HR.out]; rw [Bool.eq_iff_iff, goodB_iff]; simp; try omega)
 by_cases h3 : a < 1
 ·go_enter Tryz.func52, Tryz.ntmps52
  go_wp2
  all_goals (go_ret; refine ⟨ret_bool ?_, HB1.out⟩; rw [← HR.out]; rw [Bool.eq_iff_iff, goodB_iff]; simp; try omega)
 by_cases h4 : m < a
 ·go_enter Tryz.func52, Tryz.ntmps52
  go_wp2
  all_goals (go_ret; refine ⟨ret_bool ?_, HB1.out⟩; rw [← HR.out]; rw [Bool.eq_iff_iff, goodB_iff]; simp; try omega)
 by_cases h5 : 1 ≤ n
 ·go_enter Tryz.func52, Tryz.ntmps52
  go_wp2
  all_goals (go_ret; refine ⟨ret_bool ?_, HB1.out⟩; rw [← HR.out]; rw [Bool.eq_iff_iff, goodB_iff]; simp; try omega)
 by_cases h6 : n ≤ -1
 ·go_enter Tryz.func52, Tryz.ntmps52
  go_wp2
  all_goals (go_ret; refine ⟨ret_bool ?_, HB1.out⟩; rw [← HR.out]; rw [Bool.eq_iff_iff, goodB_iff]; simp; try omega)
 ·go_enter Tryz.func52, Tryz.ntmps52
  go_wp2
  all_goals (go_ret; refine ⟨ret_bool ?_, HB1.out⟩; rw [← HR.out]; rw [Bool.eq_iff_iff, goodB_iff]; simp; try omega)
abbrev movF (g : Nat) : Value := .func (.func 66) #[] #[.pointer (some ⟨g, 0, none⟩), .pointer (some ⟨g + 1, 0, none⟩)]
structure Mov (u : World) (g : Nat) (a n m : Int) : Prop where
 box : u.heap[g]? = some (.cells #[.int .i64 a, .int .i64 n, .int .i64 m] 32)
 nxt : u.heap[g + 1]? = some (.cells #[.int .i64 (nxF a n)] 3)
theorem mov1_any {u : World} {g : Nat} {a n m : Int} (h : Mov u g a n m) (ha : 1 ≤ a) (ha2 : a ≤ 1000) (hn : -1000 ≤ n) (hn2 : n ≤ 1000) (p : Int) (hp : 1 ≤ p) (hp2 : p ≤ 1000) :
  Calls Tryz.prog 66 #[.int .i64 p, .pointer (some ⟨g, 0, none⟩), .pointer (some ⟨g + 1, 0, none⟩)] u fun e w' => e = .returned (.tuple #[.int .i64 (mvF a n p), .bool (mvB a n p)]) ∧ w' = u := by
 obtain ⟨c0, c1, c2⟩ := s_cells h.box
 have c3 : u.cell? ⟨g + 1, 0, none⟩ = some (.int .i64 (nxF a n)) := by simp [World.cell?, h.nxt]
 unfold mvF mvB
 generalize nxF a n = x at *
 by_cases h1 : p < a
 ·rw [if_pos h1, decide_eq_true h1, Bool.true_or]
  go_enter Tryz.func66, Tryz.ntmps66
  go_wp2
  go_ret2
  exact ⟨rfl, rfl⟩
 by_cases h2 : p < x
 ·rw [if_neg h1, if_pos h2, decide_eq_false h1, decide_eq_true h2, Bool.false_or, Bool.not_true]
  go_enter Tryz.func66, Tryz.ntmps66
  go_wp2
  go_ret2
  exact ⟨rfl, rfl⟩
 ·rw [if_neg h1, if_neg h2, decide_eq_false h1, decide_eq_false h2, Bool.false_or, Bool.not_false]
  go_enter Tryz.func66, Tryz.ntmps66
  go_wp2
  go_ret2
  exact ⟨rfl, rfl⟩
theorem mov_new (w : World) (a n m x : Int) (hx : x = nxF a n) : Mov ((w.alloc (shO a n m 32)).alloc (.cells #[.int .i64 x] 3)) w.heap.size a n m := by
 subst hx
 have hb : Below (w.alloc (shO a n m 32)).heap.size (w.alloc (shO a n m 32)) ((w.alloc (shO a n m 32)).alloc (.cells #[.int .i64 (nxF a n)] 3)) := bel_alloc (Below.refl _ _) _
 refine ⟨new1 hb, ?_⟩
 have := heap_alloc_new (w.alloc (shO a n m 32)) (.cells #[.int .i64 (nxF a n)] 3)
 simpa using this
theorem mover_any (a n m : Int) (ha : 1 ≤ a) (ha2 : a ≤ 1000) (hn : -1000 ≤ n) (hn2 : n ≤ 1000) (w : World) :
  Calls Tryz.prog 40 #[shV a n m] w fun e w' => e = .returned (movF w.heap.size) ∧ Hid (Mov w' w.heap.size a n m) ∧ Hid (Below w.heap.size w w') := by
 by_cases h1 : n < 0
 ·have HM : Hid (Mov ((w.alloc (shO a n m 32)).alloc (.cells #[.int .i64 (a - n)] 3)) w.heap.size a n m) := mov_new w a n m (a - n) (by unfold nxF; rw [if_pos h1])
  have HB : Hid (Below w.heap.size w ((w.alloc (shO a n m 32)).alloc (.cells #[.int .i64 (a - n)] 3))) := bel_alloc (bel_alloc (Below.refl _ _) _) _
  go_enter Tryz.func40, Tryz.ntmps40
  go_wp2
  go_ret
  exact ⟨rfl, HM, HB⟩
 ·have HM : Hid (Mov ((w.alloc (shO a n m 32)).alloc (.cells #[.int .i64 a] 3)) w.heap.size a n m) := mov_new w a n m a (by unfold nxF; rw [if_neg h1])
  have HB : Hid (Below w.heap.size w ((w.alloc (shO a n m 32)).alloc (.cells #[.int .i64 a] 3))) := bel_alloc (bel_alloc (Below.refl _ _) _) _
  go_enter Tryz.func40, Tryz.ntmps40
  go_wp2
  go_ret
  exact ⟨rfl, HM, HB⟩
theorem good_bd {a n m : Int} (h : goodB a n m = true) : 1 ≤ m ∧ m ≤ 1000 ∧ 1 ≤ a ∧ a ≤ m ∧ n ≠ 0 ∧ -(m - a + 1) ≤ n ∧ n ≤ m - a + 1 := goodB_iff.1 h
theorem mv_bd {a n p : Int} (ha : 1 ≤ a) (ha2 : a ≤ 1000) (hn : -1000 ≤ n) (hn2 : n ≤ 1000) (hp : 1 ≤ p) (hp2 : p ≤ 1000) : 1 ≤ mvF a n p ∧ mvF a n p ≤ 2000 := by
 unfold mvF nxF; repeat' split
 all_goals omega
theorem box_cells {w x : World} {a n m : Int} {t : TypeId} (h : Below (w.alloc (shO a n m t)).heap.size (w.alloc (shO a n m t)) x) :
  x.cell? ⟨w.heap.size, 0, none⟩ = some (.int .i64 a) ∧ x.cell? ⟨w.heap.size, 1, none⟩ = some (.int .i64 n) ∧ x.cell? ⟨w.heap.size, 2, none⟩ = some (.int .i64 m) := s_cells (new1 h)
theorem pos_any (a n m p : Int) (w : World) : Calls Tryz.prog 21 #[shV a n m, .int .i64 p] w fun e w' => e = .returned (.tuple #[.int .i64 (posF a n m p), .bool (posB a n m p)]) ∧ Below w.heap.size w w' := by
 have HB0 : Hid (Below (w.alloc (shO a n m 32)).heap.size (w.alloc (shO a n m 32)) (w.alloc (shO a n m 32))) := Below.refl _ _
 have HG : RC (w.alloc (shO a n m 32)) 19 #[shV a n m] _ := RC.of fun u => good_any a n m u
 have HH : RC (w.alloc (shO a n m 32)) 39 #[shV a n m, .int .i64 p] _ := RC.of fun u => has_any a n m p u
 cases hg : goodB a n m
 ·have e1 : posB a n m p = false := by unfold posB; rw [hg]; rfl
  have e2 : posF a n m p = 0 := by unfold posF; rw [e1]; rfl
  rw [e1, e2]
  rw [hg] at HG
  go_enter Tryz.func21, Tryz.ntmps21
  go_wp2_with (go_at_call 19; refine (HG _ HB0.out).mono ?_; clear HG; rintro e w1 ⟨rfl, hb⟩; have HB1 : Hid (Below (w.alloc (shO a n m 32)).heap.size (w.alloc (shO a n m 32)) w1) := hb; clear hb; obtain ⟨c0, c1, c2⟩ := box_cells HB1.out)
  go_ret2
  exact ⟨rfl, bel1 HB1.out⟩
 cases hh : (decide (1 ≤ p) && decide (p ≤ m))
 ·have e1 : posB a n m p = false := by unfold posB; rw [hg, hh]; rfl
  have e2 : posF a n m p = 0 := by unfold posF; rw [e1]; rfl
  rw [e1, e2]
  rw [hg] at HG
  rw [hh] at HH
  clear hh
  go_enter Tryz.func21, Tryz.ntmps21
  go_wp2_with (first
   | (go_at_call 19; refine (HG _ HB0.out).mono ?_; clear HG; rintro e w1 ⟨rfl, hb⟩; have HB1 : Hid (Below (w.alloc (shO a n m 32)).heap.size (w.alloc (shO a n m 32)) w1) := hb; clear hb; obtain ⟨c0, c1, c2⟩ := box_cells HB1.out)
   | (go_at_call 39; refine (HH _ HB1.out).mono ?_; clear HH; rintro e w2 ⟨rfl, hb⟩; have HB2 : Hid (Below (w.alloc (shO a n m 32)).heap.size (w.alloc (shO a n m 32)) w2) := hb; clear hb c0 c1 c2; obtain ⟨c0, c1, c2⟩ := box_cells HB2.out))
  go_ret2
  exact ⟨rfl, bel1 HB2.out⟩
 have hb := good_bd hg
 have hp : 1 ≤ p ∧ p ≤ m := by simpa using hh
 rw [hg] at HG
 rw [hh] at HH
 have HM : Hid (∀ u, Calls Tryz.prog 40 #[shV a n m] u fun e w' => e = .returned (movF u.heap.size) ∧ Hid (Mov w' u.heap.size a n m) ∧ Hid (Below u.heap.size u w')) := fun u => mover_any a n m (by omega) (by omega) (by omega) (by omega) u
 have H1 : Hid (∀ (u : World) (g : Nat), Mov u g a n m → Calls Tryz.prog 66 #[.int .i64 p, .pointer (some ⟨g, 0, none⟩), .pointer (some ⟨g + 1, 0, none⟩)] u fun e w' => e = .returned (.tuple #[.int .i64 (mvF a n p), .bool (mvB a n p)]) ∧ w' = u) := fun u g h => mov1_any h (by omega) (by omega) (by omega) (by omega) p (by omega) (by omega)
 have hv := mv_bd (a := a) (n := n) (p := p) (by omega) (by omega) (by omega) (by omega) (by omega) (by omega)
 have E : Hid (posB a n m p = (mvB a n p && decide (mvF a n p ≤ m))) := by unfold Hid posB; rw [hg, hh]; rfl
 have E2 : Hid (posF a n m p = if posB a n m p = true then mvF a n p else 0) := rfl
 generalize mvF a n p = x at *
 generalize mvB a n p = y at *
 generalize posB a n m p = pb at *
 generalize posF a n m p = pf at *
 clear hh hg hp hb
 cases y
 ·obtain rfl : pb = false := E.out
  obtain rfl : pf = 0 := E2.out
  go_enter Tryz.func21, Tryz.ntmps21
  go_wp2_with (first
   | (go_at_call 19; refine (HG _ HB0.out).mono ?_; clear HG; rintro e w1 ⟨rfl, hb⟩; have HB1 : Hid (Below (w.alloc (shO a n m 32)).heap.size (w.alloc (shO a n m 32)) w1) := hb; clear hb; obtain ⟨c0, c1, c2⟩ := box_cells HB1.out)
   | (go_at_call 39; refine (HH _ HB1.out).mono ?_; clear HH; rintro e w2 ⟨rfl, hb⟩; have HB2 : Hid (Below (w.alloc (shO a n m 32)).heap.size (w.alloc (shO a n m 32)) w2) := hb; clear hb c0 c1 c2; obtain ⟨c0, c1, c2⟩ := box_cells HB2.out)
   | (go_at_call 40; refine (HM.out _).mono ?_; clear HM; rintro e w3 ⟨rfl, Hm, hb⟩; have HB3 : Hid (Below (w.alloc (shO a n m 32)).heap.size (w.alloc (shO a n m 32)) w3) := bel_step HB2.out hb.out; clear hb c0 c1 c2; obtain ⟨c0, c1, c2⟩ := box_cells HB3.out)
   | (go_at_call 66; refine (H1.out _ _ Hm.out).mono ?_; clear H1; rintro e w4 ⟨rfl, hw⟩; obtain rfl := hw.symm; clear hw))
  go_ret2
  exact ⟨rfl, bel1 HB3.out⟩
 by_cases hx : m < x
 ·obtain rfl : pb = false := E.out.trans (by simp; omega)
  obtain rfl : pf = 0 := E2.out
  go_enter Tryz.func21, Tryz.ntmps21
  go_wp2_with (first
   | (go_at_call 19; refine (HG _ HB0.out).mono ?_; clear HG; rintro e w1 ⟨rfl, hb⟩; have HB1 : Hid (Below (w.alloc (shO a n m 32)).heap.size (w.alloc (shO a n m 32)) w1) := hb; clear hb; obtain ⟨c0, c1, c2⟩ := box_cells HB1.out)
   | (go_at_call 39; refine (HH _ HB1.out).mono ?_; clear HH; rintro e w2 ⟨rfl, hb⟩; have HB2 : Hid (Below (w.alloc (shO a n m 32)).heap.size (w.alloc (shO a n m 32)) w2) := hb; clear hb c0 c1 c2; obtain ⟨c0, c1, c2⟩ := box_cells HB2.out)
   | (go_at_call 40; refine (HM.out _).mono ?_; clear HM; rintro e w3 ⟨rfl, Hm, hb⟩; have HB3 : Hid (Below (w.alloc (shO a n m 32)).heap.size (w.alloc (shO a n m 32)) w3) := bel_step HB2.out hb.out; clear hb c0 c1 c2; obtain ⟨c0, c1, c2⟩ := box_cells HB3.out)
   | (go_at_call 66; refine (H1.out _ _ Hm.out).mono ?_; clear H1; rintro e w4 ⟨rfl, hw⟩; obtain rfl := hw.symm; clear hw))
  go_ret2
  exact ⟨rfl, bel1 HB3.out⟩
 ·obtain rfl : pb = true := E.out.trans (by simp; omega)
  obtain rfl : pf = x := E2.out
  go_enter Tryz.func21, Tryz.ntmps21
  go_wp2_with (first
   | (go_at_call 19; refine (HG _ HB0.out).mono ?_; clear HG; rintro e w1 ⟨rfl, hb⟩; have HB1 : Hid (Below (w.alloc (shO a n m 32)).heap.size (w.alloc (shO a n m 32)) w1) := hb; clear hb; obtain ⟨c0, c1, c2⟩ := box_cells HB1.out)
   | (go_at_call 39; refine (HH _ HB1.out).mono ?_; clear HH; rintro e w2 ⟨rfl, hb⟩; have HB2 : Hid (Below (w.alloc (shO a n m 32)).heap.size (w.alloc (shO a n m 32)) w2) := hb; clear hb c0 c1 c2; obtain ⟨c0, c1, c2⟩ := box_cells HB2.out)
   | (go_at_call 40; refine (HM.out _).mono ?_; clear HM; rintro e w3 ⟨rfl, Hm, hb⟩; have HB3 : Hid (Below (w.alloc (shO a n m 32)).heap.size (w.alloc (shO a n m 32)) w3) := bel_step HB2.out hb.out; clear hb c0 c1 c2; obtain ⟨c0, c1, c2⟩ := box_cells HB3.out)
   | (go_at_call 66; refine (H1.out _ _ Hm.out).mono ?_; clear H1; rintro e w4 ⟨rfl, hw⟩; obtain rfl := hw.symm; clear hw))
  go_ret2
  exact ⟨rfl, bel1 HB3.out⟩
theorem span_any (a n m lo hi : Int) (w : World) : Calls Tryz.prog 69 #[shV a n m, .int .i64 lo, .int .i64 hi] w fun e w' => e = .returned (.tuple #[.int .i64 (spL a n m lo hi), .int .i64 (spH a n m lo hi), .bool (spB a n m lo hi)]) ∧ Below w.heap.size w w' := by
 have HB0 : Hid (Below (w.alloc (shO a n m 32)).heap.size (w.alloc (shO a n m 32)) (w.alloc (shO a n m 32))) := Below.refl _ _
 have HG : RC (w.alloc (shO a n m 32)) 19 #[shV a n m] _ := RC.of fun u => good_any a n m u
 have HL : RC (w.alloc (shO a n m 32)) 39 #[shV a n m, .int .i64 lo] _ := RC.of fun u => has_any a n m lo u
 have HH : RC (w.alloc (shO a n m 32)) 39 #[shV a n m, .int .i64 hi] _ := RC.of fun u => has_any a n m hi u
 cases hg : goodB a n m
 ·have e1 : spB a n m lo hi = false := by unfold spB; rw [hg]; rfl
  have e2 : spL a n m lo hi = 0 := by unfold spL; rw [e1]; rfl
  have e3 : spH a n m lo hi = 0 := by unfold spH; rw [e1]; rfl
  rw [e1, e2, e3]
  rw [hg] at HG
  go_enter Tryz.func69, Tryz.ntmps69
  go_wp2_with (first
   | (go_at_call 19; refine (HG _ HB0.out).mono ?_; clear HG; rintro e w1 ⟨rfl, hb⟩; have Hw1 : Hid (Below (w.alloc (shO a n m 32)).heap.size (w.alloc (shO a n m 32)) w1) := hb; clear hb; obtain ⟨c0, c1, c2⟩ := box_cells Hw1.out))
  go_ret3
  exact ⟨rfl, bel1 Hw1.out⟩
 cases hl : (decide (1 ≤ lo) && decide (lo ≤ m))
 ·have e1 : spB a n m lo hi = false := by unfold spB; rw [hg, hl]; rfl
  have e2 : spL a n m lo hi = 0 := by unfold spL; rw [e1]; rfl
  have e3 : spH a n m lo hi = 0 := by unfold spH; rw [e1]; rfl
  rw [e1, e2, e3]
  rw [hg] at HG
  rw [hl] at HL
  clear hl HH
  go_enter Tryz.func69, Tryz.ntmps69
  go_wp2_with (first
   | (go_at_call 19; refine (HG _ HB0.out).mono ?_; clear HG; rintro e w1 ⟨rfl, hb⟩; have Hw1 : Hid (Below (w.alloc (shO a n m 32)).heap.size (w.alloc (shO a n m 32)) w1) := hb; clear hb; obtain ⟨c0, c1, c2⟩ := box_cells Hw1.out)
   | (go_at_call_of 39 lo; refine (HL _ Hw1.out).mono ?_; clear HL; rintro e w2 ⟨rfl, hb⟩; have Hw2 : Hid (Below (w.alloc (shO a n m 32)).heap.size (w.alloc (shO a n m 32)) w2) := hb; clear hb c0 c1 c2; obtain ⟨c0, c1, c2⟩ := box_cells Hw2.out))
  go_ret3
  exact ⟨rfl, bel1 Hw2.out⟩
 cases hh : (decide (1 ≤ hi) && decide (hi ≤ m))
 ·have e1 : spB a n m lo hi = false := by unfold spB; rw [hg, hl, hh]; rfl
  have e2 : spL a n m lo hi = 0 := by unfold spL; rw [e1]; rfl
  have e3 : spH a n m lo hi = 0 := by unfold spH; rw [e1]; rfl
  rw [e1, e2, e3]
  rw [hg] at HG
  rw [hl] at HL
  rw [hh] at HH
  clear hl hh
  go_enter Tryz.func69, Tryz.ntmps69
  go_wp2_with (first
   | (go_at_call 19; refine (HG _ HB0.out).mono ?_; clear HG; rintro e w1 ⟨rfl, hb⟩; have Hw1 : Hid (Below (w.alloc (shO a n m 32)).heap.size (w.alloc (shO a n m 32)) w1) := hb; clear hb; obtain ⟨c0, c1, c2⟩ := box_cells Hw1.out)
   | (go_at_call_of 39 lo; refine (HL _ Hw1.out).mono ?_; clear HL; rintro e w2 ⟨rfl, hb⟩; have Hw2 : Hid (Below (w.alloc (shO a n m 32)).heap.size (w.alloc (shO a n m 32)) w2) := hb; clear hb c0 c1 c2; obtain ⟨c0, c1, c2⟩ := box_cells Hw2.out)
   | (go_at_call_of 39 hi; refine (HH _ Hw2.out).mono ?_; clear HH; rintro e w3 ⟨rfl, hb⟩; have Hw3 : Hid (Below (w.alloc (shO a n m 32)).heap.size (w.alloc (shO a n m 32)) w3) := hb; clear hb c0 c1 c2; obtain ⟨c0, c1, c2⟩ := box_cells Hw3.out))
  go_ret3
  exact ⟨rfl, bel1 Hw3.out⟩
 by_cases hlh : hi < lo
 ·have e1 : spB a n m lo hi = false := by unfold spB; rw [hg, hl, hh, decide_eq_false (by omega : ¬ lo ≤ hi)]; rfl
  have e2 : spL a n m lo hi = 0 := by unfold spL; rw [e1]; rfl
  have e3 : spH a n m lo hi = 0 := by unfold spH; rw [e1]; rfl
  rw [e1, e2, e3]
  rw [hg] at HG
  rw [hl] at HL
  rw [hh] at HH
  clear hl hh
  go_enter Tryz.func69, Tryz.ntmps69
  go_wp2_with (first
   | (go_at_call 19; refine (HG _ HB0.out).mono ?_; clear HG; rintro e w1 ⟨rfl, hb⟩; have Hw1 : Hid (Below (w.alloc (shO a n m 32)).heap.size (w.alloc (shO a n m 32)) w1) := hb; clear hb; obtain ⟨c0, c1, c2⟩ := box_cells Hw1.out)
   | (go_at_call_of 39 lo; refine (HL _ Hw1.out).mono ?_; clear HL; rintro e w2 ⟨rfl, hb⟩; have Hw2 : Hid (Below (w.alloc (shO a n m 32)).heap.size (w.alloc (shO a n m 32)) w2) := hb; clear hb c0 c1 c2; obtain ⟨c0, c1, c2⟩ := box_cells Hw2.out)
   | (go_at_call_of 39 hi; refine (HH _ Hw2.out).mono ?_; clear HH; rintro e w3 ⟨rfl, hb⟩; have Hw3 : Hid (Below (w.alloc (shO a n m 32)).heap.size (w.alloc (shO a n m 32)) w3) := hb; clear hb c0 c1 c2; obtain ⟨c0, c1, c2⟩ := box_cells Hw3.out))
  go_ret3
  exact ⟨rfl, bel1 Hw3.out⟩
 have hb := good_bd hg
 have hl2 : 1 ≤ lo ∧ lo ≤ m := by simpa using hl
 have hh2 : 1 ≤ hi ∧ hi ≤ m := by simpa using hh
 have hm0 := hb.1
 have hm1 := hb.2.1
 have HM : Hid (∀ u, Calls Tryz.prog 40 #[shV a n m] u fun e w' => e = .returned (movF u.heap.size) ∧ Hid (Mov w' u.heap.size a n m) ∧ Hid (Below u.heap.size u w')) := fun u => mover_any a n m (by omega) (by omega) (by omega) (by omega) u
 have H1 : Hid (∀ (u : World) (g : Nat), Mov u g a n m → Calls Tryz.prog 66 #[.int .i64 lo, .pointer (some ⟨g, 0, none⟩), .pointer (some ⟨g + 1, 0, none⟩)] u fun e w' => e = .returned (.tuple #[.int .i64 (mvF a n lo), .bool (mvB a n lo)]) ∧ w' = u) := fun u g h => mov1_any h (by omega) (by omega) (by omega) (by omega) lo (by omega) (by omega)
 have H2 : Hid (∀ (u : World) (g : Nat), Mov u g a n m → Calls Tryz.prog 66 #[.int .i64 hi, .pointer (some ⟨g, 0, none⟩), .pointer (some ⟨g + 1, 0, none⟩)] u fun e w' => e = .returned (.tuple #[.int .i64 (mvF a n hi), .bool (mvB a n hi)]) ∧ w' = u) := fun u g h => mov1_any h (by omega) (by omega) (by omega) (by omega) hi (by omega) (by omega)
 have hv := mv_bd (a := a) (n := n) (p := lo) (by omega) (by omega) (by omega) (by omega) (by omega) (by omega)
 have hv2 := mv_bd (a := a) (n := n) (p := hi) (by omega) (by omega) (by omega) (by omega) (by omega) (by omega)
 have E : Hid (spB a n m lo hi = decide (mvF a n lo ≤ min (if mvB a n hi = true then mvF a n hi else mvF a n hi - 1) m)) := by unfold Hid spB; rw [hg, hl, hh, decide_eq_true (by omega : lo ≤ hi)]; rfl
 have E2 : Hid (spL a n m lo hi = if spB a n m lo hi = true then mvF a n lo else 0) := rfl
 have E3 : Hid (spH a n m lo hi = if spB a n m lo hi = true then min (if mvB a n hi = true then mvF a n hi else mvF a n hi - 1) m else 0) := rfl
 rw [hg] at HG
 rw [hl] at HL
 rw [hh] at HH
 obtain ⟨v1, v2⟩ := hv
 obtain ⟨v3, v4⟩ := hv2
 generalize mvF a n lo = x at *
 generalize mvB a n lo = y0 at *
 generalize mvF a n hi = z at *
 generalize mvB a n hi = y at *
 generalize spB a n m lo hi = sb at *
 generalize spL a n m lo hi = sl at *
 generalize spH a n m lo hi = sh at *
 clear hh hg hl hb hl2 hh2
 cases y
 ·have E' : Hid (sb = decide (x ≤ min (z - 1) m)) := E.out
  have E3' : Hid (sh = if sb = true then min (z - 1) m else 0) := E3.out
  clear E E3
  by_cases hz : (z - 1) ≤ m
  ·have hmin : min (z - 1) m = (z - 1) := by omega
   rw [hmin] at E' E3'
   have hmin' : Hid (min (z - 1) m = (z - 1)) := hmin
   clear hmin
   by_cases hx : (z - 1) < x
   ·obtain rfl : sb = false := E'.out.trans (by simp; omega)
    obtain rfl : sl = 0 := E2.out
    obtain rfl : sh = 0 := E3'.out
    go_enter Tryz.func69, Tryz.ntmps69
    go_wp2_with (first
     | (go_at_call 19; refine (HG _ HB0.out).mono ?_; clear HG; rintro e w1 ⟨rfl, hb⟩; have Hw1 : Hid (Below (w.alloc (shO a n m 32)).heap.size (w.alloc (shO a n m 32)) w1) := hb; clear hb; obtain ⟨c0, c1, c2⟩ := box_cells Hw1.out)
     | (go_at_call_of 39 lo; refine (HL _ Hw1.out).mono ?_; clear HL; rintro e w2 ⟨rfl, hb⟩; have Hw2 : Hid (Below (w.alloc (shO a n m 32)).heap.size (w.alloc (shO a n m 32)) w2) := hb; clear hb c0 c1 c2; obtain ⟨c0, c1, c2⟩ := box_cells Hw2.out)
     | (go_at_call_of 39 hi; refine (HH _ Hw2.out).mono ?_; clear HH; rintro e w3 ⟨rfl, hb⟩; have Hw3 : Hid (Below (w.alloc (shO a n m 32)).heap.size (w.alloc (shO a n m 32)) w3) := hb; clear hb c0 c1 c2; obtain ⟨c0, c1, c2⟩ := box_cells Hw3.out)
     | (go_at_call 40; refine (HM.out _).mono ?_; clear HM; rintro e w4 ⟨rfl, Hm, hb⟩; have Hw4 : Hid (Below (w.alloc (shO a n m 32)).heap.size (w.alloc (shO a n m 32)) w4) := bel_step Hw3.out hb.out; clear hb c0 c1 c2; obtain ⟨c0, c1, c2⟩ := box_cells Hw4.out)
     | (go_at_call_of 66 lo; refine (H1.out _ _ Hm.out).mono ?_; clear H1; rintro e w5 ⟨rfl, hw⟩; obtain rfl := hw.symm; clear hw)
     | (go_at_call_of 66 hi; refine (H2.out _ _ Hm.out).mono ?_; clear H2; rintro e w5 ⟨rfl, hw⟩; obtain rfl := hw.symm; clear hw))
    go_ret3
    exact ⟨by first | rfl | (simp only [hmin'.out]; rfl), bel1 Hw4.out⟩
   ·obtain rfl : sb = true := E'.out.trans (by simp; omega)
    obtain rfl : sl = x := E2.out
    obtain rfl : sh = (z - 1) := E3'.out
    go_enter Tryz.func69, Tryz.ntmps69
    go_wp2_with (first
     | (go_at_call 19; refine (HG _ HB0.out).mono ?_; clear HG; rintro e w1 ⟨rfl, hb⟩; have Hw1 : Hid (Below (w.alloc (shO a n m 32)).heap.size (w.alloc (shO a n m 32)) w1) := hb; clear hb; obtain ⟨c0, c1, c2⟩ := box_cells Hw1.out)
     | (go_at_call_of 39 lo; refine (HL _ Hw1.out).mono ?_; clear HL; rintro e w2 ⟨rfl, hb⟩; have Hw2 : Hid (Below (w.alloc (shO a n m 32)).heap.size (w.alloc (shO a n m 32)) w2) := hb; clear hb c0 c1 c2; obtain ⟨c0, c1, c2⟩ := box_cells Hw2.out)
     | (go_at_call_of 39 hi; refine (HH _ Hw2.out).mono ?_; clear HH; rintro e w3 ⟨rfl, hb⟩; have Hw3 : Hid (Below (w.alloc (shO a n m 32)).heap.size (w.alloc (shO a n m 32)) w3) := hb; clear hb c0 c1 c2; obtain ⟨c0, c1, c2⟩ := box_cells Hw3.out)
     | (go_at_call 40; refine (HM.out _).mono ?_; clear HM; rintro e w4 ⟨rfl, Hm, hb⟩; have Hw4 : Hid (Below (w.alloc (shO a n m 32)).heap.size (w.alloc (shO a n m 32)) w4) := bel_step Hw3.out hb.out; clear hb c0 c1 c2; obtain ⟨c0, c1, c2⟩ := box_cells Hw4.out)
     | (go_at_call_of 66 lo; refine (H1.out _ _ Hm.out).mono ?_; clear H1; rintro e w5 ⟨rfl, hw⟩; obtain rfl := hw.symm; clear hw)
     | (go_at_call_of 66 hi; refine (H2.out _ _ Hm.out).mono ?_; clear H2; rintro e w5 ⟨rfl, hw⟩; obtain rfl := hw.symm; clear hw))
    go_ret3
    exact ⟨by first | rfl | (simp only [hmin'.out]; rfl), bel1 Hw4.out⟩
  ·have hmin : min (z - 1) m = m := by omega
   rw [hmin] at E' E3'
   have hmin' : Hid (min (z - 1) m = m) := hmin
   clear hmin
   by_cases hx : m < x
   ·obtain rfl : sb = false := E'.out.trans (by simp; omega)
    obtain rfl : sl = 0 := E2.out
    obtain rfl : sh = 0 := E3'.out
    go_enter Tryz.func69, Tryz.ntmps69
    go_wp2_with (first
     | (go_at_call 19; refine (HG _ HB0.out).mono ?_; clear HG; rintro e w1 ⟨rfl, hb⟩; have Hw1 : Hid (Below (w.alloc (shO a n m 32)).heap.size (w.alloc (shO a n m 32)) w1) := hb; clear hb; obtain ⟨c0, c1, c2⟩ := box_cells Hw1.out)
     | (go_at_call_of 39 lo; refine (HL _ Hw1.out).mono ?_; clear HL; rintro e w2 ⟨rfl, hb⟩; have Hw2 : Hid (Below (w.alloc (shO a n m 32)).heap.size (w.alloc (shO a n m 32)) w2) := hb; clear hb c0 c1 c2; obtain ⟨c0, c1, c2⟩ := box_cells Hw2.out)
     | (go_at_call_of 39 hi; refine (HH _ Hw2.out).mono ?_; clear HH; rintro e w3 ⟨rfl, hb⟩; have Hw3 : Hid (Below (w.alloc (shO a n m 32)).heap.size (w.alloc (shO a n m 32)) w3) := hb; clear hb c0 c1 c2; obtain ⟨c0, c1, c2⟩ := box_cells Hw3.out)
     | (go_at_call 40; refine (HM.out _).mono ?_; clear HM; rintro e w4 ⟨rfl, Hm, hb⟩; have Hw4 : Hid (Below (w.alloc (shO a n m 32)).heap.size (w.alloc (shO a n m 32)) w4) := bel_step Hw3.out hb.out; clear hb c0 c1 c2; obtain ⟨c0, c1, c2⟩ := box_cells Hw4.out)
     | (go_at_call_of 66 lo; refine (H1.out _ _ Hm.out).mono ?_; clear H1; rintro e w5 ⟨rfl, hw⟩; obtain rfl := hw.symm; clear hw)
     | (go_at_call_of 66 hi; refine (H2.out _ _ Hm.out).mono ?_; clear H2; rintro e w5 ⟨rfl, hw⟩; obtain rfl := hw.symm; clear hw))
    go_ret3
    exact ⟨by first | rfl | (simp only [hmin'.out]; rfl), bel1 Hw4.out⟩
   ·obtain rfl : sb = true := E'.out.trans (by simp; omega)
    obtain rfl : sl = x := E2.out
    obtain rfl : m = sh := E3'.out.symm
    go_enter Tryz.func69, Tryz.ntmps69
    go_wp2_with (first
     | (go_at_call 19; refine (HG _ HB0.out).mono ?_; clear HG; rintro e w1 ⟨rfl, hb⟩; have Hw1 : Hid (Below (w.alloc (shO a n m 32)).heap.size (w.alloc (shO a n m 32)) w1) := hb; clear hb; obtain ⟨c0, c1, c2⟩ := box_cells Hw1.out)
     | (go_at_call_of 39 lo; refine (HL _ Hw1.out).mono ?_; clear HL; rintro e w2 ⟨rfl, hb⟩; have Hw2 : Hid (Below (w.alloc (shO a n m 32)).heap.size (w.alloc (shO a n m 32)) w2) := hb; clear hb c0 c1 c2; obtain ⟨c0, c1, c2⟩ := box_cells Hw2.out)
     | (go_at_call_of 39 hi; refine (HH _ Hw2.out).mono ?_; clear HH; rintro e w3 ⟨rfl, hb⟩; have Hw3 : Hid (Below (w.alloc (shO a n m 32)).heap.size (w.alloc (shO a n m 32)) w3) := hb; clear hb c0 c1 c2; obtain ⟨c0, c1, c2⟩ := box_cells Hw3.out)
     | (go_at_call 40; refine (HM.out _).mono ?_; clear HM; rintro e w4 ⟨rfl, Hm, hb⟩; have Hw4 : Hid (Below (w.alloc (shO a n m 32)).heap.size (w.alloc (shO a n m 32)) w4) := bel_step Hw3.out hb.out; clear hb c0 c1 c2; obtain ⟨c0, c1, c2⟩ := box_cells Hw4.out)
     | (go_at_call_of 66 lo; refine (H1.out _ _ Hm.out).mono ?_; clear H1; rintro e w5 ⟨rfl, hw⟩; obtain rfl := hw.symm; clear hw)
     | (go_at_call_of 66 hi; refine (H2.out _ _ Hm.out).mono ?_; clear H2; rintro e w5 ⟨rfl, hw⟩; obtain rfl := hw.symm; clear hw))
    go_ret3
    exact ⟨by first | rfl | (simp only [hmin'.out]; rfl), bel1 Hw4.out⟩
 ·have E' : Hid (sb = decide (x ≤ min z m)) := E.out
  have E3' : Hid (sh = if sb = true then min z m else 0) := E3.out
  clear E E3
  by_cases hz : z ≤ m
  ·have hmin : min z m = z := by omega
   rw [hmin] at E' E3'
   have hmin' : Hid (min z m = z) := hmin
   clear hmin
   by_cases hx : z < x
   ·obtain rfl : sb = false := E'.out.trans (by simp; omega)
    obtain rfl : sl = 0 := E2.out
    obtain rfl : sh = 0 := E3'.out
    go_enter Tryz.func69, Tryz.ntmps69
    go_wp2_with (first
     | (go_at_call 19; refine (HG _ HB0.out).mono ?_; clear HG; rintro e w1 ⟨rfl, hb⟩; have Hw1 : Hid (Below (w.alloc (shO a n m 32)).heap.size (w.alloc (shO a n m 32)) w1) := hb; clear hb; obtain ⟨c0, c1, c2⟩ := box_cells Hw1.out)
     | (go_at_call_of 39 lo; refine (HL _ Hw1.out).mono ?_; clear HL; rintro e w2 ⟨rfl, hb⟩; have Hw2 : Hid (Below (w.alloc (shO a n m 32)).heap.size (w.alloc (shO a n m 32)) w2) := hb; clear hb c0 c1 c2; obtain ⟨c0, c1, c2⟩ := box_cells Hw2.out)
     | (go_at_call_of 39 hi; refine (HH _ Hw2.out).mono ?_; clear HH; rintro e w3 ⟨rfl, hb⟩; have Hw3 : Hid (Below (w.alloc (shO a n m 32)).heap.size (w.alloc (shO a n m 32)) w3) := hb; clear hb c0 c1 c2; obtain ⟨c0, c1, c2⟩ := box_cells Hw3.out)
     | (go_at_call 40; refine (HM.out _).mono ?_; clear HM; rintro e w4 ⟨rfl, Hm, hb⟩; have Hw4 : Hid (Below (w.alloc (shO a n m 32)).heap.size (w.alloc (shO a n m 32)) w4) := bel_step Hw3.out hb.out; clear hb c0 c1 c2; obtain ⟨c0, c1, c2⟩ := box_cells Hw4.out)
     | (go_at_call_of 66 lo; refine (H1.out _ _ Hm.out).mono ?_; clear H1; rintro e w5 ⟨rfl, hw⟩; obtain rfl := hw.symm; clear hw)
     | (go_at_call_of 66 hi; refine (H2.out _ _ Hm.out).mono ?_; clear H2; rintro e w5 ⟨rfl, hw⟩; obtain rfl := hw.symm; clear hw))
    go_ret3
    exact ⟨by first | rfl | (simp only [hmin'.out]; rfl), bel1 Hw4.out⟩
   ·obtain rfl : sb = true := E'.out.trans (by simp; omega)
    obtain rfl : sl = x := E2.out
    obtain rfl : sh = z := E3'.out
    go_enter Tryz.func69, Tryz.ntmps69
    go_wp2_with (first
     | (go_at_call 19; refine (HG _ HB0.out).mono ?_; clear HG; rintro e w1 ⟨rfl, hb⟩; have Hw1 : Hid (Below (w.alloc (shO a n m 32)).heap.size (w.alloc (shO a n m 32)) w1) := hb; clear hb; obtain ⟨c0, c1, c2⟩ := box_cells Hw1.out)
     | (go_at_call_of 39 lo; refine (HL _ Hw1.out).mono ?_; clear HL; rintro e w2 ⟨rfl, hb⟩; have Hw2 : Hid (Below (w.alloc (shO a n m 32)).heap.size (w.alloc (shO a n m 32)) w2) := hb; clear hb c0 c1 c2; obtain ⟨c0, c1, c2⟩ := box_cells Hw2.out)
     | (go_at_call_of 39 hi; refine (HH _ Hw2.out).mono ?_; clear HH; rintro e w3 ⟨rfl, hb⟩; have Hw3 : Hid (Below (w.alloc (shO a n m 32)).heap.size (w.alloc (shO a n m 32)) w3) := hb; clear hb c0 c1 c2; obtain ⟨c0, c1, c2⟩ := box_cells Hw3.out)
     | (go_at_call 40; refine (HM.out _).mono ?_; clear HM; rintro e w4 ⟨rfl, Hm, hb⟩; have Hw4 : Hid (Below (w.alloc (shO a n m 32)).heap.size (w.alloc (shO a n m 32)) w4) := bel_step Hw3.out hb.out; clear hb c0 c1 c2; obtain ⟨c0, c1, c2⟩ := box_cells Hw4.out)
     | (go_at_call_of 66 lo; refine (H1.out _ _ Hm.out).mono ?_; clear H1; rintro e w5 ⟨rfl, hw⟩; obtain rfl := hw.symm; clear hw)
     | (go_at_call_of 66 hi; refine (H2.out _ _ Hm.out).mono ?_; clear H2; rintro e w5 ⟨rfl, hw⟩; obtain rfl := hw.symm; clear hw))
    go_ret3
    exact ⟨by first | rfl | (simp only [hmin'.out]; rfl), bel1 Hw4.out⟩
  ·have hmin : min z m = m := by omega
   rw [hmin] at E' E3'
   have hmin' : Hid (min z m = m) := hmin
   clear hmin
   by_cases hx : m < x
   ·obtain rfl : sb = false := E'.out.trans (by simp; omega)
    obtain rfl : sl = 0 := E2.out
    obtain rfl : sh = 0 := E3'.out
    go_enter Tryz.func69, Tryz.ntmps69
    go_wp2_with (first
     | (go_at_call 19; refine (HG _ HB0.out).mono ?_; clear HG; rintro e w1 ⟨rfl, hb⟩; have Hw1 : Hid (Below (w.alloc (shO a n m 32)).heap.size (w.alloc (shO a n m 32)) w1) := hb; clear hb; obtain ⟨c0, c1, c2⟩ := box_cells Hw1.out)
     | (go_at_call_of 39 lo; refine (HL _ Hw1.out).mono ?_; clear HL; rintro e w2 ⟨rfl, hb⟩; have Hw2 : Hid (Below (w.alloc (shO a n m 32)).heap.size (w.alloc (shO a n m 32)) w2) := hb; clear hb c0 c1 c2; obtain ⟨c0, c1, c2⟩ := box_cells Hw2.out)
     | (go_at_call_of 39 hi; refine (HH _ Hw2.out).mono ?_; clear HH; rintro e w3 ⟨rfl, hb⟩; have Hw3 : Hid (Below (w.alloc (shO a n m 32)).heap.size (w.alloc (shO a n m 32)) w3) := hb; clear hb c0 c1 c2; obtain ⟨c0, c1, c2⟩ := box_cells Hw3.out)
     | (go_at_call 40; refine (HM.out _).mono ?_; clear HM; rintro e w4 ⟨rfl, Hm, hb⟩; have Hw4 : Hid (Below (w.alloc (shO a n m 32)).heap.size (w.alloc (shO a n m 32)) w4) := bel_step Hw3.out hb.out; clear hb c0 c1 c2; obtain ⟨c0, c1, c2⟩ := box_cells Hw4.out)
     | (go_at_call_of 66 lo; refine (H1.out _ _ Hm.out).mono ?_; clear H1; rintro e w5 ⟨rfl, hw⟩; obtain rfl := hw.symm; clear hw)
     | (go_at_call_of 66 hi; refine (H2.out _ _ Hm.out).mono ?_; clear H2; rintro e w5 ⟨rfl, hw⟩; obtain rfl := hw.symm; clear hw))
    go_ret3
    exact ⟨by first | rfl | (simp only [hmin'.out]; rfl), bel1 Hw4.out⟩
   ·obtain rfl : sb = true := E'.out.trans (by simp; omega)
    obtain rfl : sl = x := E2.out
    obtain rfl : m = sh := E3'.out.symm
    go_enter Tryz.func69, Tryz.ntmps69
    go_wp2_with (first
     | (go_at_call 19; refine (HG _ HB0.out).mono ?_; clear HG; rintro e w1 ⟨rfl, hb⟩; have Hw1 : Hid (Below (w.alloc (shO a n m 32)).heap.size (w.alloc (shO a n m 32)) w1) := hb; clear hb; obtain ⟨c0, c1, c2⟩ := box_cells Hw1.out)
     | (go_at_call_of 39 lo; refine (HL _ Hw1.out).mono ?_; clear HL; rintro e w2 ⟨rfl, hb⟩; have Hw2 : Hid (Below (w.alloc (shO a n m 32)).heap.size (w.alloc (shO a n m 32)) w2) := hb; clear hb c0 c1 c2; obtain ⟨c0, c1, c2⟩ := box_cells Hw2.out)
     | (go_at_call_of 39 hi; refine (HH _ Hw2.out).mono ?_; clear HH; rintro e w3 ⟨rfl, hb⟩; have Hw3 : Hid (Below (w.alloc (shO a n m 32)).heap.size (w.alloc (shO a n m 32)) w3) := hb; clear hb c0 c1 c2; obtain ⟨c0, c1, c2⟩ := box_cells Hw3.out)
     | (go_at_call 40; refine (HM.out _).mono ?_; clear HM; rintro e w4 ⟨rfl, Hm, hb⟩; have Hw4 : Hid (Below (w.alloc (shO a n m 32)).heap.size (w.alloc (shO a n m 32)) w4) := bel_step Hw3.out hb.out; clear hb c0 c1 c2; obtain ⟨c0, c1, c2⟩ := box_cells Hw4.out)
     | (go_at_call_of 66 lo; refine (H1.out _ _ Hm.out).mono ?_; clear H1; rintro e w5 ⟨rfl, hw⟩; obtain rfl := hw.symm; clear hw)
     | (go_at_call_of 66 hi; refine (H2.out _ _ Hm.out).mono ?_; clear H2; rintro e w5 ⟨rfl, hw⟩; obtain rfl := hw.symm; clear hw))
    go_ret3
    exact ⟨by first | rfl | (simp only [hmin'.out]; rfl), bel1 Hw4.out⟩
end Go.Proofs.YtljmklbbngpllaaGreatDoor.Hs
