/- HSpan, RwFn1, RwRow, RwNm. -/
import Derived.Test.YtljmklbbngpllaaGreatDoorHFunNd
set_option linter.unusedVariables false
set_option linter.unusedSimpArgs false
set_option maxHeartbeats 16000000
set_option maxRecDepth 100000
namespace Go.Proofs.YtljmklbbngpllaaGreatDoor.Hs
open Go.RowKit
theorem aAf (a n m lo hi : Int) (w : World) : Calls Tryz.prog 69 #[shV a n m, .int .i64 lo, .int .i64 hi] w fun e w' => e = .returned (.tuple #[.int .i64 (spL a n m lo hi), .int .i64 (spH a n m lo hi), .bool (spB a n m lo hi)]) ∧ Below w.heap.size w w' := by
 have HB0 : Hid (Below (w.alloc (shO a n m 32)).heap.size (w.alloc (shO a n m 32)) (w.alloc (shO a n m 32))) := Below.refl _ _
 have HG : RC (w.alloc (shO a n m 32)) 19 #[shV a n m] _ := RC.of fun u => iM a n m u
 have HL : RC (w.alloc (shO a n m 32)) 39 #[shV a n m, .int .i64 lo] _ := RC.of fun u => qB a n m lo u
 have HH : RC (w.alloc (shO a n m 32)) 39 #[shV a n m, .int .i64 hi] _ := RC.of fun u => qB a n m hi u
 cases hg : bB a n m
 ·have e1 : spB a n m lo hi = false := by unfold spB; rw [hg]; rfl
  have e2 : spL a n m lo hi = 0 := by unfold spL; rw [e1]; rfl
  have e3 : spH a n m lo hi = 0 := by unfold spH; rw [e1]; rfl
  rw [e1, e2, e3]
  rw [hg] at HG
  go_enter Tryz.func69, Tryz.ntmps69
  go_wp2_with (first
   | (go_at_call 19; refine (HG _ HB0.out).mono ?_; clear HG; rintro e w1 ⟨rfl, hb⟩; have Hw1 : Hid (Below (w.alloc (shO a n m 32)).heap.size (w.alloc (shO a n m 32)) w1) := hb; clear hb; obtain ⟨c0, c1, c2⟩ := aL Hw1.out))
  go_ret3
  exact ⟨rfl, aR Hw1.out⟩
 cases hl : (decide (1 ≤ lo) && decide (lo ≤ m))
 ·have e1 : spB a n m lo hi = false := by unfold spB; rw [hg, hl]; rfl
  have e2 : spL a n m lo hi = 0 := by unfold spL; rw [e1]; rfl
  have e3 : spH a n m lo hi = 0 := by unfold spH; rw [e1]; rfl
  rw [e1, e2, e3]
  rw [hg] at HG
  rw [hl] at HL
  clear hl HH
  go_enter Tryz.func69, Tryz.ntmps69
  go_wp2_with (first
   | (go_at_call 19; refine (HG _ HB0.out).mono ?_; clear HG; rintro e w1 ⟨rfl, hb⟩; have Hw1 : Hid (Below (w.alloc (shO a n m 32)).heap.size (w.alloc (shO a n m 32)) w1) := hb; clear hb; obtain ⟨c0, c1, c2⟩ := aL Hw1.out)
   | (go_at_call_of 39 lo; refine (HL _ Hw1.out).mono ?_; clear HL; rintro e w2 ⟨rfl, hb⟩; have Hw2 : Hid (Below (w.alloc (shO a n m 32)).heap.size (w.alloc (shO a n m 32)) w2) := hb; clear hb c0 c1 c2; obtain ⟨c0, c1, c2⟩ := aL Hw2.out))
  go_ret3
  exact ⟨rfl, aR Hw2.out⟩
 cases hh : (decide (1 ≤ hi) && decide (hi ≤ m))
 ·have e1 : spB a n m lo hi = false := by unfold spB; rw [hg, hl, hh]; rfl
  have e2 : spL a n m lo hi = 0 := by unfold spL; rw [e1]; rfl
  have e3 : spH a n m lo hi = 0 := by unfold spH; rw [e1]; rfl
  rw [e1, e2, e3]
  rw [hg] at HG
  rw [hl] at HL
  rw [hh] at HH
  clear hl hh
  go_enter Tryz.func69, Tryz.ntmps69
  go_wp2_with (first
   | (go_at_call 19; refine (HG _ HB0.out).mono ?_; clear HG; rintro e w1 ⟨rfl, hb⟩; have Hw1 : Hid (Below (w.alloc (shO a n m 32)).heap.size (w.alloc (shO a n m 32)) w1) := hb; clear hb; obtain ⟨c0, c1, c2⟩ := aL Hw1.out)
   | (go_at_call_of 39 lo; refine (HL _ Hw1.out).mono ?_; clear HL; rintro e w2 ⟨rfl, hb⟩; have Hw2 : Hid (Below (w.alloc (shO a n m 32)).heap.size (w.alloc (shO a n m 32)) w2) := hb; clear hb c0 c1 c2; obtain ⟨c0, c1, c2⟩ := aL Hw2.out)
   | (go_at_call_of 39 hi; refine (HH _ Hw2.out).mono ?_; clear HH; rintro e w3 ⟨rfl, hb⟩; have Hw3 : Hid (Below (w.alloc (shO a n m 32)).heap.size (w.alloc (shO a n m 32)) w3) := hb; clear hb c0 c1 c2; obtain ⟨c0, c1, c2⟩ := aL Hw3.out))
  go_ret3
  exact ⟨rfl, aR Hw3.out⟩
 by_cases hlh : hi < lo
 ·have e1 : spB a n m lo hi = false := by unfold spB; rw [hg, hl, hh, decide_eq_false (by omega : ¬ lo ≤ hi)]; rfl
  have e2 : spL a n m lo hi = 0 := by unfold spL; rw [e1]; rfl
  have e3 : spH a n m lo hi = 0 := by unfold spH; rw [e1]; rfl
  rw [e1, e2, e3]
  rw [hg] at HG
  rw [hl] at HL
  rw [hh] at HH
  clear hl hh
  go_enter Tryz.func69, Tryz.ntmps69
  go_wp2_with (first
   | (go_at_call 19; refine (HG _ HB0.out).mono ?_; clear HG; rintro e w1 ⟨rfl, hb⟩; have Hw1 : Hid (Below (w.alloc (shO a n m 32)).heap.size (w.alloc (shO a n m 32)) w1) := hb; clear hb; obtain ⟨c0, c1, c2⟩ := aL Hw1.out)
   | (go_at_call_of 39 lo; refine (HL _ Hw1.out).mono ?_; clear HL; rintro e w2 ⟨rfl, hb⟩; have Hw2 : Hid (Below (w.alloc (shO a n m 32)).heap.size (w.alloc (shO a n m 32)) w2) := hb; clear hb c0 c1 c2; obtain ⟨c0, c1, c2⟩ := aL Hw2.out)
   | (go_at_call_of 39 hi; refine (HH _ Hw2.out).mono ?_; clear HH; rintro e w3 ⟨rfl, hb⟩; have Hw3 : Hid (Below (w.alloc (shO a n m 32)).heap.size (w.alloc (shO a n m 32)) w3) := hb; clear hb c0 c1 c2; obtain ⟨c0, c1, c2⟩ := aL Hw3.out))
  go_ret3
  exact ⟨rfl, aR Hw3.out⟩
 have hb := gB hg
 have hl2 : 1 ≤ lo ∧ lo ≤ m := by simpa using hl
 have hh2 : 1 ≤ hi ∧ hi ≤ m := by simpa using hh
 have hm0 := hb.1
 have hm1 := hb.2.1
 have HM : Hid (∀ u, Calls Tryz.prog 40 #[shV a n m] u fun e w' => e = .returned (aJf u.heap.size) ∧ Hid (Mov w' u.heap.size a n m) ∧ Hid (Below u.heap.size u w')) := fun u => uU a n m (by omega) (by omega) (by omega) (by omega) u
 have H1 : Hid (∀ (u : World) (g : Nat), Mov u g a n m → Calls Tryz.prog 66 #[.int .i64 lo, .pointer (some ⟨g, 0, none⟩), .pointer (some ⟨g + 1, 0, none⟩)] u fun e w' => e = .returned (.tuple #[.int .i64 (mvF a n lo), .bool (mvB a n lo)]) ∧ w' = u) := fun u g h => sI h (by omega) (by omega) (by omega) (by omega) lo (by omega) (by omega)
 have H2 : Hid (∀ (u : World) (g : Nat), Mov u g a n m → Calls Tryz.prog 66 #[.int .i64 hi, .pointer (some ⟨g, 0, none⟩), .pointer (some ⟨g + 1, 0, none⟩)] u fun e w' => e = .returned (.tuple #[.int .i64 (mvF a n hi), .bool (mvB a n hi)]) ∧ w' = u) := fun u g h => sI h (by omega) (by omega) (by omega) (by omega) hi (by omega) (by omega)
 have hv := aFW (a := a) (n := n) (p := lo) (by omega) (by omega) (by omega) (by omega) (by omega) (by omega)
 have hv2 := aFW (a := a) (n := n) (p := hi) (by omega) (by omega) (by omega) (by omega) (by omega) (by omega)
 have E : Hid (spB a n m lo hi = decide (mvF a n lo ≤ min (if mvB a n hi = true then mvF a n hi else mvF a n hi - 1) m)) := by unfold Hid spB; rw [hg, hl, hh, decide_eq_true (by omega : lo ≤ hi)]; rfl
 have E2 : Hid (spL a n m lo hi = if spB a n m lo hi = true then mvF a n lo else 0) := rfl
 have E3 : Hid (spH a n m lo hi = if spB a n m lo hi = true then min (if mvB a n hi = true then mvF a n hi else mvF a n hi - 1) m else 0) := rfl
 rw [hg] at HG
 rw [hl] at HL
 rw [hh] at HH
 obtain ⟨v1, v2⟩ := hv
 obtain ⟨v3, v4⟩ := hv2
 generalize mvF a n lo = x at *
 generalize mvB a n lo = y0 at *
 generalize mvF a n hi = z at *
 generalize mvB a n hi = y at *
 generalize spB a n m lo hi = sb at *
 generalize spL a n m lo hi = sl at *
 generalize spH a n m lo hi = sh at *
 clear hh hg hl hb hl2 hh2
 cases y
 ·have E' : Hid (sb = decide (x ≤ min (z - 1) m)) := E.out
  have E3' : Hid (sh = if sb = true then min (z - 1) m else 0) := E3.out
  clear E E3
  by_cases hz : (z - 1) ≤ m
  ·have hmin : min (z - 1) m = (z - 1) := by omega
   rw [hmin] at E' E3'
   have hmin' : Hid (min (z - 1) m = (z - 1)) := hmin
   clear hmin
   by_cases hx : (z - 1) < x
   ·obtain rfl : sb = false := E'.out.trans (by simp; omega)
    obtain rfl : sl = 0 := E2.out
    obtain rfl : sh = 0 := E3'.out
    go_enter Tryz.func69, Tryz.ntmps69
    go_wp2_with (first
     | (go_at_call 19; refine (HG _ HB0.out).mono ?_; clear HG; rintro e w1 ⟨rfl, hb⟩; have Hw1 : Hid (Below (w.alloc (shO a n m 32)).heap.size (w.alloc (shO a n m 32)) w1) := hb; clear hb; obtain ⟨c0, c1, c2⟩ := aL Hw1.out)
     | (go_at_call_of 39 lo; refine (HL _ Hw1.out).mono ?_; clear HL; rintro e w2 ⟨rfl, hb⟩; have Hw2 : Hid (Below (w.alloc (shO a n m 32)).heap.size (w.alloc (shO a n m 32)) w2) := hb; clear hb c0 c1 c2; obtain ⟨c0, c1, c2⟩ := aL Hw2.out)
     | (go_at_call_of 39 hi; refine (HH _ Hw2.out).mono ?_; clear HH; rintro e w3 ⟨rfl, hb⟩; have Hw3 : Hid (Below (w.alloc (shO a n m 32)).heap.size (w.alloc (shO a n m 32)) w3) := hb; clear hb c0 c1 c2; obtain ⟨c0, c1, c2⟩ := aL Hw3.out)
     | (go_at_call 40; refine (HM.out _).mono ?_; clear HM; rintro e w4 ⟨rfl, Hm, hb⟩; have Hw4 : Hid (Below (w.alloc (shO a n m 32)).heap.size (w.alloc (shO a n m 32)) w4) := aG Hw3.out hb.out; clear hb c0 c1 c2; obtain ⟨c0, c1, c2⟩ := aL Hw4.out)
     | (go_at_call_of 66 lo; refine (H1.out _ _ Hm.out).mono ?_; clear H1; rintro e w5 ⟨rfl, hw⟩; obtain rfl := hw.symm; clear hw)
     | (go_at_call_of 66 hi; refine (H2.out _ _ Hm.out).mono ?_; clear H2; rintro e w5 ⟨rfl, hw⟩; obtain rfl := hw.symm; clear hw))
    go_ret3
    exact ⟨by first | rfl | (simp only [hmin'.out]; rfl), aR Hw4.out⟩
   ·obtain rfl : sb = true := E'.out.trans (by simp; omega)
    obtain rfl : sl = x := E2.out
    obtain rfl : sh = (z - 1) := E3'.out
    go_enter Tryz.func69, Tryz.ntmps69
    go_wp2_with (first
     | (go_at_call 19; refine (HG _ HB0.out).mono ?_; clear HG; rintro e w1 ⟨rfl, hb⟩; have Hw1 : Hid (Below (w.alloc (shO a n m 32)).heap.size (w.alloc (shO a n m 32)) w1) := hb; clear hb; obtain ⟨c0, c1, c2⟩ := aL Hw1.out)
     | (go_at_call_of 39 lo; refine (HL _ Hw1.out).mono ?_; clear HL; rintro e w2 ⟨rfl, hb⟩; have Hw2 : Hid (Below (w.alloc (shO a n m 32)).heap.size (w.alloc (shO a n m 32)) w2) := hb; clear hb c0 c1 c2; obtain ⟨c0, c1, c2⟩ := aL Hw2.out)
     | (go_at_call_of 39 hi; refine (HH _ Hw2.out).mono ?_; clear HH; rintro e w3 ⟨rfl, hb⟩; have Hw3 : Hid (Below (w.alloc (shO a n m 32)).heap.size (w.alloc (shO a n m 32)) w3) := hb; clear hb c0 c1 c2; obtain ⟨c0, c1, c2⟩ := aL Hw3.out)
     | (go_at_call 40; refine (HM.out _).mono ?_; clear HM; rintro e w4 ⟨rfl, Hm, hb⟩; have Hw4 : Hid (Below (w.alloc (shO a n m 32)).heap.size (w.alloc (shO a n m 32)) w4) := aG Hw3.out hb.out; clear hb c0 c1 c2; obtain ⟨c0, c1, c2⟩ := aL Hw4.out)
     | (go_at_call_of 66 lo; refine (H1.out _ _ Hm.out).mono ?_; clear H1; rintro e w5 ⟨rfl, hw⟩; obtain rfl := hw.symm; clear hw)
     | (go_at_call_of 66 hi; refine (H2.out _ _ Hm.out).mono ?_; clear H2; rintro e w5 ⟨rfl, hw⟩; obtain rfl := hw.symm; clear hw))
    go_ret3
    exact ⟨by first | rfl | (simp only [hmin'.out]; rfl), aR Hw4.out⟩
  ·have hmin : min (z - 1) m = m := by omega
   rw [hmin] at E' E3'
   have hmin' : Hid (min (z - 1) m = m) := hmin
   clear hmin
   by_cases hx : m < x
   ·obtain rfl : sb = false := E'.out.trans (by simp; omega)
    obtain rfl : sl = 0 := E2.out
    obtain rfl : sh = 0 := E3'.out
    go_enter Tryz.func69, Tryz.ntmps69
    go_wp2_with (first
     | (go_at_call 19; refine (HG _ HB0.out).mono ?_; clear HG; rintro e w1 ⟨rfl, hb⟩; have Hw1 : Hid (Below (w.alloc (shO a n m 32)).heap.size (w.alloc (shO a n m 32)) w1) := hb; clear hb; obtain ⟨c0, c1, c2⟩ := aL Hw1.out)
     | (go_at_call_of 39 lo; refine (HL _ Hw1.out).mono ?_; clear HL; rintro e w2 ⟨rfl, hb⟩; have Hw2 : Hid (Below (w.alloc (shO a n m 32)).heap.size (w.alloc (shO a n m 32)) w2) := hb; clear hb c0 c1 c2; obtain ⟨c0, c1, c2⟩ := aL Hw2.out)
     | (go_at_call_of 39 hi; refine (HH _ Hw2.out).mono ?_; clear HH; rintro e w3 ⟨rfl, hb⟩; have Hw3 : Hid (Below (w.alloc (shO a n m 32)).heap.size (w.alloc (shO a n m 32)) w3) := hb; clear hb c0 c1 c2; obtain ⟨c0, c1, c2⟩ := aL Hw3.out)
     | (go_at_call 40; refine (HM.out _).mono ?_; clear HM; rintro e w4 ⟨rfl, Hm, hb⟩; have Hw4 : Hid (Below (w.alloc (shO a n m 32)).heap.size (w.alloc (shO a n m 32)) w4) := aG Hw3.out hb.out; clear hb c0 c1 c2; obtain ⟨c0, c1, c2⟩ := aL Hw4.out)
     | (go_at_call_of 66 lo; refine (H1.out _ _ Hm.out).mono ?_; clear H1; rintro e w5 ⟨rfl, hw⟩; obtain rfl := hw.symm; clear hw)
     | (go_at_call_of 66 hi; refine (H2.out _ _ Hm.out).mono ?_; clear H2; rintro e w5 ⟨rfl, hw⟩; obtain rfl := hw.symm; clear hw))
    go_ret3
    exact ⟨by first | rfl | (simp only [hmin'.out]; rfl), aR Hw4.out⟩
   ·obtain rfl : sb = true := E'.out.trans (by simp; omega)
    obtain rfl : sl = x := E2.out
    obtain rfl : m = sh := E3'.out.symm
    go_enter Tryz.func69, Tryz.ntmps69
    go_wp2_with (first
     | (go_at_call 19; refine (HG _ HB0.out).mono ?_; clear HG; rintro e w1 ⟨rfl, hb⟩; have Hw1 : Hid (Below (w.alloc (shO a n m 32)).heap.size (w.alloc (shO a n m 32)) w1) := hb; clear hb; obtain ⟨c0, c1, c2⟩ := aL Hw1.out)
     | (go_at_call_of 39 lo; refine (HL _ Hw1.out).mono ?_; clear HL; rintro e w2 ⟨rfl, hb⟩; have Hw2 : Hid (Below (w.alloc (shO a n m 32)).heap.size (w.alloc (shO a n m 32)) w2) := hb; clear hb c0 c1 c2; obtain ⟨c0, c1, c2⟩ := aL Hw2.out)
     | (go_at_call_of 39 hi; refine (HH _ Hw2.out).mono ?_; clear HH; rintro e w3 ⟨rfl, hb⟩; have Hw3 : Hid (Below (w.alloc (shO a n m 32)).heap.size (w.alloc (shO a n m 32)) w3) := hb; clear hb c0 c1 c2; obtain ⟨c0, c1, c2⟩ := aL Hw3.out)
     | (go_at_call 40; refine (HM.out _).mono ?_; clear HM; rintro e w4 ⟨rfl, Hm, hb⟩; have Hw4 : Hid (Below (w.alloc (shO a n m 32)).heap.size (w.alloc (shO a n m 32)) w4) := aG Hw3.out hb.out; clear hb c0 c1 c2; obtain ⟨c0, c1, c2⟩ := aL Hw4.out)
     | (go_at_call_of 66 lo; refine (H1.out _ _ Hm.out).mono ?_; clear H1; rintro e w5 ⟨rfl, hw⟩; obtain rfl := hw.symm; clear hw)
     | (go_at_call_of 66 hi; refine (H2.out _ _ Hm.out).mono ?_; clear H2; rintro e w5 ⟨rfl, hw⟩; obtain rfl := hw.symm; clear hw))
    go_ret3
    exact ⟨by first | rfl | (simp only [hmin'.out]; rfl), aR Hw4.out⟩
 ·have E' : Hid (sb = decide (x ≤ min z m)) := E.out
  have E3' : Hid (sh = if sb = true then min z m else 0) := E3.out
  clear E E3
  by_cases hz : z ≤ m
  ·have hmin : min z m = z := by omega
   rw [hmin] at E' E3'
   have hmin' : Hid (min z m = z) := hmin
   clear hmin
   by_cases hx : z < x
   ·obtain rfl : sb = false := E'.out.trans (by simp; omega)
    obtain rfl : sl = 0 := E2.out
    obtain rfl : sh = 0 := E3'.out
    go_enter Tryz.func69, Tryz.ntmps69
    go_wp2_with (first
     | (go_at_call 19; refine (HG _ HB0.out).mono ?_; clear HG; rintro e w1 ⟨rfl, hb⟩; have Hw1 : Hid (Below (w.alloc (shO a n m 32)).heap.size (w.alloc (shO a n m 32)) w1) := hb; clear hb; obtain ⟨c0, c1, c2⟩ := aL Hw1.out)
     | (go_at_call_of 39 lo; refine (HL _ Hw1.out).mono ?_; clear HL; rintro e w2 ⟨rfl, hb⟩; have Hw2 : Hid (Below (w.alloc (shO a n m 32)).heap.size (w.alloc (shO a n m 32)) w2) := hb; clear hb c0 c1 c2; obtain ⟨c0, c1, c2⟩ := aL Hw2.out)
     | (go_at_call_of 39 hi; refine (HH _ Hw2.out).mono ?_; clear HH; rintro e w3 ⟨rfl, hb⟩; have Hw3 : Hid (Below (w.alloc (shO a n m 32)).heap.size (w.alloc (shO a n m 32)) w3) := hb; clear hb c0 c1 c2; obtain ⟨c0, c1, c2⟩ := aL Hw3.out)
     | (go_at_call 40; refine (HM.out _).mono ?_; clear HM; rintro e w4 ⟨rfl, Hm, hb⟩; have Hw4 : Hid (Below (w.alloc (shO a n m 32)).heap.size (w.alloc (shO a n m 32)) w4) := aG Hw3.out hb.out; clear hb c0 c1 c2; obtain ⟨c0, c1, c2⟩ := aL Hw4.out)
     | (go_at_call_of 66 lo; refine (H1.out _ _ Hm.out).mono ?_; clear H1; rintro e w5 ⟨rfl, hw⟩; obtain rfl := hw.symm; clear hw)
     | (go_at_call_of 66 hi; refine (H2.out _ _ Hm.out).mono ?_; clear H2; rintro e w5 ⟨rfl, hw⟩; obtain rfl := hw.symm; clear hw))
    go_ret3
    exact ⟨by first | rfl | (simp only [hmin'.out]; rfl), aR Hw4.out⟩
   ·obtain rfl : sb = true := E'.out.trans (by simp; omega)
    obtain rfl : sl = x := E2.out
    obtain rfl : sh = z := E3'.out
    go_enter Tryz.func69, Tryz.ntmps69
    go_wp2_with (first
     | (go_at_call 19; refine (HG _ HB0.out).mono ?_; clear HG; rintro e w1 ⟨rfl, hb⟩; have Hw1 : Hid (Below (w.alloc (shO a n m 32)).heap.size (w.alloc (shO a n m 32)) w1) := hb; clear hb; obtain ⟨c0, c1, c2⟩ := aL Hw1.out)
     | (go_at_call_of 39 lo; refine (HL _ Hw1.out).mono ?_; clear HL; rintro e w2 ⟨rfl, hb⟩; have Hw2 : Hid (Below (w.alloc (shO a n m 32)).heap.size (w.alloc (shO a n m 32)) w2) := hb; clear hb c0 c1 c2; obtain ⟨c0, c1, c2⟩ := aL Hw2.out)
     | (go_at_call_of 39 hi; refine (HH _ Hw2.out).mono ?_; clear HH; rintro e w3 ⟨rfl, hb⟩; have Hw3 : Hid (Below (w.alloc (shO a n m 32)).heap.size (w.alloc (shO a n m 32)) w3) := hb; clear hb c0 c1 c2; obtain ⟨c0, c1, c2⟩ := aL Hw3.out)
     | (go_at_call 40; refine (HM.out _).mono ?_; clear HM; rintro e w4 ⟨rfl, Hm, hb⟩; have Hw4 : Hid (Below (w.alloc (shO a n m 32)).heap.size (w.alloc (shO a n m 32)) w4) := aG Hw3.out hb.out; clear hb c0 c1 c2; obtain ⟨c0, c1, c2⟩ := aL Hw4.out)
     | (go_at_call_of 66 lo; refine (H1.out _ _ Hm.out).mono ?_; clear H1; rintro e w5 ⟨rfl, hw⟩; obtain rfl := hw.symm; clear hw)
     | (go_at_call_of 66 hi; refine (H2.out _ _ Hm.out).mono ?_; clear H2; rintro e w5 ⟨rfl, hw⟩; obtain rfl := hw.symm; clear hw))
    go_ret3
    exact ⟨by first | rfl | (simp only [hmin'.out]; rfl), aR Hw4.out⟩
  ·have hmin : min z m = m := by omega
   rw [hmin] at E' E3'
   have hmin' : Hid (min z m = m) := hmin
   clear hmin
   by_cases hx : m < x
   ·obtain rfl : sb = false := E'.out.trans (by simp; omega)
    obtain rfl : sl = 0 := E2.out
    obtain rfl : sh = 0 := E3'.out
    go_enter Tryz.func69, Tryz.ntmps69
    go_wp2_with (first
     | (go_at_call 19; refine (HG _ HB0.out).mono ?_; clear HG; rintro e w1 ⟨rfl, hb⟩; have Hw1 : Hid (Below (w.alloc (shO a n m 32)).heap.size (w.alloc (shO a n m 32)) w1) := hb; clear hb; obtain ⟨c0, c1, c2⟩ := aL Hw1.out)
     | (go_at_call_of 39 lo; refine (HL _ Hw1.out).mono ?_; clear HL; rintro e w2 ⟨rfl, hb⟩; have Hw2 : Hid (Below (w.alloc (shO a n m 32)).heap.size (w.alloc (shO a n m 32)) w2) := hb; clear hb c0 c1 c2; obtain ⟨c0, c1, c2⟩ := aL Hw2.out)
     | (go_at_call_of 39 hi; refine (HH _ Hw2.out).mono ?_; clear HH; rintro e w3 ⟨rfl, hb⟩; have Hw3 : Hid (Below (w.alloc (shO a n m 32)).heap.size (w.alloc (shO a n m 32)) w3) := hb; clear hb c0 c1 c2; obtain ⟨c0, c1, c2⟩ := aL Hw3.out)
     | (go_at_call 40; refine (HM.out _).mono ?_; clear HM; rintro e w4 ⟨rfl, Hm, hb⟩; have Hw4 : Hid (Below (w.alloc (shO a n m 32)).heap.size (w.alloc (shO a n m 32)) w4) := aG Hw3.out hb.out; clear hb c0 c1 c2; obtain ⟨c0, c1, c2⟩ := aL Hw4.out)
     | (go_at_call_of 66 lo; refine (H1.out _ _ Hm.out).mono ?_; clear H1; rintro e w5 ⟨rfl, hw⟩; obtain rfl := hw.symm; clear hw)
     | (go_at_call_of 66 hi; refine (H2.out _ _ Hm.out).mono ?_; clear H2; rintro e w5 ⟨rfl, hw⟩; obtain rfl := hw.symm; clear hw))
    go_ret3
    exact ⟨by first | rfl | (simp only [hmin'.out]; rfl), aR Hw4.out⟩
   ·obtain rfl : sb = true := E'.out.trans (by simp; omega)
    obtain rfl : sl = x := E2.out
    obtain rfl : m = sh := E3'.out.symm
    go_enter Tryz.func69, Tryz.ntmps69
    go_wp2_with (first
     | (go_at_call 19; refine (HG _ HB0.out).mono ?_; clear HG; rintro e w1 ⟨rfl, hb⟩; have Hw1 : Hid (Below (w.alloc (shO a n m 32)).heap.size (w.alloc (shO a n m 32)) w1) := hb; clear hb; obtain ⟨c0, c1, c2⟩ := aL Hw1.out)
     | (go_at_call_of 39 lo; refine (HL _ Hw1.out).mono ?_; clear HL; rintro e w2 ⟨rfl, hb⟩; have Hw2 : Hid (Below (w.alloc (shO a n m 32)).heap.size (w.alloc (shO a n m 32)) w2) := hb; clear hb c0 c1 c2; obtain ⟨c0, c1, c2⟩ := aL Hw2.out)
     | (go_at_call_of 39 hi; refine (HH _ Hw2.out).mono ?_; clear HH; rintro e w3 ⟨rfl, hb⟩; have Hw3 : Hid (Below (w.alloc (shO a n m 32)).heap.size (w.alloc (shO a n m 32)) w3) := hb; clear hb c0 c1 c2; obtain ⟨c0, c1, c2⟩ := aL Hw3.out)
     | (go_at_call 40; refine (HM.out _).mono ?_; clear HM; rintro e w4 ⟨rfl, Hm, hb⟩; have Hw4 : Hid (Below (w.alloc (shO a n m 32)).heap.size (w.alloc (shO a n m 32)) w4) := aG Hw3.out hb.out; clear hb c0 c1 c2; obtain ⟨c0, c1, c2⟩ := aL Hw4.out)
     | (go_at_call_of 66 lo; refine (H1.out _ _ Hm.out).mono ?_; clear H1; rintro e w5 ⟨rfl, hw⟩; obtain rfl := hw.symm; clear hw)
     | (go_at_call_of 66 hi; refine (H2.out _ _ Hm.out).mono ?_; clear H2; rintro e w5 ⟨rfl, hw⟩; obtain rfl := hw.symm; clear hw))
    go_ret3
    exact ⟨by first | rfl | (simp only [hmin'.out]; rfl), aR Hw4.out⟩
end Go.Proofs.YtljmklbbngpllaaGreatDoor.Hs
namespace Go.Proofs.YtljmklbbngpllaaGreatDoor.Rw
open Go.RowKit
theorem aAg (x : Rf) (w : World) : Calls Tryz.prog 41 #[rfV x] w fun e w' => e = .returned (.tuple #[rfV z0, .bool false]) ∧ Below w.heap.size w w' := by
 go_enter Tryz.func41, Tryz.ntmps41
 go_wp2
 refine bodyPost_ret (v := .tuple #[rfV z0, .bool false]) (by simp [results, Tryz.results41, go_sem, z0]; try rfl) rfl ?_
 refine ⟨rfl, ?_⟩
 repeat (first | exact Below.refl _ _ | refine Below.drew ?_ | refine Below.setCell ?_ (by simp) _ | refine aA ?_ _)
theorem wM (x y : Rf) (w : World) : Calls Tryz.prog 42 #[rfV x, rfV y] w fun e w' => e = .returned (.tuple #[rfV z0, rfV z0, .bool false]) ∧ Below w.heap.size w w' := by
 go_enter Tryz.func42, Tryz.ntmps42
 go_wp2
 refine bodyPost_ret (v := .tuple #[rfV z0, rfV z0, .bool false]) (by simp [results, Tryz.results42, go_sem, z0]; try rfl) rfl ?_
 refine ⟨rfl, ?_⟩
 repeat (first | exact Below.refl _ _ | refine Below.drew ?_ | refine Below.setCell ?_ (by simp) _ | refine aA ?_ _)
abbrev rfC (x : Rf) : Array Value := #[.string x.b, .string x.h, .int .i64 x.r, .int .i64 x.c, .bool x.fr, .bool x.fc]
theorem bX {u : World} {g : Nat} {x : Rf} (h : u.heap[g]? = some (rfO x)) : (Instr.loadAt 25 (.pointer (some ⟨g, 0, none⟩))).run Tryz.prog u = .ok (rfV x) u :=
 lod h rfl Tryz.underlying25 (by kernel_rfl)
theorem pR {u : World} {g : Nat} {y : Rf} (x : Rf) (h : u.heap[g]? = some (rfO y)) : (Instr.storeAt 25 (.pointer (some ⟨g, 0, none⟩)) (rfV x)).run Tryz.prog u = .ok () (u.setRow g (rfC x)) :=
 sto h (by kernel_rfl) rfl (by simp [Value.oneCell'])
theorem pU {u : World} {g : Nat} {y : Rf} (x : Rf) (h : u.heap[g]? = some (rfO y)) : (u.setRow g (rfC x)).heap[g]? = some (rfO x) := setRow_heap _ _ _ _ _ _ h
theorem aHR {fn : Func} {i j : Tmp} (hr : fn.results = #[.cell i 25, .tmp j]) {tmps : Array Value} {g : Nat} {u : World} {x : Rf} {v : Value} (hp : tmps.getD i undef = .pointer (some ⟨g, 0, none⟩)) (h : u.heap[g]? = some (rfO x)) (hv : tmps.getD j undef = v) :
  (results fn tmps).run Tryz.prog u = .ok (.tuple #[rfV x, v]) u :=
 fE hr hp h rfl Tryz.underlying25 (by kernel_rfl) hv
theorem pG {fn : Func} {i j : Tmp} (hr : fn.results = #[.cell i 25, .cell j 25]) {tmps : Array Value} {g g' : Nat} {u : World} {x y : Rf} (hp : tmps.getD i undef = .pointer (some ⟨g, 0, none⟩)) (h : u.heap[g]? = some (rfO x)) (hq : tmps.getD j undef = .pointer (some ⟨g', 0, none⟩)) (h' : u.heap[g']? = some (rfO y)) :
  (results fn tmps).run Tryz.prog u = .ok (.tuple #[rfV x, rfV y]) u := by
 obtain ⟨c0, c1, c2, c3, c4, c5⟩ := aP h
 obtain ⟨d0, d1, d2, d3, d4, d5⟩ := aP h'
 simp only [Array.getD_eq_getD_getElem?] at hp hq
 simp [results, hr, hp, hq, go_sem, c0, c1, c2, c3, c4, c5, d0, d1, d2, d3, d4, d5]
theorem aIu {fn : Func} {i j k : Tmp} (hr : fn.results = #[.cell i 25, .cell j 25, .tmp k]) {tmps : Array Value} {g g' : Nat} {u : World} {x y : Rf} {v : Value} (hp : tmps.getD i undef = .pointer (some ⟨g, 0, none⟩)) (h : u.heap[g]? = some (rfO x)) (hq : tmps.getD j undef = .pointer (some ⟨g', 0, none⟩)) (h' : u.heap[g']? = some (rfO y)) (hv : tmps.getD k undef = v) :
  (results fn tmps).run Tryz.prog u = .ok (.tuple #[rfV x, rfV y, v]) u := by
 obtain ⟨c0, c1, c2, c3, c4, c5⟩ := aP h
 obtain ⟨d0, d1, d2, d3, d4, d5⟩ := aP h'
 simp only [Array.getD_eq_getD_getElem?] at hp hq hv
 simp [results, hr, hp, hq, hv, go_sem, c0, c1, c2, c3, c4, c5, d0, d1, d2, d3, d4, d5]
theorem uV {u : World} {g : Nat} {b h : ByteArray} {r c : Int} {fr fc : Bool} (H : u.heap[g]? = some (aU b h r c fr fc)) (v : Int) : (u.setCell ⟨g, 3, none⟩ (.int .i64 v)).heap[g]? = some (aU b h r v fr fc) := by
 rw [heap_setCell_same u g 3 _ 25 _ H]; rfl
theorem uW {u : World} {g : Nat} {b h : ByteArray} {r c : Int} {fr fc : Bool} (H : u.heap[g]? = some (aU b h r c fr fc)) (v : Int) : (u.setCell ⟨g, 2, none⟩ (.int .i64 v)).heap[g]? = some (aU b h v c fr fc) := by
 rw [heap_setCell_same u g 2 _ 25 _ H]; rfl
end Go.Proofs.YtljmklbbngpllaaGreatDoor.Rw
namespace Go.Proofs.YtljmklbbngpllaaGreatDoor.Rw
open Go.RowKit Go.Fm
abbrev gN (bk sh hb hs : ByteArray) (hr hc : Int) (rf af : Value) : Array Value := #[.string bk, .string sh, .string hb, .string hs, .int .i64 hr, .int .i64 hc, rf, af]
theorem nY (bk sh hb hs : ByteArray) (hr hc : Int) (rf af : Value) (l : Lab) (sl : Value) (w : World) :
  Calls Tryz.prog 46 #[.agg (gN bk sh hb hs hr hc rf af), .agg (lcs l sl)] w fun e w' => e = .returned (.bool (kd l.k && (((orS l.b1 hb).toList == bk.toList) && ((orS l.h1 hs).toList == sh.toList)))) ∧ Below w.heap.size w w' := by
 have HB0 : Below w.heap.size w ((w.alloc (.cells (gN bk sh hb hs hr hc rf af) 64)).alloc (.cells (lcs l sl) 28)) := aA (aA (Below.refl _ _) _) _
 have H1 : ((w.alloc (.cells (gN bk sh hb hs hr hc rf af) 64)).alloc (.cells (lcs l sl) 28)).heap[w.heap.size + 1]? = some (.cells (lcs l sl) 28) := (new2 (Below.refl _ _)).2
 have H0 : ((w.alloc (.cells (gN bk sh hb hs hr hc rf af) 64)).alloc (.cells (lcs l sl) 28)).heap[w.heap.size]? = some (.cells (gN bk sh hb hs hr hc rf af) 64) := (new2 (Below.refl _ _)).1
 have q0 := (aN H1).1
 have RL : Hid _ := (aN H1).2.2.2.1
 have HC : Hid (∀ u, Below ((w.alloc (.cells (gN bk sh hb hs hr hc rf af) 64)).alloc (.cells (lcs l sl) 28)).heap.size ((w.alloc (.cells (gN bk sh hb hs hr hc rf af) 64)).alloc (.cells (lcs l sl) 28)) u → u.cell? ⟨w.heap.size, 0, none⟩ = some (.string bk) ∧ u.cell? ⟨w.heap.size, 1, none⟩ = some (.string sh)) := fun u hu => by
  have hh := (hu.block _ (aS H0)).trans H0
  constructor <;> simp [World.cell?, hh]
 have HA := fun u => aJb l.b1 l.h1 l.r1 l.c1 l.fr1 l.fc1 hb hs hr hc u
 have HB : Hid _ := HB0
 generalize l.k = k at *
 generalize orS l.b1 hb = x1 at *
 generalize orS l.h1 hs = x2 at *
 generalize lcs l sl = bx at *
 clear H0 H1 HB0
 unfold kd
 by_cases h2 : k = 2
 ·have e2 : (k == 2) = true := by simp [h2]
  rw [e2, Bool.true_or, Bool.true_and]
  cases e1 : (x1.toList == bk.toList) <;> cases e3 : (x2.toList == sh.toList)
  all_goals
   go_enter Tryz.func46, Tryz.ntmps46
   go_wp2_with (first
    | ((with_reducible show wpList _ _ _ ({ dst := _, op := Op.load 25 _, type := _, pos := _, after := _, guard := none } :: _) _ _); refine aB rfl 25 _ rfl _ _ rfl RL.out ?_; clear RL)
    | (go_at_call 70; refine (HA _).mono ?_; clear HA; rintro e w2 ⟨rfl, hb⟩; have HB2 : Hid _ := aG HB.out hb; obtain ⟨d0, d1⟩ := HC.out _ hb; have d0 := bM (aA (Below.refl _ _) (bF x1 x2 l.r1 l.c1)) d0; have d1 := bM (aA (Below.refl _ _) (bF x1 x2 l.r1 l.c1)) d1; have HB3 : Hid _ := aA HB2.out (bF x1 x2 l.r1 l.c1); clear hb))
   go_ret
   exact ⟨rfl, HB3.out⟩
 have e2 : (k == 2) = false := by simp [h2]
 by_cases h3 : k = 3
 ·have e4 : (k == 3) = true := by simp [h3]
  rw [e2, e4, Bool.false_or, Bool.true_and]
  cases e1 : (x1.toList == bk.toList) <;> cases e3 : (x2.toList == sh.toList)
  all_goals
   go_enter Tryz.func46, Tryz.ntmps46
   go_wp2_with (first
    | ((with_reducible show wpList _ _ _ ({ dst := _, op := Op.load 25 _, type := _, pos := _, after := _, guard := none } :: _) _ _); refine aB rfl 25 _ rfl _ _ rfl RL.out ?_; clear RL)
    | (go_at_call 70; refine (HA _).mono ?_; clear HA; rintro e w2 ⟨rfl, hb⟩; have HB2 : Hid _ := aG HB.out hb; obtain ⟨d0, d1⟩ := HC.out _ hb; have d0 := bM (aA (Below.refl _ _) (bF x1 x2 l.r1 l.c1)) d0; have d1 := bM (aA (Below.refl _ _) (bF x1 x2 l.r1 l.c1)) d1; have HB3 : Hid _ := aA HB2.out (bF x1 x2 l.r1 l.c1); clear hb))
   go_ret
   exact ⟨rfl, HB3.out⟩
 ·have e4 : (k == 3) = false := by simp [h3]
  rw [e2, e4, Bool.false_or, Bool.false_and]
  have n2 : (k != 2) = true := by simp [h2]
  have n3 : (k != 3) = true := by simp [h3]
  go_enter Tryz.func46, Tryz.ntmps46
  go_wp2
  go_ret
  exact ⟨rfl, HB.out⟩
end Go.Proofs.YtljmklbbngpllaaGreatDoor.Rw
