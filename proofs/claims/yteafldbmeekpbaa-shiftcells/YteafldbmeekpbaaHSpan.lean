/- Span, Back and plain; the document's Pos, Span and Back. -/
import Derived.Test.YteafldbmeekpbaaHFun
namespace Go.Proofs.Yteafldbmeekpbaa
open Go.RowKit
set_option maxRecDepth 100000
set_option linter.unusedVariables false
set_option linter.unusedSimpArgs false
set_option maxHeartbeats 4000000 in
theorem span_any (a n m lo hi : Int) (w : World) : Calls Try.prog 10 #[shV a n m, .int .i64 lo, .int .i64 hi] w fun e w' => e = .returned (.tuple #[.int .i64 (spL a n m lo hi), .int .i64 (spH a n m lo hi), .bool (spB a n m lo hi)]) ∧ Below w.heap.size w w' := by
  have HB0 : Hid (Below (w.alloc (shO a n m 23)).heap.size (w.alloc (shO a n m 23)) (w.alloc (shO a n m 23))) := Below.refl _ _
  have HG : RC (w.alloc (shO a n m 23)) 12 #[shV a n m] _ := RC.of fun u => good_any a n m u
  have HL : RC (w.alloc (shO a n m 23)) 20 #[shV a n m, .int .i64 lo] _ := RC.of fun u => has_any a n m lo u
  have HH : RC (w.alloc (shO a n m 23)) 20 #[shV a n m, .int .i64 hi] _ := RC.of fun u => has_any a n m hi u
  cases hg : goodB a n m
  · have e1 : spB a n m lo hi = false := by unfold spB; rw [hg]; rfl
    have e2 : spL a n m lo hi = 0 := by unfold spL; rw [e1]; rfl
    have e3 : spH a n m lo hi = 0 := by unfold spH; rw [e1]; rfl
    rw [e1, e2, e3]
    rw [hg] at HG
    go_enter Try.func10, Try.ntmps10
    go_wp2_with (first
      | (go_at_call 12; refine (HG _ HB0.out).mono ?_; clear HG; rintro e w1 ⟨rfl, hb⟩; have Hw1 : Hid (Below (w.alloc (shO a n m 23)).heap.size (w.alloc (shO a n m 23)) w1) := hb; clear hb; obtain ⟨c0, c1, c2⟩ := box_cells Hw1.out))
    go_ret3
    exact ⟨rfl, bel1 Hw1.out⟩
  cases hl : (decide (1 ≤ lo) && decide (lo ≤ m))
  · have e1 : spB a n m lo hi = false := by unfold spB; rw [hg, hl]; rfl
    have e2 : spL a n m lo hi = 0 := by unfold spL; rw [e1]; rfl
    have e3 : spH a n m lo hi = 0 := by unfold spH; rw [e1]; rfl
    rw [e1, e2, e3]
    rw [hg] at HG
    rw [hl] at HL
    clear hl HH
    go_enter Try.func10, Try.ntmps10
    go_wp2_with (first
      | (go_at_call 12; refine (HG _ HB0.out).mono ?_; clear HG; rintro e w1 ⟨rfl, hb⟩; have Hw1 : Hid (Below (w.alloc (shO a n m 23)).heap.size (w.alloc (shO a n m 23)) w1) := hb; clear hb; obtain ⟨c0, c1, c2⟩ := box_cells Hw1.out)
      | (go_at_call_of 20 lo; refine (HL _ Hw1.out).mono ?_; clear HL; rintro e w2 ⟨rfl, hb⟩; have Hw2 : Hid (Below (w.alloc (shO a n m 23)).heap.size (w.alloc (shO a n m 23)) w2) := hb; clear hb c0 c1 c2; obtain ⟨c0, c1, c2⟩ := box_cells Hw2.out))
    go_ret3
    exact ⟨rfl, bel1 Hw2.out⟩
  cases hh : (decide (1 ≤ hi) && decide (hi ≤ m))
  · have e1 : spB a n m lo hi = false := by unfold spB; rw [hg, hl, hh]; rfl
    have e2 : spL a n m lo hi = 0 := by unfold spL; rw [e1]; rfl
    have e3 : spH a n m lo hi = 0 := by unfold spH; rw [e1]; rfl
    rw [e1, e2, e3]
    rw [hg] at HG
    rw [hl] at HL
    rw [hh] at HH
    clear hl hh
    go_enter Try.func10, Try.ntmps10
    go_wp2_with (first
      | (go_at_call 12; refine (HG _ HB0.out).mono ?_; clear HG; rintro e w1 ⟨rfl, hb⟩; have Hw1 : Hid (Below (w.alloc (shO a n m 23)).heap.size (w.alloc (shO a n m 23)) w1) := hb; clear hb; obtain ⟨c0, c1, c2⟩ := box_cells Hw1.out)
      | (go_at_call_of 20 lo; refine (HL _ Hw1.out).mono ?_; clear HL; rintro e w2 ⟨rfl, hb⟩; have Hw2 : Hid (Below (w.alloc (shO a n m 23)).heap.size (w.alloc (shO a n m 23)) w2) := hb; clear hb c0 c1 c2; obtain ⟨c0, c1, c2⟩ := box_cells Hw2.out)
      | (go_at_call_of 20 hi; refine (HH _ Hw2.out).mono ?_; clear HH; rintro e w3 ⟨rfl, hb⟩; have Hw3 : Hid (Below (w.alloc (shO a n m 23)).heap.size (w.alloc (shO a n m 23)) w3) := hb; clear hb c0 c1 c2; obtain ⟨c0, c1, c2⟩ := box_cells Hw3.out))
    go_ret3
    exact ⟨rfl, bel1 Hw3.out⟩
  by_cases hlh : hi < lo
  · have e1 : spB a n m lo hi = false := by unfold spB; rw [hg, hl, hh, decide_eq_false (by omega : ¬ lo ≤ hi)]; rfl
    have e2 : spL a n m lo hi = 0 := by unfold spL; rw [e1]; rfl
    have e3 : spH a n m lo hi = 0 := by unfold spH; rw [e1]; rfl
    rw [e1, e2, e3]
    rw [hg] at HG
    rw [hl] at HL
    rw [hh] at HH
    clear hl hh
    go_enter Try.func10, Try.ntmps10
    go_wp2_with (first
      | (go_at_call 12; refine (HG _ HB0.out).mono ?_; clear HG; rintro e w1 ⟨rfl, hb⟩; have Hw1 : Hid (Below (w.alloc (shO a n m 23)).heap.size (w.alloc (shO a n m 23)) w1) := hb; clear hb; obtain ⟨c0, c1, c2⟩ := box_cells Hw1.out)
      | (go_at_call_of 20 lo; refine (HL _ Hw1.out).mono ?_; clear HL; rintro e w2 ⟨rfl, hb⟩; have Hw2 : Hid (Below (w.alloc (shO a n m 23)).heap.size (w.alloc (shO a n m 23)) w2) := hb; clear hb c0 c1 c2; obtain ⟨c0, c1, c2⟩ := box_cells Hw2.out)
      | (go_at_call_of 20 hi; refine (HH _ Hw2.out).mono ?_; clear HH; rintro e w3 ⟨rfl, hb⟩; have Hw3 : Hid (Below (w.alloc (shO a n m 23)).heap.size (w.alloc (shO a n m 23)) w3) := hb; clear hb c0 c1 c2; obtain ⟨c0, c1, c2⟩ := box_cells Hw3.out))
    go_ret3
    exact ⟨rfl, bel1 Hw3.out⟩
  have hb := good_bd hg
  have hl2 : 1 ≤ lo ∧ lo ≤ m := by simpa using hl
  have hh2 : 1 ≤ hi ∧ hi ≤ m := by simpa using hh
  have hm0 := hb.1
  have hm1 := hb.2.1
  have HM : Hid (∀ u, Calls Try.prog 21 #[shV a n m] u fun e w' => e = .returned (movF u.heap.size) ∧ Hid (Mov w' u.heap.size a n m) ∧ Hid (Below u.heap.size u w')) := fun u => mover_any a n m (by omega) (by omega) (by omega) (by omega) u
  have H1 : Hid (∀ (u : World) (g : Nat), Mov u g a n m → Calls Try.prog 22 #[.int .i64 lo, .pointer (some ⟨g, 0, none⟩), .pointer (some ⟨g + 1, 0, none⟩)] u fun e w' => e = .returned (.tuple #[.int .i64 (mvF a n lo), .bool (mvB a n lo)]) ∧ w' = u) := fun u g h => mov1_any h (by omega) (by omega) (by omega) (by omega) lo (by omega) (by omega)
  have H2 : Hid (∀ (u : World) (g : Nat), Mov u g a n m → Calls Try.prog 22 #[.int .i64 hi, .pointer (some ⟨g, 0, none⟩), .pointer (some ⟨g + 1, 0, none⟩)] u fun e w' => e = .returned (.tuple #[.int .i64 (mvF a n hi), .bool (mvB a n hi)]) ∧ w' = u) := fun u g h => mov1_any h (by omega) (by omega) (by omega) (by omega) hi (by omega) (by omega)
  have hv := mv_bd (a := a) (n := n) (p := lo) (by omega) (by omega) (by omega) (by omega) (by omega) (by omega)
  have hv2 := mv_bd (a := a) (n := n) (p := hi) (by omega) (by omega) (by omega) (by omega) (by omega) (by omega)
  have E : Hid (spB a n m lo hi = decide (mvF a n lo ≤ min (if mvB a n hi = true then mvF a n hi else mvF a n hi - 1) m)) := by unfold Hid spB; rw [hg, hl, hh, decide_eq_true (by omega : lo ≤ hi)]; rfl
  have E2 : Hid (spL a n m lo hi = if spB a n m lo hi = true then mvF a n lo else 0) := rfl
  have E3 : Hid (spH a n m lo hi = if spB a n m lo hi = true then min (if mvB a n hi = true then mvF a n hi else mvF a n hi - 1) m else 0) := rfl
  rw [hg] at HG
  rw [hl] at HL
  rw [hh] at HH
  obtain ⟨v1, v2⟩ := hv
  obtain ⟨v3, v4⟩ := hv2
  generalize mvF a n lo = x at *
  generalize mvB a n lo = y0 at *
  generalize mvF a n hi = z at *
  generalize mvB a n hi = y at *
  generalize spB a n m lo hi = sb at *
  generalize spL a n m lo hi = sl at *
  generalize spH a n m lo hi = sh at *
  clear hh hg hl hb hl2 hh2
  cases y
  · have E' : Hid (sb = decide (x ≤ min (z - 1) m)) := E.out
    have E3' : Hid (sh = if sb = true then min (z - 1) m else 0) := E3.out
    clear E E3
    by_cases hz : (z - 1) ≤ m
    · have hmin : min (z - 1) m = (z - 1) := by omega
      rw [hmin] at E' E3'
      have hmin' : Hid (min (z - 1) m = (z - 1)) := hmin
      clear hmin
      by_cases hx : (z - 1) < x
      · obtain rfl : sb = false := E'.out.trans (by simp; omega)
        obtain rfl : sl = 0 := E2.out
        obtain rfl : sh = 0 := E3'.out
        go_enter Try.func10, Try.ntmps10
        go_wp2_with (first
          | (go_at_call 12; refine (HG _ HB0.out).mono ?_; clear HG; rintro e w1 ⟨rfl, hb⟩; have Hw1 : Hid (Below (w.alloc (shO a n m 23)).heap.size (w.alloc (shO a n m 23)) w1) := hb; clear hb; obtain ⟨c0, c1, c2⟩ := box_cells Hw1.out)
          | (go_at_call_of 20 lo; refine (HL _ Hw1.out).mono ?_; clear HL; rintro e w2 ⟨rfl, hb⟩; have Hw2 : Hid (Below (w.alloc (shO a n m 23)).heap.size (w.alloc (shO a n m 23)) w2) := hb; clear hb c0 c1 c2; obtain ⟨c0, c1, c2⟩ := box_cells Hw2.out)
          | (go_at_call_of 20 hi; refine (HH _ Hw2.out).mono ?_; clear HH; rintro e w3 ⟨rfl, hb⟩; have Hw3 : Hid (Below (w.alloc (shO a n m 23)).heap.size (w.alloc (shO a n m 23)) w3) := hb; clear hb c0 c1 c2; obtain ⟨c0, c1, c2⟩ := box_cells Hw3.out)
          | (go_at_call 21; refine (HM.out _).mono ?_; clear HM; rintro e w4 ⟨rfl, Hm, hb⟩; have Hw4 : Hid (Below (w.alloc (shO a n m 23)).heap.size (w.alloc (shO a n m 23)) w4) := bel_step Hw3.out hb.out; clear hb c0 c1 c2; obtain ⟨c0, c1, c2⟩ := box_cells Hw4.out)
          | (go_at_call_of 22 lo; refine (H1.out _ _ Hm.out).mono ?_; clear H1; rintro e w5 ⟨rfl, hw⟩; obtain rfl := hw.symm; clear hw)
          | (go_at_call_of 22 hi; refine (H2.out _ _ Hm.out).mono ?_; clear H2; rintro e w5 ⟨rfl, hw⟩; obtain rfl := hw.symm; clear hw))
        go_ret3
        exact ⟨rfl, bel1 Hw4.out⟩
      · obtain rfl : sb = true := E'.out.trans (by simp; omega)
        obtain rfl : sl = x := E2.out
        obtain rfl : sh = (z - 1) := E3'.out
        go_enter Try.func10, Try.ntmps10
        go_wp2_with (first
          | (go_at_call 12; refine (HG _ HB0.out).mono ?_; clear HG; rintro e w1 ⟨rfl, hb⟩; have Hw1 : Hid (Below (w.alloc (shO a n m 23)).heap.size (w.alloc (shO a n m 23)) w1) := hb; clear hb; obtain ⟨c0, c1, c2⟩ := box_cells Hw1.out)
          | (go_at_call_of 20 lo; refine (HL _ Hw1.out).mono ?_; clear HL; rintro e w2 ⟨rfl, hb⟩; have Hw2 : Hid (Below (w.alloc (shO a n m 23)).heap.size (w.alloc (shO a n m 23)) w2) := hb; clear hb c0 c1 c2; obtain ⟨c0, c1, c2⟩ := box_cells Hw2.out)
          | (go_at_call_of 20 hi; refine (HH _ Hw2.out).mono ?_; clear HH; rintro e w3 ⟨rfl, hb⟩; have Hw3 : Hid (Below (w.alloc (shO a n m 23)).heap.size (w.alloc (shO a n m 23)) w3) := hb; clear hb c0 c1 c2; obtain ⟨c0, c1, c2⟩ := box_cells Hw3.out)
          | (go_at_call 21; refine (HM.out _).mono ?_; clear HM; rintro e w4 ⟨rfl, Hm, hb⟩; have Hw4 : Hid (Below (w.alloc (shO a n m 23)).heap.size (w.alloc (shO a n m 23)) w4) := bel_step Hw3.out hb.out; clear hb c0 c1 c2; obtain ⟨c0, c1, c2⟩ := box_cells Hw4.out)
          | (go_at_call_of 22 lo; refine (H1.out _ _ Hm.out).mono ?_; clear H1; rintro e w5 ⟨rfl, hw⟩; obtain rfl := hw.symm; clear hw)
          | (go_at_call_of 22 hi; refine (H2.out _ _ Hm.out).mono ?_; clear H2; rintro e w5 ⟨rfl, hw⟩; obtain rfl := hw.symm; clear hw))
        go_ret3
        exact ⟨rfl, bel1 Hw4.out⟩
    · have hmin : min (z - 1) m = m := by omega
      rw [hmin] at E' E3'
      have hmin' : Hid (min (z - 1) m = m) := hmin
      clear hmin
      by_cases hx : m < x
      · obtain rfl : sb = false := E'.out.trans (by simp; omega)
        obtain rfl : sl = 0 := E2.out
        obtain rfl : sh = 0 := E3'.out
        go_enter Try.func10, Try.ntmps10
        go_wp2_with (first
          | (go_at_call 12; refine (HG _ HB0.out).mono ?_; clear HG; rintro e w1 ⟨rfl, hb⟩; have Hw1 : Hid (Below (w.alloc (shO a n m 23)).heap.size (w.alloc (shO a n m 23)) w1) := hb; clear hb; obtain ⟨c0, c1, c2⟩ := box_cells Hw1.out)
          | (go_at_call_of 20 lo; refine (HL _ Hw1.out).mono ?_; clear HL; rintro e w2 ⟨rfl, hb⟩; have Hw2 : Hid (Below (w.alloc (shO a n m 23)).heap.size (w.alloc (shO a n m 23)) w2) := hb; clear hb c0 c1 c2; obtain ⟨c0, c1, c2⟩ := box_cells Hw2.out)
          | (go_at_call_of 20 hi; refine (HH _ Hw2.out).mono ?_; clear HH; rintro e w3 ⟨rfl, hb⟩; have Hw3 : Hid (Below (w.alloc (shO a n m 23)).heap.size (w.alloc (shO a n m 23)) w3) := hb; clear hb c0 c1 c2; obtain ⟨c0, c1, c2⟩ := box_cells Hw3.out)
          | (go_at_call 21; refine (HM.out _).mono ?_; clear HM; rintro e w4 ⟨rfl, Hm, hb⟩; have Hw4 : Hid (Below (w.alloc (shO a n m 23)).heap.size (w.alloc (shO a n m 23)) w4) := bel_step Hw3.out hb.out; clear hb c0 c1 c2; obtain ⟨c0, c1, c2⟩ := box_cells Hw4.out)
          | (go_at_call_of 22 lo; refine (H1.out _ _ Hm.out).mono ?_; clear H1; rintro e w5 ⟨rfl, hw⟩; obtain rfl := hw.symm; clear hw)
          | (go_at_call_of 22 hi; refine (H2.out _ _ Hm.out).mono ?_; clear H2; rintro e w5 ⟨rfl, hw⟩; obtain rfl := hw.symm; clear hw))
        go_ret3
        exact ⟨rfl, bel1 Hw4.out⟩
      · obtain rfl : sb = true := E'.out.trans (by simp; omega)
        obtain rfl : sl = x := E2.out
        obtain rfl : m = sh := E3'.out.symm
        go_enter Try.func10, Try.ntmps10
        go_wp2_with (first
          | (go_at_call 12; refine (HG _ HB0.out).mono ?_; clear HG; rintro e w1 ⟨rfl, hb⟩; have Hw1 : Hid (Below (w.alloc (shO a n m 23)).heap.size (w.alloc (shO a n m 23)) w1) := hb; clear hb; obtain ⟨c0, c1, c2⟩ := box_cells Hw1.out)
          | (go_at_call_of 20 lo; refine (HL _ Hw1.out).mono ?_; clear HL; rintro e w2 ⟨rfl, hb⟩; have Hw2 : Hid (Below (w.alloc (shO a n m 23)).heap.size (w.alloc (shO a n m 23)) w2) := hb; clear hb c0 c1 c2; obtain ⟨c0, c1, c2⟩ := box_cells Hw2.out)
          | (go_at_call_of 20 hi; refine (HH _ Hw2.out).mono ?_; clear HH; rintro e w3 ⟨rfl, hb⟩; have Hw3 : Hid (Below (w.alloc (shO a n m 23)).heap.size (w.alloc (shO a n m 23)) w3) := hb; clear hb c0 c1 c2; obtain ⟨c0, c1, c2⟩ := box_cells Hw3.out)
          | (go_at_call 21; refine (HM.out _).mono ?_; clear HM; rintro e w4 ⟨rfl, Hm, hb⟩; have Hw4 : Hid (Below (w.alloc (shO a n m 23)).heap.size (w.alloc (shO a n m 23)) w4) := bel_step Hw3.out hb.out; clear hb c0 c1 c2; obtain ⟨c0, c1, c2⟩ := box_cells Hw4.out)
          | (go_at_call_of 22 lo; refine (H1.out _ _ Hm.out).mono ?_; clear H1; rintro e w5 ⟨rfl, hw⟩; obtain rfl := hw.symm; clear hw)
          | (go_at_call_of 22 hi; refine (H2.out _ _ Hm.out).mono ?_; clear H2; rintro e w5 ⟨rfl, hw⟩; obtain rfl := hw.symm; clear hw))
        go_ret3
        exact ⟨rfl, bel1 Hw4.out⟩
  · have E' : Hid (sb = decide (x ≤ min z m)) := E.out
    have E3' : Hid (sh = if sb = true then min z m else 0) := E3.out
    clear E E3
    by_cases hz : z ≤ m
    · have hmin : min z m = z := by omega
      rw [hmin] at E' E3'
      have hmin' : Hid (min z m = z) := hmin
      clear hmin
      by_cases hx : z < x
      · obtain rfl : sb = false := E'.out.trans (by simp; omega)
        obtain rfl : sl = 0 := E2.out
        obtain rfl : sh = 0 := E3'.out
        go_enter Try.func10, Try.ntmps10
        go_wp2_with (first
          | (go_at_call 12; refine (HG _ HB0.out).mono ?_; clear HG; rintro e w1 ⟨rfl, hb⟩; have Hw1 : Hid (Below (w.alloc (shO a n m 23)).heap.size (w.alloc (shO a n m 23)) w1) := hb; clear hb; obtain ⟨c0, c1, c2⟩ := box_cells Hw1.out)
          | (go_at_call_of 20 lo; refine (HL _ Hw1.out).mono ?_; clear HL; rintro e w2 ⟨rfl, hb⟩; have Hw2 : Hid (Below (w.alloc (shO a n m 23)).heap.size (w.alloc (shO a n m 23)) w2) := hb; clear hb c0 c1 c2; obtain ⟨c0, c1, c2⟩ := box_cells Hw2.out)
          | (go_at_call_of 20 hi; refine (HH _ Hw2.out).mono ?_; clear HH; rintro e w3 ⟨rfl, hb⟩; have Hw3 : Hid (Below (w.alloc (shO a n m 23)).heap.size (w.alloc (shO a n m 23)) w3) := hb; clear hb c0 c1 c2; obtain ⟨c0, c1, c2⟩ := box_cells Hw3.out)
          | (go_at_call 21; refine (HM.out _).mono ?_; clear HM; rintro e w4 ⟨rfl, Hm, hb⟩; have Hw4 : Hid (Below (w.alloc (shO a n m 23)).heap.size (w.alloc (shO a n m 23)) w4) := bel_step Hw3.out hb.out; clear hb c0 c1 c2; obtain ⟨c0, c1, c2⟩ := box_cells Hw4.out)
          | (go_at_call_of 22 lo; refine (H1.out _ _ Hm.out).mono ?_; clear H1; rintro e w5 ⟨rfl, hw⟩; obtain rfl := hw.symm; clear hw)
          | (go_at_call_of 22 hi; refine (H2.out _ _ Hm.out).mono ?_; clear H2; rintro e w5 ⟨rfl, hw⟩; obtain rfl := hw.symm; clear hw))
        go_ret3
        exact ⟨rfl, bel1 Hw4.out⟩
      · obtain rfl : sb = true := E'.out.trans (by simp; omega)
        obtain rfl : sl = x := E2.out
        obtain rfl : sh = z := E3'.out
        go_enter Try.func10, Try.ntmps10
        go_wp2_with (first
          | (go_at_call 12; refine (HG _ HB0.out).mono ?_; clear HG; rintro e w1 ⟨rfl, hb⟩; have Hw1 : Hid (Below (w.alloc (shO a n m 23)).heap.size (w.alloc (shO a n m 23)) w1) := hb; clear hb; obtain ⟨c0, c1, c2⟩ := box_cells Hw1.out)
          | (go_at_call_of 20 lo; refine (HL _ Hw1.out).mono ?_; clear HL; rintro e w2 ⟨rfl, hb⟩; have Hw2 : Hid (Below (w.alloc (shO a n m 23)).heap.size (w.alloc (shO a n m 23)) w2) := hb; clear hb c0 c1 c2; obtain ⟨c0, c1, c2⟩ := box_cells Hw2.out)
          | (go_at_call_of 20 hi; refine (HH _ Hw2.out).mono ?_; clear HH; rintro e w3 ⟨rfl, hb⟩; have Hw3 : Hid (Below (w.alloc (shO a n m 23)).heap.size (w.alloc (shO a n m 23)) w3) := hb; clear hb c0 c1 c2; obtain ⟨c0, c1, c2⟩ := box_cells Hw3.out)
          | (go_at_call 21; refine (HM.out _).mono ?_; clear HM; rintro e w4 ⟨rfl, Hm, hb⟩; have Hw4 : Hid (Below (w.alloc (shO a n m 23)).heap.size (w.alloc (shO a n m 23)) w4) := bel_step Hw3.out hb.out; clear hb c0 c1 c2; obtain ⟨c0, c1, c2⟩ := box_cells Hw4.out)
          | (go_at_call_of 22 lo; refine (H1.out _ _ Hm.out).mono ?_; clear H1; rintro e w5 ⟨rfl, hw⟩; obtain rfl := hw.symm; clear hw)
          | (go_at_call_of 22 hi; refine (H2.out _ _ Hm.out).mono ?_; clear H2; rintro e w5 ⟨rfl, hw⟩; obtain rfl := hw.symm; clear hw))
        go_ret3
        exact ⟨rfl, bel1 Hw4.out⟩
    · have hmin : min z m = m := by omega
      rw [hmin] at E' E3'
      have hmin' : Hid (min z m = m) := hmin
      clear hmin
      by_cases hx : m < x
      · obtain rfl : sb = false := E'.out.trans (by simp; omega)
        obtain rfl : sl = 0 := E2.out
        obtain rfl : sh = 0 := E3'.out
        go_enter Try.func10, Try.ntmps10
        go_wp2_with (first
          | (go_at_call 12; refine (HG _ HB0.out).mono ?_; clear HG; rintro e w1 ⟨rfl, hb⟩; have Hw1 : Hid (Below (w.alloc (shO a n m 23)).heap.size (w.alloc (shO a n m 23)) w1) := hb; clear hb; obtain ⟨c0, c1, c2⟩ := box_cells Hw1.out)
          | (go_at_call_of 20 lo; refine (HL _ Hw1.out).mono ?_; clear HL; rintro e w2 ⟨rfl, hb⟩; have Hw2 : Hid (Below (w.alloc (shO a n m 23)).heap.size (w.alloc (shO a n m 23)) w2) := hb; clear hb c0 c1 c2; obtain ⟨c0, c1, c2⟩ := box_cells Hw2.out)
          | (go_at_call_of 20 hi; refine (HH _ Hw2.out).mono ?_; clear HH; rintro e w3 ⟨rfl, hb⟩; have Hw3 : Hid (Below (w.alloc (shO a n m 23)).heap.size (w.alloc (shO a n m 23)) w3) := hb; clear hb c0 c1 c2; obtain ⟨c0, c1, c2⟩ := box_cells Hw3.out)
          | (go_at_call 21; refine (HM.out _).mono ?_; clear HM; rintro e w4 ⟨rfl, Hm, hb⟩; have Hw4 : Hid (Below (w.alloc (shO a n m 23)).heap.size (w.alloc (shO a n m 23)) w4) := bel_step Hw3.out hb.out; clear hb c0 c1 c2; obtain ⟨c0, c1, c2⟩ := box_cells Hw4.out)
          | (go_at_call_of 22 lo; refine (H1.out _ _ Hm.out).mono ?_; clear H1; rintro e w5 ⟨rfl, hw⟩; obtain rfl := hw.symm; clear hw)
          | (go_at_call_of 22 hi; refine (H2.out _ _ Hm.out).mono ?_; clear H2; rintro e w5 ⟨rfl, hw⟩; obtain rfl := hw.symm; clear hw))
        go_ret3
        exact ⟨rfl, bel1 Hw4.out⟩
      · obtain rfl : sb = true := E'.out.trans (by simp; omega)
        obtain rfl : sl = x := E2.out
        obtain rfl : m = sh := E3'.out.symm
        go_enter Try.func10, Try.ntmps10
        go_wp2_with (first
          | (go_at_call 12; refine (HG _ HB0.out).mono ?_; clear HG; rintro e w1 ⟨rfl, hb⟩; have Hw1 : Hid (Below (w.alloc (shO a n m 23)).heap.size (w.alloc (shO a n m 23)) w1) := hb; clear hb; obtain ⟨c0, c1, c2⟩ := box_cells Hw1.out)
          | (go_at_call_of 20 lo; refine (HL _ Hw1.out).mono ?_; clear HL; rintro e w2 ⟨rfl, hb⟩; have Hw2 : Hid (Below (w.alloc (shO a n m 23)).heap.size (w.alloc (shO a n m 23)) w2) := hb; clear hb c0 c1 c2; obtain ⟨c0, c1, c2⟩ := box_cells Hw2.out)
          | (go_at_call_of 20 hi; refine (HH _ Hw2.out).mono ?_; clear HH; rintro e w3 ⟨rfl, hb⟩; have Hw3 : Hid (Below (w.alloc (shO a n m 23)).heap.size (w.alloc (shO a n m 23)) w3) := hb; clear hb c0 c1 c2; obtain ⟨c0, c1, c2⟩ := box_cells Hw3.out)
          | (go_at_call 21; refine (HM.out _).mono ?_; clear HM; rintro e w4 ⟨rfl, Hm, hb⟩; have Hw4 : Hid (Below (w.alloc (shO a n m 23)).heap.size (w.alloc (shO a n m 23)) w4) := bel_step Hw3.out hb.out; clear hb c0 c1 c2; obtain ⟨c0, c1, c2⟩ := box_cells Hw4.out)
          | (go_at_call_of 22 lo; refine (H1.out _ _ Hm.out).mono ?_; clear H1; rintro e w5 ⟨rfl, hw⟩; obtain rfl := hw.symm; clear hw)
          | (go_at_call_of 22 hi; refine (H2.out _ _ Hm.out).mono ?_; clear H2; rintro e w5 ⟨rfl, hw⟩; obtain rfl := hw.symm; clear hw))
        go_ret3
        exact ⟨rfl, bel1 Hw4.out⟩
end Go.Proofs.Yteafldbmeekpbaa
