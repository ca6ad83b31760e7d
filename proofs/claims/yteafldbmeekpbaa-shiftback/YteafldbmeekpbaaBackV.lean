/- The walk of the law ShiftBack, to its end. -/
import Derived.Test.YteafldbmeekpbaaBackW
import Derived.Test.YteafldbmeekpbaaTwiceW
namespace Go.Proofs.Yteafldbmeekpbaa
open Go.RowKit
set_option maxRecDepth 100000
set_option linter.unusedVariables false
set_option linter.unusedSimpArgs false
theorem zero23 (W : World) : (Instr.build 23 #[]).run Try.prog W = .ok (shV 0 0 0) W := by kernel_rfl
set_option maxHeartbeats 8000000 in
theorem back_bad (a n m p q : Int) (hg : goodB a n m = false) (w : World) :
    Calls Try.prog 5 #[shV a n m, .int .u64 p, .int .u64 q] w fun e w' => e = .returned (.bool true) ∧ Below w.heap.size w w' := by
  have HB0 : Hid (Below (w.alloc (shO a n m 23)).heap.size (w.alloc (shO a n m 23)) (w.alloc (shO a n m 23))) := Below.refl _ _
  have GU := guard23
  have EQ := fun V => run_eq23 0 0 0 V
  have C12 : Hid (∀ u, Calls Try.prog 12 #[shV a n m] u _) := fun u => good_any a n m u
  have C14 : Hid (∀ u, Calls Try.prog 14 #[shV a n m] u _) := fun u => back_any a n m u
  have C16 : Hid (∀ u, Calls Try.prog 16 #[] u _) := fun u => lives_any u
  rw [show bkA a n m = 0 by unfold bkA; rw [hg]; rfl, show bkN a n m = 0 by unfold bkN; rw [hg]; rfl, show bkM a n m = 0 by unfold bkM; rw [hg]; rfl] at C14
  rw [hg] at C12
  clear hg
  obtain ⟨c0, c1, c2⟩ := box_cells HB0.out
  go_enter Try.func5, Try.ntmps5
  go_wp2_with (first
    | (go_at_call 12; refine (C12.out _).mono ?_; clear C12; rintro e w1 ⟨rfl, hb⟩; have H1 : Hid (Below (w.alloc (shO a n m 23)).heap.size (w.alloc (shO a n m 23)) w1) := bel_step HB0.out hb; clear hb c0 c1 c2; obtain ⟨c0, c1, c2⟩ := box_cells H1.out)
    | (go_at_call 14; refine (C14.out _).mono ?_; clear C14; rintro e w2 ⟨rfl, hb⟩; have H2 : Hid (Below (w.alloc (shO a n m 23)).heap.size (w.alloc (shO a n m 23)) w2) := bel_step H1.out hb; clear hb c0 c1 c2)
    | (go_at_call 16; refine (C16.out _).mono ?_; clear C16; rintro e w3 ⟨rfl, hb⟩; have H3 : Hid (Below (w.alloc (shO a n m 23)).heap.size (w.alloc (shO a n m 23)) w3) := bel_step H2.out hb; clear hb))
  go_ret
  exact ⟨rfl, bel1 H3.out⟩
set_option maxHeartbeats 8000000 in
theorem back_tt0 (a n m p q lo hi q0 r0 x y sl sh : Int) (hm : 1 ≤ m) (hm2 : m ≤ 1000) (hp : 0 ≤ p) (hp2 : p < 18446744073709551616) (hq : 0 ≤ q) (hq2 : q < 18446744073709551616) (e1 : p % m = q0) (e2 : q % m = r0) (hlo : 1 + q0 = lo) (hhi : 1 + r0 = hi) (b1 : 0 ≤ q0) (b2 : q0 < m) (b3 : 0 ≤ r0) (b4 : r0 < m) (hlh : lo ≤ hi) (f1 : x ≤ y) (f2 : x = y → lo = hi) (f3 : sl = x) (f4 : sh = y) (f5 : 1 ≤ sl) (f6 : sl ≤ sh) (f7 : sh ≤ m) (w : World)
    (C12 : Hid (∀ u, Calls Try.prog 12 #[shV a n m] u fun e w' => e = .returned (.bool true) ∧ Below u.heap.size u w'))
    (C1 : Hid (∀ u, Calls Try.prog 8 #[shV a n m, .int .i64 lo] u fun e w' => e = .returned (.tuple #[.int .i64 x, .bool true]) ∧ Below u.heap.size u w'))
    (C2 : Hid (∀ u, Calls Try.prog 8 #[shV a n m, .int .i64 hi] u fun e w' => e = .returned (.tuple #[.int .i64 y, .bool true]) ∧ Below u.heap.size u w'))
    (C14 : Hid (∀ u, Calls Try.prog 14 #[shV a n m] u fun e w' => e = .returned (shV a (-n) m) ∧ Below u.heap.size u w'))
    (C3 : Hid (∀ u, Calls Try.prog 8 #[shV a (-n) m, .int .i64 x] u fun e w' => e = .returned (.tuple #[.int .i64 lo, .bool true]) ∧ Below u.heap.size u w'))
    (C10 : Hid (∀ u, Calls Try.prog 10 #[shV a n m, .int .i64 lo, .int .i64 hi] u fun e w' => e = .returned (.tuple #[.int .i64 sl, .int .i64 sh, .bool true]) ∧ Below u.heap.size u w')) :
    Calls Try.prog 5 #[shV a n m, .int .u64 p, .int .u64 q] w fun e w' => e = .returned (.bool true) ∧ Below w.heap.size w w' := by
  have HB0 : Hid (Below (w.alloc (shO a n m 23)).heap.size (w.alloc (shO a n m 23)) (w.alloc (shO a n m 23))) := Below.refl _ _
  have C16 : Hid (∀ u, Calls Try.prog 16 #[] u _) := fun u => lives_any u
  obtain ⟨c0, c1, c2⟩ := box_cells HB0.out
  have g1 : ¬ lo > hi := by omega
  have g2 : ¬ x > y := by omega
  by_cases hxy : x = y
  · obtain rfl := f2 hxy
    subst hxy
    clear f2
    go_enter Try.func5, Try.ntmps5
    go_wp2_with (go_at_call 12; refine (C12.out _).mono ?_; clear C12; rintro e w1 ⟨rfl, hb⟩; have H1 : Hid (Below (w.alloc (shO a n m 23)).heap.size (w.alloc (shO a n m 23)) w1) := bel_step HB0.out hb; clear hb c0 c1 c2; obtain ⟨c0, c1, c2⟩ := box_cells H1.out)
    go_quiet ((fail))
    have H2 : Hid (Below (w.alloc (shO a n m 23)).heap.size (w.alloc (shO a n m 23)) (w1.drewN nq)) := belowN H1.out _
    clear c0 c1 c2
    generalize w1.drewN nq = w2 at *
    obtain ⟨c0, c1, c2⟩ := box_cells H2.out
    go_wp2_with (first
      | (go_at_call_of 8 lo; refine (C1.out _).mono ?_; clear C1; rintro e w3 ⟨rfl, hb⟩; have H3 : Hid (Below (w.alloc (shO a n m 23)).heap.size (w.alloc (shO a n m 23)) w3) := bel_step H2.out hb; clear hb c0 c1 c2; obtain ⟨c0, c1, c2⟩ := box_cells H3.out)
      | (go_at_call_of 8 lo; refine (C2.out _).mono ?_; clear C2; rintro e w4 ⟨rfl, hb⟩; have H4 : Hid (Below (w.alloc (shO a n m 23)).heap.size (w.alloc (shO a n m 23)) w4) := bel_step H3.out hb; clear hb c0 c1 c2; obtain ⟨c0, c1, c2⟩ := box_cells H4.out)
      | (go_at_call 14; refine (C14.out _).mono ?_; clear C14; rintro e w5 ⟨rfl, hb⟩; have H5 : Hid (Below (w.alloc (shO a n m 23)).heap.size (w.alloc (shO a n m 23)) w5) := bel_step H4.out hb; clear hb c0 c1 c2; obtain ⟨c0, c1, c2⟩ := box_cells H5.out)
      | (go_at_call_of 8 x; refine (C3.out _).mono ?_; clear C3; rintro e w6 ⟨rfl, hb⟩; have H6 : Hid (Below (w.alloc (shO a n m 23)).heap.size (w.alloc (shO a n m 23)) w6) := bel_step H5.out hb; clear hb c0 c1 c2; obtain ⟨c0, c1, c2⟩ := box_cells H6.out)
      | (go_at_call 10; refine (C10.out _).mono ?_; clear C10; rintro e w7 ⟨rfl, hb⟩; have H7 : Hid (Below (w.alloc (shO a n m 23)).heap.size (w.alloc (shO a n m 23)) w7) := bel_step H6.out hb; clear hb c0 c1 c2; obtain ⟨c0, c1, c2⟩ := box_cells H7.out)
      | (go_at_call 16; refine (C16.out _).mono ?_; clear C16; rintro e w8 ⟨rfl, hb⟩; have H8 : Hid (Below (w.alloc (shO a n m 23)).heap.size (w.alloc (shO a n m 23)) w8) := bel_step H7.out hb; clear hb))
    go_ret
    exact ⟨rfl, bel1 H8.out⟩
  · clear f2
    go_enter Try.func5, Try.ntmps5
    go_wp2_with (go_at_call 12; refine (C12.out _).mono ?_; clear C12; rintro e w1 ⟨rfl, hb⟩; have H1 : Hid (Below (w.alloc (shO a n m 23)).heap.size (w.alloc (shO a n m 23)) w1) := bel_step HB0.out hb; clear hb c0 c1 c2; obtain ⟨c0, c1, c2⟩ := box_cells H1.out)
    go_quiet ((fail))
    have H2 : Hid (Below (w.alloc (shO a n m 23)).heap.size (w.alloc (shO a n m 23)) (w1.drewN nq)) := belowN H1.out _
    clear c0 c1 c2
    generalize w1.drewN nq = w2 at *
    obtain ⟨c0, c1, c2⟩ := box_cells H2.out
    go_wp2_with (first
      | (go_at_call_of 8 lo; refine (C1.out _).mono ?_; clear C1; rintro e w3 ⟨rfl, hb⟩; have H3 : Hid (Below (w.alloc (shO a n m 23)).heap.size (w.alloc (shO a n m 23)) w3) := bel_step H2.out hb; clear hb c0 c1 c2; obtain ⟨c0, c1, c2⟩ := box_cells H3.out)
      | (go_at_call_of 8 hi; refine (C2.out _).mono ?_; clear C2; rintro e w4 ⟨rfl, hb⟩; have H4 : Hid (Below (w.alloc (shO a n m 23)).heap.size (w.alloc (shO a n m 23)) w4) := bel_step H3.out hb; clear hb c0 c1 c2; obtain ⟨c0, c1, c2⟩ := box_cells H4.out)
      | (go_at_call 14; refine (C14.out _).mono ?_; clear C14; rintro e w5 ⟨rfl, hb⟩; have H5 : Hid (Below (w.alloc (shO a n m 23)).heap.size (w.alloc (shO a n m 23)) w5) := bel_step H4.out hb; clear hb c0 c1 c2; obtain ⟨c0, c1, c2⟩ := box_cells H5.out)
      | (go_at_call_of 8 x; refine (C3.out _).mono ?_; clear C3; rintro e w6 ⟨rfl, hb⟩; have H6 : Hid (Below (w.alloc (shO a n m 23)).heap.size (w.alloc (shO a n m 23)) w6) := bel_step H5.out hb; clear hb c0 c1 c2; obtain ⟨c0, c1, c2⟩ := box_cells H6.out)
      | (go_at_call 10; refine (C10.out _).mono ?_; clear C10; rintro e w7 ⟨rfl, hb⟩; have H7 : Hid (Below (w.alloc (shO a n m 23)).heap.size (w.alloc (shO a n m 23)) w7) := bel_step H6.out hb; clear hb c0 c1 c2; obtain ⟨c0, c1, c2⟩ := box_cells H7.out)
      | (go_at_call 16; refine (C16.out _).mono ?_; clear C16; rintro e w8 ⟨rfl, hb⟩; have H8 : Hid (Below (w.alloc (shO a n m 23)).heap.size (w.alloc (shO a n m 23)) w8) := bel_step H7.out hb; clear hb))
    go_ret
    exact ⟨rfl, bel1 H8.out⟩
set_option maxHeartbeats 8000000 in
theorem back_tt1 (a n m p q lo hi q0 r0 x y sl sh : Int) (hm : 1 ≤ m) (hm2 : m ≤ 1000) (hp : 0 ≤ p) (hp2 : p < 18446744073709551616) (hq : 0 ≤ q) (hq2 : q < 18446744073709551616) (e1 : q % m = q0) (e2 : p % m = r0) (hlo : 1 + q0 = lo) (hhi : 1 + r0 = hi) (b1 : 0 ≤ q0) (b2 : q0 < m) (b3 : 0 ≤ r0) (b4 : r0 < m) (hlh : lo < hi) (f1 : x ≤ y) (f2 : x = y → lo = hi) (f3 : sl = x) (f4 : sh = y) (f5 : 1 ≤ sl) (f6 : sl ≤ sh) (f7 : sh ≤ m) (w : World)
    (C12 : Hid (∀ u, Calls Try.prog 12 #[shV a n m] u fun e w' => e = .returned (.bool true) ∧ Below u.heap.size u w'))
    (C1 : Hid (∀ u, Calls Try.prog 8 #[shV a n m, .int .i64 lo] u fun e w' => e = .returned (.tuple #[.int .i64 x, .bool true]) ∧ Below u.heap.size u w'))
    (C2 : Hid (∀ u, Calls Try.prog 8 #[shV a n m, .int .i64 hi] u fun e w' => e = .returned (.tuple #[.int .i64 y, .bool true]) ∧ Below u.heap.size u w'))
    (C14 : Hid (∀ u, Calls Try.prog 14 #[shV a n m] u fun e w' => e = .returned (shV a (-n) m) ∧ Below u.heap.size u w'))
    (C3 : Hid (∀ u, Calls Try.prog 8 #[shV a (-n) m, .int .i64 x] u fun e w' => e = .returned (.tuple #[.int .i64 lo, .bool true]) ∧ Below u.heap.size u w'))
    (C10 : Hid (∀ u, Calls Try.prog 10 #[shV a n m, .int .i64 lo, .int .i64 hi] u fun e w' => e = .returned (.tuple #[.int .i64 sl, .int .i64 sh, .bool true]) ∧ Below u.heap.size u w')) :
    Calls Try.prog 5 #[shV a n m, .int .u64 p, .int .u64 q] w fun e w' => e = .returned (.bool true) ∧ Below w.heap.size w w' := by
  have HB0 : Hid (Below (w.alloc (shO a n m 23)).heap.size (w.alloc (shO a n m 23)) (w.alloc (shO a n m 23))) := Below.refl _ _
  have C16 : Hid (∀ u, Calls Try.prog 16 #[] u _) := fun u => lives_any u
  obtain ⟨c0, c1, c2⟩ := box_cells HB0.out
  have g1 : hi > lo := hlh
  have g2 : ¬ x > y := by omega
  have hxy : ¬ x = y := fun h => by have := f2 h; omega
  · clear f2
    go_enter Try.func5, Try.ntmps5
    go_wp2_with (go_at_call 12; refine (C12.out _).mono ?_; clear C12; rintro e w1 ⟨rfl, hb⟩; have H1 : Hid (Below (w.alloc (shO a n m 23)).heap.size (w.alloc (shO a n m 23)) w1) := bel_step HB0.out hb; clear hb c0 c1 c2; obtain ⟨c0, c1, c2⟩ := box_cells H1.out)
    go_quiet ((fail))
    have H2 : Hid (Below (w.alloc (shO a n m 23)).heap.size (w.alloc (shO a n m 23)) (w1.drewN nq)) := belowN H1.out _
    clear c0 c1 c2
    generalize w1.drewN nq = w2 at *
    obtain ⟨c0, c1, c2⟩ := box_cells H2.out
    go_wp2_with (first
      | (go_at_call_of 8 lo; refine (C1.out _).mono ?_; clear C1; rintro e w3 ⟨rfl, hb⟩; have H3 : Hid (Below (w.alloc (shO a n m 23)).heap.size (w.alloc (shO a n m 23)) w3) := bel_step H2.out hb; clear hb c0 c1 c2; obtain ⟨c0, c1, c2⟩ := box_cells H3.out)
      | (go_at_call_of 8 hi; refine (C2.out _).mono ?_; clear C2; rintro e w4 ⟨rfl, hb⟩; have H4 : Hid (Below (w.alloc (shO a n m 23)).heap.size (w.alloc (shO a n m 23)) w4) := bel_step H3.out hb; clear hb c0 c1 c2; obtain ⟨c0, c1, c2⟩ := box_cells H4.out)
      | (go_at_call 14; refine (C14.out _).mono ?_; clear C14; rintro e w5 ⟨rfl, hb⟩; have H5 : Hid (Below (w.alloc (shO a n m 23)).heap.size (w.alloc (shO a n m 23)) w5) := bel_step H4.out hb; clear hb c0 c1 c2; obtain ⟨c0, c1, c2⟩ := box_cells H5.out)
      | (go_at_call_of 8 x; refine (C3.out _).mono ?_; clear C3; rintro e w6 ⟨rfl, hb⟩; have H6 : Hid (Below (w.alloc (shO a n m 23)).heap.size (w.alloc (shO a n m 23)) w6) := bel_step H5.out hb; clear hb c0 c1 c2; obtain ⟨c0, c1, c2⟩ := box_cells H6.out)
      | (go_at_call 10; refine (C10.out _).mono ?_; clear C10; rintro e w7 ⟨rfl, hb⟩; have H7 : Hid (Below (w.alloc (shO a n m 23)).heap.size (w.alloc (shO a n m 23)) w7) := bel_step H6.out hb; clear hb c0 c1 c2; obtain ⟨c0, c1, c2⟩ := box_cells H7.out)
      | (go_at_call 16; refine (C16.out _).mono ?_; clear C16; rintro e w8 ⟨rfl, hb⟩; have H8 : Hid (Below (w.alloc (shO a n m 23)).heap.size (w.alloc (shO a n m 23)) w8) := bel_step H7.out hb; clear hb))
    go_ret
    exact ⟨rfl, bel1 H8.out⟩
set_option maxHeartbeats 8000000 in
theorem back_tf0 (a n m p q lo hi q0 r0 x y sl sh : Int) (hm : 1 ≤ m) (hm2 : m ≤ 1000) (hp : 0 ≤ p) (hp2 : p < 18446744073709551616) (hq : 0 ≤ q) (hq2 : q < 18446744073709551616) (e1 : p % m = q0) (e2 : q % m = r0) (hlo : 1 + q0 = lo) (hhi : 1 + r0 = hi) (b1 : 0 ≤ q0) (b2 : q0 < m) (b3 : 0 ≤ r0) (b4 : r0 < m) (hlh : lo ≤ hi) (f3 : sl = x) (f5 : 1 ≤ sl) (f6 : sl ≤ sh) (f7 : sh ≤ m) (w : World)
    (C12 : Hid (∀ u, Calls Try.prog 12 #[shV a n m] u fun e w' => e = .returned (.bool true) ∧ Below u.heap.size u w'))
    (C1 : Hid (∀ u, Calls Try.prog 8 #[shV a n m, .int .i64 lo] u fun e w' => e = .returned (.tuple #[.int .i64 x, .bool true]) ∧ Below u.heap.size u w'))
    (C2 : Hid (∀ u, Calls Try.prog 8 #[shV a n m, .int .i64 hi] u fun e w' => e = .returned (.tuple #[.int .i64 y, .bool false]) ∧ Below u.heap.size u w'))
    (C14 : Hid (∀ u, Calls Try.prog 14 #[shV a n m] u fun e w' => e = .returned (shV a (-n) m) ∧ Below u.heap.size u w'))
    (C3 : Hid (∀ u, Calls Try.prog 8 #[shV a (-n) m, .int .i64 x] u fun e w' => e = .returned (.tuple #[.int .i64 lo, .bool true]) ∧ Below u.heap.size u w'))
    (C10 : Hid (∀ u, Calls Try.prog 10 #[shV a n m, .int .i64 lo, .int .i64 hi] u fun e w' => e = .returned (.tuple #[.int .i64 sl, .int .i64 sh, .bool true]) ∧ Below u.heap.size u w')) :
    Calls Try.prog 5 #[shV a n m, .int .u64 p, .int .u64 q] w fun e w' => e = .returned (.bool true) ∧ Below w.heap.size w w' := by
  have HB0 : Hid (Below (w.alloc (shO a n m 23)).heap.size (w.alloc (shO a n m 23)) (w.alloc (shO a n m 23))) := Below.refl _ _
  have C16 : Hid (∀ u, Calls Try.prog 16 #[] u _) := fun u => lives_any u
  obtain ⟨c0, c1, c2⟩ := box_cells HB0.out
  have g1 : ¬ lo > hi := by omega
  go_enter Try.func5, Try.ntmps5
  go_wp2_with (go_at_call 12; refine (C12.out _).mono ?_; clear C12; rintro e w1 ⟨rfl, hb⟩; have H1 : Hid (Below (w.alloc (shO a n m 23)).heap.size (w.alloc (shO a n m 23)) w1) := bel_step HB0.out hb; clear hb c0 c1 c2; obtain ⟨c0, c1, c2⟩ := box_cells H1.out)
  go_quiet ((fail))
  have H2 : Hid (Below (w.alloc (shO a n m 23)).heap.size (w.alloc (shO a n m 23)) (w1.drewN nq)) := belowN H1.out _
  clear c0 c1 c2
  generalize w1.drewN nq = w2 at *
  obtain ⟨c0, c1, c2⟩ := box_cells H2.out
  go_wp2_with (first
    | (go_at_call_of 8 lo; refine (C1.out _).mono ?_; clear C1; rintro e w3 ⟨rfl, hb⟩; have H3 : Hid (Below (w.alloc (shO a n m 23)).heap.size (w.alloc (shO a n m 23)) w3) := bel_step H2.out hb; clear hb c0 c1 c2; obtain ⟨c0, c1, c2⟩ := box_cells H3.out)
    | (go_at_call_of 8 hi; refine (C2.out _).mono ?_; clear C2; rintro e w4 ⟨rfl, hb⟩; have H4 : Hid (Below (w.alloc (shO a n m 23)).heap.size (w.alloc (shO a n m 23)) w4) := bel_step H3.out hb; clear hb c0 c1 c2; obtain ⟨c0, c1, c2⟩ := box_cells H4.out)
    | (go_at_call 14; refine (C14.out _).mono ?_; clear C14; rintro e w5 ⟨rfl, hb⟩; have H5 : Hid (Below (w.alloc (shO a n m 23)).heap.size (w.alloc (shO a n m 23)) w5) := bel_step H4.out hb; clear hb c0 c1 c2; obtain ⟨c0, c1, c2⟩ := box_cells H5.out)
    | (go_at_call_of 8 x; refine (C3.out _).mono ?_; clear C3; rintro e w6 ⟨rfl, hb⟩; have H6 : Hid (Below (w.alloc (shO a n m 23)).heap.size (w.alloc (shO a n m 23)) w6) := bel_step H5.out hb; clear hb c0 c1 c2; obtain ⟨c0, c1, c2⟩ := box_cells H6.out)
    | (go_at_call 10; refine (C10.out _).mono ?_; clear C10; rintro e w7 ⟨rfl, hb⟩; have H7 : Hid (Below (w.alloc (shO a n m 23)).heap.size (w.alloc (shO a n m 23)) w7) := bel_step H6.out hb; clear hb c0 c1 c2; obtain ⟨c0, c1, c2⟩ := box_cells H7.out)
    | (go_at_call 16; refine (C16.out _).mono ?_; clear C16; rintro e w8 ⟨rfl, hb⟩; have H8 : Hid (Below (w.alloc (shO a n m 23)).heap.size (w.alloc (shO a n m 23)) w8) := bel_step H7.out hb; clear hb))
  go_ret
  exact ⟨rfl, bel1 H8.out⟩
set_option maxHeartbeats 8000000 in
theorem back_tf1 (a n m p q lo hi q0 r0 x y sl sh : Int) (hm : 1 ≤ m) (hm2 : m ≤ 1000) (hp : 0 ≤ p) (hp2 : p < 18446744073709551616) (hq : 0 ≤ q) (hq2 : q < 18446744073709551616) (e1 : q % m = q0) (e2 : p % m = r0) (hlo : 1 + q0 = lo) (hhi : 1 + r0 = hi) (b1 : 0 ≤ q0) (b2 : q0 < m) (b3 : 0 ≤ r0) (b4 : r0 < m) (hlh : lo < hi) (f3 : sl = x) (f5 : 1 ≤ sl) (f6 : sl ≤ sh) (f7 : sh ≤ m) (w : World)
    (C12 : Hid (∀ u, Calls Try.prog 12 #[shV a n m] u fun e w' => e = .returned (.bool true) ∧ Below u.heap.size u w'))
    (C1 : Hid (∀ u, Calls Try.prog 8 #[shV a n m, .int .i64 lo] u fun e w' => e = .returned (.tuple #[.int .i64 x, .bool true]) ∧ Below u.heap.size u w'))
    (C2 : Hid (∀ u, Calls Try.prog 8 #[shV a n m, .int .i64 hi] u fun e w' => e = .returned (.tuple #[.int .i64 y, .bool false]) ∧ Below u.heap.size u w'))
    (C14 : Hid (∀ u, Calls Try.prog 14 #[shV a n m] u fun e w' => e = .returned (shV a (-n) m) ∧ Below u.heap.size u w'))
    (C3 : Hid (∀ u, Calls Try.prog 8 #[shV a (-n) m, .int .i64 x] u fun e w' => e = .returned (.tuple #[.int .i64 lo, .bool true]) ∧ Below u.heap.size u w'))
    (C10 : Hid (∀ u, Calls Try.prog 10 #[shV a n m, .int .i64 lo, .int .i64 hi] u fun e w' => e = .returned (.tuple #[.int .i64 sl, .int .i64 sh, .bool true]) ∧ Below u.heap.size u w')) :
    Calls Try.prog 5 #[shV a n m, .int .u64 p, .int .u64 q] w fun e w' => e = .returned (.bool true) ∧ Below w.heap.size w w' := by
  have HB0 : Hid (Below (w.alloc (shO a n m 23)).heap.size (w.alloc (shO a n m 23)) (w.alloc (shO a n m 23))) := Below.refl _ _
  have C16 : Hid (∀ u, Calls Try.prog 16 #[] u _) := fun u => lives_any u
  obtain ⟨c0, c1, c2⟩ := box_cells HB0.out
  have g1 : hi > lo := hlh
  go_enter Try.func5, Try.ntmps5
  go_wp2_with (go_at_call 12; refine (C12.out _).mono ?_; clear C12; rintro e w1 ⟨rfl, hb⟩; have H1 : Hid (Below (w.alloc (shO a n m 23)).heap.size (w.alloc (shO a n m 23)) w1) := bel_step HB0.out hb; clear hb c0 c1 c2; obtain ⟨c0, c1, c2⟩ := box_cells H1.out)
  go_quiet ((fail))
  have H2 : Hid (Below (w.alloc (shO a n m 23)).heap.size (w.alloc (shO a n m 23)) (w1.drewN nq)) := belowN H1.out _
  clear c0 c1 c2
  generalize w1.drewN nq = w2 at *
  obtain ⟨c0, c1, c2⟩ := box_cells H2.out
  go_wp2_with (first
    | (go_at_call_of 8 lo; refine (C1.out _).mono ?_; clear C1; rintro e w3 ⟨rfl, hb⟩; have H3 : Hid (Below (w.alloc (shO a n m 23)).heap.size (w.alloc (shO a n m 23)) w3) := bel_step H2.out hb; clear hb c0 c1 c2; obtain ⟨c0, c1, c2⟩ := box_cells H3.out)
    | (go_at_call_of 8 hi; refine (C2.out _).mono ?_; clear C2; rintro e w4 ⟨rfl, hb⟩; have H4 : Hid (Below (w.alloc (shO a n m 23)).heap.size (w.alloc (shO a n m 23)) w4) := bel_step H3.out hb; clear hb c0 c1 c2; obtain ⟨c0, c1, c2⟩ := box_cells H4.out)
    | (go_at_call 14; refine (C14.out _).mono ?_; clear C14; rintro e w5 ⟨rfl, hb⟩; have H5 : Hid (Below (w.alloc (shO a n m 23)).heap.size (w.alloc (shO a n m 23)) w5) := bel_step H4.out hb; clear hb c0 c1 c2; obtain ⟨c0, c1, c2⟩ := box_cells H5.out)
    | (go_at_call_of 8 x; refine (C3.out _).mono ?_; clear C3; rintro e w6 ⟨rfl, hb⟩; have H6 : Hid (Below (w.alloc (shO a n m 23)).heap.size (w.alloc (shO a n m 23)) w6) := bel_step H5.out hb; clear hb c0 c1 c2; obtain ⟨c0, c1, c2⟩ := box_cells H6.out)
    | (go_at_call 10; refine (C10.out _).mono ?_; clear C10; rintro e w7 ⟨rfl, hb⟩; have H7 : Hid (Below (w.alloc (shO a n m 23)).heap.size (w.alloc (shO a n m 23)) w7) := bel_step H6.out hb; clear hb c0 c1 c2; obtain ⟨c0, c1, c2⟩ := box_cells H7.out)
    | (go_at_call 16; refine (C16.out _).mono ?_; clear C16; rintro e w8 ⟨rfl, hb⟩; have H8 : Hid (Below (w.alloc (shO a n m 23)).heap.size (w.alloc (shO a n m 23)) w8) := bel_step H7.out hb; clear hb))
  go_ret
  exact ⟨rfl, bel1 H8.out⟩
set_option maxHeartbeats 8000000 in
theorem back_ft0 (a n m p q lo hi q0 r0 x y sl sh : Int) (hm : 1 ≤ m) (hm2 : m ≤ 1000) (hp : 0 ≤ p) (hp2 : p < 18446744073709551616) (hq : 0 ≤ q) (hq2 : q < 18446744073709551616) (e1 : p % m = q0) (e2 : q % m = r0) (hlo : 1 + q0 = lo) (hhi : 1 + r0 = hi) (b1 : 0 ≤ q0) (b2 : q0 < m) (b3 : 0 ≤ r0) (b4 : r0 < m) (hlh : lo ≤ hi) (f4 : sh = y) (f5 : 1 ≤ sl) (f6 : sl ≤ sh) (f7 : sh ≤ m) (w : World)
    (C12 : Hid (∀ u, Calls Try.prog 12 #[shV a n m] u fun e w' => e = .returned (.bool true) ∧ Below u.heap.size u w'))
    (C1 : Hid (∀ u, Calls Try.prog 8 #[shV a n m, .int .i64 lo] u fun e w' => e = .returned (.tuple #[.int .i64 x, .bool false]) ∧ Below u.heap.size u w'))
    (C2 : Hid (∀ u, Calls Try.prog 8 #[shV a n m, .int .i64 hi] u fun e w' => e = .returned (.tuple #[.int .i64 y, .bool true]) ∧ Below u.heap.size u w'))
    (C14 : Hid (∀ u, Calls Try.prog 14 #[shV a n m] u fun e w' => e = .returned (shV a (-n) m) ∧ Below u.heap.size u w'))
    (C10 : Hid (∀ u, Calls Try.prog 10 #[shV a n m, .int .i64 lo, .int .i64 hi] u fun e w' => e = .returned (.tuple #[.int .i64 sl, .int .i64 sh, .bool true]) ∧ Below u.heap.size u w')) :
    Calls Try.prog 5 #[shV a n m, .int .u64 p, .int .u64 q] w fun e w' => e = .returned (.bool true) ∧ Below w.heap.size w w' := by
  have HB0 : Hid (Below (w.alloc (shO a n m 23)).heap.size (w.alloc (shO a n m 23)) (w.alloc (shO a n m 23))) := Below.refl _ _
  have C16 : Hid (∀ u, Calls Try.prog 16 #[] u _) := fun u => lives_any u
  obtain ⟨c0, c1, c2⟩ := box_cells HB0.out
  have g1 : ¬ lo > hi := by omega
  go_enter Try.func5, Try.ntmps5
  go_wp2_with (go_at_call 12; refine (C12.out _).mono ?_; clear C12; rintro e w1 ⟨rfl, hb⟩; have H1 : Hid (Below (w.alloc (shO a n m 23)).heap.size (w.alloc (shO a n m 23)) w1) := bel_step HB0.out hb; clear hb c0 c1 c2; obtain ⟨c0, c1, c2⟩ := box_cells H1.out)
  go_quiet ((fail))
  have H2 : Hid (Below (w.alloc (shO a n m 23)).heap.size (w.alloc (shO a n m 23)) (w1.drewN nq)) := belowN H1.out _
  clear c0 c1 c2
  generalize w1.drewN nq = w2 at *
  obtain ⟨c0, c1, c2⟩ := box_cells H2.out
  go_wp2_with (first
    | (go_at_call_of 8 lo; refine (C1.out _).mono ?_; clear C1; rintro e w3 ⟨rfl, hb⟩; have H3 : Hid (Below (w.alloc (shO a n m 23)).heap.size (w.alloc (shO a n m 23)) w3) := bel_step H2.out hb; clear hb c0 c1 c2; obtain ⟨c0, c1, c2⟩ := box_cells H3.out)
    | (go_at_call_of 8 hi; refine (C2.out _).mono ?_; clear C2; rintro e w4 ⟨rfl, hb⟩; have H4 : Hid (Below (w.alloc (shO a n m 23)).heap.size (w.alloc (shO a n m 23)) w4) := bel_step H3.out hb; clear hb c0 c1 c2; obtain ⟨c0, c1, c2⟩ := box_cells H4.out)
    | (go_at_call 10; refine (C10.out _).mono ?_; clear C10; rintro e w7 ⟨rfl, hb⟩; have H7 : Hid (Below (w.alloc (shO a n m 23)).heap.size (w.alloc (shO a n m 23)) w7) := bel_step H4.out hb; clear hb c0 c1 c2; obtain ⟨c0, c1, c2⟩ := box_cells H7.out)
    | (go_at_call 16; refine (C16.out _).mono ?_; clear C16; rintro e w8 ⟨rfl, hb⟩; have H8 : Hid (Below (w.alloc (shO a n m 23)).heap.size (w.alloc (shO a n m 23)) w8) := bel_step H7.out hb; clear hb))
  go_ret
  exact ⟨rfl, bel1 H8.out⟩
set_option maxHeartbeats 8000000 in
theorem back_ft1 (a n m p q lo hi q0 r0 x y sl sh : Int) (hm : 1 ≤ m) (hm2 : m ≤ 1000) (hp : 0 ≤ p) (hp2 : p < 18446744073709551616) (hq : 0 ≤ q) (hq2 : q < 18446744073709551616) (e1 : q % m = q0) (e2 : p % m = r0) (hlo : 1 + q0 = lo) (hhi : 1 + r0 = hi) (b1 : 0 ≤ q0) (b2 : q0 < m) (b3 : 0 ≤ r0) (b4 : r0 < m) (hlh : lo < hi) (f4 : sh = y) (f5 : 1 ≤ sl) (f6 : sl ≤ sh) (f7 : sh ≤ m) (w : World)
    (C12 : Hid (∀ u, Calls Try.prog 12 #[shV a n m] u fun e w' => e = .returned (.bool true) ∧ Below u.heap.size u w'))
    (C1 : Hid (∀ u, Calls Try.prog 8 #[shV a n m, .int .i64 lo] u fun e w' => e = .returned (.tuple #[.int .i64 x, .bool false]) ∧ Below u.heap.size u w'))
    (C2 : Hid (∀ u, Calls Try.prog 8 #[shV a n m, .int .i64 hi] u fun e w' => e = .returned (.tuple #[.int .i64 y, .bool true]) ∧ Below u.heap.size u w'))
    (C14 : Hid (∀ u, Calls Try.prog 14 #[shV a n m] u fun e w' => e = .returned (shV a (-n) m) ∧ Below u.heap.size u w'))
    (C10 : Hid (∀ u, Calls Try.prog 10 #[shV a n m, .int .i64 lo, .int .i64 hi] u fun e w' => e = .returned (.tuple #[.int .i64 sl, .int .i64 sh, .bool true]) ∧ Below u.heap.size u w')) :
    Calls Try.prog 5 #[shV a n m, .int .u64 p, .int .u64 q] w fun e w' => e = .returned (.bool true) ∧ Below w.heap.size w w' := by
  have HB0 : Hid (Below (w.alloc (shO a n m 23)).heap.size (w.alloc (shO a n m 23)) (w.alloc (shO a n m 23))) := Below.refl _ _
  have C16 : Hid (∀ u, Calls Try.prog 16 #[] u _) := fun u => lives_any u
  obtain ⟨c0, c1, c2⟩ := box_cells HB0.out
  have g1 : hi > lo := hlh
  go_enter Try.func5, Try.ntmps5
  go_wp2_with (go_at_call 12; refine (C12.out _).mono ?_; clear C12; rintro e w1 ⟨rfl, hb⟩; have H1 : Hid (Below (w.alloc (shO a n m 23)).heap.size (w.alloc (shO a n m 23)) w1) := bel_step HB0.out hb; clear hb c0 c1 c2; obtain ⟨c0, c1, c2⟩ := box_cells H1.out)
  go_quiet ((fail))
  have H2 : Hid (Below (w.alloc (shO a n m 23)).heap.size (w.alloc (shO a n m 23)) (w1.drewN nq)) := belowN H1.out _
  clear c0 c1 c2
  generalize w1.drewN nq = w2 at *
  obtain ⟨c0, c1, c2⟩ := box_cells H2.out
  go_wp2_with (first
    | (go_at_call_of 8 lo; refine (C1.out _).mono ?_; clear C1; rintro e w3 ⟨rfl, hb⟩; have H3 : Hid (Below (w.alloc (shO a n m 23)).heap.size (w.alloc (shO a n m 23)) w3) := bel_step H2.out hb; clear hb c0 c1 c2; obtain ⟨c0, c1, c2⟩ := box_cells H3.out)
    | (go_at_call_of 8 hi; refine (C2.out _).mono ?_; clear C2; rintro e w4 ⟨rfl, hb⟩; have H4 : Hid (Below (w.alloc (shO a n m 23)).heap.size (w.alloc (shO a n m 23)) w4) := bel_step H3.out hb; clear hb c0 c1 c2; obtain ⟨c0, c1, c2⟩ := box_cells H4.out)
    | (go_at_call 10; refine (C10.out _).mono ?_; clear C10; rintro e w7 ⟨rfl, hb⟩; have H7 : Hid (Below (w.alloc (shO a n m 23)).heap.size (w.alloc (shO a n m 23)) w7) := bel_step H4.out hb; clear hb c0 c1 c2; obtain ⟨c0, c1, c2⟩ := box_cells H7.out)
    | (go_at_call 16; refine (C16.out _).mono ?_; clear C16; rintro e w8 ⟨rfl, hb⟩; have H8 : Hid (Below (w.alloc (shO a n m 23)).heap.size (w.alloc (shO a n m 23)) w8) := bel_step H7.out hb; clear hb))
  go_ret
  exact ⟨rfl, bel1 H8.out⟩
set_option maxHeartbeats 8000000 in
theorem back_fft0 (a n m p q lo hi q0 r0 x y sl sh : Int) (hm : 1 ≤ m) (hm2 : m ≤ 1000) (hp : 0 ≤ p) (hp2 : p < 18446744073709551616) (hq : 0 ≤ q) (hq2 : q < 18446744073709551616) (e1 : p % m = q0) (e2 : q % m = r0) (hlo : 1 + q0 = lo) (hhi : 1 + r0 = hi) (b1 : 0 ≤ q0) (b2 : q0 < m) (b3 : 0 ≤ r0) (b4 : r0 < m) (hlh : lo ≤ hi) (f5 : 1 ≤ sl) (f6 : sl ≤ sh) (f7 : sh ≤ m) (w : World)
    (C12 : Hid (∀ u, Calls Try.prog 12 #[shV a n m] u fun e w' => e = .returned (.bool true) ∧ Below u.heap.size u w'))
    (C1 : Hid (∀ u, Calls Try.prog 8 #[shV a n m, .int .i64 lo] u fun e w' => e = .returned (.tuple #[.int .i64 x, .bool false]) ∧ Below u.heap.size u w'))
    (C2 : Hid (∀ u, Calls Try.prog 8 #[shV a n m, .int .i64 hi] u fun e w' => e = .returned (.tuple #[.int .i64 y, .bool false]) ∧ Below u.heap.size u w'))
    (C14 : Hid (∀ u, Calls Try.prog 14 #[shV a n m] u fun e w' => e = .returned (shV a (-n) m) ∧ Below u.heap.size u w'))
    (C10 : Hid (∀ u, Calls Try.prog 10 #[shV a n m, .int .i64 lo, .int .i64 hi] u fun e w' => e = .returned (.tuple #[.int .i64 sl, .int .i64 sh, .bool true]) ∧ Below u.heap.size u w')) :
    Calls Try.prog 5 #[shV a n m, .int .u64 p, .int .u64 q] w fun e w' => e = .returned (.bool true) ∧ Below w.heap.size w w' := by
  have HB0 : Hid (Below (w.alloc (shO a n m 23)).heap.size (w.alloc (shO a n m 23)) (w.alloc (shO a n m 23))) := Below.refl _ _
  have C16 : Hid (∀ u, Calls Try.prog 16 #[] u _) := fun u => lives_any u
  obtain ⟨c0, c1, c2⟩ := box_cells HB0.out
  have g1 : ¬ lo > hi := by omega
  go_enter Try.func5, Try.ntmps5
  go_wp2_with (go_at_call 12; refine (C12.out _).mono ?_; clear C12; rintro e w1 ⟨rfl, hb⟩; have H1 : Hid (Below (w.alloc (shO a n m 23)).heap.size (w.alloc (shO a n m 23)) w1) := bel_step HB0.out hb; clear hb c0 c1 c2; obtain ⟨c0, c1, c2⟩ := box_cells H1.out)
  go_quiet ((fail))
  have H2 : Hid (Below (w.alloc (shO a n m 23)).heap.size (w.alloc (shO a n m 23)) (w1.drewN nq)) := belowN H1.out _
  clear c0 c1 c2
  generalize w1.drewN nq = w2 at *
  obtain ⟨c0, c1, c2⟩ := box_cells H2.out
  go_wp2_with (first
    | (go_at_call_of 8 lo; refine (C1.out _).mono ?_; clear C1; rintro e w3 ⟨rfl, hb⟩; have H3 : Hid (Below (w.alloc (shO a n m 23)).heap.size (w.alloc (shO a n m 23)) w3) := bel_step H2.out hb; clear hb c0 c1 c2; obtain ⟨c0, c1, c2⟩ := box_cells H3.out)
    | (go_at_call_of 8 hi; refine (C2.out _).mono ?_; clear C2; rintro e w4 ⟨rfl, hb⟩; have H4 : Hid (Below (w.alloc (shO a n m 23)).heap.size (w.alloc (shO a n m 23)) w4) := bel_step H3.out hb; clear hb c0 c1 c2; obtain ⟨c0, c1, c2⟩ := box_cells H4.out)
    | (go_at_call 10; refine (C10.out _).mono ?_; clear C10; rintro e w7 ⟨rfl, hb⟩; have H7 : Hid (Below (w.alloc (shO a n m 23)).heap.size (w.alloc (shO a n m 23)) w7) := bel_step H4.out hb; clear hb c0 c1 c2; obtain ⟨c0, c1, c2⟩ := box_cells H7.out)
    | (go_at_call 16; refine (C16.out _).mono ?_; clear C16; rintro e w8 ⟨rfl, hb⟩; have H8 : Hid (Below (w.alloc (shO a n m 23)).heap.size (w.alloc (shO a n m 23)) w8) := bel_step H7.out hb; clear hb))
  go_ret
  exact ⟨rfl, bel1 H8.out⟩
set_option maxHeartbeats 8000000 in
theorem back_fft1 (a n m p q lo hi q0 r0 x y sl sh : Int) (hm : 1 ≤ m) (hm2 : m ≤ 1000) (hp : 0 ≤ p) (hp2 : p < 18446744073709551616) (hq : 0 ≤ q) (hq2 : q < 18446744073709551616) (e1 : q % m = q0) (e2 : p % m = r0) (hlo : 1 + q0 = lo) (hhi : 1 + r0 = hi) (b1 : 0 ≤ q0) (b2 : q0 < m) (b3 : 0 ≤ r0) (b4 : r0 < m) (hlh : lo < hi) (f5 : 1 ≤ sl) (f6 : sl ≤ sh) (f7 : sh ≤ m) (w : World)
    (C12 : Hid (∀ u, Calls Try.prog 12 #[shV a n m] u fun e w' => e = .returned (.bool true) ∧ Below u.heap.size u w'))
    (C1 : Hid (∀ u, Calls Try.prog 8 #[shV a n m, .int .i64 lo] u fun e w' => e = .returned (.tuple #[.int .i64 x, .bool false]) ∧ Below u.heap.size u w'))
    (C2 : Hid (∀ u, Calls Try.prog 8 #[shV a n m, .int .i64 hi] u fun e w' => e = .returned (.tuple #[.int .i64 y, .bool false]) ∧ Below u.heap.size u w'))
    (C14 : Hid (∀ u, Calls Try.prog 14 #[shV a n m] u fun e w' => e = .returned (shV a (-n) m) ∧ Below u.heap.size u w'))
    (C10 : Hid (∀ u, Calls Try.prog 10 #[shV a n m, .int .i64 lo, .int .i64 hi] u fun e w' => e = .returned (.tuple #[.int .i64 sl, .int .i64 sh, .bool true]) ∧ Below u.heap.size u w')) :
    Calls Try.prog 5 #[shV a n m, .int .u64 p, .int .u64 q] w fun e w' => e = .returned (.bool true) ∧ Below w.heap.size w w' := by
  have HB0 : Hid (Below (w.alloc (shO a n m 23)).heap.size (w.alloc (shO a n m 23)) (w.alloc (shO a n m 23))) := Below.refl _ _
  have C16 : Hid (∀ u, Calls Try.prog 16 #[] u _) := fun u => lives_any u
  obtain ⟨c0, c1, c2⟩ := box_cells HB0.out
  have g1 : hi > lo := hlh
  go_enter Try.func5, Try.ntmps5
  go_wp2_with (go_at_call 12; refine (C12.out _).mono ?_; clear C12; rintro e w1 ⟨rfl, hb⟩; have H1 : Hid (Below (w.alloc (shO a n m 23)).heap.size (w.alloc (shO a n m 23)) w1) := bel_step HB0.out hb; clear hb c0 c1 c2; obtain ⟨c0, c1, c2⟩ := box_cells H1.out)
  go_quiet ((fail))
  have H2 : Hid (Below (w.alloc (shO a n m 23)).heap.size (w.alloc (shO a n m 23)) (w1.drewN nq)) := belowN H1.out _
  clear c0 c1 c2
  generalize w1.drewN nq = w2 at *
  obtain ⟨c0, c1, c2⟩ := box_cells H2.out
  go_wp2_with (first
    | (go_at_call_of 8 lo; refine (C1.out _).mono ?_; clear C1; rintro e w3 ⟨rfl, hb⟩; have H3 : Hid (Below (w.alloc (shO a n m 23)).heap.size (w.alloc (shO a n m 23)) w3) := bel_step H2.out hb; clear hb c0 c1 c2; obtain ⟨c0, c1, c2⟩ := box_cells H3.out)
    | (go_at_call_of 8 hi; refine (C2.out _).mono ?_; clear C2; rintro e w4 ⟨rfl, hb⟩; have H4 : Hid (Below (w.alloc (shO a n m 23)).heap.size (w.alloc (shO a n m 23)) w4) := bel_step H3.out hb; clear hb c0 c1 c2; obtain ⟨c0, c1, c2⟩ := box_cells H4.out)
    | (go_at_call 10; refine (C10.out _).mono ?_; clear C10; rintro e w7 ⟨rfl, hb⟩; have H7 : Hid (Below (w.alloc (shO a n m 23)).heap.size (w.alloc (shO a n m 23)) w7) := bel_step H4.out hb; clear hb c0 c1 c2; obtain ⟨c0, c1, c2⟩ := box_cells H7.out)
    | (go_at_call 16; refine (C16.out _).mono ?_; clear C16; rintro e w8 ⟨rfl, hb⟩; have H8 : Hid (Below (w.alloc (shO a n m 23)).heap.size (w.alloc (shO a n m 23)) w8) := bel_step H7.out hb; clear hb))
  go_ret
  exact ⟨rfl, bel1 H8.out⟩
set_option maxHeartbeats 8000000 in
theorem back_fff0 (a n m p q lo hi q0 r0 x y sl sh : Int) (hm : 1 ≤ m) (hm2 : m ≤ 1000) (hp : 0 ≤ p) (hp2 : p < 18446744073709551616) (hq : 0 ≤ q) (hq2 : q < 18446744073709551616) (e1 : p % m = q0) (e2 : q % m = r0) (hlo : 1 + q0 = lo) (hhi : 1 + r0 = hi) (b1 : 0 ≤ q0) (b2 : q0 < m) (b3 : 0 ≤ r0) (b4 : r0 < m) (hlh : lo ≤ hi) (w : World)
    (C12 : Hid (∀ u, Calls Try.prog 12 #[shV a n m] u fun e w' => e = .returned (.bool true) ∧ Below u.heap.size u w'))
    (C1 : Hid (∀ u, Calls Try.prog 8 #[shV a n m, .int .i64 lo] u fun e w' => e = .returned (.tuple #[.int .i64 x, .bool false]) ∧ Below u.heap.size u w'))
    (C2 : Hid (∀ u, Calls Try.prog 8 #[shV a n m, .int .i64 hi] u fun e w' => e = .returned (.tuple #[.int .i64 y, .bool false]) ∧ Below u.heap.size u w'))
    (C14 : Hid (∀ u, Calls Try.prog 14 #[shV a n m] u fun e w' => e = .returned (shV a (-n) m) ∧ Below u.heap.size u w'))
    (C10 : Hid (∀ u, Calls Try.prog 10 #[shV a n m, .int .i64 lo, .int .i64 hi] u fun e w' => e = .returned (.tuple #[.int .i64 sl, .int .i64 sh, .bool false]) ∧ Below u.heap.size u w')) :
    Calls Try.prog 5 #[shV a n m, .int .u64 p, .int .u64 q] w fun e w' => e = .returned (.bool true) ∧ Below w.heap.size w w' := by
  have HB0 : Hid (Below (w.alloc (shO a n m 23)).heap.size (w.alloc (shO a n m 23)) (w.alloc (shO a n m 23))) := Below.refl _ _
  have C16 : Hid (∀ u, Calls Try.prog 16 #[] u _) := fun u => lives_any u
  obtain ⟨c0, c1, c2⟩ := box_cells HB0.out
  have g1 : ¬ lo > hi := by omega
  go_enter Try.func5, Try.ntmps5
  go_wp2_with (go_at_call 12; refine (C12.out _).mono ?_; clear C12; rintro e w1 ⟨rfl, hb⟩; have H1 : Hid (Below (w.alloc (shO a n m 23)).heap.size (w.alloc (shO a n m 23)) w1) := bel_step HB0.out hb; clear hb c0 c1 c2; obtain ⟨c0, c1, c2⟩ := box_cells H1.out)
  go_quiet ((fail))
  have H2 : Hid (Below (w.alloc (shO a n m 23)).heap.size (w.alloc (shO a n m 23)) (w1.drewN nq)) := belowN H1.out _
  clear c0 c1 c2
  generalize w1.drewN nq = w2 at *
  obtain ⟨c0, c1, c2⟩ := box_cells H2.out
  go_wp2_with (first
    | (go_at_call_of 8 lo; refine (C1.out _).mono ?_; clear C1; rintro e w3 ⟨rfl, hb⟩; have H3 : Hid (Below (w.alloc (shO a n m 23)).heap.size (w.alloc (shO a n m 23)) w3) := bel_step H2.out hb; clear hb c0 c1 c2; obtain ⟨c0, c1, c2⟩ := box_cells H3.out)
    | (go_at_call_of 8 hi; refine (C2.out _).mono ?_; clear C2; rintro e w4 ⟨rfl, hb⟩; have H4 : Hid (Below (w.alloc (shO a n m 23)).heap.size (w.alloc (shO a n m 23)) w4) := bel_step H3.out hb; clear hb c0 c1 c2; obtain ⟨c0, c1, c2⟩ := box_cells H4.out)
    | (go_at_call 10; refine (C10.out _).mono ?_; clear C10; rintro e w7 ⟨rfl, hb⟩; have H7 : Hid (Below (w.alloc (shO a n m 23)).heap.size (w.alloc (shO a n m 23)) w7) := bel_step H4.out hb; clear hb c0 c1 c2; obtain ⟨c0, c1, c2⟩ := box_cells H7.out)
    | (go_at_call 16; refine (C16.out _).mono ?_; clear C16; rintro e w8 ⟨rfl, hb⟩; have H8 : Hid (Below (w.alloc (shO a n m 23)).heap.size (w.alloc (shO a n m 23)) w8) := bel_step H7.out hb; clear hb))
  go_ret
  exact ⟨rfl, bel1 H8.out⟩
set_option maxHeartbeats 8000000 in
theorem back_fff1 (a n m p q lo hi q0 r0 x y sl sh : Int) (hm : 1 ≤ m) (hm2 : m ≤ 1000) (hp : 0 ≤ p) (hp2 : p < 18446744073709551616) (hq : 0 ≤ q) (hq2 : q < 18446744073709551616) (e1 : q % m = q0) (e2 : p % m = r0) (hlo : 1 + q0 = lo) (hhi : 1 + r0 = hi) (b1 : 0 ≤ q0) (b2 : q0 < m) (b3 : 0 ≤ r0) (b4 : r0 < m) (hlh : lo < hi) (w : World)
    (C12 : Hid (∀ u, Calls Try.prog 12 #[shV a n m] u fun e w' => e = .returned (.bool true) ∧ Below u.heap.size u w'))
    (C1 : Hid (∀ u, Calls Try.prog 8 #[shV a n m, .int .i64 lo] u fun e w' => e = .returned (.tuple #[.int .i64 x, .bool false]) ∧ Below u.heap.size u w'))
    (C2 : Hid (∀ u, Calls Try.prog 8 #[shV a n m, .int .i64 hi] u fun e w' => e = .returned (.tuple #[.int .i64 y, .bool false]) ∧ Below u.heap.size u w'))
    (C14 : Hid (∀ u, Calls Try.prog 14 #[shV a n m] u fun e w' => e = .returned (shV a (-n) m) ∧ Below u.heap.size u w'))
    (C10 : Hid (∀ u, Calls Try.prog 10 #[shV a n m, .int .i64 lo, .int .i64 hi] u fun e w' => e = .returned (.tuple #[.int .i64 sl, .int .i64 sh, .bool false]) ∧ Below u.heap.size u w')) :
    Calls Try.prog 5 #[shV a n m, .int .u64 p, .int .u64 q] w fun e w' => e = .returned (.bool true) ∧ Below w.heap.size w w' := by
  have HB0 : Hid (Below (w.alloc (shO a n m 23)).heap.size (w.alloc (shO a n m 23)) (w.alloc (shO a n m 23))) := Below.refl _ _
  have C16 : Hid (∀ u, Calls Try.prog 16 #[] u _) := fun u => lives_any u
  obtain ⟨c0, c1, c2⟩ := box_cells HB0.out
  have g1 : hi > lo := hlh
  go_enter Try.func5, Try.ntmps5
  go_wp2_with (go_at_call 12; refine (C12.out _).mono ?_; clear C12; rintro e w1 ⟨rfl, hb⟩; have H1 : Hid (Below (w.alloc (shO a n m 23)).heap.size (w.alloc (shO a n m 23)) w1) := bel_step HB0.out hb; clear hb c0 c1 c2; obtain ⟨c0, c1, c2⟩ := box_cells H1.out)
  go_quiet ((fail))
  have H2 : Hid (Below (w.alloc (shO a n m 23)).heap.size (w.alloc (shO a n m 23)) (w1.drewN nq)) := belowN H1.out _
  clear c0 c1 c2
  generalize w1.drewN nq = w2 at *
  obtain ⟨c0, c1, c2⟩ := box_cells H2.out
  go_wp2_with (first
    | (go_at_call_of 8 lo; refine (C1.out _).mono ?_; clear C1; rintro e w3 ⟨rfl, hb⟩; have H3 : Hid (Below (w.alloc (shO a n m 23)).heap.size (w.alloc (shO a n m 23)) w3) := bel_step H2.out hb; clear hb c0 c1 c2; obtain ⟨c0, c1, c2⟩ := box_cells H3.out)
    | (go_at_call_of 8 hi; refine (C2.out _).mono ?_; clear C2; rintro e w4 ⟨rfl, hb⟩; have H4 : Hid (Below (w.alloc (shO a n m 23)).heap.size (w.alloc (shO a n m 23)) w4) := bel_step H3.out hb; clear hb c0 c1 c2; obtain ⟨c0, c1, c2⟩ := box_cells H4.out)
    | (go_at_call 10; refine (C10.out _).mono ?_; clear C10; rintro e w7 ⟨rfl, hb⟩; have H7 : Hid (Below (w.alloc (shO a n m 23)).heap.size (w.alloc (shO a n m 23)) w7) := bel_step H4.out hb; clear hb c0 c1 c2; obtain ⟨c0, c1, c2⟩ := box_cells H7.out)
    | (go_at_call 16; refine (C16.out _).mono ?_; clear C16; rintro e w8 ⟨rfl, hb⟩; have H8 : Hid (Below (w.alloc (shO a n m 23)).heap.size (w.alloc (shO a n m 23)) w8) := bel_step H7.out hb; clear hb))
  go_ret
  exact ⟨rfl, bel1 H8.out⟩
end Go.Proofs.Yteafldbmeekpbaa
