/- The walk of the law ShiftTwice. -/
import Derived.Test.YteafldbmeekpbaaPlacesW
namespace Go.Proofs.Yteafldbmeekpbaa
open Go.RowKit
set_option maxRecDepth 100000
set_option linter.unusedVariables false
set_option linter.unusedSimpArgs false
theorem pos_up {a n m p : Int} (hg : goodB a n m = true) (hn : 0 < n) (h1 : 1 ≤ p) (h2 : p ≤ m) :
    (posB a n m p = true ∧ p < a ∧ posF a n m p = p) ∨ (posB a n m p = true ∧ a ≤ p ∧ p + n ≤ m ∧ posF a n m p = p + n) ∨ (posB a n m p = false ∧ a ≤ p ∧ m < p + n ∧ posF a n m p = 0) := by
  have e0 : nxF a n = a := by unfold nxF; rw [if_neg (by omega)]
  by_cases g1 : p < a
  · have q1 : mvF a n p = p := by unfold mvF; rw [if_pos g1]
    have q2 : mvB a n p = true := by unfold mvB; rw [decide_eq_true g1]; rfl
    have q3 : posB a n m p = true := by unfold posB; rw [hg, q1, q2, decide_eq_true h1, decide_eq_true h2]; rfl
    exact .inl ⟨q3, g1, by unfold posF; rw [q3, q1]; rfl⟩
  · have q1 : mvF a n p = p + n := by unfold mvF; rw [if_neg g1, e0, if_neg g1]
    have q2 : mvB a n p = true := by unfold mvB; rw [e0, decide_eq_false g1]; rfl
    by_cases g2 : p + n ≤ m
    · have q3 : posB a n m p = true := by unfold posB; rw [hg, q1, q2, decide_eq_true h1, decide_eq_true h2, decide_eq_true g2]; rfl
      exact .inr (.inl ⟨q3, by omega, g2, by unfold posF; rw [q3, q1]; rfl⟩)
    · have q3 : posB a n m p = false := by unfold posB; rw [hg, q1, q2, decide_eq_true h1, decide_eq_true h2, decide_eq_false g2]; rfl
      exact .inr (.inr ⟨q3, by omega, by omega, by unfold posF; rw [q3]; rfl⟩)
theorem twice_core {k n m q : Int} (k1 : 1 ≤ k) (k2 : k ≤ 50) (n1 : 1 ≤ n) (n2 : n ≤ 5) (m1 : 1 ≤ m) (m2 : m ≤ 5) (q1 : 1 ≤ q) (q2 : q ≤ 64) :
    (posB k n 64 q = false ∧ posB k (n + m) 64 q = false) ∨ (posB k n 64 q = true ∧ posB k m 64 (posF k n 64 q) = false ∧ posB k (n + m) 64 q = false) ∨
    (posB k n 64 q = true ∧ posB k m 64 (posF k n 64 q) = true ∧ posB k (n + m) 64 q = true ∧ posF k m 64 (posF k n 64 q) = posF k (n + m) 64 q) := by
  have hg : ∀ j : Int, 1 ≤ j → j ≤ 10 → goodB k j 64 = true := fun j j1 j2 => goodB_iff.2 (by omega)
  have S := pos_up (hg (n + m) (by omega) (by omega)) (by omega) q1 q2
  rcases pos_up (hg n n1 (by omega)) (by omega) q1 q2 with ⟨a1, a2, a3⟩ | ⟨a1, a2, a3, a4⟩ | ⟨a1, a2, a3, a4⟩
  · rw [a3]
    rcases pos_up (hg m m1 (by omega)) (by omega) q1 q2 with ⟨b1, b2, b3⟩ | ⟨b1, b2, b3, b4⟩ | ⟨b1, b2, b3, b4⟩
    · rcases S with ⟨c1, c2, c3⟩ | ⟨c1, c2, c3, c4⟩ | ⟨c1, c2, c3, c4⟩
      · exact .inr (.inr ⟨a1, b1, c1, by rw [b3, c3]⟩)
      · omega
      · omega
    · omega
    · omega
  · rw [a4]
    rcases pos_up (hg m m1 (by omega)) (by omega) (by omega : 1 ≤ q + n) a3 with ⟨b1, b2, b3⟩ | ⟨b1, b2, b3, b4⟩ | ⟨b1, b2, b3, b4⟩
    · omega
    · rcases S with ⟨c1, c2, c3⟩ | ⟨c1, c2, c3, c4⟩ | ⟨c1, c2, c3, c4⟩
      · omega
      · exact .inr (.inr ⟨a1, b1, c1, by rw [b4, c4]; omega⟩)
      · omega
    · rcases S with ⟨c1, c2, c3⟩ | ⟨c1, c2, c3, c4⟩ | ⟨c1, c2, c3, c4⟩
      · omega
      · omega
      · exact .inr (.inl ⟨a1, b1, c1⟩)
  · rcases S with ⟨c1, c2, c3⟩ | ⟨c1, c2, c3, c4⟩ | ⟨c1, c2, c3, c4⟩
    · omega
    · omega
    · exact .inl ⟨a1, c1⟩
theorem belowN {B : Nat} {a w : World} (h : Below B a w) (n : Nat) : Below B a (w.drewN n) := ⟨h.os, h.tape, h.output, h.size, h.block⟩
set_option maxHeartbeats 8000000 in
theorem twice_walk (A P x y : Int) (hA : 0 ≤ A ∧ A < 18446744073709551616) (hP : 0 ≤ P ∧ P < 18446744073709551616) (hx : 0 ≤ x ∧ x < 18446744073709551616) (hy : 0 ≤ y ∧ y < 18446744073709551616) (w : World) :
    Calls Try.prog 6 #[.int .u64 A, .int .u64 P, .agg #[.int .u64 x, .int .u64 y]] w fun e w' => e = .returned (.bool true) ∧ Below w.heap.size w w' := by
  obtain ⟨hA1, hA2⟩ := hA
  obtain ⟨hP1, hP2⟩ := hP
  obtain ⟨hx1, hx2⟩ := hx
  obtain ⟨hy1, hy2⟩ := hy
  obtain ⟨n0, hn0⟩ : ∃ n0, x % 5 = n0 := ⟨_, rfl⟩
  obtain ⟨m0, hm0⟩ : ∃ m0, y % 5 = m0 := ⟨_, rfl⟩
  obtain ⟨k0, hk0⟩ : ∃ k0, A % 50 = k0 := ⟨_, rfl⟩
  obtain ⟨q0, hq0⟩ : ∃ q0, P % 64 = q0 := ⟨_, rfl⟩
  have bn : 0 ≤ n0 ∧ n0 < 5 := by omega
  have bm : 0 ≤ m0 ∧ m0 < 5 := by omega
  have bk : 0 ≤ k0 ∧ k0 < 50 := by omega
  have bq : 0 ≤ q0 ∧ q0 < 64 := by omega
  obtain ⟨n, hn⟩ : ∃ n, 1 + n0 = n := ⟨_, rfl⟩
  obtain ⟨m, hm⟩ : ∃ m, 1 + m0 = m := ⟨_, rfl⟩
  obtain ⟨k, hk⟩ : ∃ k, 1 + k0 = k := ⟨_, rfl⟩
  obtain ⟨q, hq⟩ : ∃ q, 1 + q0 = q := ⟨_, rfl⟩
  obtain ⟨s, hs⟩ : ∃ s, n + m = s := ⟨_, rfl⟩
  have core := twice_core (k := k) (n := n) (m := m) (q := q) (by omega) (by omega) (by omega) (by omega) (by omega) (by omega) (by omega) (by omega)
  rw [hs] at core
  have b1 : 1 ≤ s ∧ s ≤ 10 := by omega
  have C1 : Hid (∀ u, Calls Try.prog 8 #[shV k s 64, .int .i64 q] u _) := fun u => pos_any k s 64 q u
  have C2 : Hid (∀ u, Calls Try.prog 8 #[shV k n 64, .int .i64 q] u _) := fun u => pos_any k n 64 q u
  have C3 : Hid (∀ u, Calls Try.prog 8 #[shV k m 64, .int .i64 (posF k n 64 q)] u _) := fun u => pos_any k m 64 (posF k n 64 q) u
  have C16 : Hid (∀ u, Calls Try.prog 16 #[] u _) := fun u => lives_any u
  generalize posF k m 64 (posF k n 64 q) = r3 at *
  generalize posB k m 64 (posF k n 64 q) = t3 at *
  generalize posF k n 64 q = r2 at *
  generalize posB k n 64 q = t2 at *
  generalize posF k s 64 q = r1 at *
  generalize posB k s 64 q = t1 at *
  have HB : Hid (Below (w.alloc (.cells #[.int .u64 x, .int .u64 y] 49)).heap.size (w.alloc (.cells #[.int .u64 x, .int .u64 y] 49)) (w.alloc (.cells #[.int .u64 x, .int .u64 y] 49))) := Below.refl _ _
  rcases core with ⟨rfl, rfl⟩ | ⟨rfl, rfl, rfl⟩ | ⟨rfl, rfl, rfl, rfl⟩
  · go_enter Try.func6, Try.ntmps6
    go_wp2
    go_quiet ((fail))
    have H0 : Hid (Below (w.alloc (.cells #[.int .u64 x, .int .u64 y] 49)).heap.size (w.alloc (.cells #[.int .u64 x, .int .u64 y] 49)) ((w.alloc (.cells #[.int .u64 x, .int .u64 y] 49)).drewN nq)) := belowN (Below.refl _ _) _
    generalize (w.alloc (.cells #[.int .u64 x, .int .u64 y] 49)).drewN nq = w0 at *
    go_wp2_with (first
      | (go_at_call_of 8 s; refine (C1.out _).mono ?_; clear C1; rintro e w1 ⟨rfl, hb⟩; have H1 : Hid (Below (w.alloc (.cells #[.int .u64 x, .int .u64 y] 49)).heap.size (w.alloc (.cells #[.int .u64 x, .int .u64 y] 49)) w1) := bel_step H0.out hb; clear hb)
      | (go_at_call_of 8 n; refine (C2.out _).mono ?_; clear C2; rintro e w2 ⟨rfl, hb⟩; have H2 : Hid (Below (w.alloc (.cells #[.int .u64 x, .int .u64 y] 49)).heap.size (w.alloc (.cells #[.int .u64 x, .int .u64 y] 49)) w2) := bel_step H1.out hb; clear hb)
      | (go_at_call 16; refine (C16.out _).mono ?_; clear C16; rintro e w4 ⟨rfl, hb⟩; have H4 : Hid (Below (w.alloc (.cells #[.int .u64 x, .int .u64 y] 49)).heap.size (w.alloc (.cells #[.int .u64 x, .int .u64 y] 49)) w4) := bel_step H2.out hb; clear hb))
    go_ret
    exact ⟨rfl, bel1 H4.out⟩
  · go_enter Try.func6, Try.ntmps6
    go_wp2
    go_quiet ((fail))
    have H0 : Hid (Below (w.alloc (.cells #[.int .u64 x, .int .u64 y] 49)).heap.size (w.alloc (.cells #[.int .u64 x, .int .u64 y] 49)) ((w.alloc (.cells #[.int .u64 x, .int .u64 y] 49)).drewN nq)) := belowN (Below.refl _ _) _
    generalize (w.alloc (.cells #[.int .u64 x, .int .u64 y] 49)).drewN nq = w0 at *
    go_wp2_with (first
      | (go_at_call_of 8 s; refine (C1.out _).mono ?_; clear C1; rintro e w1 ⟨rfl, hb⟩; have H1 : Hid (Below (w.alloc (.cells #[.int .u64 x, .int .u64 y] 49)).heap.size (w.alloc (.cells #[.int .u64 x, .int .u64 y] 49)) w1) := bel_step H0.out hb; clear hb)
      | (go_at_call_of 8 n; refine (C2.out _).mono ?_; clear C2; rintro e w2 ⟨rfl, hb⟩; have H2 : Hid (Below (w.alloc (.cells #[.int .u64 x, .int .u64 y] 49)).heap.size (w.alloc (.cells #[.int .u64 x, .int .u64 y] 49)) w2) := bel_step H1.out hb; clear hb)
      | (go_at_call_of 8 m; refine (C3.out _).mono ?_; clear C3; rintro e w3 ⟨rfl, hb⟩; have H3 : Hid (Below (w.alloc (.cells #[.int .u64 x, .int .u64 y] 49)).heap.size (w.alloc (.cells #[.int .u64 x, .int .u64 y] 49)) w3) := bel_step H2.out hb; clear hb)
      | (go_at_call 16; refine (C16.out _).mono ?_; clear C16; rintro e w4 ⟨rfl, hb⟩; have H4 : Hid (Below (w.alloc (.cells #[.int .u64 x, .int .u64 y] 49)).heap.size (w.alloc (.cells #[.int .u64 x, .int .u64 y] 49)) w4) := bel_step H3.out hb; clear hb))
    go_ret
    exact ⟨rfl, bel1 H4.out⟩
  · go_enter Try.func6, Try.ntmps6
    go_wp2
    go_quiet ((fail))
    have H0 : Hid (Below (w.alloc (.cells #[.int .u64 x, .int .u64 y] 49)).heap.size (w.alloc (.cells #[.int .u64 x, .int .u64 y] 49)) ((w.alloc (.cells #[.int .u64 x, .int .u64 y] 49)).drewN nq)) := belowN (Below.refl _ _) _
    generalize (w.alloc (.cells #[.int .u64 x, .int .u64 y] 49)).drewN nq = w0 at *
    go_wp2_with (first
      | (go_at_call_of 8 s; refine (C1.out _).mono ?_; clear C1; rintro e w1 ⟨rfl, hb⟩; have H1 : Hid (Below (w.alloc (.cells #[.int .u64 x, .int .u64 y] 49)).heap.size (w.alloc (.cells #[.int .u64 x, .int .u64 y] 49)) w1) := bel_step H0.out hb; clear hb)
      | (go_at_call_of 8 n; refine (C2.out _).mono ?_; clear C2; rintro e w2 ⟨rfl, hb⟩; have H2 : Hid (Below (w.alloc (.cells #[.int .u64 x, .int .u64 y] 49)).heap.size (w.alloc (.cells #[.int .u64 x, .int .u64 y] 49)) w2) := bel_step H1.out hb; clear hb)
      | (go_at_call_of 8 m; refine (C3.out _).mono ?_; clear C3; rintro e w3 ⟨rfl, hb⟩; have H3 : Hid (Below (w.alloc (.cells #[.int .u64 x, .int .u64 y] 49)).heap.size (w.alloc (.cells #[.int .u64 x, .int .u64 y] 49)) w3) := bel_step H2.out hb; clear hb)
      | (go_at_call 16; refine (C16.out _).mono ?_; clear C16; rintro e w4 ⟨rfl, hb⟩; have H4 : Hid (Below (w.alloc (.cells #[.int .u64 x, .int .u64 y] 49)).heap.size (w.alloc (.cells #[.int .u64 x, .int .u64 y] 49)) w4) := bel_step H3.out hb; clear hb))
    go_ret
    exact ⟨rfl, bel1 H4.out⟩
end Go.Proofs.Yteafldbmeekpbaa
