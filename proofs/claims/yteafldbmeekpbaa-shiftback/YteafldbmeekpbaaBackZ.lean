/- The walk of the law ShiftBack, whatever is handed in. -/
import Derived.Test.YteafldbmeekpbaaBackV
namespace Go.Proofs.Yteafldbmeekpbaa
open Go.RowKit
set_option maxRecDepth 100000
set_option linter.unusedVariables false
theorem back_walk (a n m p q : Int) (hp : 0 ≤ p ∧ p < 18446744073709551616) (hq : 0 ≤ q ∧ q < 18446744073709551616) (w : World) :
    Calls Try.prog 5 #[shV a n m, .int .u64 p, .int .u64 q] w fun e w' => e = .returned (.bool true) ∧ Below w.heap.size w w' := by
  cases hg : goodB a n m
  · exact back_bad a n m p q hg w
  have hb := good_bd hg
  have C12 : Hid (∀ u, Calls Try.prog 12 #[shV a n m] u fun e w' => e = .returned (.bool true) ∧ Below u.heap.size u w') := fun u => by have := good_any a n m u; rw [hg] at this; exact this
  have C14 : Hid (∀ u, Calls Try.prog 14 #[shV a n m] u fun e w' => e = .returned (shV a (-n) m) ∧ Below u.heap.size u w') := fun u => by
    have := back_any a n m u
    rw [show bkA a n m = a by unfold bkA; rw [hg]; rfl, show bkN a n m = -n by unfold bkN; rw [hg]; rfl, show bkM a n m = m by unfold bkM; rw [hg]; rfl] at this
    exact this
  have main : ∀ (lo hi q0 r0 : Int), 0 ≤ q0 → q0 < m → 0 ≤ r0 → r0 < m → 1 + q0 = lo → 1 + r0 = hi → (p % m = q0 ∧ q % m = r0 ∧ lo ≤ hi) ∨ (q % m = q0 ∧ p % m = r0 ∧ lo < hi) →
      Calls Try.prog 5 #[shV a n m, .int .u64 p, .int .u64 q] w fun e w' => e = .returned (.bool true) ∧ Below w.heap.size w w' := by
    intro lo hi q0 r0 b1 b2 b3 b4 hlo hhi hc
    have hle : lo ≤ hi := by rcases hc with h | h <;> omega
    obtain ⟨k1, k2, k3, k4, k5⟩ := back_core hg (by omega : 1 ≤ lo) hle (by omega : hi ≤ m)
    have C1 : Hid (∀ u, Calls Try.prog 8 #[shV a n m, .int .i64 lo] u _) := fun u => pos_any a n m lo u
    have C2 : Hid (∀ u, Calls Try.prog 8 #[shV a n m, .int .i64 hi] u _) := fun u => pos_any a n m hi u
    have C10 : Hid (∀ u, Calls Try.prog 10 #[shV a n m, .int .i64 lo, .int .i64 hi] u _) := fun u => span_any a n m lo hi u
    have C3 : posB a n m lo = true → Hid (∀ u, Calls Try.prog 8 #[shV a (-n) m, .int .i64 (posF a n m lo)] u fun e w' => e = .returned (.tuple #[.int .i64 lo, .bool true]) ∧ Below u.heap.size u w') := fun h u => by
      have := pos_any a (-n) m (posF a n m lo) u
      rw [(k2 h).2.2.2.1, (k2 h).2.2.2.2] at this
      exact this
    generalize hx : posF a n m lo = x at *
    generalize ht1 : posB a n m lo = t1 at *
    generalize hy : posF a n m hi = y at *
    generalize ht2 : posB a n m hi = t2 at *
    generalize hl : spL a n m lo hi = sl at *
    generalize hh : spH a n m lo hi = sh at *
    generalize ht3 : spB a n m lo hi = t3 at *
    cases t1
    · have dummy : Hid (∀ u, Calls Try.prog 8 #[shV a (-n) m, .int .i64 0] u fun e w' => True) := fun u => (pos_any a (-n) m 0 u).mono fun _ _ _ => trivial
      cases t2
      · cases t3
        · rcases hc with ⟨c1, c2, c3⟩ | ⟨c1, c2, c3⟩
          · exact back_fff0 a n m p q lo hi q0 r0 x y sl sh (by omega) (by omega) hp.1 hp.2 hq.1 hq.2 c1 c2 hlo hhi b1 b2 b3 b4 c3 w C12 C1 C2 C14 C10
          · exact back_fff1 a n m p q lo hi q0 r0 x y sl sh (by omega) (by omega) hp.1 hp.2 hq.1 hq.2 c1 c2 hlo hhi b1 b2 b3 b4 c3 w C12 C1 C2 C14 C10
        · obtain ⟨f5, f6, f7⟩ := k5 rfl
          rcases hc with ⟨c1, c2, c3⟩ | ⟨c1, c2, c3⟩
          · exact back_fft0 a n m p q lo hi q0 r0 x y sl sh (by omega) (by omega) hp.1 hp.2 hq.1 hq.2 c1 c2 hlo hhi b1 b2 b3 b4 c3 f5 f6 f7 w C12 C1 C2 C14 C10
          · exact back_fft1 a n m p q lo hi q0 r0 x y sl sh (by omega) (by omega) hp.1 hp.2 hq.1 hq.2 c1 c2 hlo hhi b1 b2 b3 b4 c3 f5 f6 f7 w C12 C1 C2 C14 C10
      · obtain ⟨rfl, f4⟩ := k4 rfl
        obtain ⟨f5, f6, f7⟩ := k5 rfl
        rcases hc with ⟨c1, c2, c3⟩ | ⟨c1, c2, c3⟩
        · exact back_ft0 a n m p q lo hi q0 r0 x y sl sh (by omega) (by omega) hp.1 hp.2 hq.1 hq.2 c1 c2 hlo hhi b1 b2 b3 b4 c3 f4 f5 f6 f7 w C12 C1 C2 C14 C10
        · exact back_ft1 a n m p q lo hi q0 r0 x y sl sh (by omega) (by omega) hp.1 hp.2 hq.1 hq.2 c1 c2 hlo hhi b1 b2 b3 b4 c3 f4 f5 f6 f7 w C12 C1 C2 C14 C10
    · obtain ⟨rfl, f3⟩ := k3 rfl
      obtain ⟨f5, f6, f7⟩ := k5 rfl
      cases t2
      · rcases hc with ⟨c1, c2, c3⟩ | ⟨c1, c2, c3⟩
        · exact back_tf0 a n m p q lo hi q0 r0 x y sl sh (by omega) (by omega) hp.1 hp.2 hq.1 hq.2 c1 c2 hlo hhi b1 b2 b3 b4 c3 f3 f5 f6 f7 w C12 C1 C2 C14 (C3 rfl) C10
        · exact back_tf1 a n m p q lo hi q0 r0 x y sl sh (by omega) (by omega) hp.1 hp.2 hq.1 hq.2 c1 c2 hlo hhi b1 b2 b3 b4 c3 f3 f5 f6 f7 w C12 C1 C2 C14 (C3 rfl) C10
      · obtain ⟨f1, f2⟩ := k1 rfl rfl
        obtain ⟨_, f4⟩ := k4 rfl
        rcases hc with ⟨c1, c2, c3⟩ | ⟨c1, c2, c3⟩
        · exact back_tt0 a n m p q lo hi q0 r0 x y sl sh (by omega) (by omega) hp.1 hp.2 hq.1 hq.2 c1 c2 hlo hhi b1 b2 b3 b4 c3 f1 f2 f3 f4 f5 f6 f7 w C12 C1 C2 C14 (C3 rfl) C10
        · exact back_tt1 a n m p q lo hi q0 r0 x y sl sh (by omega) (by omega) hp.1 hp.2 hq.1 hq.2 c1 c2 hlo hhi b1 b2 b3 b4 c3 f1 f2 f3 f4 f5 f6 f7 w C12 C1 C2 C14 (C3 rfl) C10
  have m0 : m ≠ 0 := by omega
  have u1 := Int.emod_nonneg p m0
  have u2 := Int.emod_lt_of_pos p (by omega : 0 < m)
  have v1 := Int.emod_nonneg q m0
  have v2 := Int.emod_lt_of_pos q (by omega : 0 < m)
  by_cases hc : p % m ≤ q % m
  · exact main _ _ (p % m) (q % m) u1 u2 v1 v2 rfl rfl (.inl ⟨rfl, rfl, by omega⟩)
  · exact main _ _ (q % m) (p % m) v1 v2 u1 u2 rfl rfl (.inr ⟨rfl, rfl, by omega⟩)
end Go.Proofs.Yteafldbmeekpbaa
