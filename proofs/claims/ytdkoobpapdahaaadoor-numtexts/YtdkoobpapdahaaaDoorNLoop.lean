/- The contracts of the loops: tens, Gcd. -/
import Derived.Test.YtdkoobpapdahaaaDoorNArith
namespace Go.Proofs.YtdkoobpapdahaaaDoor
open Go.RowKit
set_option linter.unusedVariables false
set_option maxRecDepth 100000

theorem ten_le : ∀ j : Nat, j ≤ 11 → (10 : Int) ^ j ≤ 100000000000 ∧ 1 ≤ (10 : Int) ^ j := by decide
set_option maxHeartbeats 2000000 in
theorem tens_any (k : Nat) (hk : k ≤ 12) (w : World) : Calls Tryd.prog 46 #[.int .i64 k] w fun e w' => e = .returned (.int .i64 (10 ^ k)) ∧ w' = w := by
  go_enter Tryd.func46, Tryd.ntmps46
  go_wp2
  go_loop [3, 5] (fun p i => ∃ (j : Nat) (P : Int), j ≤ k ∧ i = .int .i64 j ∧ p = .int .i64 P ∧ Hid (P = 10 ^ j)) (fun _ i => k - (intOf i).toNat)
  case atStart => exact ⟨0, 1, Nat.zero_le _, rfl, rfl, rfl⟩
  case round =>
    obtain ⟨j, P, hj, rfl, rfl, hP⟩ := hrel
    by_cases hlt : j < k
    · have hb := ten_le j (by omega)
      have hE : Hid (P * 10 = 10 ^ (j + 1)) := by
        show _ = _
        rw [hP.out, Int.pow_succ]
      rw [← hP.out] at hb
      go_wp2
      go_round
      case rel => exact ⟨j + 1, P * 10, by omega, by go_num, rfl, hE.out⟩
      case measure => simp [intOf]; omega
    · obtain rfl : j = k := by omega
      go_wp2
      go_ret
      exact ⟨by rw [← hP.out]; rfl, rfl⟩

set_option maxHeartbeats 2000000 in
theorem gcd_any (a b : Int) (w : World) : Calls Tryd.prog 34 #[.int .i64 a, .int .i64 b] w fun e w' => e = .returned (.int .i64 (gcdF a b)) ∧ Below w.heap.size w w' := by
  cases hg : (gd a && gd b)
  · rw [show gcdF a b = 0 by simp [gcdF, hg]]
    go_enter Tryd.func34, Tryd.ntmps34
    go_wp2_with (go_at_call 55; refine (good2_any _ _ _).mono ?_; rintro e w' ⟨rfl, hw⟩; obtain rfl := hw.symm; clear hw; rw [hg])
    go_ret
    exact ⟨rfl, Below.refl _ _⟩
  · have hab := (gd2_iff a b).1 hg
    rw [show gcdF a b = (Int.gcd a b : Int) by simp [gcdF, hg]]
    go_enter Tryd.func34, Tryd.ntmps34
    go_wp2_with (go_at_call 55; refine (good2_any _ _ _).mono ?_; rintro e w' ⟨rfl, hw⟩; obtain rfl := hw.symm; clear hw; rw [hg])
    go_loopw [0, 1] (fun x y wr => ∃ A B : Int, x = .int .i64 A ∧ y = .int .i64 B ∧ (-100000000000 ≤ A ∧ A ≤ 100000000000) ∧ (-100000000000 ≤ B ∧ B ≤ 100000000000) ∧ Hid (Int.gcd A B = Int.gcd a b ∧ Below w.heap.size w wr)) (fun _ y _ => (intOf y).natAbs)
    case atStart => exact ⟨a, b, rfl, rfl, hab.1, hab.2, rfl, Below.refl _ _⟩
    case round =>
      obtain ⟨A, B, rfl, rfl, hA, hB, hH⟩ := hrel
      by_cases hz : B = 0
      · subst hz
        have hE : Hid ((Int.gcd a b : Int) = absI A) := by
          show _ = _
          rw [← hH.out.1, Int.gcd_zero_right]
          unfold absI
          split <;> omega
        go_wp2_with (go_at_call 52; refine (size_any _ (by omega) (by omega) _).mono ?_; rintro e w' ⟨rfl, hw⟩; obtain rfl := hw.symm; clear hw)
        go_ret
        exact ⟨by rw [hE.out]; rfl, hH.out.2⟩
      · have hz' : (B != 0) = true := by simpa using hz
        have tb := tmod_between A B hz
        have eb : absI B = B ∧ 0 ≤ B ∨ absI B = -B ∧ B < 0 := by unfold absI; split <;> omega
        go_wp2
        go_region
        go_wp2
        go_roundw
        case rel => exact ⟨B, A.tmod B, rfl, rfl, by omega, by omega, (gcd_step A B).trans hH.out.1, hH.out.2.drew⟩
        case measure => simp only [intOf]; omega
set_option maxHeartbeats 2000000 in
theorem rgcd_any (a b : Int) (w : World) : Calls Tryd.prog 35 #[.int .i64 a, .int .i64 b] w fun e w' => e = .returned (.int .i64 (gcdF a b)) ∧ Below w.heap.size w w' := by
  cases hg : (gd a && gd b)
  · rw [show gcdF a b = 0 by simp [gcdF, hg]]
    cases ha : gd a
    · go_enter Tryd.func35, Tryd.ntmps35
      go_wp2_with (go_at_call 14; refine (rgood_any _ _).mono ?_; rintro e w' ⟨rfl, hw⟩; obtain rfl := hw.symm; clear hw; rw [ha])
      go_ret
      exact ⟨rfl, Below.refl _ _⟩
    · have hb : gd b = false := by rw [ha] at hg; simpa using hg
      go_enter Tryd.func35, Tryd.ntmps35
      go_wp2_with (go_at_call 14; refine (rgood_any _ _).mono ?_; rintro e w' ⟨rfl, hw⟩; obtain rfl := hw.symm; clear hw; first | rw [ha] | rw [hb])
      go_ret
      exact ⟨rfl, Below.refl _ _⟩
  · have hab := (gd2_iff a b).1 hg
    have ha : gd a = true := (Bool.and_eq_true _ _ ▸ hg).1
    have hb : gd b = true := (Bool.and_eq_true _ _ ▸ hg).2
    rw [show gcdF a b = (Int.gcd a b : Int) by simp [gcdF, hg]]
    have bx := abs_bounds a ha
    have b_y := abs_bounds b hb
    go_enter Tryd.func35, Tryd.ntmps35
    go_wp2_with (first
      | (go_at_call 14; refine (rgood_any _ _).mono ?_; rintro e w' ⟨rfl, hw⟩; obtain rfl := hw.symm; clear hw; first | rw [ha] | rw [hb])
      | (go_at_call 57; refine (abs_any _ (by omega) (by omega) _).mono ?_; rintro e w' ⟨rfl, hw⟩; obtain rfl := hw.symm; clear hw))
    go_loopw [0, 1] (fun x y wr => ∃ A B : Int, x = .int .i64 A ∧ y = .int .i64 B ∧ (0 ≤ A ∧ A ≤ 100000000000) ∧ (0 ≤ B ∧ B ≤ 100000000000) ∧ Hid (Int.gcd A B = Int.gcd a b ∧ Below w.heap.size w wr)) (fun _ y _ => (intOf y).natAbs)
    case atStart => exact ⟨absI a, absI b, rfl, rfl, bx, b_y, gcd_abs a b, Below.refl _ _⟩
    case round =>
      obtain ⟨A, B, rfl, rfl, hA, hB, hH⟩ := hrel
      by_cases hz : B = 0
      · subst hz
        have hE : Hid ((Int.gcd a b : Int) = A) := by
          show _ = _
          rw [← hH.out.1, Int.gcd_zero_right]
          omega
        go_wp2
        go_ret
        exact ⟨by rw [hE.out]; rfl, hH.out.2⟩
      · have hz' : 0 < B := by omega
        have t1 := Int.emod_nonneg A (b := B) (by omega)
        have t2 := Int.emod_lt_of_pos A (b := B) (by omega)
        have hE : Hid (Int.gcd B (A % B) = Int.gcd a b) := by
          have := gcd_step A B
          rw [Int.tmod_eq_emod_of_nonneg hA.1] at this
          exact this.trans hH.out.1
        go_wp2
        go_region
        go_wp2
        go_roundw
        case rel => exact ⟨B, A % B, rfl, rfl, by omega, by omega, hE.out, hH.out.2.drew⟩
        case measure => simp only [intOf]; omega
end Go.Proofs.YtdkoobpapdahaaaDoor
