/- The contracts of Sqrt, of num and of the reference. -/
import Derived.Test.YtdkoobpapdahaaaDoorNRComb
namespace Go.Proofs.YtdkoobpapdahaaaDoor
open Go.RowKit
set_option linter.unusedVariables false
set_option maxRecDepth 100000

set_option maxHeartbeats 2000000 in
theorem sqrt_any (n : Int) (w : World) : Calls Tryd.prog 20 #[.int .i64 n] w fun e w' => e = .returned (two (sqrtF n)) ∧ w' = w := by
  cases hg : gd n
  · rw [show sqrtF n = (0, false) by simp [sqrtF, hg]]
    unfold two
    go_enter Tryd.func20, Tryd.ntmps20
    go_wp2_with (go_at_call 13; refine (good_any _ _).mono ?_; rintro e w' ⟨rfl, hw⟩; obtain rfl := hw.symm; clear hw; rw [hg])
    go_ret2
    exact ⟨rfl, rfl⟩
  have hn := (gd_iff n).1 hg
  by_cases hneg : n < 0
  · rw [show sqrtF n = (0, false) by simp [sqrtF, show ¬ 0 ≤ n by omega]]
    unfold two
    go_enter Tryd.func20, Tryd.ntmps20
    go_wp2_with (go_at_call 13; refine (good_any _ _).mono ?_; rintro e w' ⟨rfl, hw⟩; obtain rfl := hw.symm; clear hw; rw [hg])
    go_ret2
    exact ⟨rfl, rfl⟩
  · rw [show sqrtF n = (sqrtL (n * 10000) 25 0, true) by simp [sqrtF, hg, show 0 ≤ n by omega]]
    generalize hr : sqrtL (n * 10000) 25 0 = r
    have hr' : Hid (sqrtL (n * 10000) 25 0 = r) := hr
    clear hr
    go_enter Tryd.func20, Tryd.ntmps20
    go_wp2_with (go_at_call 13; refine (good_any _ _).mono ?_; rintro e w' ⟨rfl, hw⟩; obtain rfl := hw.symm; clear hw; rw [hg])
    go_loop [4, 5] (fun p i => ∃ (k : Nat) (R : Int), p = .int .i64 R ∧ i = .int .i64 ((k : Int) - 1) ∧ k ≤ 25 ∧ Hid (0 ≤ R ∧ R + 2 ^ k ≤ 33554432 ∧ sqrtL (n * 10000) k R = r)) (fun _ i => (intOf i + 1).toNat)
    case atStart => exact ⟨25, 0, rfl, rfl, by omega, by omega, by decide, hr'⟩
    case round =>
      obtain ⟨k, R, rfl, rfl, hk, hH⟩ := hrel
      by_cases hk0 : k = 0
      · subst hk0
        have hE : Hid (r = R) := hH.out.2.2.symm
        go_wp2
        go_ret2
        exact ⟨by rw [hE.out]; rfl, rfl⟩
      · obtain ⟨j, rfl⟩ : ∃ j, k = j + 1 := ⟨k - 1, by omega⟩
        have ej : ((j + 1 : Nat) : Int) - 1 = j := by omega
        have hg0 : (0 : Int) ≤ (j : Int) := by omega
        obtain ⟨T, hT⟩ : ∃ T : Int, (2 : Int) ^ j = T := ⟨_, rfl⟩
        have e2 : (2 : Int) ^ (j + 1) = T + T := by rw [Int.pow_succ, hT]; omega
        have hT1 : 1 ≤ T := by rw [← hT]; exact Int.pow_pos (by decide)
        have hR := hH.out.1
        have hRT : R + (T + T) ≤ 33554432 := by rw [← e2]; exact hH.out.2.1
        have hS : Hid ((R + T) * (R + T) ≤ n * 10000 → sqrtL (n * 10000) j (R + T) = r) := fun h => by
          have := hH.out.2.2
          unfold sqrtL at this
          rw [hT, if_pos h] at this
          exact this
        have hS2 : Hid (¬ (R + T) * (R + T) ≤ n * 10000 → sqrtL (n * 10000) j R = r) := fun h => by
          have := hH.out.2.2
          unfold sqrtL at this
          rw [hT, if_neg h] at this
          exact this
        have hp : (R + T) * (R + T) ≤ 33554432 * 33554432 := Int.mul_le_mul (by omega) (by omega) (by omega) (by omega)
        have hp0 : 0 ≤ (R + T) * (R + T) := Int.mul_nonneg (by omega) (by omega)
        clear e2 hH
        by_cases hle : (R + T) * (R + T) ≤ n * 10000
        · go_wp2
          go_round
          case rel => exact ⟨j, R + T, rfl, by go_num, by omega, by omega, by rw [hT]; omega, hS.out hle⟩
          case measure => simp [intOf]
        · go_wp2
          go_round
          case rel => exact ⟨j, R, rfl, by go_num, by omega, by omega, by rw [hT]; omega, hS2.out hle⟩
          case measure => simp [intOf]
set_option maxHeartbeats 2000000 in
theorem rsqrt_any (n : Int) (w : World) : Calls Tryd.prog 38 #[.int .i64 n] w fun e w' => e = .returned (two (sqrtF n)) ∧ w' = w := by
  cases hg : gd n
  · rw [show sqrtF n = (0, false) by simp [sqrtF, hg]]
    unfold two
    go_enter Tryd.func38, Tryd.ntmps38
    go_wp2_with (go_at_call 14; refine (rgood_any _ _).mono ?_; rintro e w' ⟨rfl, hw⟩; obtain rfl := hw.symm; clear hw; rw [hg])
    go_ret2
    exact ⟨rfl, rfl⟩
  have hn := (gd_iff n).1 hg
  by_cases hneg : n < 0
  · rw [show sqrtF n = (0, false) by simp [sqrtF, show ¬ 0 ≤ n by omega]]
    unfold two
    go_enter Tryd.func38, Tryd.ntmps38
    go_wp2_with (go_at_call 14; refine (rgood_any _ _).mono ?_; rintro e w' ⟨rfl, hw⟩; obtain rfl := hw.symm; clear hw; rw [hg])
    go_ret2
    exact ⟨rfl, rfl⟩
  · rw [show sqrtF n = (sqrtL (n * 10000) 25 0, true) by simp [sqrtF, hg, show 0 ≤ n by omega]]
    generalize hr : sqrtL (n * 10000) 25 0 = r
    have hr' : Hid (sqrtL (n * 10000) 26 0 = r) := by
      show _ = _
      rw [← hr]
      conv => lhs; unfold sqrtL
      rw [if_neg (by rw [show ((0 : Int) + 2 ^ 25) * (0 + 2 ^ 25) = 1125899906842624 by decide]; omega)]
    clear hr
    go_enter Tryd.func38, Tryd.ntmps38
    go_wp2_with (go_at_call 14; refine (rgood_any _ _).mono ?_; rintro e w' ⟨rfl, hw⟩; obtain rfl := hw.symm; clear hw; rw [hg])
    go_loop [4, 5] (fun p i => ∃ (k : Nat) (R : Int), p = .int .i64 R ∧ i = .int .i64 ((k : Int) - 1) ∧ k ≤ 26 ∧ Hid (0 ≤ R ∧ R + 2 ^ k ≤ 67108864 ∧ sqrtL (n * 10000) k R = r)) (fun _ i => (intOf i + 1).toNat)
    case atStart => exact ⟨26, 0, rfl, rfl, by omega, by omega, by decide, hr'.out⟩
    case round =>
      obtain ⟨k, R, rfl, rfl, hk, hH⟩ := hrel
      by_cases hk0 : k = 0
      · subst hk0
        have hE : Hid (r = R) := hH.out.2.2.symm
        go_wp2
        go_ret2
        exact ⟨by rw [hE.out]; rfl, rfl⟩
      · obtain ⟨j, rfl⟩ : ∃ j, k = j + 1 := ⟨k - 1, by omega⟩
        have ej : ((j + 1 : Nat) : Int) - 1 = j := by omega
        have hg0 : (0 : Int) ≤ (j : Int) := by omega
        obtain ⟨T, hT⟩ : ∃ T : Int, (2 : Int) ^ j = T := ⟨_, rfl⟩
        have e2 : (2 : Int) ^ (j + 1) = T + T := by rw [Int.pow_succ, hT]; omega
        have hT1 : 1 ≤ T := by rw [← hT]; exact Int.pow_pos (by decide)
        have hR := hH.out.1
        have hRT : R + (T + T) ≤ 67108864 := by rw [← e2]; exact hH.out.2.1
        have hS : Hid ((R + T) * (R + T) ≤ n * 10000 → sqrtL (n * 10000) j (R + T) = r) := fun h => by
          have := hH.out.2.2
          unfold sqrtL at this
          rw [hT, if_pos h] at this
          exact this
        have hS2 : Hid (¬ (R + T) * (R + T) ≤ n * 10000 → sqrtL (n * 10000) j R = r) := fun h => by
          have := hH.out.2.2
          unfold sqrtL at this
          rw [hT, if_neg h] at this
          exact this
        have hp : (R + T) * (R + T) ≤ 67108864 * 67108864 := Int.mul_le_mul (by omega) (by omega) (by omega) (by omega)
        have hp0 : 0 ≤ (R + T) * (R + T) := Int.mul_nonneg (by omega) (by omega)
        clear e2 hH
        by_cases hle : (R + T) * (R + T) ≤ n * 10000
        · go_wp2
          go_round
          case rel => exact ⟨j, R + T, rfl, by go_num, by omega, by omega, by rw [hT]; omega, hS.out hle⟩
          case measure => simp [intOf]
        · go_wp2
          go_round
          case rel => exact ⟨j, R, rfl, by go_num, by omega, by omega, by rw [hT]; omega, hS2.out hle⟩
          case measure => simp [intOf]
end Go.Proofs.YtdkoobpapdahaaaDoor
