/- The contracts of Fact and Comb, of num and of the reference. -/
import Derived.Test.YtdkoobpapdahaaaDoorNLoop
namespace Go.Proofs.YtdkoobpapdahaaaDoor
open Go.RowKit
set_option linter.unusedVariables false
set_option maxRecDepth 100000

theorem fc_b1 : ∀ i : Nat, i < 13 → 2 ≤ i → fc i = fc (i - 1) * i ∧ 1 ≤ fc (i - 1) ∧ fc (i - 1) ≤ 39916800 := by decide
theorem fc_b2 : ∀ i : Nat, i < 12 → 2 ≤ i → fc (i - 1) ≤ 3628800 ∧ fc (i - 1) * i ≤ 39916800 ∧ 1 ≤ fc (i - 1) * i := by decide
theorem fc_b3 : ∀ i : Nat, i < 11 → 2 ≤ i → fc (i - 1) * 10000 ≤ 100000000000 / i ∧ fc (i - 1) * i ≤ 3628800 := by decide
theorem fc_bounds (i : Nat) (h : i < 13) (h2 : 2 ≤ i) : fc i = fc (i - 1) * i ∧ 1 ≤ fc (i - 1) ∧ fc (i - 1) ≤ 39916800 ∧ (i ≤ 11 → fc (i - 1) ≤ 3628800 ∧ fc (i - 1) * i ≤ 39916800 ∧ 1 ≤ fc (i - 1) * i) ∧ (12 ≤ i → fc (i - 1) = 39916800) ∧ (i ≤ 10 → fc (i - 1) * 10000 ≤ 100000000000 / i ∧ fc (i - 1) * i ≤ 3628800) ∧ (i = 11 → fc (i - 1) = 3628800) := by
  obtain ⟨a, b, c⟩ := fc_b1 i h h2
  refine ⟨a, b, c, fun g => fc_b2 i (by omega) h2, fun g => ?_, fun g => fc_b3 i (by omega) h2, fun g => ?_⟩
  · obtain rfl : i = 12 := by omega
    decide
  · subst g
    decide

theorem fact_end (K i : Nat) (h : K < i) (h2 : i ≤ K + 1 ∨ i = 2) (h3 : 2 ≤ i) (h4 : i ≤ 12) : fc (min K 11) = fc (i - 1) := by
  have : K = i - 1 ∨ (i = 2 ∧ K = 0) := by omega
  rcases this with rfl | ⟨rfl, rfl⟩
  · rw [Nat.min_eq_left (by omega)]
  · decide

set_option maxHeartbeats 2000000 in
theorem fact_any (k : Int) (h1 : k ≤ 9223372036854775807) (w : World) : Calls Tryd.prog 41 #[.int .i64 k] w fun e w' => e = .returned (two (factF k)) ∧ w' = w := by
  by_cases hneg : k < 0
  · rw [show factF k = (0, false) from if_pos hneg]
    unfold two
    go_enter Tryd.func41, Tryd.ntmps41
    go_wp2
    go_ret2
    exact ⟨rfl, rfl⟩
  · rw [show factF k = ans (fc (min k.toNat 11) * 10000) from if_neg hneg]
    obtain ⟨K, rfl⟩ : ∃ K : Nat, k = K := ⟨k.toNat, by omega⟩
    rw [Int.toNat_natCast]
    go_enter Tryd.func41, Tryd.ntmps41
    go_wp2
    go_loop [4, 5] (fun p i => ∃ (j : Nat) (N : Int), p = .int .i64 N ∧ i = .int .i64 j ∧ 2 ≤ j ∧ j ≤ 12 ∧ Hid ((j ≤ K + 1 ∨ j = 2) ∧ N = fc (j - 1))) (fun _ i => 13 - (intOf i).toNat)
    case atStart => exact ⟨2, 1, rfl, rfl, by omega, by omega, .inr rfl, by decide⟩
    case round =>
      obtain ⟨j, N, rfl, rfl, h2, h12, hH⟩ := hrel
      have fb := fc_bounds j (by omega) h2
      rw [← hH.out.2] at fb
      by_cases hgo : j ≤ K ∧ j ≤ 11
      · have hb1 := fb.2.2.2.1 hgo.2
        have hE : Hid (N * j = fc j) := fb.1.symm
        clear fb
        have hc1 : (j : Int) ≤ (K : Int) := by omega
        have hc2 : N ≤ 10000000 := by omega
        go_wp2
        go_round
        case rel => exact ⟨j + 1, N * j, rfl, by go_num, by omega, by omega, .inl (by omega), by rw [hE.out]; rfl⟩
        case measure => simp [intOf]; omega
      · have hE : Hid (fc (min K 11) = N) := by
          show _ = _
          rw [hH.out.2]
          by_cases hk : j ≤ K
          · rw [show j = 12 by omega, Nat.min_eq_right (by omega)]
          · exact fact_end K j (by omega) hH.out.1 h2 h12
        have hb1 : 1 ≤ N ∧ N ≤ 39916800 := ⟨fb.2.1, fb.2.2.1⟩
        by_cases hk : j ≤ K
        · have hb2 := fb.2.2.2.2.1 (by omega)
          clear fb
          subst hb2
          have hc1 : (j : Int) ≤ (K : Int) := by omega
          go_wp2_with (go_at_call 47; refine (answer_any _ _).mono ?_; rintro e w' ⟨rfl, hw⟩; obtain rfl := hw.symm; clear hw; unfold two)
          go_ret2
          exact ⟨by rw [hE.out]; rfl, rfl⟩
        · clear fb
          have hc1 : ¬ (j : Int) ≤ (K : Int) := by omega
          go_wp2_with (go_at_call 47; refine (answer_any _ _).mono ?_; rintro e w' ⟨rfl, hw⟩; obtain rfl := hw.symm; clear hw; unfold two)
          go_ret2
          exact ⟨by rw [hE.out]; rfl, rfl⟩

set_option maxHeartbeats 2000000 in
theorem rfact_any (k : Int) (h1 : k ≤ 9223372036854775807) (w : World) : Calls Tryd.prog 42 #[.int .i64 k] w fun e w' => e = .returned (two (factF k)) ∧ w' = w := by
  by_cases hneg : k < 0
  · rw [show factF k = (0, false) from if_pos hneg]
    unfold two
    go_enter Tryd.func42, Tryd.ntmps42
    go_wp2
    go_ret2
    exact ⟨rfl, rfl⟩
  · rw [show factF k = ans (fc (min k.toNat 11) * 10000) from if_neg hneg]
    obtain ⟨K, rfl⟩ : ∃ K : Nat, k = K := ⟨k.toNat, by omega⟩
    rw [Int.toNat_natCast]
    by_cases h20 : 20 < K
    · rw [show ans (fc (min K 11) * 10000) = (0, false) by rw [Nat.min_eq_right (by omega)]; decide]
      unfold two
      go_enter Tryd.func42, Tryd.ntmps42
      go_wp2
      go_ret2
      exact ⟨rfl, rfl⟩
    · go_enter Tryd.func42, Tryd.ntmps42
      go_wp2
      go_loop [4, 5] (fun p i => ∃ (j : Nat) (N : Int), p = .int .i64 (N * 10000) ∧ i = .int .i64 j ∧ 2 ≤ j ∧ j ≤ 11 ∧ Hid ((j ≤ K + 1 ∨ j = 2) ∧ N = fc (j - 1))) (fun _ i => 13 - (intOf i).toNat)
      case atStart => exact ⟨2, 1, rfl, rfl, by omega, by omega, .inr rfl, by decide⟩
      case round =>
        obtain ⟨j, N, rfl, rfl, h2, h12, hH⟩ := hrel
        have fb := fc_bounds j (by omega) h2
        rw [← hH.out.2] at fb
        by_cases hgo : j ≤ K
        · have hc1 : (j : Int) ≤ (K : Int) := by omega
          by_cases h11 : j = 11
          · have hN := fb.2.2.2.2.2.2 h11
            clear fb
            subst h11 hN
            have hA : Hid (ans (fc 11 * 10000) = (0, false)) := by
              show _ = _
              decide
            go_wp2
            go_ret2
            exact ⟨by rw [hA.out]; rfl, rfl⟩
          · have hb1 := fb.2.2.2.2.2.1 (by omega)
            have hb2 := fb.2.2.2.1 (by omega)
            have hb3 := fb.2.1
            have hE : Hid (N * j = fc j) := fb.1.symm
            clear fb
            have hm : N * 10000 * (j : Int) = N * (j : Int) * 10000 := by rw [Int.mul_assoc, Int.mul_comm 10000, ← Int.mul_assoc]
            have hc3 : ¬ 100000000000 / (j : Int) < N * 10000 := by omega
            have hj0 : ¬ (j : Int) = 0 := by omega
            have hd : (100000000000 : Int) / (j : Int) ≤ 100000000000 ∧ 0 ≤ (100000000000 : Int) / (j : Int) := (ediv_own 100000000000 j (by omega) (by omega)).symm
            go_wp2
            go_round
            case rel => exact ⟨j + 1, N * j, rfl, by go_num, by omega, by omega, .inl (by omega), by rw [hE.out]; rfl⟩
            case measure => simp [intOf]; omega
        · have hc1 : ¬ (j : Int) ≤ (K : Int) := by omega
          have hE : Hid (fc (min K 11) = N) := by
            show _ = _
            rw [hH.out.2]
            exact fact_end K j (by omega) hH.out.1 h2 (by omega)
          have hb2 := fb.2.2.2.1 (by omega)
          have hb3 := fb.2.1
          clear fb
          have hA : Hid (ans (fc (min K 11) * 10000) = (N * 10000, true)) := by
            show _ = _
            rw [hE.out, ans_of _ (by omega)]
          go_wp2
          go_ret2
          exact ⟨by rw [hA.out]; rfl, rfl⟩
end Go.Proofs.YtdkoobpapdahaaaDoor
