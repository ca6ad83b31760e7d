/- The contracts of Fact and Comb, of num and of the reference. -/
import Derived.Test.YtdkoobpapdahaabDoorNLoop
namespace Go.Proofs.YtdkoobpapdahaabDoor
open Go.RowKit
set_option linter.unusedVariables false
set_option maxRecDepth 100000

theorem fc_b1 : ∀ i : Nat, i < 13 → 2 ≤ i → fc i = fc (i - 1) * i ∧ 1 ≤ fc (i - 1) ∧ fc (i - 1) ≤ 39916800 := by decide
theorem fc_b2 : ∀ i : Nat, i < 12 → 2 ≤ i → fc (i - 1) ≤ 3628800 ∧ fc (i - 1) * i ≤ 39916800 ∧ 1 ≤ fc (i - 1) * i := by decide
theorem fc_b3 : ∀ i : Nat, i < 11 → 2 ≤ i → fc (i - 1) * 10000 ≤ 100000000000 / i ∧ fc (i - 1) * i ≤ 3628800 := by decide
theorem fc_bounds (i : Nat) (h : i < 13) (h2 : 2 ≤ i) : fc i = fc (i - 1) * i ∧ 1 ≤ fc (i - 1) ∧ fc (i - 1) ≤ 39916800 ∧ (i ≤ 11 → fc (i - 1) ≤ 3628800 ∧ fc (i - 1) * i ≤ 39916800 ∧ 1 ≤ fc (i - 1) * i) ∧ (12 ≤ i → fc (i - 1) = 39916800) ∧ (i ≤ 10 → fc (i - 1) * 10000 ≤ 100000000000 / i ∧ fc (i - 1) * i ≤ 3628800) ∧ (i = 11 → fc (i - 1) = 3628800) := by
  obtain ⟨a, b, c⟩ := fc_b1 i h h2
  refine ⟨a, b, c, fun g => fc_b2 i (by omega) h2, fun g => ?_, fun g => fc_b3 i (by omega) h2, fun g => ?_⟩
  · obtain rfl : i = 12 := by omega
    decide
  · subst g
    decide

theorem fact_end (K i : Nat) (h : K < i) (h2 : i ≤ K + 1 ∨ i = 2) (h3 : 2 ≤ i) (h4 : i ≤ 12) : fc (min K 11) = fc (i - 1) := by
  have : K = i - 1 ∨ (i = 2 ∧ K = 0) := by omega
  rcases this with rfl | ⟨rfl, rfl⟩
  · rw [Nat.min_eq_left (by omega)]
  · decide

set_option maxHeartbeats 2000000 in
theorem fact_any (k : Int) (h1 : k ≤ 9223372036854775807) (w : World) : Calls Tryd.prog 9 #[.int .i64 k] w fun e w' => e = .returned (two (factF k)) ∧ w' = w := by
  by_cases hneg : k < 0
  · rw [show factF k = (0, false) from if_pos hneg]
    unfold two
    go_enter Tryd.func9, Tryd.ntmps9
    go_wp2
    go_ret2
    exact ⟨rfl, rfl⟩
  · rw [show factF k = ans (fc (min k.toNat 11) * 10000) from if_neg hneg]
    obtain ⟨K, rfl⟩ : ∃ K : Nat, k = K := ⟨k.toNat, by omega⟩
    rw [Int.toNat_natCast]
    go_enter Tryd.func9, Tryd.ntmps9
    go_wp2
    go_loop [4, 5] (fun p i => ∃ (j : Nat) (N : Int), p = .int .i64 N ∧ i = .int .i64 j ∧ 2 ≤ j ∧ j ≤ 12 ∧ Hid ((j ≤ K + 1 ∨ j = 2) ∧ N = fc (j - 1))) (fun _ i => 13 - (intOf i).toNat)
    case atStart => exact ⟨2, 1, rfl, rfl, by omega, by omega, .inr rfl, by decide⟩
    case round =>
      obtain ⟨j, N, rfl, rfl, h2, h12, hH⟩ := hrel
      have fb := fc_bounds j (by omega) h2
      rw [← hH.out.2] at fb
      by_cases hgo : j ≤ K ∧ j ≤ 11
      · have hb1 := fb.2.2.2.1 hgo.2
        have hE : Hid (N * j = fc j) := fb.1.symm
        clear fb
        have hc1 : (j : Int) ≤ (K : Int) := by omega
        have hc2 : N ≤ 10000000 := by omega
        go_wp2
        go_round
        case rel => exact ⟨j + 1, N * j, rfl, by go_num, by omega, by omega, .inl (by omega), by rw [hE.out]; rfl⟩
        case measure => simp [intOf]; omega
      · have hE : Hid (fc (min K 11) = N) := by
          show _ = _
          rw [hH.out.2]
          by_cases hk : j ≤ K
          · rw [show j = 12 by omega, Nat.min_eq_right (by omega)]
          · exact fact_end K j (by omega) hH.out.1 h2 h12
        have hb1 : 1 ≤ N ∧ N ≤ 39916800 := ⟨fb.2.1, fb.2.2.1⟩
        by_cases hk : j ≤ K
        · have hb2 := fb.2.2.2.2.1 (by omega)
          clear fb
          subst hb2
          have hc1 : (j : Int) ≤ (K : Int) := by omega
          go_wp2_with (go_at_call 13; refine (answer_any _ _).mono ?_; rintro e w' ⟨rfl, hw⟩; obtain rfl := hw.symm; clear hw; unfold two)
          go_ret2
          exact ⟨by rw [hE.out]; rfl, rfl⟩
        · clear fb
          have hc1 : ¬ (j : Int) ≤ (K : Int) := by omega
          go_wp2_with (go_at_call 13; refine (answer_any _ _).mono ?_; rintro e w' ⟨rfl, hw⟩; obtain rfl := hw.symm; clear hw; unfold two)
          go_ret2
          exact ⟨by rw [hE.out]; rfl, rfl⟩

end Go.Proofs.YtdkoobpapdahaabDoor
