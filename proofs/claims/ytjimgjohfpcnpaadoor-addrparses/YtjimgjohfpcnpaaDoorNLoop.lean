/- The contracts of the loops: tens, Gcd. -/
import Derived.Test.YtjimgjohfpcnpaaDoorNSmall
namespace Go.Proofs.YtjimgjohfpcnpaaDoor
open Go.RowKit
set_option linter.unusedSimpArgs false
set_option linter.unusedVariables false
set_option maxRecDepth 100000

theorem ten_le : ∀ j : Nat, j ≤ 11 → (10 : Int) ^ j ≤ 100000000000 ∧ 1 ≤ (10 : Int) ^ j := by decide
set_option maxHeartbeats 2000000 in
theorem tens_any (k : Nat) (hk : k ≤ 12) (w : World) : Calls Tryd.prog 87 #[.int .i64 k] w fun e w' => e = .returned (.int .i64 (10 ^ k)) ∧ w' = w := by
  go_enter Tryd.func87, Tryd.ntmps87
  go_wp2
  go_loop [3, 5] (fun p i => ∃ (j : Nat) (P : Int), j ≤ k ∧ i = .int .i64 j ∧ p = .int .i64 P ∧ Hid (P = 10 ^ j)) (fun _ i => k - (intOf i).toNat)
  case atStart => exact ⟨0, 1, Nat.zero_le _, rfl, rfl, rfl⟩
  case round =>
    obtain ⟨j, P, hj, rfl, rfl, hP⟩ := hrel
    by_cases hlt : j < k
    · have hb := ten_le j (by omega)
      have hE : Hid (P * 10 = 10 ^ (j + 1)) := by
        show _ = _
        rw [hP.out, Int.pow_succ]
      rw [← hP.out] at hb
      go_wp2
      go_round
      case rel => exact ⟨j + 1, P * 10, by omega, by go_num, rfl, hE.out⟩
      case measure => simp [intOf]; omega
    · obtain rfl : j = k := by omega
      go_wp2
      go_ret
      exact ⟨by rw [← hP.out]; rfl, rfl⟩

end Go.Proofs.YtjimgjohfpcnpaaDoor
