/- The contract of the reference's Pow. -/
import Derived.Test.YtdkoobpapdahaaaDoorNPow
namespace Go.Proofs.YtdkoobpapdahaaaDoor
open Go.RowKit
set_option linter.unusedVariables false
set_option maxRecDepth 100000

set_option maxHeartbeats 4000000 in
theorem rpow_any (a b : Int) (w : World) : Calls Tryd.prog 28 #[.int .i64 a, .int .i64 b] w fun e w' => e = .returned (two (powF a b)) ∧ w' = w := by
  have WH := fun u => rwhole_any b u
  have hk1 := whole_bounds b
  cases hg : gd a
  · rw [show powF a b = (0, false) by unfold powF; rw [if_neg (by simp [hg])]]
    generalize wholeF b = q at *
    unfold two at WH
    unfold two
    go_enter Tryd.func28, Tryd.ntmps28
    go_wp2_with (first
      | (go_at_call 40; refine (WH _).mono ?_; rintro e w' ⟨rfl, hw⟩; obtain rfl := hw.symm; clear hw)
      | (go_at_call 14; refine (rgood_any _ _).mono ?_; rintro e w' ⟨rfl, hw⟩; obtain rfl := hw.symm; clear hw; rw [hg]))
    go_ret2
    exact ⟨rfl, rfl⟩
  cases hok : (wholeF b).2
  · rw [show powF a b = (0, false) by unfold powF; rw [if_neg (by simp [hok])]]
    unfold two at WH
    rw [hok] at WH
    unfold two
    go_enter Tryd.func28, Tryd.ntmps28
    go_wp2_with (first
      | (go_at_call 40; refine (WH _).mono ?_; rintro e w' ⟨rfl, hw⟩; obtain rfl := hw.symm; clear hw)
      | (go_at_call 14; refine (rgood_any _ _).mono ?_; rintro e w' ⟨rfl, hw⟩; obtain rfl := hw.symm; clear hw; rw [hg]))
    go_ret2
    exact ⟨rfl, rfl⟩
  generalize hK : (wholeF b).1 = K at *
  unfold two at WH
  rw [hok, hK] at WH
  by_cases hlo : K < -64
  · rw [show powF a b = (0, false) by unfold powF; rw [if_neg (by rw [hK]; unfold absI; split <;> omega)]]
    unfold two
    go_enter Tryd.func28, Tryd.ntmps28
    go_wp2_with (first
      | (go_at_call 40; refine (WH _).mono ?_; rintro e w' ⟨rfl, hw⟩; obtain rfl := hw.symm; clear hw)
      | (go_at_call 14; refine (rgood_any _ _).mono ?_; rintro e w' ⟨rfl, hw⟩; obtain rfl := hw.symm; clear hw; rw [hg]))
    go_ret2
    exact ⟨rfl, rfl⟩
  by_cases hhi : 64 < K
  · rw [show powF a b = (0, false) by unfold powF; rw [if_neg (by rw [hK]; unfold absI; split <;> omega)]]
    unfold two
    go_enter Tryd.func28, Tryd.ntmps28
    go_wp2_with (first
      | (go_at_call 40; refine (WH _).mono ?_; rintro e w' ⟨rfl, hw⟩; obtain rfl := hw.symm; clear hw)
      | (go_at_call 14; refine (rgood_any _ _).mono ?_; rintro e w' ⟨rfl, hw⟩; obtain rfl := hw.symm; clear hw; rw [hg]))
    go_ret2
    exact ⟨rfl, rfl⟩
  by_cases h00 : a = 0 ∧ K = 0
  · rw [show powF a b = (0, false) by unfold powF; rw [if_neg (by rw [hK]; exact fun h => h.2.2.2 h00)]]
    obtain ⟨rfl, rfl⟩ := h00
    unfold two
    go_enter Tryd.func28, Tryd.ntmps28
    go_wp2_with (first
      | (go_at_call 40; refine (WH _).mono ?_; rintro e w' ⟨rfl, hw⟩; obtain rfl := hw.symm; clear hw)
      | (go_at_call 14; refine (rgood_any _ _).mono ?_; rintro e w' ⟨rfl, hw⟩; obtain rfl := hw.symm; clear hw; rw [hg]))
    go_ret2
    exact ⟨rfl, rfl⟩
  have habs : absI K = K ∧ 0 ≤ K ∨ absI K = -K ∧ K < 0 := by unfold absI; split <;> omega
  have hF : powF a b = powR a K (absI K).toNat := by
    unfold powF powR
    rw [hK]
    exact if_pos ⟨hok, hg, by omega, h00⟩
  generalize powF a b = r at *
  have hnz : (a == 0) = false ∨ ((a == 0) = true ∧ (K == 0) = false) := by
    by_cases h : a = 0
    · right; simp; omega
    · left; simpa using h
  obtain ⟨m, hm, hm64⟩ : ∃ m : Nat, absI K = m ∧ m ≤ 64 := ⟨(absI K).toNat, by omega, by omega⟩
  have hr' : Hid (r = powR a K m) := by
    show _ = _
    rw [hF, show (absI K).toNat = m by omega]
  clear hF h00
  have SZ : ∀ u : World, Calls Tryd.prog 57 #[.int .i64 K] u fun e w' => e = .returned (.int .i64 m) ∧ w' = u := fun u => by
    have := abs_any K (by omega) (by omega) u
    rw [hm] at this
    exact this
  clear hm habs
  rcases hnz with hz | ⟨hz, hz2⟩
  all_goals
    go_enter Tryd.func28, Tryd.ntmps28
    go_wp2_with (first
      | (go_at_call 40; refine (WH _).mono ?_; rintro e w' ⟨rfl, hw⟩; obtain rfl := hw.symm; clear hw)
      | (go_at_call 14; refine (rgood_any _ _).mono ?_; rintro e w' ⟨rfl, hw⟩; obtain rfl := hw.symm; clear hw; rw [hg]))
    go_loop [8, 9] (fun u8 u9 => ∃ (j : Nat) (N : Int), u8 = .int .i64 N ∧ u9 = .int .i64 j ∧ j ≤ m ∧ Hid (powL a j = (N, true))) (fun _ u9 => m - (intOf u9).toNat)
    case atStart => exact ⟨0, 10000, rfl, rfl, Nat.zero_le _, rfl⟩
    case round =>
      obtain ⟨j, N, rfl, rfl, hj, hH⟩ := hrel
      by_cases hlt : j < m
      · have g1 : (j : Int) < (m : Int) := by omega
        have NX := fun u => rmul_any N a u
        have hp := powL_succ hH.out
        cases hfine : (mulF N a).2
        · have hE : Hid (r = (0, false)) := hr'.out.trans (powR_stop (j := j + 1) (by rw [hp]; exact hfine) (by omega))
          unfold two at NX
          rw [hfine] at NX
          go_wp2_with (first
            | (go_at_call 57; refine (SZ _).mono ?_; rintro e w' ⟨rfl, hw⟩; obtain rfl := hw.symm; clear hw)
            | (go_at_call 24; refine (NX _).mono ?_; rintro e w' ⟨rfl, hw⟩; obtain rfl := hw.symm; clear hw))
          go_ret2
          exact ⟨by rw [hE.out]; rfl, rfl⟩
        · unfold two at NX
          rw [hfine] at NX
          have hpE : Hid (powL a (j + 1) = ((mulF N a).1, true)) := by
            show _ = _
            rw [hp, ← hfine]
          clear hp
          generalize (mulF N a).1 = N2 at *
          go_wp2_with (first
            | (go_at_call 57; refine (SZ _).mono ?_; rintro e w' ⟨rfl, hw⟩; obtain rfl := hw.symm; clear hw)
            | (go_at_call 24; refine (NX _).mono ?_; rintro e w' ⟨rfl, hw⟩; obtain rfl := hw.symm; clear hw))
          go_round
          case rel => exact ⟨j + 1, N2, rfl, by go_num, by omega, hpE.out⟩
          case measure => simp [intOf]; omega
      · obtain rfl : j = m := by omega
        have g1 : ¬ (j : Int) < (j : Int) := by omega
        have hE : Hid (r = if K < 0 then divF 10000 N else (N, true)) := by
          show _ = _
          rw [hr'.out]
          unfold powR
          rw [hH.out]
          rfl
        have hgN : gd N = true := by have := powL_gd a j; rw [hH.out] at this; exact this
        by_cases hK0 : K < 0
        · have hE2 : Hid (r = divF 10000 N) := hE.out.trans (if_pos hK0)
          go_wp2_with (first
            | (go_at_call 57; refine (SZ _).mono ?_; rintro e w' ⟨rfl, hw⟩; obtain rfl := hw.symm; clear hw)
            | (go_at_call 26; refine (rdiv_any _ _ _).mono ?_; rintro e w3 ⟨rfl, hw⟩; obtain rfl := hw.symm; clear hw; unfold two))
          go_ret2
          exact ⟨by rw [hE2.out]; rfl, rfl⟩
        · have hE2 : Hid (r = ans N) := (hE.out.trans (if_neg hK0)).trans (by simp [ans, hgN])
          go_wp2_with (first
            | (go_at_call 57; refine (SZ _).mono ?_; rintro e w' ⟨rfl, hw⟩; obtain rfl := hw.symm; clear hw)
            | (go_at_call 50; refine (out_any _ _).mono ?_; rintro e w3 ⟨rfl, hw⟩; obtain rfl := hw.symm; clear hw; unfold two))
          go_ret2
          exact ⟨by rw [hE2.out]; rfl, rfl⟩
end Go.Proofs.YtdkoobpapdahaaaDoor
