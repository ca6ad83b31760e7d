/- The contracts of Comb, of num and of the reference. -/
import Derived.Test.YtdkoobpapdahaaaDoorNFact
namespace Go.Proofs.YtdkoobpapdahaaaDoor
open Go.RowKit
set_option linter.unusedVariables false
set_option maxRecDepth 100000

/-- What Comb tells of k at most half of n. -/
def combM (n k : Int) : Int × Bool :=
  if k = 0 then (10000, true) else if 10000000 < n then (0, false) else ans (combL (n - k) k.toNat 1 1 * 10000)
theorem comb_step (m : Int) (M j : Nat) (c : Int) (hj : j ≤ M) (hc : c ≤ 10000000) : combL m (M + 1 - j) j c = combL m (M + 1 - (j + 1)) ((j + 1 : Nat) : Int) (c * (m + j) / j) := by
  rw [show M + 1 - j = (M + 1 - (j + 1)) + 1 by omega]
  conv => lhs; unfold combL
  rw [if_pos hc]
  rfl
theorem comb_stop (m : Int) (M j : Nat) (c : Int) (h : M < j ∨ 10000000 < c) : combL m (M + 1 - j) j c = c := by
  rcases h with h | h
  · rw [show M + 1 - j = 0 by omega]; rfl
  · exact comb_big m _ _ c h

set_option maxHeartbeats 4000000 in
theorem comb_walk (n k : Int) (M : Nat) (h1 : n ≤ 9223372036854775807) (hk1 : k ≤ n) (hn0 : 0 ≤ n) (hk0 : 0 ≤ k) (hM2 : 2 * (M : Int) ≤ n) (hM : (¬ n - k < k ∧ k = M) ∨ (n - k < k ∧ n - k = M)) (w : World) :
    Calls Tryd.prog 32 #[.int .i64 n, .int .i64 k] w fun e w' => e = .returned (two (combM n M)) ∧ w' = w := by
  generalize hr : combM n M = r
  have hr' : Hid (combM n M = r) := hr
  clear hr
  rcases hM with ⟨hmin, hsub⟩ | ⟨hmin, hsub⟩
  · subst hsub
    by_cases hz : M = 0
    · subst hz
      have hE : Hid (r = (10000, true)) := hr'.out.symm.trans (if_pos rfl)
      go_enter Tryd.func32, Tryd.ntmps32
      go_wp2
      go_ret2
      exact ⟨by rw [hE.out]; rfl, rfl⟩
    · have hz1 : ((M : Int) == 0) = false := by simp; omega
      by_cases hbig : 10000000 < n
      · have hE : Hid (r = (0, false)) := by
          show _ = _
          rw [← hr'.out]
          unfold combM
          rw [if_neg (by omega), if_pos hbig]
        go_enter Tryd.func32, Tryd.ntmps32
        go_wp2
        go_ret2
        exact ⟨by rw [hE.out]; rfl, rfl⟩
      · have hE : Hid (r = ans (combL (n - M) M 1 1 * 10000)) := by
          show _ = _
          rw [← hr'.out]
          unfold combM
          rw [if_neg (by omega), if_neg hbig, Int.toNat_natCast]
        go_enter Tryd.func32, Tryd.ntmps32
        go_wp2
        go_loop [6, 7] (fun p i => ∃ (j : Nat) (c : Int), p = .int .i64 c ∧ i = .int .i64 j ∧ 1 ≤ j ∧ j ≤ M + 1 ∧ 0 ≤ c ∧ c ≤ 100000000000000 ∧ Hid (combL (n - M) M 1 1 = combL (n - M) (M + 1 - j) j c)) (fun _ i => M + 2 - (intOf i).toNat)
        case atStart => exact ⟨1, 1, rfl, rfl, by omega, by omega, by omega, by omega, rfl⟩
        case round =>
          obtain ⟨j, c, rfl, rfl, hj1, hj2, hc0, hc1, hH⟩ := hrel
          by_cases hgo : j ≤ M ∧ c ≤ 10000000
          · have g1 : (j : Int) ≤ (M : Int) := by omega
            have g2 := hgo.2
            have hp := comb_prod c (n - M + j) hc0 g2 (by omega) (by omega)
            have hq := ediv_own (c * (n - M + j)) j hp.1 (by omega)
            have hS : Hid (combL (n - M) M 1 1 = combL (n - M) (M + 1 - (j + 1)) ((j + 1 : Nat) : Int) (c * (n - M + j) / j)) := hH.out.trans (comb_step _ M j c hgo.1 g2)
            have hj0 : ¬ (j : Int) = 0 := by omega
            go_wp2
            go_round
            case rel => exact ⟨j + 1, c * (n - M + j) / j, rfl, by go_num, by omega, by omega, by omega, by omega, hS.out⟩
            case measure => simp [intOf]; omega
          · have hS : Hid (r = ans (c * 10000)) := by
              show _ = _
              rw [hE.out, hH.out, comb_stop _ M j c (by omega)]
            by_cases g1 : (j : Int) ≤ (M : Int)
            · have g2 : ¬ c ≤ 10000000 := by omega
              go_wp2_with (go_at_call 47; refine (answer_any _ _).mono ?_; rintro e w' ⟨rfl, hw⟩; obtain rfl := hw.symm; clear hw; unfold two)
              go_ret2
              exact ⟨by rw [hS.out]; rfl, rfl⟩
            · go_wp2_with (go_at_call 47; refine (answer_any _ _).mono ?_; rintro e w' ⟨rfl, hw⟩; obtain rfl := hw.symm; clear hw; unfold two)
              go_ret2
              exact ⟨by rw [hS.out]; rfl, rfl⟩
  · skip
    by_cases hz : M = 0
    · subst hz
      have hE : Hid (r = (10000, true)) := hr'.out.symm.trans (if_pos rfl)
      go_enter Tryd.func32, Tryd.ntmps32
      go_wp2
      go_ret2
      exact ⟨by rw [hE.out]; rfl, rfl⟩
    · have hz1 : ((M : Int) == 0) = false := by simp; omega
      by_cases hbig : 10000000 < n
      · have hE : Hid (r = (0, false)) := by
          show _ = _
          rw [← hr'.out]
          unfold combM
          rw [if_neg (by omega), if_pos hbig]
        go_enter Tryd.func32, Tryd.ntmps32
        go_wp2
        go_ret2
        exact ⟨by rw [hE.out]; rfl, rfl⟩
      · have hE : Hid (r = ans (combL (n - M) M 1 1 * 10000)) := by
          show _ = _
          rw [← hr'.out]
          unfold combM
          rw [if_neg (by omega), if_neg hbig, Int.toNat_natCast]
        go_enter Tryd.func32, Tryd.ntmps32
        go_wp2
        go_loop [6, 7] (fun p i => ∃ (j : Nat) (c : Int), p = .int .i64 c ∧ i = .int .i64 j ∧ 1 ≤ j ∧ j ≤ M + 1 ∧ 0 ≤ c ∧ c ≤ 100000000000000 ∧ Hid (combL (n - M) M 1 1 = combL (n - M) (M + 1 - j) j c)) (fun _ i => M + 2 - (intOf i).toNat)
        case atStart => exact ⟨1, 1, rfl, rfl, by omega, by omega, by omega, by omega, rfl⟩
        case round =>
          obtain ⟨j, c, rfl, rfl, hj1, hj2, hc0, hc1, hH⟩ := hrel
          by_cases hgo : j ≤ M ∧ c ≤ 10000000
          · have g1 : (j : Int) ≤ (M : Int) := by omega
            have g2 := hgo.2
            have hp := comb_prod c (n - M + j) hc0 g2 (by omega) (by omega)
            have hq := ediv_own (c * (n - M + j)) j hp.1 (by omega)
            have hS : Hid (combL (n - M) M 1 1 = combL (n - M) (M + 1 - (j + 1)) ((j + 1 : Nat) : Int) (c * (n - M + j) / j)) := hH.out.trans (comb_step _ M j c hgo.1 g2)
            have hj0 : ¬ (j : Int) = 0 := by omega
            go_wp2
            go_round
            case rel => exact ⟨j + 1, c * (n - M + j) / j, rfl, by go_num, by omega, by omega, by omega, by omega, hS.out⟩
            case measure => simp [intOf]; omega
          · have hS : Hid (r = ans (c * 10000)) := by
              show _ = _
              rw [hE.out, hH.out, comb_stop _ M j c (by omega)]
            by_cases g1 : (j : Int) ≤ (M : Int)
            · have g2 : ¬ c ≤ 10000000 := by omega
              go_wp2_with (go_at_call 47; refine (answer_any _ _).mono ?_; rintro e w' ⟨rfl, hw⟩; obtain rfl := hw.symm; clear hw; unfold two)
              go_ret2
              exact ⟨by rw [hS.out]; rfl, rfl⟩
            · go_wp2_with (go_at_call 47; refine (answer_any _ _).mono ?_; rintro e w' ⟨rfl, hw⟩; obtain rfl := hw.symm; clear hw; unfold two)
              go_ret2
              exact ⟨by rw [hS.out]; rfl, rfl⟩

set_option maxHeartbeats 4000000 in
theorem comb_any (n k : Int) (h1 : n ≤ 9223372036854775807) (w : World) : Calls Tryd.prog 32 #[.int .i64 n, .int .i64 k] w fun e w' => e = .returned (two (combF n k)) ∧ w' = w := by
  by_cases hneg : n < 0 ∨ k < 0
  · rw [show combF n k = (0, false) from if_pos hneg]
    unfold two
    by_cases hn : n < 0
    all_goals
      go_enter Tryd.func32, Tryd.ntmps32
      go_wp2
      go_ret2
      exact ⟨rfl, rfl⟩
  have hn0 : 0 ≤ n := by omega
  have hk0 : 0 ≤ k := by omega
  by_cases hgt : n < k
  · rw [show combF n k = (0, true) by unfold combF; rw [if_neg hneg, if_pos hgt]]
    unfold two
    go_enter Tryd.func32, Tryd.ntmps32
    go_wp2
    go_ret2
    exact ⟨rfl, rfl⟩
  have hm : minI k (n - k) = (if k ≤ n - k then k else n - k) := rfl
  have hm0 : 0 ≤ minI k (n - k) ∧ 2 * minI k (n - k) ≤ n := by rw [hm]; split <;> omega
  have e : combF n k = combM n ((minI k (n - k)).toNat : Nat) := by
    unfold combF combM
    rw [if_neg hneg, if_neg hgt, Int.toNat_of_nonneg hm0.1]
  rw [e]
  refine comb_walk n k _ h1 (by omega) hn0 hk0 (by omega) ?_ w
  rw [Int.toNat_of_nonneg hm0.1, hm]
  split <;> omega
end Go.Proofs.YtdkoobpapdahaaaDoor
