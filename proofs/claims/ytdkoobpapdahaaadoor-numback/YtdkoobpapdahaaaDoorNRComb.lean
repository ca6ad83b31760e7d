/- The contract of the reference's Comb. -/
import Derived.Test.YtdkoobpapdahaaaDoorNComb
namespace Go.Proofs.YtdkoobpapdahaaaDoor
open Go.RowKit
set_option linter.unusedVariables false
set_option maxRecDepth 100000

theorem room (c m : Int) (hm : 1 ≤ m) (h : c * m ≤ 1000000000000000) : ¬ 1000000000000000 / m < c := by
  have := (Int.le_ediv_iff_mul_le (a := c) (b := 1000000000000000) (c := m) (by omega)).2 h
  omega
theorem big_two (c m : Int) (hc : 5000000 ≤ c) (hm : 5000000 ≤ m) : 10000000 < c * m / 2 := by
  have : 5000000 * 5000000 ≤ c * m := Int.mul_le_mul hc hm (by omega) (by omega)
  omega
theorem prod_le (c m x y : Int) (h0 : 0 ≤ m) (hc : c ≤ x) (hm : m ≤ y) (hx : 0 ≤ x) : c * m ≤ x * y := Int.mul_le_mul hc hm h0 hx

set_option maxHeartbeats 4000000 in
theorem rcomb_walk (n k : Int) (M : Nat) (h1 : n ≤ 9223372036854775807) (hk1 : k ≤ n) (hn0 : 0 ≤ n) (hk0 : 0 ≤ k) (hM2 : 2 * (M : Int) ≤ n) (hM : (¬ n - k < k ∧ k = M) ∨ (n - k < k ∧ n - k = M)) (w : World) :
    Calls Tryd.prog 33 #[.int .i64 n, .int .i64 k] w fun e w' => e = .returned (two (combM n M)) ∧ w' = w := by
  generalize hr : combM n M = r
  have hr' : Hid (combM n M = r) := hr
  clear hr
  rcases hM with ⟨hmin, hsub⟩ | ⟨hmin, hsub⟩
  · subst hsub
    by_cases hz : M = 0
    · subst hz
      have hE : Hid (r = ans 10000) := hr'.out.symm.trans (if_pos rfl)
      go_enter Tryd.func33, Tryd.ntmps33
      go_wp2
      refine wp_loop_rounds 1 ?_
      rw [rounds_succ]
      go_wp2_with (go_at_call 50; refine (out_any _ _).mono ?_; rintro e w' ⟨rfl, hw⟩; obtain rfl := hw.symm; clear hw; unfold two)
      go_ret2
      exact ⟨by rw [hE.out]; rfl, rfl⟩
    · by_cases hbig : 10000000 < n
      · have hE : Hid (r = (0, false)) := by
          show _ = _
          rw [← hr'.out]
          unfold combM
          rw [if_neg (by omega), if_pos hbig]
        go_enter Tryd.func33, Tryd.ntmps33
        go_wp2
        go_loop [6, 7] (fun p i => ∃ (j : Nat) (c : Int), p = .int .i64 c ∧ i = .int .i64 j ∧ ((j = 1 ∧ c = 1) ∨ (j = 2 ∧ c = n - M + 1 ∧ c ≤ 10000000))) (fun _ i => 3 - (intOf i).toNat)
        case atStart => exact ⟨1, 1, rfl, rfl, .inl ⟨rfl, rfl⟩⟩
        case round =>
          obtain ⟨j, c, rfl, rfl, ⟨rfl, rfl⟩ | ⟨rfl, hc, hc1⟩⟩ := hrel
          · have g1 : (1 : Int) ≤ (M : Int) := by omega
            by_cases ga : 100000000000 < n - M + 1
            · go_wp2
              go_ret2
              exact ⟨by rw [hE.out]; rfl, rfl⟩
            · have hd := room 1 (n - M + 1) (by omega) (by omega)
              have hd2 := ediv_own 1000000000000000 (n - M + 1) (by omega) (by omega)
              have hz0 : ¬ n - (M : Int) + 1 = 0 := by omega
              by_cases gb : 10000000 < n - M + 1
              · go_wp2
                go_ret2
                exact ⟨by rw [hE.out]; rfl, rfl⟩
              · go_wp2
                go_round
                case rel => exact ⟨2, n - M + 1, rfl, rfl, .inr ⟨rfl, rfl, by omega⟩⟩
                case measure => simp [intOf]
          · have g1 : (2 : Int) ≤ (M : Int) := by omega
            have hp := prod_le c (n - M + 2) 10000000 10000001 (by omega) hc1 (by omega) (by omega)
            have hp0 : 0 ≤ c * (n - M + 2) := Int.mul_nonneg (by omega) (by omega)
            have hd := room c (n - M + 2) (by omega) (by omega)
            have hd2 := ediv_own 1000000000000000 (n - M + 2) (by omega) (by omega)
            have ht := big_two c (n - M + 2) (by omega) (by omega)
            have hz0 : ¬ n - (M : Int) + 2 = 0 := by omega
            have ga : ¬ 100000000000 < n - (M : Int) + 2 := by omega
            clear hc
            go_wp2
            go_ret2
            exact ⟨by rw [hE.out]; rfl, rfl⟩
      · have hE : Hid (r = ans (combL (n - M) M 1 1 * 10000)) := by
          show _ = _
          rw [← hr'.out]
          unfold combM
          rw [if_neg (by omega), if_neg hbig, Int.toNat_natCast]
        go_enter Tryd.func33, Tryd.ntmps33
        go_wp2
        go_loop [6, 7] (fun p i => ∃ (j : Nat) (c : Int), p = .int .i64 c ∧ i = .int .i64 j ∧ 1 ≤ j ∧ j ≤ M + 1 ∧ 0 ≤ c ∧ c ≤ 10000000 ∧ Hid (combL (n - M) M 1 1 = combL (n - M) (M + 1 - j) j c)) (fun _ i => M + 2 - (intOf i).toNat)
        case atStart => exact ⟨1, 1, rfl, rfl, by omega, by omega, by omega, by omega, rfl⟩
        case round =>
          obtain ⟨j, c, rfl, rfl, hj1, hj2, hc0, g2, hH⟩ := hrel
          by_cases hgo : j ≤ M
          · have g1 : (j : Int) ≤ (M : Int) := by omega
            have hp := comb_prod c (n - M + j) hc0 g2 (by omega) (by omega)
            have hq := ediv_own (c * (n - M + j)) j hp.1 (by omega)
            have hd := room c (n - M + j) (by omega) (by omega)
            have hd2 := ediv_own 1000000000000000 (n - M + j) (by omega) (by omega)
            have hS : Hid (combL (n - M) M 1 1 = combL (n - M) (M + 1 - (j + 1)) ((j + 1 : Nat) : Int) (c * (n - M + j) / j)) := hH.out.trans (comb_step _ M j c hgo g2)
            have hj0 : ¬ (j : Int) = 0 := by omega
            have hz0 : ¬ n - (M : Int) + j = 0 := by omega
            have ga : ¬ 100000000000 < n - (M : Int) + j := by omega
            by_cases gb : 10000000 < c * (n - M + j) / j
            · have hF : Hid (r = (0, false)) := by
                show _ = _
                rw [hE.out, hS.out, comb_big _ _ _ _ gb, ans_out _ (by omega)]
              go_wp2
              go_ret2
              exact ⟨by rw [hF.out]; rfl, rfl⟩
            · go_wp2
              go_round
              case rel => exact ⟨j + 1, c * (n - M + j) / j, rfl, by go_num, by omega, by omega, by omega, by omega, hS.out⟩
              case measure => simp [intOf]; omega
          · have hS : Hid (r = ans (c * 10000)) := by
              show _ = _
              rw [hE.out, hH.out, comb_stop _ M j c (by omega)]
            have g1 : ¬ (j : Int) ≤ (M : Int) := by omega
            go_wp2_with (go_at_call 50; refine (out_any _ _).mono ?_; rintro e w' ⟨rfl, hw⟩; obtain rfl := hw.symm; clear hw; unfold two)
            go_ret2
            exact ⟨by rw [hS.out]; rfl, rfl⟩
  · skip
    by_cases hz : M = 0
    · subst hz
      have hE : Hid (r = ans 10000) := hr'.out.symm.trans (if_pos rfl)
      go_enter Tryd.func33, Tryd.ntmps33
      go_wp2
      refine wp_loop_rounds 1 ?_
      rw [rounds_succ]
      go_wp2_with (go_at_call 50; refine (out_any _ _).mono ?_; rintro e w' ⟨rfl, hw⟩; obtain rfl := hw.symm; clear hw; unfold two)
      go_ret2
      exact ⟨by rw [hE.out]; rfl, rfl⟩
    · by_cases hbig : 10000000 < n
      · have hE : Hid (r = (0, false)) := by
          show _ = _
          rw [← hr'.out]
          unfold combM
          rw [if_neg (by omega), if_pos hbig]
        go_enter Tryd.func33, Tryd.ntmps33
        go_wp2
        go_loop [6, 7] (fun p i => ∃ (j : Nat) (c : Int), p = .int .i64 c ∧ i = .int .i64 j ∧ ((j = 1 ∧ c = 1) ∨ (j = 2 ∧ c = n - M + 1 ∧ c ≤ 10000000))) (fun _ i => 3 - (intOf i).toNat)
        case atStart => exact ⟨1, 1, rfl, rfl, .inl ⟨rfl, rfl⟩⟩
        case round =>
          obtain ⟨j, c, rfl, rfl, ⟨rfl, rfl⟩ | ⟨rfl, hc, hc1⟩⟩ := hrel
          · have g1 : (1 : Int) ≤ (M : Int) := by omega
            by_cases ga : 100000000000 < n - M + 1
            · go_wp2
              go_ret2
              exact ⟨by rw [hE.out]; rfl, rfl⟩
            · have hd := room 1 (n - M + 1) (by omega) (by omega)
              have hd2 := ediv_own 1000000000000000 (n - M + 1) (by omega) (by omega)
              have hz0 : ¬ n - (M : Int) + 1 = 0 := by omega
              by_cases gb : 10000000 < n - M + 1
              · go_wp2
                go_ret2
                exact ⟨by rw [hE.out]; rfl, rfl⟩
              · go_wp2
                go_round
                case rel => exact ⟨2, n - M + 1, rfl, rfl, .inr ⟨rfl, rfl, by omega⟩⟩
                case measure => simp [intOf]
          · have g1 : (2 : Int) ≤ (M : Int) := by omega
            have hp := prod_le c (n - M + 2) 10000000 10000001 (by omega) hc1 (by omega) (by omega)
            have hp0 : 0 ≤ c * (n - M + 2) := Int.mul_nonneg (by omega) (by omega)
            have hd := room c (n - M + 2) (by omega) (by omega)
            have hd2 := ediv_own 1000000000000000 (n - M + 2) (by omega) (by omega)
            have ht := big_two c (n - M + 2) (by omega) (by omega)
            have hz0 : ¬ n - (M : Int) + 2 = 0 := by omega
            have ga : ¬ 100000000000 < n - (M : Int) + 2 := by omega
            clear hc
            go_wp2
            go_ret2
            exact ⟨by rw [hE.out]; rfl, rfl⟩
      · have hE : Hid (r = ans (combL (n - M) M 1 1 * 10000)) := by
          show _ = _
          rw [← hr'.out]
          unfold combM
          rw [if_neg (by omega), if_neg hbig, Int.toNat_natCast]
        go_enter Tryd.func33, Tryd.ntmps33
        go_wp2
        go_loop [6, 7] (fun p i => ∃ (j : Nat) (c : Int), p = .int .i64 c ∧ i = .int .i64 j ∧ 1 ≤ j ∧ j ≤ M + 1 ∧ 0 ≤ c ∧ c ≤ 10000000 ∧ Hid (combL (n - M) M 1 1 = combL (n - M) (M + 1 - j) j c)) (fun _ i => M + 2 - (intOf i).toNat)
        case atStart => exact ⟨1, 1, rfl, rfl, by omega, by omega, by omega, by omega, rfl⟩
        case round =>
          obtain ⟨j, c, rfl, rfl, hj1, hj2, hc0, g2, hH⟩ := hrel
          by_cases hgo : j ≤ M
          · have g1 : (j : Int) ≤ (M : Int) := by omega
            have hp := comb_prod c (n - M + j) hc0 g2 (by omega) (by omega)
            have hq := ediv_own (c * (n - M + j)) j hp.1 (by omega)
            have hd := room c (n - M + j) (by omega) (by omega)
            have hd2 := ediv_own 1000000000000000 (n - M + j) (by omega) (by omega)
            have hS : Hid (combL (n - M) M 1 1 = combL (n - M) (M + 1 - (j + 1)) ((j + 1 : Nat) : Int) (c * (n - M + j) / j)) := hH.out.trans (comb_step _ M j c hgo g2)
            have hj0 : ¬ (j : Int) = 0 := by omega
            have hz0 : ¬ n - (M : Int) + j = 0 := by omega
            have ga : ¬ 100000000000 < n - (M : Int) + j := by omega
            by_cases gb : 10000000 < c * (n - M + j) / j
            · have hF : Hid (r = (0, false)) := by
                show _ = _
                rw [hE.out, hS.out, comb_big _ _ _ _ gb, ans_out _ (by omega)]
              go_wp2
              go_ret2
              exact ⟨by rw [hF.out]; rfl, rfl⟩
            · go_wp2
              go_round
              case rel => exact ⟨j + 1, c * (n - M + j) / j, rfl, by go_num, by omega, by omega, by omega, by omega, hS.out⟩
              case measure => simp [intOf]; omega
          · have hS : Hid (r = ans (c * 10000)) := by
              show _ = _
              rw [hE.out, hH.out, comb_stop _ M j c (by omega)]
            have g1 : ¬ (j : Int) ≤ (M : Int) := by omega
            go_wp2_with (go_at_call 50; refine (out_any _ _).mono ?_; rintro e w' ⟨rfl, hw⟩; obtain rfl := hw.symm; clear hw; unfold two)
            go_ret2
            exact ⟨by rw [hS.out]; rfl, rfl⟩

set_option maxHeartbeats 4000000 in
theorem rcomb_any (n k : Int) (h1 : n ≤ 9223372036854775807) (w : World) : Calls Tryd.prog 33 #[.int .i64 n, .int .i64 k] w fun e w' => e = .returned (two (combF n k)) ∧ w' = w := by
  by_cases hneg : n < 0 ∨ k < 0
  · rw [show combF n k = (0, false) from if_pos hneg]
    unfold two
    by_cases hn : n < 0
    all_goals
      go_enter Tryd.func33, Tryd.ntmps33
      go_wp2
      go_ret2
      exact ⟨rfl, rfl⟩
  have hn0 : 0 ≤ n := by omega
  have hk0 : 0 ≤ k := by omega
  by_cases hgt : n < k
  · rw [show combF n k = (0, true) by unfold combF; rw [if_neg hneg, if_pos hgt]]
    unfold two
    go_enter Tryd.func33, Tryd.ntmps33
    go_wp2
    go_ret2
    exact ⟨rfl, rfl⟩
  have hm : minI k (n - k) = (if k ≤ n - k then k else n - k) := rfl
  have hm0 : 0 ≤ minI k (n - k) ∧ 2 * minI k (n - k) ≤ n := by rw [hm]; split <;> omega
  have e : combF n k = combM n ((minI k (n - k)).toNat : Nat) := by
    unfold combF combM
    rw [if_neg hneg, if_neg hgt, Int.toNat_of_nonneg hm0.1]
  rw [e]
  refine rcomb_walk n k _ h1 (by omega) hn0 hk0 (by omega) ?_ w
  rw [Int.toNat_of_nonneg hm0.1, hm]
  split <;> omega
end Go.Proofs.YtdkoobpapdahaaaDoor
