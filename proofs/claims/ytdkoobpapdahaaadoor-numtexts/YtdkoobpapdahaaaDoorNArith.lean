/- The contracts of what is done with two numbers: sums, products, quotients, rests. -/
import Derived.Test.YtdkoobpapdahaaaDoorNSmall
namespace Go.Proofs.YtdkoobpapdahaaaDoor
open Go.RowKit
set_option linter.unusedVariables false
set_option maxRecDepth 100000


set_option maxHeartbeats 2000000 in
theorem add_any (a b : Int) (w : World) : Calls Tryd.prog 16 #[.int .i64 a, .int .i64 b] w fun e w' => e = .returned (two (addF a b)) ∧ w' = w := by
  cases hg : (gd a && gd b)
  · rw [show addF a b = (0, false) by simp [addF, hg]]
    unfold two
    go_enter Tryd.func16, Tryd.ntmps16
    go_wp2_with (go_at_call 55; refine (good2_any _ _ _).mono ?_; rintro e w' ⟨rfl, hw⟩; obtain rfl := hw.symm; clear hw; rw [hg])
    go_ret2
    exact ⟨rfl, rfl⟩
  · have hab := (gd2_iff a b).1 hg
    rw [show addF a b = ans (a + b) by simp [addF, hg]]
    go_enter Tryd.func16, Tryd.ntmps16
    go_wp2_with (first
      | (go_at_call 55; refine (good2_any _ _ _).mono ?_; rintro e w' ⟨rfl, hw⟩; obtain rfl := hw.symm; clear hw; rw [hg])
      | (go_at_call 47; refine (answer_any _ _).mono ?_; rintro e w' ⟨rfl, hw⟩; obtain rfl := hw.symm; clear hw; unfold two))
    go_ret2
    exact ⟨rfl, rfl⟩

set_option maxHeartbeats 2000000 in
theorem sub_any (a b : Int) (w : World) : Calls Tryd.prog 17 #[.int .i64 a, .int .i64 b] w fun e w' => e = .returned (two (subF a b)) ∧ w' = w := by
  cases hg : (gd a && gd b)
  · rw [show subF a b = (0, false) by simp [subF, hg]]
    unfold two
    go_enter Tryd.func17, Tryd.ntmps17
    go_wp2_with (go_at_call 55; refine (good2_any _ _ _).mono ?_; rintro e w' ⟨rfl, hw⟩; obtain rfl := hw.symm; clear hw; rw [hg])
    go_ret2
    exact ⟨rfl, rfl⟩
  · have hab := (gd2_iff a b).1 hg
    rw [show subF a b = ans (a - b) by simp [subF, hg]]
    go_enter Tryd.func17, Tryd.ntmps17
    go_wp2_with (first
      | (go_at_call 55; refine (good2_any _ _ _).mono ?_; rintro e w' ⟨rfl, hw⟩; obtain rfl := hw.symm; clear hw; rw [hg])
      | (go_at_call 47; refine (answer_any _ _).mono ?_; rintro e w' ⟨rfl, hw⟩; obtain rfl := hw.symm; clear hw; unfold two))
    go_ret2
    exact ⟨rfl, rfl⟩

set_option maxHeartbeats 2000000 in
theorem radd_any (a b : Int) (w : World) : Calls Tryd.prog 21 #[.int .i64 a, .int .i64 b] w fun e w' => e = .returned (two (addF a b)) ∧ w' = w := by
  cases hg : (gd a && gd b)
  · rw [show addF a b = (0, false) by simp [addF, hg]]
    unfold two
    cases ha : gd a
    · go_enter Tryd.func21, Tryd.ntmps21
      go_wp2_with (go_at_call 14; refine (rgood_any _ _).mono ?_; rintro e w' ⟨rfl, hw⟩; obtain rfl := hw.symm; clear hw; rw [ha])
      go_ret2
      exact ⟨rfl, rfl⟩
    · have hb : gd b = false := by rw [ha] at hg; simpa using hg
      go_enter Tryd.func21, Tryd.ntmps21
      go_wp2_with (go_at_call 14; refine (rgood_any _ _).mono ?_; rintro e w' ⟨rfl, hw⟩; obtain rfl := hw.symm; clear hw; first | rw [ha] | rw [hb])
      go_ret2
      exact ⟨rfl, rfl⟩
  · have hab := (gd2_iff a b).1 hg
    have ha : gd a = true := (Bool.and_eq_true _ _ ▸ hg).1
    have hb : gd b = true := (Bool.and_eq_true _ _ ▸ hg).2
    rw [show addF a b = ans (a + b) by simp [addF, hg]]
    go_enter Tryd.func21, Tryd.ntmps21
    go_wp2_with (first
      | (go_at_call 14; refine (rgood_any _ _).mono ?_; rintro e w' ⟨rfl, hw⟩; obtain rfl := hw.symm; clear hw; first | rw [ha] | rw [hb])
      | (go_at_call 50; refine (out_any _ _).mono ?_; rintro e w' ⟨rfl, hw⟩; obtain rfl := hw.symm; clear hw; unfold two))
    go_ret2
    exact ⟨rfl, rfl⟩

set_option maxHeartbeats 2000000 in
theorem rsub_any (a b : Int) (w : World) : Calls Tryd.prog 23 #[.int .i64 a, .int .i64 b] w fun e w' => e = .returned (two (subF a b)) ∧ w' = w := by
  cases hg : (gd a && gd b)
  · rw [show subF a b = (0, false) by simp [subF, hg]]
    unfold two
    cases ha : gd a
    · go_enter Tryd.func23, Tryd.ntmps23
      go_wp2_with (go_at_call 14; refine (rgood_any _ _).mono ?_; rintro e w' ⟨rfl, hw⟩; obtain rfl := hw.symm; clear hw; rw [ha])
      go_ret2
      exact ⟨rfl, rfl⟩
    · have hb : gd b = false := by rw [ha] at hg; simpa using hg
      go_enter Tryd.func23, Tryd.ntmps23
      go_wp2_with (go_at_call 14; refine (rgood_any _ _).mono ?_; rintro e w' ⟨rfl, hw⟩; obtain rfl := hw.symm; clear hw; first | rw [ha] | rw [hb])
      go_ret2
      exact ⟨rfl, rfl⟩
  · have hab := (gd2_iff a b).1 hg
    have ha : gd a = true := (Bool.and_eq_true _ _ ▸ hg).1
    have hb : gd b = true := (Bool.and_eq_true _ _ ▸ hg).2
    rw [show subF a b = ans (a - b) by simp [subF, hg]]
    go_enter Tryd.func23, Tryd.ntmps23
    go_wp2_with (first
      | (go_at_call 14; refine (rgood_any _ _).mono ?_; rintro e w' ⟨rfl, hw⟩; obtain rfl := hw.symm; clear hw; first | rw [ha] | rw [hb])
      | (go_at_call 50; refine (out_any _ _).mono ?_; rintro e w' ⟨rfl, hw⟩; obtain rfl := hw.symm; clear hw; unfold two))
    go_ret2
    exact ⟨rfl, rfl⟩

set_option maxHeartbeats 2000000 in
theorem mul_any (a b : Int) (w : World) : Calls Tryd.prog 18 #[.int .i64 a, .int .i64 b] w fun e w' => e = .returned (two (mulF a b)) ∧ w' = w := by
  cases hg : (gd a && gd b)
  · rw [show mulF a b = (0, false) by simp [mulF, hg]]
    unfold two
    go_enter Tryd.func18, Tryd.ntmps18
    go_wp2_with (go_at_call 55; refine (good2_any _ _ _).mono ?_; rintro e w' ⟨rfl, hw⟩; obtain rfl := hw.symm; clear hw; rw [hg])
    go_ret2
    exact ⟨rfl, rfl⟩
  · have hab := (gd2_iff a b).1 hg
    have ha : gd a = true := (Bool.and_eq_true _ _ ▸ hg).1
    have hb : gd b = true := (Bool.and_eq_true _ _ ▸ hg).2
    rw [show mulF a b = ans (sgnI (absI a / 10000 * absI b + nearI (absI a % 10000 * absI b) 10000) (unl a b)) by simp [mulF, hg]]
    have bx := abs_bounds a ha
    have b_y := abs_bounds b hb
    have mb := mul_bounds (absI a) (absI b) bx.1 bx.2 b_y.1 b_y.2
    have hn : 0 ≤ nearI (absI a % 10000 * absI b) 10000 ∧ nearI (absI a % 10000 * absI b) 10000 ≤ 100000000000 := by
      rw [near_half (absI a % 10000 * absI b) mb.2.2.1]; omega
    go_enter Tryd.func18, Tryd.ntmps18
    go_wp2_with (first
      | (go_at_call 55; refine (good2_any _ _ _).mono ?_; rintro e w' ⟨rfl, hw⟩; obtain rfl := hw.symm; clear hw; rw [hg])
      | (go_at_call 52; refine (size_any _ (by omega) (by omega) _).mono ?_; rintro e w' ⟨rfl, hw⟩; obtain rfl := hw.symm; clear hw)
      | (go_at_call 56; refine (nearest_any _ _ (by omega) (by omega) (by omega) (by omega) _).mono ?_; rintro e w' ⟨rfl, hw⟩; obtain rfl := hw.symm; clear hw)
      | (go_at_call 48; refine (signed_any _ _ (by omega) (by omega) _).mono ?_; rintro e w' ⟨rfl, hw⟩; obtain rfl := hw.symm; clear hw)
      | (go_at_call 47; refine (answer_any _ _).mono ?_; rintro e w' ⟨rfl, hw⟩; obtain rfl := hw.symm; clear hw; unfold two))
    go_ret2
    exact ⟨rfl, rfl⟩

set_option maxHeartbeats 2000000 in
theorem rmul_any (a b : Int) (w : World) : Calls Tryd.prog 24 #[.int .i64 a, .int .i64 b] w fun e w' => e = .returned (two (mulF a b)) ∧ w' = w := by
  cases hg : (gd a && gd b)
  · rw [show mulF a b = (0, false) by simp [mulF, hg]]
    unfold two
    cases ha : gd a
    · go_enter Tryd.func24, Tryd.ntmps24
      go_wp2_with (go_at_call 14; refine (rgood_any _ _).mono ?_; rintro e w' ⟨rfl, hw⟩; obtain rfl := hw.symm; clear hw; rw [ha])
      go_ret2
      exact ⟨rfl, rfl⟩
    · have hb : gd b = false := by rw [ha] at hg; simpa using hg
      go_enter Tryd.func24, Tryd.ntmps24
      go_wp2_with (go_at_call 14; refine (rgood_any _ _).mono ?_; rintro e w' ⟨rfl, hw⟩; obtain rfl := hw.symm; clear hw; first | rw [ha] | rw [hb])
      go_ret2
      exact ⟨rfl, rfl⟩
  · have hab := (gd2_iff a b).1 hg
    have ha : gd a = true := (Bool.and_eq_true _ _ ▸ hg).1
    have hb : gd b = true := (Bool.and_eq_true _ _ ▸ hg).2
    have bx := abs_bounds a ha
    have b_y := abs_bounds b hb
    have mb := mul_bounds (absI a) (absI b) bx.1 bx.2 b_y.1 b_y.2
    have hn : 0 ≤ nearI (absI a % 10000 * absI b) 10000 ∧ nearI (absI a % 10000 * absI b) 10000 ≤ 100000000000 := by
      rw [near_half (absI a % 10000 * absI b) mb.2.2.1]; omega
    rw [show mulF a b = ans (sgnI (absI a / 10000 * absI b + nearI (absI a % 10000 * absI b) 10000) (unl a b)) by simp [mulF, hg]]
    by_cases hbig : 200000000000 < absI a / 10000 * absI b
    · rw [mul_ref_big _ _ _ hbig mb.2.2.1]
      unfold two
      go_enter Tryd.func24, Tryd.ntmps24
      go_wp2_with (first
      | (go_at_call 14; refine (rgood_any _ _).mono ?_; rintro e w' ⟨rfl, hw⟩; obtain rfl := hw.symm; clear hw; first | rw [ha] | rw [hb])
      | (go_at_call 57; refine (abs_any _ (by omega) (by omega) _).mono ?_; rintro e w' ⟨rfl, hw⟩; obtain rfl := hw.symm; clear hw))
      go_ret2
      exact ⟨rfl, rfl⟩
    · rw [near_half (absI a % 10000 * absI b) mb.2.2.1]
      clear hn
      go_enter Tryd.func24, Tryd.ntmps24
      go_wp2_with (first
      | (go_at_call 14; refine (rgood_any _ _).mono ?_; rintro e w' ⟨rfl, hw⟩; obtain rfl := hw.symm; clear hw; first | rw [ha] | rw [hb])
      | (go_at_call 57; refine (abs_any _ (by omega) (by omega) _).mono ?_; rintro e w' ⟨rfl, hw⟩; obtain rfl := hw.symm; clear hw)
      | (go_at_call 58; refine (rsigned_any _ _ _ (by omega) (by omega) _).mono ?_; rintro e w' ⟨rfl, hw⟩; obtain rfl := hw.symm; clear hw; unfold two))
      go_ret2
      exact ⟨rfl, rfl⟩

set_option maxHeartbeats 2000000 in
theorem div_any (a b : Int) (w : World) : Calls Tryd.prog 25 #[.int .i64 a, .int .i64 b] w fun e w' => e = .returned (two (divF a b)) ∧ w' = w := by
  cases hg : (gd a && gd b)
  · rw [show divF a b = (0, false) by simp [divF, hg]]
    unfold two
    go_enter Tryd.func25, Tryd.ntmps25
    go_wp2_with (go_at_call 55; refine (good2_any _ _ _).mono ?_; rintro e w' ⟨rfl, hw⟩; obtain rfl := hw.symm; clear hw; rw [hg])
    go_ret2
    exact ⟨rfl, rfl⟩
  · have hab := (gd2_iff a b).1 hg
    have ha : gd a = true := (Bool.and_eq_true _ _ ▸ hg).1
    have hb : gd b = true := (Bool.and_eq_true _ _ ▸ hg).2
    by_cases hz : b = 0
    · rw [show divF a b = (0, false) by simp [divF, hz]]
      subst hz
      unfold two
      go_enter Tryd.func25, Tryd.ntmps25
      go_wp2_with (go_at_call 55; refine (good2_any _ _ _).mono ?_; rintro e w' ⟨rfl, hw⟩; obtain rfl := hw.symm; clear hw; rw [hg])
      go_ret2
      exact ⟨rfl, rfl⟩
    have bx := abs_bounds a ha
    have b_y := abs_bounds b hb
    have b0 : 1 ≤ absI b := by unfold absI; split <;> omega
    have nb : 0 ≤ nearI (absI a * 10000) (absI b) ∧ nearI (absI a * 10000) (absI b) ≤ 1000000000000001 := by
      have h1 := near_nonneg (absI a * 10000) (absI b) (by omega) (by omega)
      have h2 := ediv_own (absI a * 10000) (absI b) (by omega) b0
      refine ⟨h1, ?_⟩
      unfold nearI
      split <;> omega
    rw [show divF a b = ans (sgnI (nearI (absI a * 10000) (absI b)) (unl a b)) by simp [divF, hg, hz]]
    go_enter Tryd.func25, Tryd.ntmps25
    go_wp2_with (first
      | (go_at_call 55; refine (good2_any _ _ _).mono ?_; rintro e w' ⟨rfl, hw⟩; obtain rfl := hw.symm; clear hw; rw [hg])
      | (go_at_call 52; refine (size_any _ (by omega) (by omega) _).mono ?_; rintro e w' ⟨rfl, hw⟩; obtain rfl := hw.symm; clear hw)
      | (go_at_call 56; refine (nearest_any _ _ (by omega) (by omega) (by omega) (by omega) _).mono ?_; rintro e w' ⟨rfl, hw⟩; obtain rfl := hw.symm; clear hw)
      | (go_at_call 48; refine (signed_any _ _ (by omega) (by omega) _).mono ?_; rintro e w' ⟨rfl, hw⟩; obtain rfl := hw.symm; clear hw)
      | (go_at_call 47; refine (answer_any _ _).mono ?_; rintro e w' ⟨rfl, hw⟩; obtain rfl := hw.symm; clear hw; unfold two))
    go_ret2
    exact ⟨rfl, rfl⟩

set_option maxHeartbeats 2000000 in
theorem rdiv_any (a b : Int) (w : World) : Calls Tryd.prog 26 #[.int .i64 a, .int .i64 b] w fun e w' => e = .returned (two (divF a b)) ∧ w' = w := by
  cases hg : (gd a && gd b)
  · rw [show divF a b = (0, false) by simp [divF, hg]]
    unfold two
    cases ha : gd a
    · go_enter Tryd.func26, Tryd.ntmps26
      go_wp2_with (go_at_call 14; refine (rgood_any _ _).mono ?_; rintro e w' ⟨rfl, hw⟩; obtain rfl := hw.symm; clear hw; rw [ha])
      go_ret2
      exact ⟨rfl, rfl⟩
    · have hb : gd b = false := by rw [ha] at hg; simpa using hg
      go_enter Tryd.func26, Tryd.ntmps26
      go_wp2_with (go_at_call 14; refine (rgood_any _ _).mono ?_; rintro e w' ⟨rfl, hw⟩; obtain rfl := hw.symm; clear hw; first | rw [ha] | rw [hb])
      go_ret2
      exact ⟨rfl, rfl⟩
  · have hab := (gd2_iff a b).1 hg
    have ha : gd a = true := (Bool.and_eq_true _ _ ▸ hg).1
    have hb : gd b = true := (Bool.and_eq_true _ _ ▸ hg).2
    by_cases hz : b = 0
    · rw [show divF a b = (0, false) by simp [divF, hz]]
      subst hz
      unfold two
      go_enter Tryd.func26, Tryd.ntmps26
      go_wp2_with (go_at_call 14; refine (rgood_any _ _).mono ?_; rintro e w' ⟨rfl, hw⟩; obtain rfl := hw.symm; clear hw; first | rw [ha] | rw [hb])
      go_ret2
      exact ⟨rfl, rfl⟩
    have bx := abs_bounds a ha
    have b_y := abs_bounds b hb
    have b0 : 1 ≤ absI b := by unfold absI; split <;> omega
    have nb : 0 ≤ nearI (absI a * 10000) (absI b) ∧ nearI (absI a * 10000) (absI b) ≤ 1000000000000001 := by
      have h1 := near_nonneg (absI a * 10000) (absI b) (by omega) (by omega)
      have h2 := ediv_own (absI a * 10000) (absI b) (by omega) b0
      refine ⟨h1, ?_⟩
      unfold nearI
      split <;> omega
    rw [show divF a b = ans (sgnI (nearI (absI a * 10000) (absI b)) (unl a b)) by simp [divF, hg, hz]]
    have hm := Int.emod_nonneg (absI a * 10000) (b := absI b) (by omega)
    have hm2 := Int.emod_lt_of_pos (absI a * 10000) (b := absI b) (by omega)
    have hd2 := ediv_own (absI a * 10000) (absI b) (by omega) b0
    have hb0 : ¬ absI b = 0 := by omega
    by_cases hh : absI b ≤ absI a * 10000 % absI b * 2
    · rw [show nearI (absI a * 10000) (absI b) = absI a * 10000 / absI b + 1 from if_pos hh]
      clear nb
      go_enter Tryd.func26, Tryd.ntmps26
      go_wp2_with (first
      | (go_at_call 14; refine (rgood_any _ _).mono ?_; rintro e w' ⟨rfl, hw⟩; obtain rfl := hw.symm; clear hw; first | rw [ha] | rw [hb])
      | (go_at_call 57; refine (abs_any _ (by omega) (by omega) _).mono ?_; rintro e w' ⟨rfl, hw⟩; obtain rfl := hw.symm; clear hw)
      | (go_at_call 58; refine (rsigned_any _ _ _ (by omega) (by omega) _).mono ?_; rintro e w' ⟨rfl, hw⟩; obtain rfl := hw.symm; clear hw; unfold two))
      go_ret2
      exact ⟨rfl, rfl⟩
    · rw [show nearI (absI a * 10000) (absI b) = absI a * 10000 / absI b from if_neg hh]
      clear nb
      go_enter Tryd.func26, Tryd.ntmps26
      go_wp2_with (first
      | (go_at_call 14; refine (rgood_any _ _).mono ?_; rintro e w' ⟨rfl, hw⟩; obtain rfl := hw.symm; clear hw; first | rw [ha] | rw [hb])
      | (go_at_call 57; refine (abs_any _ (by omega) (by omega) _).mono ?_; rintro e w' ⟨rfl, hw⟩; obtain rfl := hw.symm; clear hw)
      | (go_at_call 58; refine (rsigned_any _ _ _ (by omega) (by omega) _).mono ?_; rintro e w' ⟨rfl, hw⟩; obtain rfl := hw.symm; clear hw; unfold two))
      go_ret2
      exact ⟨rfl, rfl⟩

set_option maxHeartbeats 2000000 in
theorem quo_any (a b : Int) (w : World) : Calls Tryd.prog 30 #[.int .i64 a, .int .i64 b] w fun e w' => e = .returned (two (quoF a b)) ∧ w' = w := by
  cases hg : (gd a && gd b)
  · rw [show quoF a b = (0, false) by simp [quoF, hg]]
    unfold two
    go_enter Tryd.func30, Tryd.ntmps30
    go_wp2_with (go_at_call 55; refine (good2_any _ _ _).mono ?_; rintro e w' ⟨rfl, hw⟩; obtain rfl := hw.symm; clear hw; rw [hg])
    go_ret2
    exact ⟨rfl, rfl⟩
  · have hab := (gd2_iff a b).1 hg
    have ha : gd a = true := (Bool.and_eq_true _ _ ▸ hg).1
    have hb : gd b = true := (Bool.and_eq_true _ _ ▸ hg).2
    by_cases hz : b = 0
    · rw [show quoF a b = (0, false) by simp [quoF, hz]]
      subst hz
      unfold two
      go_enter Tryd.func30, Tryd.ntmps30
      go_wp2_with (go_at_call 55; refine (good2_any _ _ _).mono ?_; rintro e w' ⟨rfl, hw⟩; obtain rfl := hw.symm; clear hw; rw [hg])
      go_ret2
      exact ⟨rfl, rfl⟩
    have hq := tdiv_own a b ha
    have hz' : (b == 0) = false := by simpa using hz
    rw [show quoF a b = ans (a.tdiv b * 10000) by simp [quoF, hg, hz]]
    go_enter Tryd.func30, Tryd.ntmps30
    go_wp2_with (first
      | (go_at_call 55; refine (good2_any _ _ _).mono ?_; rintro e w' ⟨rfl, hw⟩; obtain rfl := hw.symm; clear hw; rw [hg])
      | (go_at_call 47; refine (answer_any _ _).mono ?_; rintro e w' ⟨rfl, hw⟩; obtain rfl := hw.symm; clear hw; unfold two))
    go_ret2
    exact ⟨rfl, rfl⟩

set_option maxHeartbeats 2000000 in
theorem rquo_any (a b : Int) (w : World) : Calls Tryd.prog 31 #[.int .i64 a, .int .i64 b] w fun e w' => e = .returned (two (quoF a b)) ∧ w' = w := by
  cases hg : (gd a && gd b)
  · rw [show quoF a b = (0, false) by simp [quoF, hg]]
    unfold two
    cases ha : gd a
    · go_enter Tryd.func31, Tryd.ntmps31
      go_wp2_with (go_at_call 14; refine (rgood_any _ _).mono ?_; rintro e w' ⟨rfl, hw⟩; obtain rfl := hw.symm; clear hw; rw [ha])
      go_ret2
      exact ⟨rfl, rfl⟩
    · have hb : gd b = false := by rw [ha] at hg; simpa using hg
      go_enter Tryd.func31, Tryd.ntmps31
      go_wp2_with (go_at_call 14; refine (rgood_any _ _).mono ?_; rintro e w' ⟨rfl, hw⟩; obtain rfl := hw.symm; clear hw; first | rw [ha] | rw [hb])
      go_ret2
      exact ⟨rfl, rfl⟩
  · have hab := (gd2_iff a b).1 hg
    have ha : gd a = true := (Bool.and_eq_true _ _ ▸ hg).1
    have hb : gd b = true := (Bool.and_eq_true _ _ ▸ hg).2
    by_cases hz : b = 0
    · rw [show quoF a b = (0, false) by simp [quoF, hz]]
      subst hz
      unfold two
      go_enter Tryd.func31, Tryd.ntmps31
      go_wp2_with (go_at_call 14; refine (rgood_any _ _).mono ?_; rintro e w' ⟨rfl, hw⟩; obtain rfl := hw.symm; clear hw; first | rw [ha] | rw [hb])
      go_ret2
      exact ⟨rfl, rfl⟩
    have hq := tdiv_own a b ha
    have hz' : (b == 0) = false := by simpa using hz
    rw [show quoF a b = ans (a.tdiv b * 10000) by simp [quoF, hg, hz]]
    have he : absI (a.tdiv b) = a.tdiv b ∧ 0 ≤ a.tdiv b ∨ absI (a.tdiv b) = - a.tdiv b ∧ a.tdiv b < 0 := by unfold absI; split <;> omega
    by_cases hh : 10000000 < absI (a.tdiv b)
    · rw [ans_out _ (by omega)]
      unfold two
      go_enter Tryd.func31, Tryd.ntmps31
      go_wp2_with (first
      | (go_at_call 14; refine (rgood_any _ _).mono ?_; rintro e w' ⟨rfl, hw⟩; obtain rfl := hw.symm; clear hw; first | rw [ha] | rw [hb])
      | (go_at_call 57; refine (abs_any _ (by omega) (by omega) _).mono ?_; rintro e w' ⟨rfl, hw⟩; obtain rfl := hw.symm; clear hw)
      | (go_at_call 50; refine (out_any _ _).mono ?_; rintro e w' ⟨rfl, hw⟩; obtain rfl := hw.symm; clear hw; unfold two))
      go_ret2
      exact ⟨rfl, rfl⟩
    · go_enter Tryd.func31, Tryd.ntmps31
      go_wp2_with (first
      | (go_at_call 14; refine (rgood_any _ _).mono ?_; rintro e w' ⟨rfl, hw⟩; obtain rfl := hw.symm; clear hw; first | rw [ha] | rw [hb])
      | (go_at_call 57; refine (abs_any _ (by omega) (by omega) _).mono ?_; rintro e w' ⟨rfl, hw⟩; obtain rfl := hw.symm; clear hw)
      | (go_at_call 50; refine (out_any _ _).mono ?_; rintro e w' ⟨rfl, hw⟩; obtain rfl := hw.symm; clear hw; unfold two))
      go_ret2
      exact ⟨rfl, rfl⟩

set_option maxHeartbeats 2000000 in
theorem mod_any (a b : Int) (w : World) : Calls Tryd.prog 19 #[.int .i64 a, .int .i64 b] w fun e w' => e = .returned (two (modF a b)) ∧ w' = w := by
  cases hg : (gd a && gd b)
  · rw [show modF a b = (0, false) by simp [modF, hg]]
    unfold two
    go_enter Tryd.func19, Tryd.ntmps19
    go_wp2_with (go_at_call 55; refine (good2_any _ _ _).mono ?_; rintro e w' ⟨rfl, hw⟩; obtain rfl := hw.symm; clear hw; rw [hg])
    go_ret2
    exact ⟨rfl, rfl⟩
  · have hab := (gd2_iff a b).1 hg
    have ha : gd a = true := (Bool.and_eq_true _ _ ▸ hg).1
    have hb : gd b = true := (Bool.and_eq_true _ _ ▸ hg).2
    by_cases hz : b = 0
    · rw [show modF a b = (0, false) by simp [modF, hz]]
      subst hz
      unfold two
      go_enter Tryd.func19, Tryd.ntmps19
      go_wp2_with (go_at_call 55; refine (good2_any _ _ _).mono ?_; rintro e w' ⟨rfl, hw⟩; obtain rfl := hw.symm; clear hw; rw [hg])
      go_ret2
      exact ⟨rfl, rfl⟩
    have hz' : (b == 0) = false := by simpa using hz
    have tb := tmod_between a b hz
    have ab : absI b ≤ 100000000000 := (abs_bounds b hb).2
    by_cases h0 : a.tmod b = 0
    · rw [show modF a b = (0, true) by simp [modF, hg, hz, h0]]
      unfold two
      go_enter Tryd.func19, Tryd.ntmps19
      go_wp2_with (go_at_call 55; refine (good2_any _ _ _).mono ?_; rintro e w' ⟨rfl, hw⟩; obtain rfl := hw.symm; clear hw; rw [hg])
      go_ret2
      exact ⟨rfl, rfl⟩
    · have h0' : (a.tmod b != 0) = true := by simpa using h0
      cases hu : unl (a.tmod b) b
      · rw [show modF a b = (a.tmod b, true) by simp [modF, hg, hz, hu]]
        have hu' : (!decide (a.tmod b < 0) == decide (b < 0)) = false := hu
        unfold two
        go_enter Tryd.func19, Tryd.ntmps19
        go_wp2_with (go_at_call 55; refine (good2_any _ _ _).mono ?_; rintro e w' ⟨rfl, hw⟩; obtain rfl := hw.symm; clear hw; rw [hg])
        go_ret2
        exact ⟨rfl, rfl⟩
      · rw [show modF a b = (a.tmod b + b, true) by simp [modF, hg, hz, hu, h0]]
        have hu' : (!decide (a.tmod b < 0) == decide (b < 0)) = true := hu
        unfold two
        go_enter Tryd.func19, Tryd.ntmps19
        go_wp2_with (go_at_call 55; refine (good2_any _ _ _).mono ?_; rintro e w' ⟨rfl, hw⟩; obtain rfl := hw.symm; clear hw; rw [hg])
        go_ret2
        exact ⟨rfl, rfl⟩

set_option maxHeartbeats 2000000 in
theorem rmod_any (a b : Int) (w : World) : Calls Tryd.prog 29 #[.int .i64 a, .int .i64 b] w fun e w' => e = .returned (two (modF a b)) ∧ w' = w := by
  cases hg : (gd a && gd b)
  · rw [show modF a b = (0, false) by simp [modF, hg]]
    unfold two
    cases ha : gd a
    · go_enter Tryd.func29, Tryd.ntmps29
      go_wp2_with (go_at_call 14; refine (rgood_any _ _).mono ?_; rintro e w' ⟨rfl, hw⟩; obtain rfl := hw.symm; clear hw; rw [ha])
      go_ret2
      exact ⟨rfl, rfl⟩
    · have hb : gd b = false := by rw [ha] at hg; simpa using hg
      go_enter Tryd.func29, Tryd.ntmps29
      go_wp2_with (go_at_call 14; refine (rgood_any _ _).mono ?_; rintro e w' ⟨rfl, hw⟩; obtain rfl := hw.symm; clear hw; first | rw [ha] | rw [hb])
      go_ret2
      exact ⟨rfl, rfl⟩
  · have hab := (gd2_iff a b).1 hg
    have ha : gd a = true := (Bool.and_eq_true _ _ ▸ hg).1
    have hb : gd b = true := (Bool.and_eq_true _ _ ▸ hg).2
    by_cases hz : b = 0
    · rw [show modF a b = (0, false) by simp [modF, hz]]
      subst hz
      unfold two
      go_enter Tryd.func29, Tryd.ntmps29
      go_wp2_with (go_at_call 14; refine (rgood_any _ _).mono ?_; rintro e w' ⟨rfl, hw⟩; obtain rfl := hw.symm; clear hw; first | rw [ha] | rw [hb])
      go_ret2
      exact ⟨rfl, rfl⟩
    have hz' : (b == 0) = false := by simpa using hz
    have fb := floor_bounds a b hg hz
    rw [← mod_ref a b hg hz]
    go_enter Tryd.func29, Tryd.ntmps29
    go_wp2_with (first
      | (go_at_call 14; refine (rgood_any _ _).mono ?_; rintro e w' ⟨rfl, hw⟩; obtain rfl := hw.symm; clear hw; first | rw [ha] | rw [hb])
      | (go_at_call 60; refine (floor_any _ _ ha hz _).mono ?_; rintro e w' ⟨rfl, hw⟩; obtain rfl := hw.symm; clear hw)
      | (go_at_call 50; refine (out_any _ _).mono ?_; rintro e w' ⟨rfl, hw⟩; obtain rfl := hw.symm; clear hw; unfold two))
    go_ret2
    exact ⟨rfl, rfl⟩

end Go.Proofs.YtdkoobpapdahaaaDoor
