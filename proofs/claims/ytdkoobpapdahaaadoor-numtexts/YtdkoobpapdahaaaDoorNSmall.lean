/- The contracts of the small functions of num and of the reference. -/
import Derived.Test.YtdkoobpapdahaaaDoorNPure
import Derived.Below
namespace Go.Proofs.YtdkoobpapdahaaaDoor
open Go.RowKit
set_option linter.unusedVariables false
set_option maxRecDepth 100000

/-- What a call of two results tells. -/
def two (r : Int × Bool) : Value := .tuple #[.int .i64 r.1, .bool r.2]

set_option maxHeartbeats 1000000 in
theorem good_any (n : Int) (w : World) : Calls Tryd.prog 13 #[.int .i64 n] w fun e w' => e = .returned (.bool (gd n)) ∧ w' = w := by
  go_enter Tryd.func13, Tryd.ntmps13
  go_wp2
  all_goals (go_ret; rename_i h; refine ⟨?_, rfl⟩; congr 2; simp [gd]; try omega)
set_option maxHeartbeats 1000000 in
theorem rgood_any (n : Int) (w : World) : Calls Tryd.prog 14 #[.int .i64 n] w fun e w' => e = .returned (.bool (gd n)) ∧ w' = w := by
  go_enter Tryd.func14, Tryd.ntmps14
  go_wp2
  all_goals (go_ret; rename_i h; refine ⟨?_, rfl⟩; congr 2; simp [gd]; try omega)
set_option maxHeartbeats 1000000 in
theorem answer_any (n : Int) (w : World) : Calls Tryd.prog 47 #[.int .i64 n] w fun e w' => e = .returned (two (ans n)) ∧ w' = w := by
  cases hg : gd n
  all_goals
    go_enter Tryd.func47, Tryd.ntmps47
    go_wp2_with (go_at_call 13; refine (good_any _ _).mono ?_; rintro e w' ⟨rfl, hw⟩; obtain rfl := hw.symm; clear hw; rw [hg])
    go_ret2
    exact ⟨by simp [two, ans, hg], rfl⟩
set_option maxHeartbeats 1000000 in
theorem out_any (n : Int) (w : World) : Calls Tryd.prog 50 #[.int .i64 n] w fun e w' => e = .returned (two (ans n)) ∧ w' = w := by
  cases hg : gd n
  all_goals
    go_enter Tryd.func50, Tryd.ntmps50
    go_wp2_with (go_at_call 14; refine (rgood_any _ _).mono ?_; rintro e w' ⟨rfl, hw⟩; obtain rfl := hw.symm; clear hw; rw [hg])
    go_ret2
    exact ⟨by simp [two, ans, hg], rfl⟩
set_option maxHeartbeats 1000000 in
theorem good2_any (a b : Int) (w : World) : Calls Tryd.prog 55 #[.int .i64 a, .int .i64 b] w fun e w' => e = .returned (.bool (gd a && gd b)) ∧ w' = w := by
  cases hg : gd a
  all_goals
    go_enter Tryd.func55, Tryd.ntmps55
    go_wp2_with (go_at_call 13; refine (good_any _ _).mono ?_; rintro e w' ⟨rfl, hw⟩; obtain rfl := hw.symm; clear hw; try rw [hg])
    go_ret
    exact ⟨by simp, rfl⟩
set_option maxHeartbeats 1000000 in
theorem size_any (n : Int) (h0 : -9223372036854775807 ≤ n) (h1 : n ≤ 9223372036854775807) (w : World) : Calls Tryd.prog 52 #[.int .i64 n] w fun e w' => e = .returned (.int .i64 (absI n)) ∧ w' = w := by
  by_cases h : n < 0
  · rw [show absI n = -n from if_pos h]
    go_enter Tryd.func52, Tryd.ntmps52
    go_wp2
    go_ret
    exact ⟨rfl, rfl⟩
  · rw [show absI n = n from if_neg h]
    go_enter Tryd.func52, Tryd.ntmps52
    go_wp2
    go_ret
    exact ⟨rfl, rfl⟩
set_option maxHeartbeats 1000000 in
theorem abs_any (n : Int) (h0 : -9223372036854775807 ≤ n) (h1 : n ≤ 9223372036854775807) (w : World) : Calls Tryd.prog 57 #[.int .i64 n] w fun e w' => e = .returned (.int .i64 (absI n)) ∧ w' = w := by
  by_cases h : n < 0
  · rw [show absI n = -n from if_pos h]
    go_enter Tryd.func57, Tryd.ntmps57
    go_wp2
    go_ret
    exact ⟨rfl, rfl⟩
  · rw [show absI n = n from if_neg h]
    go_enter Tryd.func57, Tryd.ntmps57
    go_wp2
    go_ret
    exact ⟨rfl, rfl⟩
set_option maxHeartbeats 1000000 in
theorem signed_any (n : Int) (b : Bool) (h0 : -9223372036854775807 ≤ n) (h1 : n ≤ 9223372036854775807) (w : World) : Calls Tryd.prog 48 #[.int .i64 n, .bool b] w fun e w' => e = .returned (.int .i64 (sgnI n b)) ∧ w' = w := by
  unfold sgnI
  cases b
  all_goals
    go_enter Tryd.func48, Tryd.ntmps48
    go_wp2
    go_ret
    exact ⟨rfl, rfl⟩
set_option maxHeartbeats 1000000 in
theorem rsigned_any (n a b : Int) (h0 : -9223372036854775807 ≤ n) (h1 : n ≤ 9223372036854775807) (w : World) : Calls Tryd.prog 58 #[.int .i64 n, .int .i64 a, .int .i64 b] w fun e w' => e = .returned (two (ans (sgnI n (unl a b)))) ∧ w' = w := by
  by_cases ha : a < 0 <;> by_cases hb : b < 0
  all_goals
    have hu : unl a b = (decide (a < 0) != decide (b < 0)) := rfl
    simp only [ha, hb, decide_true, decide_false, bne_self_eq_false, Bool.bne_true, Bool.bne_false, Bool.not_false] at hu
    rw [hu]
    clear hu
    go_enter Tryd.func58, Tryd.ntmps58
    go_wp2_with (go_at_call 50; refine (out_any _ _).mono ?_; rintro e w' ⟨rfl, hw⟩; obtain rfl := hw.symm; clear hw; unfold two)
    go_ret2
    exact ⟨rfl, rfl⟩
set_option maxHeartbeats 1000000 in
theorem nearest_any (a b : Int) (h0 : 0 ≤ a) (h1 : a ≤ 2000000000000000) (h2 : 1 ≤ b) (h3 : b ≤ 2000000000000000) (w : World) : Calls Tryd.prog 56 #[.int .i64 a, .int .i64 b] w fun e w' => e = .returned (.int .i64 (nearI a b)) ∧ w' = w := by
  have hm := Int.emod_nonneg a (b := b) (by omega)
  have hn := Int.emod_lt_of_pos a (b := b) (by omega)
  have hd := ediv_own a b h0 h2
  have hb : ¬ b = 0 := by omega
  unfold nearI
  go_enter Tryd.func56, Tryd.ntmps56
  go_wp2
  all_goals (go_ret; exact ⟨rfl, rfl⟩)
theorem tdiv_own (a b : Int) (ha : gd a = true) : -100000000000 ≤ a.tdiv b ∧ a.tdiv b ≤ 100000000000 := by
  have h' := (gd_iff a).1 ha
  have := Int.natAbs_tdiv_le_natAbs a b
  omega
set_option maxHeartbeats 1000000 in
theorem floor_any (a b : Int) (ha : gd a = true) (hb : b ≠ 0) (w : World) : Calls Tryd.prog 60 #[.int .i64 a, .int .i64 b] w fun e w' => e = .returned (.int .i64 (floorI a b)) ∧ w' = w := by
  have hq := tdiv_own a b ha
  have key : floorI a b = if a.tmod b = 0 then a.tdiv b else if (!decide (a < 0) == decide (b < 0)) = true then a.tdiv b - 1 else a.tdiv b := by
    unfold floorI unl
    by_cases h : a.tmod b = 0
    · simp [h]
    · simp only [h, ne_eq, not_false_eq_true, true_and, if_false]
      rfl
  rw [key]
  by_cases hz : a.tmod b = 0
  · rw [if_pos hz]
    go_enter Tryd.func60, Tryd.ntmps60
    go_wp2
    all_goals (go_ret; exact ⟨rfl, rfl⟩)
  · rw [if_neg hz]
    have hz' : (a.tmod b != 0) = true := by simpa using hz
    generalize hu : (!decide (a < 0) == decide (b < 0)) = u
    cases u
    all_goals
      go_enter Tryd.func60, Tryd.ntmps60
      go_wp2
      go_ret
      exact ⟨rfl, rfl⟩
set_option maxHeartbeats 1000000 in
theorem same_any (a b : Int) (p q : Bool) (w : World) : Calls Tryd.prog 22 #[.int .i64 a, .bool p, .int .i64 b, .bool q] w fun e w' => e = .returned (.bool (a == b && p == q)) ∧ w' = w := by
  go_enter Tryd.func22, Tryd.ntmps22
  go_wp2
  all_goals (rename_i h; go_ret; exact ⟨by simp [h], rfl⟩)
theorem same_yes (r : Int × Bool) (w : World) : Calls Tryd.prog 22 #[.int .i64 r.1, .bool r.2, .int .i64 r.1, .bool r.2] w fun e w' => e = .returned (.bool true) ∧ w' = w := by
  have := same_any r.1 r.1 r.2 r.2 w
  simpa using this
set_option maxHeartbeats 1000000 in
theorem whole_any (n : Int) (w : World) : Calls Tryd.prog 39 #[.int .i64 n] w fun e w' => e = .returned (two (wholeF n)) ∧ w' = w := by
  cases hg : gd n
  · rw [show wholeF n = (0, false) by simp [wholeF, hg]]
    unfold two
    · skip
      go_enter Tryd.func39, Tryd.ntmps39
      go_wp2_with (go_at_call 13; refine (good_any _ _).mono ?_; rintro e w' ⟨rfl, hw⟩; obtain rfl := hw.symm; clear hw; rw [hg])
      go_ret2
      exact ⟨rfl, rfl⟩
  · have hq := tdiv_own n 10000 hg
    by_cases hz : n.tmod 10000 = 0
    · rw [show wholeF n = (n.tdiv 10000, true) by simp [wholeF, hg, hz]]
      unfold two
      go_enter Tryd.func39, Tryd.ntmps39
      go_wp2_with (go_at_call 13; refine (good_any _ _).mono ?_; rintro e w' ⟨rfl, hw⟩; obtain rfl := hw.symm; clear hw; rw [hg])
      go_ret2
      exact ⟨rfl, rfl⟩
    · rw [show wholeF n = (0, false) by simp [wholeF, hz]]
      unfold two
      go_enter Tryd.func39, Tryd.ntmps39
      go_wp2_with (go_at_call 13; refine (good_any _ _).mono ?_; rintro e w' ⟨rfl, hw⟩; obtain rfl := hw.symm; clear hw; rw [hg])
      go_ret2
      exact ⟨rfl, rfl⟩
set_option maxHeartbeats 1000000 in
theorem rwhole_any (n : Int) (w : World) : Calls Tryd.prog 40 #[.int .i64 n] w fun e w' => e = .returned (two (wholeF n)) ∧ w' = w := by
  cases hg : gd n
  · rw [show wholeF n = (0, false) by simp [wholeF, hg]]
    unfold two
    · skip
      go_enter Tryd.func40, Tryd.ntmps40
      go_wp2_with (go_at_call 14; refine (rgood_any _ _).mono ?_; rintro e w' ⟨rfl, hw⟩; obtain rfl := hw.symm; clear hw; rw [hg])
      go_ret2
      exact ⟨rfl, rfl⟩
  · have hq := tdiv_own n 10000 hg
    by_cases hz : n.tmod 10000 = 0
    · rw [show wholeF n = (n.tdiv 10000, true) by simp [wholeF, hg, hz]]
      unfold two
      go_enter Tryd.func40, Tryd.ntmps40
      go_wp2_with (go_at_call 14; refine (rgood_any _ _).mono ?_; rintro e w' ⟨rfl, hw⟩; obtain rfl := hw.symm; clear hw; rw [hg])
      go_ret2
      exact ⟨rfl, rfl⟩
    · rw [show wholeF n = (0, false) by simp [wholeF, hz]]
      unfold two
      go_enter Tryd.func40, Tryd.ntmps40
      go_wp2_with (go_at_call 14; refine (rgood_any _ _).mono ?_; rintro e w' ⟨rfl, hw⟩; obtain rfl := hw.symm; clear hw; rw [hg])
      go_ret2
      exact ⟨rfl, rfl⟩
end Go.Proofs.YtdkoobpapdahaaaDoor
