/- The contracts of Round, of num and of the reference. -/
import Derived.Test.YtdkoobpapdahaabDoorNLoop
namespace Go.Proofs.YtdkoobpapdahaabDoor
open Go.RowKit
set_option linter.unusedVariables false
set_option maxRecDepth 100000

set_option maxHeartbeats 4000000 in
theorem round_any (n d how : Int) (w : World) : Calls Tryd.prog 6 #[.int .i64 n, .int .i64 d, .int .i64 how] w fun e w' => e = .returned (two (roundF n d how)) ∧ w' = w := by
  cases hg : gd n
  · rw [show roundF n d how = (0, false) by simp [roundF, hg]]
    unfold two
    go_enter Tryd.func6, Tryd.ntmps6
    go_wp2_with (go_at_call 4; refine (good_any _ _).mono ?_; rintro e w' ⟨rfl, hw⟩; obtain rfl := hw.symm; clear hw; rw [hg])
    go_ret2
    exact ⟨rfl, rfl⟩
  have hn := (gd_iff n).1 hg
  by_cases hd : ¬ (-8 ≤ d ∧ d ≤ 4)
  · rw [show roundF n d how = (0, false) by simp only [roundF]; rw [if_neg (fun h => hd h.2.1)]]
    unfold two
    by_cases hd8 : d < -8
    all_goals
      go_enter Tryd.func6, Tryd.ntmps6
      go_wp2_with (go_at_call 4; refine (good_any _ _).mono ?_; rintro e w' ⟨rfl, hw⟩; obtain rfl := hw.symm; clear hw; rw [hg])
      go_ret2
      exact ⟨rfl, rfl⟩
  have hd' : -8 ≤ d ∧ d ≤ 4 := by omega
  clear hd
  have hs := step_bounds d hd'
  have TN : ∀ u : World, Calls Tryd.prog 11 #[.int .i64 (4 - d)] u fun e w' => e = .returned (.int .i64 (stepI d)) ∧ w' = u := fun u => by
    have := tens_any (4 - d).toNat (by omega) u
    rw [Int.toNat_of_nonneg (by omega)] at this
    exact this
  have hF : ∀ h : 0 ≤ how ∧ how ≤ 4, roundF n d how = roundS n (stepI d) how := fun h => if_pos ⟨hg, hd', h⟩
  have hF2 : ¬ (0 ≤ how ∧ how ≤ 4) → roundF n d how = (0, false) := fun h => if_neg fun g => h g.2.2
  generalize roundF n d how = r at *
  generalize stepI d = s at *
  obtain ⟨h1, h2, h3⟩ := round_facts n s hs.1
  have ha : absI (n.tmod s) = n.tmod s ∧ 0 ≤ n.tmod s ∨ absI (n.tmod s) = - n.tmod s ∧ n.tmod s < 0 := by unfold absI; split <;> omega
  have hr' : Hid (∀ h : 0 ≤ how ∧ how ≤ 4, r = roundS n s how) := hF
  have hr2 : Hid (¬ (0 ≤ how ∧ how ≤ 4) → r = (0, false)) := hF2
  clear hF hF2
  have hs0 : ¬ s = 0 := by omega
  have hsg : sgnI s (decide (n < 0)) = s ∨ sgnI s (decide (n < 0)) = -s := by unfold sgnI; split <;> omega
  have hsg2 : -s ≤ sgnI s true ∧ sgnI s true ≤ -s := by unfold sgnI; simp
  unfold roundS at hr'
  generalize hrest : n.tmod s = x at *
  clear h2 h3
  by_cases c : ¬ (0 ≤ how ∧ how ≤ 4)
  · have hE : Hid (r = (0, false)) := hr2.out c
    have c0 : (how == 0) = false := by simp; omega
    have c1 : (how == 1) = false := by simp; omega
    have c2 : (how == 2) = false := by simp; omega
    have c3 : (how == 3) = false := by simp; omega
    have c4 : (how == 4) = false := by simp; omega
    have d0 : ¬ how = 0 := by omega
    have d1 : ¬ how = 1 := by omega
    have d2 : ¬ how = 2 := by omega
    have d3 : ¬ how = 3 := by omega
    have d4 : ¬ how = 4 := by omega
    go_enter Tryd.func6, Tryd.ntmps6
    go_wp2_with (first
      | (go_at_call 4; refine (good_any _ _).mono ?_; rintro e w' ⟨rfl, hw⟩; obtain rfl := hw.symm; clear hw; rw [hg])
      | (go_at_call 11; refine (TN _).mono ?_; rintro e w' ⟨rfl, hw⟩; obtain rfl := hw.symm; clear hw))
    go_ret2
    exact ⟨by rw [hE.out]; rfl, rfl⟩
  have hA : Hid (awayI n x s how = true → r = ans (n - x + sgnI s (decide (n < 0)))) := fun h => (hr'.out (by omega)).trans (if_pos h)
  have hB : Hid (awayI n x s how = false → r = (n - x, true)) := fun h => (hr'.out (by omega)).trans (if_neg (by rw [h]; decide))
  clear hr' hr2
  have hx : ((x != 0) = true ∧ x ≠ 0) ∨ ((x != 0) = false ∧ x = 0) := by
    by_cases h : x = 0
    · exact .inr ⟨by simp [h], h⟩
    · exact .inl ⟨by simpa using h, h⟩
  have hh : how = 0 ∨ how = 1 ∨ how = 2 ∨ how = 3 ∨ how = 4 := by omega
  clear c
  rcases hh with rfl | rfl | rfl | rfl | rfl
  · clear hx
    by_cases hc : s ≤ absI x * 2
    · have hE : Hid (r = ans (n - x + sgnI s (decide (n < 0)))) := hA.out (by simp [awayI, hc])
      clear hA hB
      go_enter Tryd.func6, Tryd.ntmps6
      go_wp2_with (first
      | (go_at_call 4; refine (good_any _ _).mono ?_; rintro e w' ⟨rfl, hw⟩; obtain rfl := hw.symm; clear hw; rw [hg])
      | (go_at_call 11; refine (TN _).mono ?_; rintro e w' ⟨rfl, hw⟩; obtain rfl := hw.symm; clear hw)
      | (go_at_call 12; refine (size_any _ (by omega) (by omega) _).mono ?_; rintro e w' ⟨rfl, hw⟩; obtain rfl := hw.symm; clear hw)
      | (go_at_call 14; refine (signed_any _ _ (by omega) (by omega) _).mono ?_; rintro e w' ⟨rfl, hw⟩; obtain rfl := hw.symm; clear hw)
      | (go_at_call 13; refine (answer_any _ _).mono ?_; rintro e w' ⟨rfl, hw⟩; obtain rfl := hw.symm; clear hw; unfold two))
      go_ret2
      exact ⟨by rw [hE.out]; first | rfl | (rw [hx2, Int.sub_zero]; rfl), rfl⟩
    · have hE : Hid (r = (n - x, true)) := hB.out (by simp [awayI, show absI x * 2 < s by omega])
      clear hA hB
      go_enter Tryd.func6, Tryd.ntmps6
      go_wp2_with (first
      | (go_at_call 4; refine (good_any _ _).mono ?_; rintro e w' ⟨rfl, hw⟩; obtain rfl := hw.symm; clear hw; rw [hg])
      | (go_at_call 11; refine (TN _).mono ?_; rintro e w' ⟨rfl, hw⟩; obtain rfl := hw.symm; clear hw)
      | (go_at_call 12; refine (size_any _ (by omega) (by omega) _).mono ?_; rintro e w' ⟨rfl, hw⟩; obtain rfl := hw.symm; clear hw)
      | (go_at_call 14; refine (signed_any _ _ (by omega) (by omega) _).mono ?_; rintro e w' ⟨rfl, hw⟩; obtain rfl := hw.symm; clear hw)
      | (go_at_call 13; refine (answer_any _ _).mono ?_; rintro e w' ⟨rfl, hw⟩; obtain rfl := hw.symm; clear hw; unfold two))
      go_ret2
      exact ⟨by rw [hE.out]; first | rfl | (rw [hx2, Int.sub_zero]; rfl), rfl⟩
  · rcases hx with ⟨hx1, hx2⟩ | ⟨hx1, hx2⟩
    · have hE : Hid (r = ans (n - x + sgnI s (decide (n < 0)))) := hA.out (by simp [awayI, hx2])
      clear hA hB
      go_enter Tryd.func6, Tryd.ntmps6
      go_wp2_with (first
      | (go_at_call 4; refine (good_any _ _).mono ?_; rintro e w' ⟨rfl, hw⟩; obtain rfl := hw.symm; clear hw; rw [hg])
      | (go_at_call 11; refine (TN _).mono ?_; rintro e w' ⟨rfl, hw⟩; obtain rfl := hw.symm; clear hw)
      | (go_at_call 12; refine (size_any _ (by omega) (by omega) _).mono ?_; rintro e w' ⟨rfl, hw⟩; obtain rfl := hw.symm; clear hw)
      | (go_at_call 14; refine (signed_any _ _ (by omega) (by omega) _).mono ?_; rintro e w' ⟨rfl, hw⟩; obtain rfl := hw.symm; clear hw)
      | (go_at_call 13; refine (answer_any _ _).mono ?_; rintro e w' ⟨rfl, hw⟩; obtain rfl := hw.symm; clear hw; unfold two))
      go_ret2
      exact ⟨by rw [hE.out]; first | rfl | (rw [hx2, Int.sub_zero]; rfl), rfl⟩
    · have hE : Hid (r = (n - x, true)) := hB.out (by simp [awayI, hx2])
      clear hA hB
      go_enter Tryd.func6, Tryd.ntmps6
      go_wp2_with (first
      | (go_at_call 4; refine (good_any _ _).mono ?_; rintro e w' ⟨rfl, hw⟩; obtain rfl := hw.symm; clear hw; rw [hg])
      | (go_at_call 11; refine (TN _).mono ?_; rintro e w' ⟨rfl, hw⟩; obtain rfl := hw.symm; clear hw)
      | (go_at_call 12; refine (size_any _ (by omega) (by omega) _).mono ?_; rintro e w' ⟨rfl, hw⟩; obtain rfl := hw.symm; clear hw)
      | (go_at_call 14; refine (signed_any _ _ (by omega) (by omega) _).mono ?_; rintro e w' ⟨rfl, hw⟩; obtain rfl := hw.symm; clear hw)
      | (go_at_call 13; refine (answer_any _ _).mono ?_; rintro e w' ⟨rfl, hw⟩; obtain rfl := hw.symm; clear hw; unfold two))
      go_ret2
      exact ⟨by rw [hE.out]; first | rfl | (rw [hx2, Int.sub_zero]; rfl), rfl⟩
  · clear hx
    · have hE : Hid (r = (n - x, true)) := hB.out (by simp [awayI])
      clear hA hB
      go_enter Tryd.func6, Tryd.ntmps6
      go_wp2_with (first
      | (go_at_call 4; refine (good_any _ _).mono ?_; rintro e w' ⟨rfl, hw⟩; obtain rfl := hw.symm; clear hw; rw [hg])
      | (go_at_call 11; refine (TN _).mono ?_; rintro e w' ⟨rfl, hw⟩; obtain rfl := hw.symm; clear hw)
      | (go_at_call 12; refine (size_any _ (by omega) (by omega) _).mono ?_; rintro e w' ⟨rfl, hw⟩; obtain rfl := hw.symm; clear hw)
      | (go_at_call 14; refine (signed_any _ _ (by omega) (by omega) _).mono ?_; rintro e w' ⟨rfl, hw⟩; obtain rfl := hw.symm; clear hw)
      | (go_at_call 13; refine (answer_any _ _).mono ?_; rintro e w' ⟨rfl, hw⟩; obtain rfl := hw.symm; clear hw; unfold two))
      go_ret2
      exact ⟨by rw [hE.out]; first | rfl | (rw [hx2, Int.sub_zero]; rfl), rfl⟩
  · rcases hx with ⟨hx1, hx2⟩ | ⟨hx1, hx2⟩
    · by_cases hc : 0 < n
      · have hE : Hid (r = ans (n - x + sgnI s (decide (n < 0)))) := hA.out (by simp [awayI, hx2, hc])
        clear hA hB
        go_enter Tryd.func6, Tryd.ntmps6
        go_wp2_with (first
      | (go_at_call 4; refine (good_any _ _).mono ?_; rintro e w' ⟨rfl, hw⟩; obtain rfl := hw.symm; clear hw; rw [hg])
      | (go_at_call 11; refine (TN _).mono ?_; rintro e w' ⟨rfl, hw⟩; obtain rfl := hw.symm; clear hw)
      | (go_at_call 12; refine (size_any _ (by omega) (by omega) _).mono ?_; rintro e w' ⟨rfl, hw⟩; obtain rfl := hw.symm; clear hw)
      | (go_at_call 14; refine (signed_any _ _ (by omega) (by omega) _).mono ?_; rintro e w' ⟨rfl, hw⟩; obtain rfl := hw.symm; clear hw)
      | (go_at_call 13; refine (answer_any _ _).mono ?_; rintro e w' ⟨rfl, hw⟩; obtain rfl := hw.symm; clear hw; unfold two))
        go_ret2
        exact ⟨by rw [hE.out]; first | rfl | (rw [hx2, Int.sub_zero]; rfl), rfl⟩
      · have hE : Hid (r = (n - x, true)) := hB.out (by simp [awayI, hx2, show n ≤ 0 by omega])
        clear hA hB
        go_enter Tryd.func6, Tryd.ntmps6
        go_wp2_with (first
      | (go_at_call 4; refine (good_any _ _).mono ?_; rintro e w' ⟨rfl, hw⟩; obtain rfl := hw.symm; clear hw; rw [hg])
      | (go_at_call 11; refine (TN _).mono ?_; rintro e w' ⟨rfl, hw⟩; obtain rfl := hw.symm; clear hw)
      | (go_at_call 12; refine (size_any _ (by omega) (by omega) _).mono ?_; rintro e w' ⟨rfl, hw⟩; obtain rfl := hw.symm; clear hw)
      | (go_at_call 14; refine (signed_any _ _ (by omega) (by omega) _).mono ?_; rintro e w' ⟨rfl, hw⟩; obtain rfl := hw.symm; clear hw)
      | (go_at_call 13; refine (answer_any _ _).mono ?_; rintro e w' ⟨rfl, hw⟩; obtain rfl := hw.symm; clear hw; unfold two))
        go_ret2
        exact ⟨by rw [hE.out]; first | rfl | (rw [hx2, Int.sub_zero]; rfl), rfl⟩
    · by_cases hc : 0 < n
      · have hE : Hid (r = (n - x, true)) := hB.out (by simp [awayI, hx2, hc])
        clear hA hB
        go_enter Tryd.func6, Tryd.ntmps6
        go_wp2_with (first
      | (go_at_call 4; refine (good_any _ _).mono ?_; rintro e w' ⟨rfl, hw⟩; obtain rfl := hw.symm; clear hw; rw [hg])
      | (go_at_call 11; refine (TN _).mono ?_; rintro e w' ⟨rfl, hw⟩; obtain rfl := hw.symm; clear hw)
      | (go_at_call 12; refine (size_any _ (by omega) (by omega) _).mono ?_; rintro e w' ⟨rfl, hw⟩; obtain rfl := hw.symm; clear hw)
      | (go_at_call 14; refine (signed_any _ _ (by omega) (by omega) _).mono ?_; rintro e w' ⟨rfl, hw⟩; obtain rfl := hw.symm; clear hw)
      | (go_at_call 13; refine (answer_any _ _).mono ?_; rintro e w' ⟨rfl, hw⟩; obtain rfl := hw.symm; clear hw; unfold two))
        go_ret2
        exact ⟨by rw [hE.out]; first | rfl | (rw [hx2, Int.sub_zero]; rfl), rfl⟩
      · have hE : Hid (r = (n - x, true)) := hB.out (by simp [awayI, hx2])
        clear hA hB
        go_enter Tryd.func6, Tryd.ntmps6
        go_wp2_with (first
      | (go_at_call 4; refine (good_any _ _).mono ?_; rintro e w' ⟨rfl, hw⟩; obtain rfl := hw.symm; clear hw; rw [hg])
      | (go_at_call 11; refine (TN _).mono ?_; rintro e w' ⟨rfl, hw⟩; obtain rfl := hw.symm; clear hw)
      | (go_at_call 12; refine (size_any _ (by omega) (by omega) _).mono ?_; rintro e w' ⟨rfl, hw⟩; obtain rfl := hw.symm; clear hw)
      | (go_at_call 14; refine (signed_any _ _ (by omega) (by omega) _).mono ?_; rintro e w' ⟨rfl, hw⟩; obtain rfl := hw.symm; clear hw)
      | (go_at_call 13; refine (answer_any _ _).mono ?_; rintro e w' ⟨rfl, hw⟩; obtain rfl := hw.symm; clear hw; unfold two))
        go_ret2
        exact ⟨by rw [hE.out]; first | rfl | (rw [hx2, Int.sub_zero]; rfl), rfl⟩
  · rcases hx with ⟨hx1, hx2⟩ | ⟨hx1, hx2⟩
    · by_cases hc : n < 0
      · have hE : Hid (r = ans (n - x + sgnI s (decide (n < 0)))) := hA.out (by simp [awayI, hx2, hc])
        clear hA hB
        go_enter Tryd.func6, Tryd.ntmps6
        go_wp2_with (first
      | (go_at_call 4; refine (good_any _ _).mono ?_; rintro e w' ⟨rfl, hw⟩; obtain rfl := hw.symm; clear hw; rw [hg])
      | (go_at_call 11; refine (TN _).mono ?_; rintro e w' ⟨rfl, hw⟩; obtain rfl := hw.symm; clear hw)
      | (go_at_call 12; refine (size_any _ (by omega) (by omega) _).mono ?_; rintro e w' ⟨rfl, hw⟩; obtain rfl := hw.symm; clear hw)
      | (go_at_call 14; refine (signed_any _ _ (by omega) (by omega) _).mono ?_; rintro e w' ⟨rfl, hw⟩; obtain rfl := hw.symm; clear hw)
      | (go_at_call 13; refine (answer_any _ _).mono ?_; rintro e w' ⟨rfl, hw⟩; obtain rfl := hw.symm; clear hw; unfold two))
        go_ret2
        exact ⟨by rw [hE.out]; first | rfl | (rw [decide_eq_true hc]; rfl), rfl⟩
      · have hE : Hid (r = (n - x, true)) := hB.out (by simp [awayI, hx2, show 0 ≤ n by omega])
        clear hA hB
        go_enter Tryd.func6, Tryd.ntmps6
        go_wp2_with (first
      | (go_at_call 4; refine (good_any _ _).mono ?_; rintro e w' ⟨rfl, hw⟩; obtain rfl := hw.symm; clear hw; rw [hg])
      | (go_at_call 11; refine (TN _).mono ?_; rintro e w' ⟨rfl, hw⟩; obtain rfl := hw.symm; clear hw)
      | (go_at_call 12; refine (size_any _ (by omega) (by omega) _).mono ?_; rintro e w' ⟨rfl, hw⟩; obtain rfl := hw.symm; clear hw)
      | (go_at_call 14; refine (signed_any _ _ (by omega) (by omega) _).mono ?_; rintro e w' ⟨rfl, hw⟩; obtain rfl := hw.symm; clear hw)
      | (go_at_call 13; refine (answer_any _ _).mono ?_; rintro e w' ⟨rfl, hw⟩; obtain rfl := hw.symm; clear hw; unfold two))
        go_ret2
        exact ⟨by rw [hE.out]; first | rfl | (rw [hx2, Int.sub_zero]; rfl), rfl⟩
    · by_cases hc : n < 0
      · have hE : Hid (r = (n - x, true)) := hB.out (by simp [awayI, hx2, hc])
        clear hA hB
        go_enter Tryd.func6, Tryd.ntmps6
        go_wp2_with (first
      | (go_at_call 4; refine (good_any _ _).mono ?_; rintro e w' ⟨rfl, hw⟩; obtain rfl := hw.symm; clear hw; rw [hg])
      | (go_at_call 11; refine (TN _).mono ?_; rintro e w' ⟨rfl, hw⟩; obtain rfl := hw.symm; clear hw)
      | (go_at_call 12; refine (size_any _ (by omega) (by omega) _).mono ?_; rintro e w' ⟨rfl, hw⟩; obtain rfl := hw.symm; clear hw)
      | (go_at_call 14; refine (signed_any _ _ (by omega) (by omega) _).mono ?_; rintro e w' ⟨rfl, hw⟩; obtain rfl := hw.symm; clear hw)
      | (go_at_call 13; refine (answer_any _ _).mono ?_; rintro e w' ⟨rfl, hw⟩; obtain rfl := hw.symm; clear hw; unfold two))
        go_ret2
        exact ⟨by rw [hE.out]; first | rfl | (rw [hx2, Int.sub_zero]; rfl), rfl⟩
      · have hE : Hid (r = (n - x, true)) := hB.out (by simp [awayI, hx2])
        clear hA hB
        go_enter Tryd.func6, Tryd.ntmps6
        go_wp2_with (first
      | (go_at_call 4; refine (good_any _ _).mono ?_; rintro e w' ⟨rfl, hw⟩; obtain rfl := hw.symm; clear hw; rw [hg])
      | (go_at_call 11; refine (TN _).mono ?_; rintro e w' ⟨rfl, hw⟩; obtain rfl := hw.symm; clear hw)
      | (go_at_call 12; refine (size_any _ (by omega) (by omega) _).mono ?_; rintro e w' ⟨rfl, hw⟩; obtain rfl := hw.symm; clear hw)
      | (go_at_call 14; refine (signed_any _ _ (by omega) (by omega) _).mono ?_; rintro e w' ⟨rfl, hw⟩; obtain rfl := hw.symm; clear hw)
      | (go_at_call 13; refine (answer_any _ _).mono ?_; rintro e w' ⟨rfl, hw⟩; obtain rfl := hw.symm; clear hw; unfold two))
        go_ret2
        exact ⟨by rw [hE.out]; first | rfl | (rw [hx2, Int.sub_zero]; rfl), rfl⟩
end Go.Proofs.YtdkoobpapdahaabDoor
