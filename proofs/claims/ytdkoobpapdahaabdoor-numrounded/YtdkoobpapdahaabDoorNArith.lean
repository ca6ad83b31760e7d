/- The contracts of what is done with two numbers: sums, products, quotients, rests. -/
import Derived.Test.YtdkoobpapdahaabDoorNSmall
namespace Go.Proofs.YtdkoobpapdahaabDoor
open Go.RowKit
set_option linter.unusedVariables false
set_option maxRecDepth 100000


set_option maxHeartbeats 2000000 in
theorem div_any (a b : Int) (w : World) : Calls Tryd.prog 8 #[.int .i64 a, .int .i64 b] w fun e w' => e = .returned (two (divF a b)) ∧ w' = w := by
  cases hg : (gd a && gd b)
  · rw [show divF a b = (0, false) by simp [divF, hg]]
    unfold two
    go_enter Tryd.func8, Tryd.ntmps8
    go_wp2_with (go_at_call 18; refine (good2_any _ _ _).mono ?_; rintro e w' ⟨rfl, hw⟩; obtain rfl := hw.symm; clear hw; rw [hg])
    go_ret2
    exact ⟨rfl, rfl⟩
  · have hab := (gd2_iff a b).1 hg
    have ha : gd a = true := (Bool.and_eq_true _ _ ▸ hg).1
    have hb : gd b = true := (Bool.and_eq_true _ _ ▸ hg).2
    by_cases hz : b = 0
    · rw [show divF a b = (0, false) by simp [divF, hz]]
      subst hz
      unfold two
      go_enter Tryd.func8, Tryd.ntmps8
      go_wp2_with (go_at_call 18; refine (good2_any _ _ _).mono ?_; rintro e w' ⟨rfl, hw⟩; obtain rfl := hw.symm; clear hw; rw [hg])
      go_ret2
      exact ⟨rfl, rfl⟩
    have bx := abs_bounds a ha
    have b_y := abs_bounds b hb
    have b0 : 1 ≤ absI b := by unfold absI; split <;> omega
    have nb : 0 ≤ nearI (absI a * 10000) (absI b) ∧ nearI (absI a * 10000) (absI b) ≤ 1000000000000001 := by
      have h1 := near_nonneg (absI a * 10000) (absI b) (by omega) (by omega)
      have h2 := ediv_own (absI a * 10000) (absI b) (by omega) b0
      refine ⟨h1, ?_⟩
      unfold nearI
      split <;> omega
    rw [show divF a b = ans (sgnI (nearI (absI a * 10000) (absI b)) (unl a b)) by simp [divF, hg, hz]]
    go_enter Tryd.func8, Tryd.ntmps8
    go_wp2_with (first
      | (go_at_call 18; refine (good2_any _ _ _).mono ?_; rintro e w' ⟨rfl, hw⟩; obtain rfl := hw.symm; clear hw; rw [hg])
      | (go_at_call 12; refine (size_any _ (by omega) (by omega) _).mono ?_; rintro e w' ⟨rfl, hw⟩; obtain rfl := hw.symm; clear hw)
      | (go_at_call 19; refine (nearest_any _ _ (by omega) (by omega) (by omega) (by omega) _).mono ?_; rintro e w' ⟨rfl, hw⟩; obtain rfl := hw.symm; clear hw)
      | (go_at_call 14; refine (signed_any _ _ (by omega) (by omega) _).mono ?_; rintro e w' ⟨rfl, hw⟩; obtain rfl := hw.symm; clear hw)
      | (go_at_call 13; refine (answer_any _ _).mono ?_; rintro e w' ⟨rfl, hw⟩; obtain rfl := hw.symm; clear hw; unfold two))
    go_ret2
    exact ⟨rfl, rfl⟩

end Go.Proofs.YtdkoobpapdahaabDoor
