/- The contracts of the small functions of num and of the reference. -/
import Derived.Test.YtdkoobpapdahaabDoorNPure
import Derived.Below
namespace Go.Proofs.YtdkoobpapdahaabDoor
open Go.RowKit
set_option linter.unusedVariables false
set_option maxRecDepth 100000

/-- What a call of two results tells. -/
def two (r : Int × Bool) : Value := .tuple #[.int .i64 r.1, .bool r.2]

set_option maxHeartbeats 1000000 in
theorem good_any (n : Int) (w : World) : Calls Tryd.prog 4 #[.int .i64 n] w fun e w' => e = .returned (.bool (gd n)) ∧ w' = w := by
  go_enter Tryd.func4, Tryd.ntmps4
  go_wp2
  all_goals (go_ret; rename_i h; refine ⟨?_, rfl⟩; congr 2; simp [gd]; try omega)
set_option maxHeartbeats 1000000 in
theorem answer_any (n : Int) (w : World) : Calls Tryd.prog 13 #[.int .i64 n] w fun e w' => e = .returned (two (ans n)) ∧ w' = w := by
  cases hg : gd n
  all_goals
    go_enter Tryd.func13, Tryd.ntmps13
    go_wp2_with (go_at_call 4; refine (good_any _ _).mono ?_; rintro e w' ⟨rfl, hw⟩; obtain rfl := hw.symm; clear hw; rw [hg])
    go_ret2
    exact ⟨by simp [two, ans, hg], rfl⟩
set_option maxHeartbeats 1000000 in
theorem good2_any (a b : Int) (w : World) : Calls Tryd.prog 18 #[.int .i64 a, .int .i64 b] w fun e w' => e = .returned (.bool (gd a && gd b)) ∧ w' = w := by
  cases hg : gd a
  all_goals
    go_enter Tryd.func18, Tryd.ntmps18
    go_wp2_with (go_at_call 4; refine (good_any _ _).mono ?_; rintro e w' ⟨rfl, hw⟩; obtain rfl := hw.symm; clear hw; try rw [hg])
    go_ret
    exact ⟨by simp, rfl⟩
set_option maxHeartbeats 1000000 in
theorem size_any (n : Int) (h0 : -9223372036854775807 ≤ n) (h1 : n ≤ 9223372036854775807) (w : World) : Calls Tryd.prog 12 #[.int .i64 n] w fun e w' => e = .returned (.int .i64 (absI n)) ∧ w' = w := by
  by_cases h : n < 0
  · rw [show absI n = -n from if_pos h]
    go_enter Tryd.func12, Tryd.ntmps12
    go_wp2
    go_ret
    exact ⟨rfl, rfl⟩
  · rw [show absI n = n from if_neg h]
    go_enter Tryd.func12, Tryd.ntmps12
    go_wp2
    go_ret
    exact ⟨rfl, rfl⟩
set_option maxHeartbeats 1000000 in
theorem signed_any (n : Int) (b : Bool) (h0 : -9223372036854775807 ≤ n) (h1 : n ≤ 9223372036854775807) (w : World) : Calls Tryd.prog 14 #[.int .i64 n, .bool b] w fun e w' => e = .returned (.int .i64 (sgnI n b)) ∧ w' = w := by
  unfold sgnI
  cases b
  all_goals
    go_enter Tryd.func14, Tryd.ntmps14
    go_wp2
    go_ret
    exact ⟨rfl, rfl⟩
set_option maxHeartbeats 1000000 in
theorem nearest_any (a b : Int) (h0 : 0 ≤ a) (h1 : a ≤ 2000000000000000) (h2 : 1 ≤ b) (h3 : b ≤ 2000000000000000) (w : World) : Calls Tryd.prog 19 #[.int .i64 a, .int .i64 b] w fun e w' => e = .returned (.int .i64 (nearI a b)) ∧ w' = w := by
  have hm := Int.emod_nonneg a (b := b) (by omega)
  have hn := Int.emod_lt_of_pos a (b := b) (by omega)
  have hd := ediv_own a b h0 h2
  have hb : ¬ b = 0 := by omega
  unfold nearI
  go_enter Tryd.func19, Tryd.ntmps19
  go_wp2
  all_goals (go_ret; exact ⟨rfl, rfl⟩)
theorem tdiv_own (a b : Int) (ha : gd a = true) : -100000000000 ≤ a.tdiv b ∧ a.tdiv b ≤ 100000000000 := by
  have h' := (gd_iff a).1 ha
  have := Int.natAbs_tdiv_le_natAbs a b
  omega
end Go.Proofs.YtdkoobpapdahaabDoor
