/- The contracts of the small functions of num and of the reference. -/
import Derived.Test.YtelpllilepkjmaaDoorNPure
import Derived.Below
namespace Go.Proofs.YtelpllilepkjmaaDoor
open Go.RowKit
set_option linter.unusedSimpArgs false
set_option linter.unusedVariables false
set_option maxRecDepth 100000

/-- What a call of two results tells. -/
def two (r : Int × Bool) : Value := .tuple #[.int .i64 r.1, .bool r.2]

set_option maxHeartbeats 1000000 in
theorem good_any (n : Int) (w : World) : Calls Tryd.prog 41 #[.int .i64 n] w fun e w' => e = .returned (.bool (gd n)) ∧ w' = w := by
  go_enter Tryd.func41, Tryd.ntmps41
  go_wp2
  all_goals (go_ret; rename_i h; refine ⟨?_, rfl⟩; congr 2; simp [gd]; try omega)
set_option maxHeartbeats 1000000 in
theorem rgood_any (n : Int) (w : World) : Calls Tryd.prog 43 #[.int .i64 n] w fun e w' => e = .returned (.bool (gd n)) ∧ w' = w := by
  go_enter Tryd.func43, Tryd.ntmps43
  go_wp2
  all_goals (go_ret; rename_i h; refine ⟨?_, rfl⟩; congr 2; simp [gd]; try omega)
set_option maxHeartbeats 1000000 in
theorem answer_any (n : Int) (w : World) : Calls Tryd.prog 63 #[.int .i64 n] w fun e w' => e = .returned (two (ans n)) ∧ w' = w := by
  cases hg : gd n
  all_goals
    go_enter Tryd.func63, Tryd.ntmps63
    go_wp2_with (go_at_call 41; refine (good_any _ _).mono ?_; rintro e w' ⟨rfl, hw⟩; obtain rfl := hw.symm; clear hw; rw [hg])
    go_ret2
    exact ⟨by simp [two, ans, hg], rfl⟩
set_option maxHeartbeats 1000000 in
theorem out_any (n : Int) (w : World) : Calls Tryd.prog 66 #[.int .i64 n] w fun e w' => e = .returned (two (ans n)) ∧ w' = w := by
  cases hg : gd n
  all_goals
    go_enter Tryd.func66, Tryd.ntmps66
    go_wp2_with (go_at_call 43; refine (rgood_any _ _).mono ?_; rintro e w' ⟨rfl, hw⟩; obtain rfl := hw.symm; clear hw; rw [hg])
    go_ret2
    exact ⟨by simp [two, ans, hg], rfl⟩
set_option maxHeartbeats 1000000 in
theorem size_any (n : Int) (h0 : -9223372036854775807 ≤ n) (h1 : n ≤ 9223372036854775807) (w : World) : Calls Tryd.prog 68 #[.int .i64 n] w fun e w' => e = .returned (.int .i64 (absI n)) ∧ w' = w := by
  by_cases h : n < 0
  · rw [show absI n = -n from if_pos h]
    go_enter Tryd.func68, Tryd.ntmps68
    go_wp2
    go_ret
    exact ⟨rfl, rfl⟩
  · rw [show absI n = n from if_neg h]
    go_enter Tryd.func68, Tryd.ntmps68
    go_wp2
    go_ret
    exact ⟨rfl, rfl⟩
set_option maxHeartbeats 1000000 in
theorem signed_any (n : Int) (b : Bool) (h0 : -9223372036854775807 ≤ n) (h1 : n ≤ 9223372036854775807) (w : World) : Calls Tryd.prog 64 #[.int .i64 n, .bool b] w fun e w' => e = .returned (.int .i64 (sgnI n b)) ∧ w' = w := by
  unfold sgnI
  cases b
  all_goals
    go_enter Tryd.func64, Tryd.ntmps64
    go_wp2
    go_ret
    exact ⟨rfl, rfl⟩
theorem tdiv_own (a b : Int) (ha : gd a = true) : -100000000000 ≤ a.tdiv b ∧ a.tdiv b ≤ 100000000000 := by
  have h' := (gd_iff a).1 ha
  have := Int.natAbs_tdiv_le_natAbs a b
  omega
end Go.Proofs.YtelpllilepkjmaaDoor
