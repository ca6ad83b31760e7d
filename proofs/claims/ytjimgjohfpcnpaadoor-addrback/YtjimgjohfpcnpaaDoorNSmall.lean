/- The contracts of the small functions of num and of the reference. -/
import Derived.Test.YtjimgjohfpcnpaaDoorNPure
import Derived.Below
namespace Go.Proofs.YtjimgjohfpcnpaaDoor
open Go.RowKit
set_option linter.unusedSimpArgs false
set_option linter.unusedVariables false
set_option maxRecDepth 100000

/-- What a call of two results tells. -/
def two (r : Int × Bool) : Value := .tuple #[.int .i64 r.1, .bool r.2]

set_option maxHeartbeats 1000000 in
theorem good_any (n : Int) (w : World) : Calls Tryd.prog 90 #[.int .i64 n] w fun e w' => e = .returned (.bool (gd n)) ∧ w' = w := by
  go_enter Tryd.func90, Tryd.ntmps90
  go_wp2
  all_goals (go_ret; rename_i h; refine ⟨?_, rfl⟩; congr 2; simp [gd]; try omega)
set_option maxHeartbeats 1000000 in
theorem answer_any (n : Int) (w : World) : Calls Tryd.prog 88 #[.int .i64 n] w fun e w' => e = .returned (two (ans n)) ∧ w' = w := by
  cases hg : gd n
  all_goals
    go_enter Tryd.func88, Tryd.ntmps88
    go_wp2_with (go_at_call 90; refine (good_any _ _).mono ?_; rintro e w' ⟨rfl, hw⟩; obtain rfl := hw.symm; clear hw; rw [hg])
    go_ret2
    exact ⟨by simp [two, ans, hg], rfl⟩
set_option maxHeartbeats 1000000 in
theorem signed_any (n : Int) (b : Bool) (h0 : -9223372036854775807 ≤ n) (h1 : n ≤ 9223372036854775807) (w : World) : Calls Tryd.prog 89 #[.int .i64 n, .bool b] w fun e w' => e = .returned (.int .i64 (sgnI n b)) ∧ w' = w := by
  unfold sgnI
  cases b
  all_goals
    go_enter Tryd.func89, Tryd.ntmps89
    go_wp2
    go_ret
    exact ⟨rfl, rfl⟩
theorem tdiv_own (a b : Int) (ha : gd a = true) : -100000000000 ≤ a.tdiv b ∧ a.tdiv b ≤ 100000000000 := by
  have h' := (gd_iff a).1 ha
  have := Int.natAbs_tdiv_le_natAbs a b
  omega
end Go.Proofs.YtjimgjohfpcnpaaDoor
