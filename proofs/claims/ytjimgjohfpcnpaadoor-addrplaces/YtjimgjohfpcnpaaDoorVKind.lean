/- The contract of kindOf: a value as one of the types of its kinds. -/
import Derived.Test.YtjimgjohfpcnpaaDoorRows
import Derived.Test.YtjimgjohfpcnpaaDoorNPrint
import Derived.WalkKit
import Derived.Below
namespace Go.Proofs.YtjimgjohfpcnpaaDoor
open Go.RowKit
set_option linter.unusedSimpArgs false
set_option maxRecDepth 100000
set_option linter.unusedVariables false

set_option maxHeartbeats 1000000 in
theorem tcount_any (b : Bool) (w : World) : Calls Tryd.prog 91 #[.bool b] w fun e w' => e = .returned (.int .i64 (if b = true then 1 else 0)) ∧ w' = w := by
  cases b
  all_goals
    go_enter Tryd.func91, Tryd.ntmps91
    go_wp2
    go_ret
    exact ⟨rfl, rfl⟩
def knB (n : Int) : Bool := decide (1 ≤ n) && decide (n ≤ 8)
set_option maxHeartbeats 1000000 in
theorem known_any (n : Int) (w : World) : Calls Tryd.prog 92 #[.int .i64 n] w fun e w' => e = .returned (.bool (knB n)) ∧ w' = w := by
  go_enter Tryd.func92, Tryd.ntmps92
  go_wp2
  all_goals (go_ret; rename_i h; refine ⟨?_, rfl⟩; congr 2; simp [knB]; try omega)
end Go.Proofs.YtjimgjohfpcnpaaDoor
