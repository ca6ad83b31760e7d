/- The walk of the law NumRounds. -/
import Derived.Test.YtdkoobpapdahaaaDoorNRRound
import Derived.Test.YtdkoobpapdahaaaDoorNLives
namespace Go.Proofs.YtdkoobpapdahaaaDoor
open Go.RowKit
set_option linter.unusedVariables false
set_option maxRecDepth 100000

set_option maxHeartbeats 2000000 in
theorem rounds_walk (n d how : Int) (hn : n ≤ 9223372036854775807) (w : World) (T : PTab w) :
    Calls Tryd.prog 8 #[.int .i64 n, .int .i64 d, .int .i64 how] w fun e w' => e = .returned (.bool true) ∧ Below w.heap.size w w' := by
  have HT : Hid (PTab w) := T
  clear T
  have A1 := fun u => round_any n d how u
  have A2 := fun u => rround_any n d how u
  have B1 := fun u => sqrt_any n u
  have B2 := fun u => rsqrt_any n u
  have C1 := fun u => whole_any n u
  have C2 := fun u => rwhole_any n u
  have D1 := fun u => fact_any n hn u
  have D2 := fun u => rfact_any n hn u
  generalize roundF n d how = ra at *
  generalize sqrtF n = rb at *
  generalize wholeF n = rc at *
  generalize factF n = rd at *
  unfold two at *
  go_enter Tryd.func8, Tryd.ntmps8
  go_wp2_with (first
    | (go_at_call 36; refine (A1 _).mono ?_; rintro e w' ⟨rfl, hw⟩; obtain rfl := hw.symm; clear hw)
    | (go_at_call 37; refine (A2 _).mono ?_; rintro e w' ⟨rfl, hw⟩; obtain rfl := hw.symm; clear hw)
    | (go_at_call 20; refine (B1 _).mono ?_; rintro e w' ⟨rfl, hw⟩; obtain rfl := hw.symm; clear hw)
    | (go_at_call 38; refine (B2 _).mono ?_; rintro e w' ⟨rfl, hw⟩; obtain rfl := hw.symm; clear hw)
    | (go_at_call 39; refine (C1 _).mono ?_; rintro e w' ⟨rfl, hw⟩; obtain rfl := hw.symm; clear hw)
    | (go_at_call 40; refine (C2 _).mono ?_; rintro e w' ⟨rfl, hw⟩; obtain rfl := hw.symm; clear hw)
    | (go_at_call 41; refine (D1 _).mono ?_; rintro e w' ⟨rfl, hw⟩; obtain rfl := hw.symm; clear hw)
    | (go_at_call 42; refine (D2 _).mono ?_; rintro e w' ⟨rfl, hw⟩; obtain rfl := hw.symm; clear hw)
    | (go_at_call 22; refine (same_yes _ _).mono ?_; rintro e w' ⟨rfl, hw⟩; obtain rfl := hw.symm; clear hw)
    | (go_at_call 15; refine (lives_any _ HT.out).mono ?_; rintro e w9 ⟨rfl, hb9⟩; have HB9 : Hid _ := hb9; clear hb9))
  go_ret
  exact ⟨rfl, HB9.out⟩
end Go.Proofs.YtdkoobpapdahaaaDoor
