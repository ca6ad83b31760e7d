/- The walk of DateDays. -/
import Derived.Test.YtnjkckkcepkaoaaDoorDLives
import Derived.Test.YtnjkckkcepkaoaaDoorDROf
namespace Go.Proofs.YtnjkckkcepkaoaaDoor
open Go.RowKit
set_option linter.unusedVariables false
set_option maxRecDepth 100000

set_option maxHeartbeats 2000000 in
theorem days_walk (y m d : Int) (w : World) (T : PTab w) : Calls Tryd.prog 3 #[.int .i64 y, .int .i64 m, .int .i64 d] w fun e w' => e = .returned (.bool true) ∧ Below w.heap.size w w' := by
  have A := fun u => day_any y m d u
  have B := fun u => rday_any y m d u
  have C := fun u => of_any y m d u
  have D := fun u => rof_any y m d u
  have L1 := fun u => leap_any y u
  have L2 := fun u => rleap_any y u
  have M1 := fun u => last_any y m u
  have M2 := fun u => rlast_any y m u
  have LV := fun u hu => lives_any u hu
  unfold two at *
  generalize dayF y m d = r at *
  generalize ofF y m d = q at *
  generalize Cal.leap y = b at *
  generalize Cal.last y m = l at *
  obtain ⟨r1, r2⟩ := r
  obtain ⟨q1, q2⟩ := q
  have e1 : (r1 == r1) = true := by simp
  have e2 : (r2 == r2) = true := by simp
  have e3 : (q1 == q1) = true := by simp
  have e4 : (q2 == q2) = true := by simp
  have e5 : (b == b) = true := by simp
  have e6 : (l == l) = true := by simp
  have HT : Hid (PTab w) := T
  clear T
  go_enter Tryd.func3, Tryd.ntmps3
  go_wp2_with (first
    | (go_at_call 8; refine (A _).mono ?_; rintro e w' ⟨rfl, hw⟩; obtain rfl := hw.symm; clear hw)
    | (go_at_call 9; refine (B _).mono ?_; rintro e w' ⟨rfl, hw⟩; obtain rfl := hw.symm; clear hw)
    | (go_at_call 10; refine (C _).mono ?_; rintro e w' ⟨rfl, hw⟩; obtain rfl := hw.symm; clear hw)
    | (go_at_call 11; refine (D _).mono ?_; rintro e w' ⟨rfl, hw⟩; obtain rfl := hw.symm; clear hw)
    | (go_at_call 12; refine (L1 _).mono ?_; rintro e w' ⟨rfl, hw⟩; obtain rfl := hw.symm; clear hw)
    | (go_at_call 13; refine (L2 _).mono ?_; rintro e w' ⟨rfl, hw⟩; obtain rfl := hw.symm; clear hw)
    | (go_at_call 14; refine (M1 _).mono ?_; rintro e w' ⟨rfl, hw⟩; obtain rfl := hw.symm; clear hw)
    | (go_at_call 15; refine (M2 _).mono ?_; rintro e w' ⟨rfl, hw⟩; obtain rfl := hw.symm; clear hw)
    | (go_at_call 16; refine (LV _ HT.out).mono ?_; rintro e w1 ⟨rfl, hb1⟩; have HB1 : Hid _ := hb1; clear hb1))
  go_ret
  exact ⟨rfl, HB1.out⟩
end Go.Proofs.YtnjkckkcepkaoaaDoor
