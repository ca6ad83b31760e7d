/- The contracts of the small functions of date and of the reference. -/
import Derived.Test.YtnjkckkcepkaoaaDoorDPure
import Derived.Below
namespace Go.Proofs.YtnjkckkcepkaoaaDoor
open Go.RowKit
set_option maxRecDepth 100000
set_option linter.unusedVariables false

theorem tm0 (y : Int) (k : Int) : y.tmod k = 0 ↔ y % k = 0 :=
  (Int.dvd_iff_tmod_eq_zero).symm.trans Int.dvd_iff_emod_eq_zero
def leapT (y : Int) : Bool := (y.tmod 4 == 0 && y.tmod 100 != 0) || y.tmod 400 == 0
theorem leapT_eq (y : Int) : Cal.leap y = leapT y := by
  have h1 := tm0 y 4
  have h2 := tm0 y 100
  have h3 := tm0 y 400
  unfold Cal.leap leapT
  rw [Bool.eq_iff_iff]
  simp [h1, h2, h3]
  omega
set_option maxHeartbeats 1000000 in
theorem leap_any (y : Int) (w : World) : Calls Tryd.prog 12 #[.int .i64 y] w fun e w' => e = .returned (.bool (Cal.leap y)) ∧ w' = w := by
  rw [leapT_eq]
  unfold leapT
  by_cases h4 : y.tmod 4 = 0 <;> by_cases h1 : y.tmod 100 = 0 <;> by_cases h2 : y.tmod 400 = 0
  all_goals
    go_enter Tryd.func12, Tryd.ntmps12
    go_wp2
    go_ret
    refine ⟨?_, rfl⟩
    simp [h4, h1, h2]
set_option maxHeartbeats 1000000 in
theorem rleap_any (y : Int) (w : World) : Calls Tryd.prog 13 #[.int .i64 y] w fun e w' => e = .returned (.bool (Cal.leap y)) ∧ w' = w := by
  have i1 := tm0 y 4
  have i2 := tm0 y 100
  have i3 := tm0 y 400
  by_cases h4 : y.tmod 4 = 0 <;> by_cases h1 : y.tmod 100 = 0 <;> by_cases h2 : y.tmod 400 = 0
  all_goals
    have hE : Hid (Cal.leap y = (y.tmod 4 == 0 && (y.tmod 100 != 0 || y.tmod 400 == 0))) := by
      show _ = _
      unfold Cal.leap
      rw [Bool.eq_iff_iff]
      simp [i1, i2, i3]
    clear i1 i2 i3
    go_enter Tryd.func13, Tryd.ntmps13
    go_wp2
    go_ret
    refine ⟨?_, rfl⟩
    rw [hE.out]
    simp [h4, h1, h2]
theorem month_cases (m : Int) (h1 : 1 ≤ m) (h2 : m ≤ 12) : m = 1 ∨ m = 2 ∨ m = 3 ∨ m = 4 ∨ m = 5 ∨ m = 6 ∨ m = 7 ∨ m = 8 ∨ m = 9 ∨ m = 10 ∨ m = 11 ∨ m = 12 := by omega
theorem run_index_arr {P : Program} {w : World} {t e n : Nat} {cs : Array Value} {k : IntKind} {i : Int} {v : Value} (h : P.underlying t = some (.array n e)) (hs : ∀ w, (sizeOf e).run P w = .ok 1 w) (ha : ∀ w, (isAgg e).run P w = .ok false w) (h0 : 0 ≤ i) (h1 : i < n) (hv : cs[i.toNat]? = some v) :
    (Instr.index t (.agg cs) (.int k i)).run P w = .ok v w := by
  simp [Instr.index, part, run_underlying h, asIntOf, h0, h1, hs, ha, hv, go_sem]
theorem size3 (w : World) : (sizeOf 3).run Tryd.prog w = .ok 1 w := by simp [sizeOf, go_sem]; rfl
theorem agg3 (w : World) : (isAgg 3).run Tryd.prog w = .ok false w := by simp [isAgg, run_underlying Tryd.underlying3, go_sem]
set_option maxHeartbeats 1000000 in
theorem last14_1 (y : Int) (w : World) : Calls Tryd.prog 14 #[.int .i64 y, .int .i64 1] w fun e w' => e = .returned (.int .i64 31) ∧ w' = w := by
  have ix : ∀ w : World, (Instr.index 41 (.agg #[.int .i64 31, .int .i64 28, .int .i64 31, .int .i64 30, .int .i64 31, .int .i64 30, .int .i64 31, .int .i64 31, .int .i64 30, .int .i64 31, .int .i64 30, .int .i64 31]) (.int .i64 0)).run Tryd.prog w = .ok (.int .i64 31) w := fun w => run_index_arr Tryd.underlying41 size3 agg3 (by decide) (by decide) rfl
  go_enter Tryd.func14, Tryd.ntmps14
  go_wp2
  go_ret
  exact ⟨rfl, rfl⟩
set_option maxHeartbeats 1000000 in
theorem last14_2 (y : Int) (w : World) : Calls Tryd.prog 14 #[.int .i64 y, .int .i64 2] w fun e w' => e = .returned (.int .i64 (28 + Cal.lp y)) ∧ w' = w := by
  have ix : ∀ w : World, (Instr.index 41 (.agg #[.int .i64 31, .int .i64 28, .int .i64 31, .int .i64 30, .int .i64 31, .int .i64 30, .int .i64 31, .int .i64 31, .int .i64 30, .int .i64 31, .int .i64 30, .int .i64 31]) (.int .i64 1)).run Tryd.prog w = .ok (.int .i64 28) w := fun w => run_index_arr Tryd.underlying41 size3 agg3 (by decide) (by decide) rfl
  cases hy : Cal.leap y
  · rw [show Cal.lp y = 0 by unfold Cal.lp; rw [hy]; rfl]
    go_enter Tryd.func14, Tryd.ntmps14
    go_wp2_with (go_at_call 12; refine (leap_any _ _).mono ?_; rintro e w' ⟨rfl, hw⟩; obtain rfl := hw.symm; clear hw; rw [hy])
    go_ret
    exact ⟨rfl, rfl⟩
  · rw [show Cal.lp y = 1 by unfold Cal.lp; rw [hy]; rfl]
    go_enter Tryd.func14, Tryd.ntmps14
    go_wp2_with (go_at_call 12; refine (leap_any _ _).mono ?_; rintro e w' ⟨rfl, hw⟩; obtain rfl := hw.symm; clear hw; rw [hy])
    go_ret
    exact ⟨rfl, rfl⟩
set_option maxHeartbeats 1000000 in
theorem last14_3 (y : Int) (w : World) : Calls Tryd.prog 14 #[.int .i64 y, .int .i64 3] w fun e w' => e = .returned (.int .i64 31) ∧ w' = w := by
  have ix : ∀ w : World, (Instr.index 41 (.agg #[.int .i64 31, .int .i64 28, .int .i64 31, .int .i64 30, .int .i64 31, .int .i64 30, .int .i64 31, .int .i64 31, .int .i64 30, .int .i64 31, .int .i64 30, .int .i64 31]) (.int .i64 2)).run Tryd.prog w = .ok (.int .i64 31) w := fun w => run_index_arr Tryd.underlying41 size3 agg3 (by decide) (by decide) rfl
  go_enter Tryd.func14, Tryd.ntmps14
  go_wp2
  go_ret
  exact ⟨rfl, rfl⟩
set_option maxHeartbeats 1000000 in
theorem last14_4 (y : Int) (w : World) : Calls Tryd.prog 14 #[.int .i64 y, .int .i64 4] w fun e w' => e = .returned (.int .i64 30) ∧ w' = w := by
  have ix : ∀ w : World, (Instr.index 41 (.agg #[.int .i64 31, .int .i64 28, .int .i64 31, .int .i64 30, .int .i64 31, .int .i64 30, .int .i64 31, .int .i64 31, .int .i64 30, .int .i64 31, .int .i64 30, .int .i64 31]) (.int .i64 3)).run Tryd.prog w = .ok (.int .i64 30) w := fun w => run_index_arr Tryd.underlying41 size3 agg3 (by decide) (by decide) rfl
  go_enter Tryd.func14, Tryd.ntmps14
  go_wp2
  go_ret
  exact ⟨rfl, rfl⟩
set_option maxHeartbeats 1000000 in
theorem last14_5 (y : Int) (w : World) : Calls Tryd.prog 14 #[.int .i64 y, .int .i64 5] w fun e w' => e = .returned (.int .i64 31) ∧ w' = w := by
  have ix : ∀ w : World, (Instr.index 41 (.agg #[.int .i64 31, .int .i64 28, .int .i64 31, .int .i64 30, .int .i64 31, .int .i64 30, .int .i64 31, .int .i64 31, .int .i64 30, .int .i64 31, .int .i64 30, .int .i64 31]) (.int .i64 4)).run Tryd.prog w = .ok (.int .i64 31) w := fun w => run_index_arr Tryd.underlying41 size3 agg3 (by decide) (by decide) rfl
  go_enter Tryd.func14, Tryd.ntmps14
  go_wp2
  go_ret
  exact ⟨rfl, rfl⟩
set_option maxHeartbeats 1000000 in
theorem last14_6 (y : Int) (w : World) : Calls Tryd.prog 14 #[.int .i64 y, .int .i64 6] w fun e w' => e = .returned (.int .i64 30) ∧ w' = w := by
  have ix : ∀ w : World, (Instr.index 41 (.agg #[.int .i64 31, .int .i64 28, .int .i64 31, .int .i64 30, .int .i64 31, .int .i64 30, .int .i64 31, .int .i64 31, .int .i64 30, .int .i64 31, .int .i64 30, .int .i64 31]) (.int .i64 5)).run Tryd.prog w = .ok (.int .i64 30) w := fun w => run_index_arr Tryd.underlying41 size3 agg3 (by decide) (by decide) rfl
  go_enter Tryd.func14, Tryd.ntmps14
  go_wp2
  go_ret
  exact ⟨rfl, rfl⟩
set_option maxHeartbeats 1000000 in
theorem last14_7 (y : Int) (w : World) : Calls Tryd.prog 14 #[.int .i64 y, .int .i64 7] w fun e w' => e = .returned (.int .i64 31) ∧ w' = w := by
  have ix : ∀ w : World, (Instr.index 41 (.agg #[.int .i64 31, .int .i64 28, .int .i64 31, .int .i64 30, .int .i64 31, .int .i64 30, .int .i64 31, .int .i64 31, .int .i64 30, .int .i64 31, .int .i64 30, .int .i64 31]) (.int .i64 6)).run Tryd.prog w = .ok (.int .i64 31) w := fun w => run_index_arr Tryd.underlying41 size3 agg3 (by decide) (by decide) rfl
  go_enter Tryd.func14, Tryd.ntmps14
  go_wp2
  go_ret
  exact ⟨rfl, rfl⟩
set_option maxHeartbeats 1000000 in
theorem last14_8 (y : Int) (w : World) : Calls Tryd.prog 14 #[.int .i64 y, .int .i64 8] w fun e w' => e = .returned (.int .i64 31) ∧ w' = w := by
  have ix : ∀ w : World, (Instr.index 41 (.agg #[.int .i64 31, .int .i64 28, .int .i64 31, .int .i64 30, .int .i64 31, .int .i64 30, .int .i64 31, .int .i64 31, .int .i64 30, .int .i64 31, .int .i64 30, .int .i64 31]) (.int .i64 7)).run Tryd.prog w = .ok (.int .i64 31) w := fun w => run_index_arr Tryd.underlying41 size3 agg3 (by decide) (by decide) rfl
  go_enter Tryd.func14, Tryd.ntmps14
  go_wp2
  go_ret
  exact ⟨rfl, rfl⟩
set_option maxHeartbeats 1000000 in
theorem last14_9 (y : Int) (w : World) : Calls Tryd.prog 14 #[.int .i64 y, .int .i64 9] w fun e w' => e = .returned (.int .i64 30) ∧ w' = w := by
  have ix : ∀ w : World, (Instr.index 41 (.agg #[.int .i64 31, .int .i64 28, .int .i64 31, .int .i64 30, .int .i64 31, .int .i64 30, .int .i64 31, .int .i64 31, .int .i64 30, .int .i64 31, .int .i64 30, .int .i64 31]) (.int .i64 8)).run Tryd.prog w = .ok (.int .i64 30) w := fun w => run_index_arr Tryd.underlying41 size3 agg3 (by decide) (by decide) rfl
  go_enter Tryd.func14, Tryd.ntmps14
  go_wp2
  go_ret
  exact ⟨rfl, rfl⟩
set_option maxHeartbeats 1000000 in
theorem last14_10 (y : Int) (w : World) : Calls Tryd.prog 14 #[.int .i64 y, .int .i64 10] w fun e w' => e = .returned (.int .i64 31) ∧ w' = w := by
  have ix : ∀ w : World, (Instr.index 41 (.agg #[.int .i64 31, .int .i64 28, .int .i64 31, .int .i64 30, .int .i64 31, .int .i64 30, .int .i64 31, .int .i64 31, .int .i64 30, .int .i64 31, .int .i64 30, .int .i64 31]) (.int .i64 9)).run Tryd.prog w = .ok (.int .i64 31) w := fun w => run_index_arr Tryd.underlying41 size3 agg3 (by decide) (by decide) rfl
  go_enter Tryd.func14, Tryd.ntmps14
  go_wp2
  go_ret
  exact ⟨rfl, rfl⟩
set_option maxHeartbeats 1000000 in
theorem last14_11 (y : Int) (w : World) : Calls Tryd.prog 14 #[.int .i64 y, .int .i64 11] w fun e w' => e = .returned (.int .i64 30) ∧ w' = w := by
  have ix : ∀ w : World, (Instr.index 41 (.agg #[.int .i64 31, .int .i64 28, .int .i64 31, .int .i64 30, .int .i64 31, .int .i64 30, .int .i64 31, .int .i64 31, .int .i64 30, .int .i64 31, .int .i64 30, .int .i64 31]) (.int .i64 10)).run Tryd.prog w = .ok (.int .i64 30) w := fun w => run_index_arr Tryd.underlying41 size3 agg3 (by decide) (by decide) rfl
  go_enter Tryd.func14, Tryd.ntmps14
  go_wp2
  go_ret
  exact ⟨rfl, rfl⟩
set_option maxHeartbeats 1000000 in
theorem last14_12 (y : Int) (w : World) : Calls Tryd.prog 14 #[.int .i64 y, .int .i64 12] w fun e w' => e = .returned (.int .i64 31) ∧ w' = w := by
  have ix : ∀ w : World, (Instr.index 41 (.agg #[.int .i64 31, .int .i64 28, .int .i64 31, .int .i64 30, .int .i64 31, .int .i64 30, .int .i64 31, .int .i64 31, .int .i64 30, .int .i64 31, .int .i64 30, .int .i64 31]) (.int .i64 11)).run Tryd.prog w = .ok (.int .i64 31) w := fun w => run_index_arr Tryd.underlying41 size3 agg3 (by decide) (by decide) rfl
  go_enter Tryd.func14, Tryd.ntmps14
  go_wp2
  go_ret
  exact ⟨rfl, rfl⟩
set_option maxHeartbeats 2000000 in
theorem last_any (y m : Int) (w : World) : Calls Tryd.prog 14 #[.int .i64 y, .int .i64 m] w fun e w' => e = .returned (.int .i64 (Cal.last y m)) ∧ w' = w := by
  by_cases h1 : m < 1
  · rw [Cal.last_out y m (.inl h1)]
    go_enter Tryd.func14, Tryd.ntmps14
    go_wp2
    go_ret
    exact ⟨rfl, rfl⟩
  · by_cases h2 : 12 < m
    · rw [Cal.last_out y m (.inr h2)]
      go_enter Tryd.func14, Tryd.ntmps14
      go_wp2
      go_ret
      exact ⟨rfl, rfl⟩
    · rcases month_cases m (by omega) (by omega) with rfl | rfl | rfl | rfl | rfl | rfl | rfl | rfl | rfl | rfl | rfl | rfl
      · exact last14_1 y w
      · exact last14_2 y w
      · exact last14_3 y w
      · exact last14_4 y w
      · exact last14_5 y w
      · exact last14_6 y w
      · exact last14_7 y w
      · exact last14_8 y w
      · exact last14_9 y w
      · exact last14_10 y w
      · exact last14_11 y w
      · exact last14_12 y w
set_option maxHeartbeats 1000000 in
theorem last15_1 (y : Int) (w : World) : Calls Tryd.prog 15 #[.int .i64 y, .int .i64 1] w fun e w' => e = .returned (.int .i64 31) ∧ w' = w := by
  have ix : ∀ w : World, (Instr.index 42 (.agg #[.int .i64 0, .int .i64 31, .int .i64 28, .int .i64 31, .int .i64 30, .int .i64 31, .int .i64 30, .int .i64 31, .int .i64 31, .int .i64 30, .int .i64 31, .int .i64 30, .int .i64 31]) (.int .i64 1)).run Tryd.prog w = .ok (.int .i64 31) w := fun w => run_index_arr Tryd.underlying42 size3 agg3 (by decide) (by decide) rfl
  go_enter Tryd.func15, Tryd.ntmps15
  go_wp2
  go_ret
  exact ⟨rfl, rfl⟩
set_option maxHeartbeats 1000000 in
theorem last15_2 (y : Int) (w : World) : Calls Tryd.prog 15 #[.int .i64 y, .int .i64 2] w fun e w' => e = .returned (.int .i64 (28 + Cal.lp y)) ∧ w' = w := by
  have ix : ∀ w : World, (Instr.index 42 (.agg #[.int .i64 0, .int .i64 31, .int .i64 28, .int .i64 31, .int .i64 30, .int .i64 31, .int .i64 30, .int .i64 31, .int .i64 31, .int .i64 30, .int .i64 31, .int .i64 30, .int .i64 31]) (.int .i64 2)).run Tryd.prog w = .ok (.int .i64 28) w := fun w => run_index_arr Tryd.underlying42 size3 agg3 (by decide) (by decide) rfl
  cases hy : Cal.leap y
  · rw [show Cal.lp y = 0 by unfold Cal.lp; rw [hy]; rfl]
    go_enter Tryd.func15, Tryd.ntmps15
    go_wp2_with (go_at_call 13; refine (rleap_any _ _).mono ?_; rintro e w' ⟨rfl, hw⟩; obtain rfl := hw.symm; clear hw; rw [hy])
    go_ret
    exact ⟨rfl, rfl⟩
  · rw [show Cal.lp y = 1 by unfold Cal.lp; rw [hy]; rfl]
    go_enter Tryd.func15, Tryd.ntmps15
    go_wp2_with (go_at_call 13; refine (rleap_any _ _).mono ?_; rintro e w' ⟨rfl, hw⟩; obtain rfl := hw.symm; clear hw; rw [hy])
    go_ret
    exact ⟨rfl, rfl⟩
set_option maxHeartbeats 1000000 in
theorem last15_3 (y : Int) (w : World) : Calls Tryd.prog 15 #[.int .i64 y, .int .i64 3] w fun e w' => e = .returned (.int .i64 31) ∧ w' = w := by
  have ix : ∀ w : World, (Instr.index 42 (.agg #[.int .i64 0, .int .i64 31, .int .i64 28, .int .i64 31, .int .i64 30, .int .i64 31, .int .i64 30, .int .i64 31, .int .i64 31, .int .i64 30, .int .i64 31, .int .i64 30, .int .i64 31]) (.int .i64 3)).run Tryd.prog w = .ok (.int .i64 31) w := fun w => run_index_arr Tryd.underlying42 size3 agg3 (by decide) (by decide) rfl
  go_enter Tryd.func15, Tryd.ntmps15
  go_wp2
  go_ret
  exact ⟨rfl, rfl⟩
set_option maxHeartbeats 1000000 in
theorem last15_4 (y : Int) (w : World) : Calls Tryd.prog 15 #[.int .i64 y, .int .i64 4] w fun e w' => e = .returned (.int .i64 30) ∧ w' = w := by
  have ix : ∀ w : World, (Instr.index 42 (.agg #[.int .i64 0, .int .i64 31, .int .i64 28, .int .i64 31, .int .i64 30, .int .i64 31, .int .i64 30, .int .i64 31, .int .i64 31, .int .i64 30, .int .i64 31, .int .i64 30, .int .i64 31]) (.int .i64 4)).run Tryd.prog w = .ok (.int .i64 30) w := fun w => run_index_arr Tryd.underlying42 size3 agg3 (by decide) (by decide) rfl
  go_enter Tryd.func15, Tryd.ntmps15
  go_wp2
  go_ret
  exact ⟨rfl, rfl⟩
set_option maxHeartbeats 1000000 in
theorem last15_5 (y : Int) (w : World) : Calls Tryd.prog 15 #[.int .i64 y, .int .i64 5] w fun e w' => e = .returned (.int .i64 31) ∧ w' = w := by
  have ix : ∀ w : World, (Instr.index 42 (.agg #[.int .i64 0, .int .i64 31, .int .i64 28, .int .i64 31, .int .i64 30, .int .i64 31, .int .i64 30, .int .i64 31, .int .i64 31, .int .i64 30, .int .i64 31, .int .i64 30, .int .i64 31]) (.int .i64 5)).run Tryd.prog w = .ok (.int .i64 31) w := fun w => run_index_arr Tryd.underlying42 size3 agg3 (by decide) (by decide) rfl
  go_enter Tryd.func15, Tryd.ntmps15
  go_wp2
  go_ret
  exact ⟨rfl, rfl⟩
set_option maxHeartbeats 1000000 in
theorem last15_6 (y : Int) (w : World) : Calls Tryd.prog 15 #[.int .i64 y, .int .i64 6] w fun e w' => e = .returned (.int .i64 30) ∧ w' = w := by
  have ix : ∀ w : World, (Instr.index 42 (.agg #[.int .i64 0, .int .i64 31, .int .i64 28, .int .i64 31, .int .i64 30, .int .i64 31, .int .i64 30, .int .i64 31, .int .i64 31, .int .i64 30, .int .i64 31, .int .i64 30, .int .i64 31]) (.int .i64 6)).run Tryd.prog w = .ok (.int .i64 30) w := fun w => run_index_arr Tryd.underlying42 size3 agg3 (by decide) (by decide) rfl
  go_enter Tryd.func15, Tryd.ntmps15
  go_wp2
  go_ret
  exact ⟨rfl, rfl⟩
set_option maxHeartbeats 1000000 in
theorem last15_7 (y : Int) (w : World) : Calls Tryd.prog 15 #[.int .i64 y, .int .i64 7] w fun e w' => e = .returned (.int .i64 31) ∧ w' = w := by
  have ix : ∀ w : World, (Instr.index 42 (.agg #[.int .i64 0, .int .i64 31, .int .i64 28, .int .i64 31, .int .i64 30, .int .i64 31, .int .i64 30, .int .i64 31, .int .i64 31, .int .i64 30, .int .i64 31, .int .i64 30, .int .i64 31]) (.int .i64 7)).run Tryd.prog w = .ok (.int .i64 31) w := fun w => run_index_arr Tryd.underlying42 size3 agg3 (by decide) (by decide) rfl
  go_enter Tryd.func15, Tryd.ntmps15
  go_wp2
  go_ret
  exact ⟨rfl, rfl⟩
set_option maxHeartbeats 1000000 in
theorem last15_8 (y : Int) (w : World) : Calls Tryd.prog 15 #[.int .i64 y, .int .i64 8] w fun e w' => e = .returned (.int .i64 31) ∧ w' = w := by
  have ix : ∀ w : World, (Instr.index 42 (.agg #[.int .i64 0, .int .i64 31, .int .i64 28, .int .i64 31, .int .i64 30, .int .i64 31, .int .i64 30, .int .i64 31, .int .i64 31, .int .i64 30, .int .i64 31, .int .i64 30, .int .i64 31]) (.int .i64 8)).run Tryd.prog w = .ok (.int .i64 31) w := fun w => run_index_arr Tryd.underlying42 size3 agg3 (by decide) (by decide) rfl
  go_enter Tryd.func15, Tryd.ntmps15
  go_wp2
  go_ret
  exact ⟨rfl, rfl⟩
set_option maxHeartbeats 1000000 in
theorem last15_9 (y : Int) (w : World) : Calls Tryd.prog 15 #[.int .i64 y, .int .i64 9] w fun e w' => e = .returned (.int .i64 30) ∧ w' = w := by
  have ix : ∀ w : World, (Instr.index 42 (.agg #[.int .i64 0, .int .i64 31, .int .i64 28, .int .i64 31, .int .i64 30, .int .i64 31, .int .i64 30, .int .i64 31, .int .i64 31, .int .i64 30, .int .i64 31, .int .i64 30, .int .i64 31]) (.int .i64 9)).run Tryd.prog w = .ok (.int .i64 30) w := fun w => run_index_arr Tryd.underlying42 size3 agg3 (by decide) (by decide) rfl
  go_enter Tryd.func15, Tryd.ntmps15
  go_wp2
  go_ret
  exact ⟨rfl, rfl⟩
set_option maxHeartbeats 1000000 in
theorem last15_10 (y : Int) (w : World) : Calls Tryd.prog 15 #[.int .i64 y, .int .i64 10] w fun e w' => e = .returned (.int .i64 31) ∧ w' = w := by
  have ix : ∀ w : World, (Instr.index 42 (.agg #[.int .i64 0, .int .i64 31, .int .i64 28, .int .i64 31, .int .i64 30, .int .i64 31, .int .i64 30, .int .i64 31, .int .i64 31, .int .i64 30, .int .i64 31, .int .i64 30, .int .i64 31]) (.int .i64 10)).run Tryd.prog w = .ok (.int .i64 31) w := fun w => run_index_arr Tryd.underlying42 size3 agg3 (by decide) (by decide) rfl
  go_enter Tryd.func15, Tryd.ntmps15
  go_wp2
  go_ret
  exact ⟨rfl, rfl⟩
set_option maxHeartbeats 1000000 in
theorem last15_11 (y : Int) (w : World) : Calls Tryd.prog 15 #[.int .i64 y, .int .i64 11] w fun e w' => e = .returned (.int .i64 30) ∧ w' = w := by
  have ix : ∀ w : World, (Instr.index 42 (.agg #[.int .i64 0, .int .i64 31, .int .i64 28, .int .i64 31, .int .i64 30, .int .i64 31, .int .i64 30, .int .i64 31, .int .i64 31, .int .i64 30, .int .i64 31, .int .i64 30, .int .i64 31]) (.int .i64 11)).run Tryd.prog w = .ok (.int .i64 30) w := fun w => run_index_arr Tryd.underlying42 size3 agg3 (by decide) (by decide) rfl
  go_enter Tryd.func15, Tryd.ntmps15
  go_wp2
  go_ret
  exact ⟨rfl, rfl⟩
set_option maxHeartbeats 1000000 in
theorem last15_12 (y : Int) (w : World) : Calls Tryd.prog 15 #[.int .i64 y, .int .i64 12] w fun e w' => e = .returned (.int .i64 31) ∧ w' = w := by
  have ix : ∀ w : World, (Instr.index 42 (.agg #[.int .i64 0, .int .i64 31, .int .i64 28, .int .i64 31, .int .i64 30, .int .i64 31, .int .i64 30, .int .i64 31, .int .i64 31, .int .i64 30, .int .i64 31, .int .i64 30, .int .i64 31]) (.int .i64 12)).run Tryd.prog w = .ok (.int .i64 31) w := fun w => run_index_arr Tryd.underlying42 size3 agg3 (by decide) (by decide) rfl
  go_enter Tryd.func15, Tryd.ntmps15
  go_wp2
  go_ret
  exact ⟨rfl, rfl⟩
set_option maxHeartbeats 2000000 in
theorem rlast_any (y m : Int) (w : World) : Calls Tryd.prog 15 #[.int .i64 y, .int .i64 m] w fun e w' => e = .returned (.int .i64 (Cal.last y m)) ∧ w' = w := by
  by_cases h1 : m < 1
  · rw [Cal.last_out y m (.inl h1)]
    go_enter Tryd.func15, Tryd.ntmps15
    go_wp2
    go_ret
    exact ⟨rfl, rfl⟩
  · by_cases h2 : 12 < m
    · rw [Cal.last_out y m (.inr h2)]
      go_enter Tryd.func15, Tryd.ntmps15
      go_wp2
      go_ret
      exact ⟨rfl, rfl⟩
    · rcases month_cases m (by omega) (by omega) with rfl | rfl | rfl | rfl | rfl | rfl | rfl | rfl | rfl | rfl | rfl | rfl
      · exact last15_1 y w
      · exact last15_2 y w
      · exact last15_3 y w
      · exact last15_4 y w
      · exact last15_5 y w
      · exact last15_6 y w
      · exact last15_7 y w
      · exact last15_8 y w
      · exact last15_9 y w
      · exact last15_10 y w
      · exact last15_11 y w
      · exact last15_12 y w
/-- Is it one of the days? -/
def goodD (day : Int) : Bool := decide (1 ≤ day) && decide (day ≤ 2958464)
theorem goodD_iff (day : Int) : goodD day = true ↔ 1 ≤ day ∧ day ≤ 2958464 := by simp [goodD]
theorem goodD_not (day : Int) : goodD day = false ↔ day < 1 ∨ 2958464 < day := by
  unfold goodD
  rw [Bool.and_eq_false_iff, decide_eq_false_iff_not, decide_eq_false_iff_not]
  omega
def nearD (n : Int) : Bool := decide (-100000 ≤ n) && decide (n ≤ 100000)
theorem nearD_iff (n : Int) : nearD n = true ↔ -100000 ≤ n ∧ n ≤ 100000 := by simp [nearD]
theorem nearD_not (n : Int) : nearD n = false ↔ n < -100000 ∨ 100000 < n := by
  unfold nearD
  rw [Bool.and_eq_false_iff, decide_eq_false_iff_not, decide_eq_false_iff_not]
  omega
set_option maxHeartbeats 1000000 in
theorem good_any (n : Int) (w : World) : Calls Tryd.prog 33 #[.int .i64 n] w fun e w' => e = .returned (.bool (goodD n)) ∧ w' = w := by
  go_enter Tryd.func33, Tryd.ntmps33
  go_wp2
  all_goals (go_ret; rename_i h; refine ⟨?_, rfl⟩; congr 2; simp [goodD]; try omega)
set_option maxHeartbeats 1000000 in
theorem near_any (n : Int) (w : World) : Calls Tryd.prog 31 #[.int .i64 n] w fun e w' => e = .returned (.bool (nearD n)) ∧ w' = w := by
  go_enter Tryd.func31, Tryd.ntmps31
  go_wp2
  all_goals (go_ret; rename_i h; refine ⟨?_, rfl⟩; congr 2; simp [nearD]; try omega)
set_option maxHeartbeats 1000000 in
theorem leaps_any (y : Int) (h1 : 0 ≤ y) (h2 : y ≤ 100000) (w : World) : Calls Tryd.prog 41 #[.int .i64 y] w fun e w' => e = .returned (.int .i64 (y / 4 - y / 100 + y / 400)) ∧ w' = w := by
  go_enter Tryd.func41, Tryd.ntmps41
  go_wp2
  go_ret
  exact ⟨rfl, rfl⟩
set_option maxHeartbeats 1000000 in
theorem rahead_any (y : Int) (h1 : 1 ≤ y) (h2 : y ≤ 100000) (w : World) : Calls Tryd.prog 35 #[.int .i64 y] w fun e w' => e = .returned (.int .i64 (Cal.ahead y)) ∧ w' = w := by
  have hE : Hid (Cal.ahead y = 365 * (y - 1900) + ((y - 1) / 4 - (y - 1) / 100 + (y - 1) / 400 - 460)) := rfl
  go_enter Tryd.func35, Tryd.ntmps35
  go_wp2
  go_ret
  refine ⟨?_, rfl⟩
  rw [hE.out]
  rfl
end Go.Proofs.YtnjkckkcepkaoaaDoor
