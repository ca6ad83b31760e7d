/- The contract of the reference's Of. -/
import Derived.Test.YtnjkckkcepkaoaaDoorDOf
namespace Go.Proofs.YtnjkckkcepkaoaaDoor
open Go.RowKit
set_option maxRecDepth 100000
set_option linter.unusedVariables false

theorem nf {n : Int} (h : nearD n = false) : n < -100000 ∨ (¬ n < -100000 ∧ 100000 < n) := by
  have := (nearD_not n).1 h
  omega
set_option maxHeartbeats 2000000 in
theorem rof_bad1 (y m d : Int) (hy : nearD y = false) (w : World) : Calls Tryd.prog 11 #[.int .i64 y, .int .i64 m, .int .i64 d] w fun e w' => e = .returned (two (0, false)) ∧ w' = w := by
  have i0 : ∀ w : World, (Instr.index 40 (.agg #[.int .i64 y, .int .i64 m, .int .i64 d]) (.int .i64 0)).run Tryd.prog w = .ok (.int .i64 y) w := fun w => run_index_arr Tryd.underlying40 size3 agg3 (by decide) (by decide) rfl
  go_enter Tryd.func11, Tryd.ntmps11
  go_wp2
  go_loop [9, 15] (fun x i => i = .int .i64 0) (fun _ i => (3 - intOf i).toNat)
  case atStart => rfl
  case round =>
    subst hrel
    rcases nf hy with h | ⟨h1, h2⟩
    all_goals
      clear hy
      go_wp2
      go_ret2
      exact ⟨rfl, rfl⟩
set_option maxHeartbeats 2000000 in
theorem rof_bad2 (y m d : Int) (hy : nearD y = true) (hm : nearD m = false) (w : World) : Calls Tryd.prog 11 #[.int .i64 y, .int .i64 m, .int .i64 d] w fun e w' => e = .returned (two (0, false)) ∧ w' = w := by
  have i0 : ∀ w : World, (Instr.index 40 (.agg #[.int .i64 y, .int .i64 m, .int .i64 d]) (.int .i64 0)).run Tryd.prog w = .ok (.int .i64 y) w := fun w => run_index_arr Tryd.underlying40 size3 agg3 (by decide) (by decide) rfl
  have i1 : ∀ w : World, (Instr.index 40 (.agg #[.int .i64 y, .int .i64 m, .int .i64 d]) (.int .i64 1)).run Tryd.prog w = .ok (.int .i64 m) w := fun w => run_index_arr Tryd.underlying40 size3 agg3 (by decide) (by decide) rfl
  obtain ⟨y1, y2⟩ := (nearD_iff y).1 hy
  go_enter Tryd.func11, Tryd.ntmps11
  go_wp2
  go_loop [9, 15] (fun x i => i = .int .i64 0 ∨ i = .int .i64 1) (fun _ i => (3 - intOf i).toNat)
  case atStart => exact .inl rfl
  case round =>
    rcases hrel with rfl | rfl
    · clear hy hm
      go_wp2
      go_round
      case rel => exact .inr rfl
      case measure => simp [intOf]
    · rcases nf hm with h | ⟨h1, h2⟩
      all_goals
        clear hy hm
        go_wp2
        go_ret2
        exact ⟨rfl, rfl⟩
set_option maxHeartbeats 2000000 in
theorem rof_bad3 (y m d : Int) (hy : nearD y = true) (hm : nearD m = true) (hd : nearD d = false) (w : World) : Calls Tryd.prog 11 #[.int .i64 y, .int .i64 m, .int .i64 d] w fun e w' => e = .returned (two (0, false)) ∧ w' = w := by
  have i0 : ∀ w : World, (Instr.index 40 (.agg #[.int .i64 y, .int .i64 m, .int .i64 d]) (.int .i64 0)).run Tryd.prog w = .ok (.int .i64 y) w := fun w => run_index_arr Tryd.underlying40 size3 agg3 (by decide) (by decide) rfl
  have i1 : ∀ w : World, (Instr.index 40 (.agg #[.int .i64 y, .int .i64 m, .int .i64 d]) (.int .i64 1)).run Tryd.prog w = .ok (.int .i64 m) w := fun w => run_index_arr Tryd.underlying40 size3 agg3 (by decide) (by decide) rfl
  have i2 : ∀ w : World, (Instr.index 40 (.agg #[.int .i64 y, .int .i64 m, .int .i64 d]) (.int .i64 2)).run Tryd.prog w = .ok (.int .i64 d) w := fun w => run_index_arr Tryd.underlying40 size3 agg3 (by decide) (by decide) rfl
  obtain ⟨y1, y2⟩ := (nearD_iff y).1 hy
  obtain ⟨m1, m2⟩ := (nearD_iff m).1 hm
  go_enter Tryd.func11, Tryd.ntmps11
  go_wp2
  go_loop [9, 15] (fun x i => i = .int .i64 0 ∨ i = .int .i64 1 ∨ i = .int .i64 2) (fun _ i => (3 - intOf i).toNat)
  case atStart => exact .inl rfl
  case round =>
    rcases hrel with rfl | rfl | rfl
    · clear hy hm hd
      go_wp2
      go_round
      case rel => exact .inr (.inl rfl)
      case measure => simp [intOf]
    · clear hy hm hd
      go_wp2
      go_round
      case rel => exact .inr (.inr rfl)
      case measure => simp [intOf]
    · rcases nf hd with h | ⟨h1, h2⟩
      all_goals
        clear hy hm hd
        go_wp2
        go_ret2
        exact ⟨rfl, rfl⟩
theorem mon_norm {y m Y M : Int} (h : Y * 12 + M = y * 12 + m) (h1 : 1 ≤ M) (h2 : M ≤ 12) : Y = 1900 + monN y m / 12 ∧ M = monN y m % 12 + 1 := by
  unfold monN; omega
set_option maxHeartbeats 4000000 in
theorem rof_near (y m d : Int) (hy : nearD y = true) (hm : nearD m = true) (hd : nearD d = true) (w : World) : Calls Tryd.prog 11 #[.int .i64 y, .int .i64 m, .int .i64 d] w fun e w' => e = .returned (two (ofF y m d)) ∧ w' = w := by
  have i0 : ∀ w : World, (Instr.index 40 (.agg #[.int .i64 y, .int .i64 m, .int .i64 d]) (.int .i64 0)).run Tryd.prog w = .ok (.int .i64 y) w := fun w => run_index_arr Tryd.underlying40 size3 agg3 (by decide) (by decide) rfl
  have i1 : ∀ w : World, (Instr.index 40 (.agg #[.int .i64 y, .int .i64 m, .int .i64 d]) (.int .i64 1)).run Tryd.prog w = .ok (.int .i64 m) w := fun w => run_index_arr Tryd.underlying40 size3 agg3 (by decide) (by decide) rfl
  have i2 : ∀ w : World, (Instr.index 40 (.agg #[.int .i64 y, .int .i64 m, .int .i64 d]) (.int .i64 2)).run Tryd.prog w = .ok (.int .i64 d) w := fun w => run_index_arr Tryd.underlying40 size3 agg3 (by decide) (by decide) rfl
  obtain ⟨y1, y2⟩ := (nearD_iff y).1 hy
  obtain ⟨m1, m2⟩ := (nearD_iff m).1 hm
  obtain ⟨d1, d2⟩ := (nearD_iff d).1 hd
  have hofB : Hid (ofB y m d = (inN (monN y m) && goodD (ofD y m d))) := by show _ = _; simp [ofB, hy, hm, hd]
  clear hy hm hd
  generalize hr : ofF y m d = r
  have HRr : Hid (ofF y m d = r) := hr
  clear hr
  go_enter Tryd.func11, Tryd.ntmps11
  go_wp2
  go_loop [9, 15] (fun x i => i = .int .i64 0 ∨ i = .int .i64 1 ∨ i = .int .i64 2 ∨ i = .int .i64 3) (fun _ i => (3 - intOf i).toNat)
  case atStart => exact .inl rfl
  case round =>
    rcases hrel with rfl | rfl | rfl | rfl
    · go_wp2
      go_round
      case rel => exact .inr (.inl rfl)
      case measure => simp [intOf]
    · go_wp2
      go_round
      case rel => exact .inr (.inr (.inl rfl))
      case measure => simp [intOf]
    · go_wp2
      go_round
      case rel => exact .inr (.inr (.inr rfl))
      case measure => simp [intOf]
    · clear i0 i1 i2
      go_wp2
      go_loop [0, 1] (fun a b => ∃ Y M : Int, a = .int .i64 Y ∧ b = .int .i64 M ∧ -100000 ≤ M ∧ M ≤ 100000 ∧ -200000 ≤ Y ∧ Y ≤ 200000 ∧ Hid (Y * 12 + M = y * 12 + m)) (fun _ b => (1 - intOf b).toNat)
      case atStart => exact ⟨y, m, rfl, rfl, m1, m2, by omega, by omega, rfl⟩
      case round =>
        obtain ⟨Y, M, rfl, rfl, hM1, hM2, hY1, hY2, HE⟩ := hrel
        by_cases hlt : M < 1
        · have hYb : -200000 ≤ Y - 1 := by have := HE.out; omega
          go_wp2
          go_round
          case rel => exact ⟨Y - 1, M + 12, rfl, rfl, by omega, by omega, by omega, by omega, by have := HE.out; show _ = _; omega⟩
          case measure => simp [intOf]; omega
        · go_wp2
          go_loop [0, 1] (fun a b => ∃ Y M : Int, a = .int .i64 Y ∧ b = .int .i64 M ∧ 1 ≤ M ∧ M ≤ 100000 ∧ -200000 ≤ Y ∧ Y ≤ 200000 ∧ Hid (Y * 12 + M = y * 12 + m)) (fun _ b => (intOf b).toNat)
          case atStart => exact ⟨Y, M, rfl, rfl, by omega, hM2, by omega, by omega, HE⟩
          case round =>
            clear hlt HE hM1 hM2 hY1 hY2
            obtain ⟨Z, K, rfl, rfl, hM1, hM2, hY1, hY2, HE⟩ := hrel
            by_cases hlt : 12 < K
            · have hYb : Z + 1 ≤ 200000 := by have := HE.out; omega
              go_wp2
              go_round
              case rel => exact ⟨Z + 1, K - 12, rfl, rfl, by omega, by omega, by omega, by omega, by have := HE.out; show _ = _; omega⟩
              case measure => simp [intOf]; omega
            · obtain ⟨e1, e2⟩ := mon_norm HE.out hM1 (by omega)
              have hD : Hid (ofD y m d = Cal.first Z K + d) := by show _ = _; unfold ofD; rw [e1, e2]
              have hN : Hid (inN (monN y m) = (decide (1900 ≤ Z) && decide (Z ≤ 9999))) := by
                show _ = _
                unfold inN
                rw [e1, Bool.eq_iff_iff]
                simp
                omega
              clear e1 e2
              by_cases c1 : Z < 1900
              · obtain rfl : r = (0, false) := by rw [← HRr.out]; exact ofF_no (by rw [hofB.out, hN.out]; simp; omega)
                go_wp2
                go_ret2
                exact ⟨rfl, rfl⟩
              · by_cases c2 : 9999 < Z
                · obtain rfl : r = (0, false) := by rw [← HRr.out]; exact ofF_no (by rw [hofB.out, hN.out]; simp; omega)
                  go_wp2
                  go_ret2
                  exact ⟨rfl, rfl⟩
                · have hNt : Hid (inN (monN y m) = true) := by show _ = _; rw [hN.out]; simp; omega
                  have fb := first_bd Z K (by omega) (by omega) hM1 (by omega)
                  have AH := fun u => first_any Z K (by omega) (by omega) hM1 (by omega) u
                  generalize Cal.first Z K = F at *
                  by_cases g1 : F + d < 1
                  · obtain rfl : r = (0, false) := by rw [← HRr.out]; exact ofF_no (by rw [hofB.out, hNt.out, hD.out]; simp; rw [goodD_not]; omega)
                    go_wp2_with (go_at_call 30; refine (AH _).mono ?_; rintro e w' ⟨rfl, hw⟩; obtain rfl := hw.symm; clear hw)
                    go_ret2
                    exact ⟨rfl, rfl⟩
                  · by_cases g2 : 2958464 < F + d
                    · obtain rfl : r = (0, false) := by rw [← HRr.out]; exact ofF_no (by rw [hofB.out, hNt.out, hD.out]; simp; rw [goodD_not]; omega)
                      go_wp2_with (go_at_call 30; refine (AH _).mono ?_; rintro e w' ⟨rfl, hw⟩; obtain rfl := hw.symm; clear hw)
                      go_ret2
                      exact ⟨rfl, rfl⟩
                    · obtain rfl : r = (F + d, true) := by rw [← HRr.out, ofF_yes (by rw [hofB.out, hNt.out, hD.out]; simp; rw [goodD_iff]; omega), hD.out]
                      go_wp2_with (go_at_call 30; refine (AH _).mono ?_; rintro e w' ⟨rfl, hw⟩; obtain rfl := hw.symm; clear hw)
                      go_ret2
                      exact ⟨rfl, rfl⟩
theorem rof_any (y m d : Int) (w : World) : Calls Tryd.prog 11 #[.int .i64 y, .int .i64 m, .int .i64 d] w fun e w' => e = .returned (two (ofF y m d)) ∧ w' = w := by
  cases hy : nearD y
  · rw [ofF_no (by simp [ofB, hy])]; exact rof_bad1 y m d hy w
  · cases hm : nearD m
    · rw [ofF_no (by simp [ofB, hm])]; exact rof_bad2 y m d hy hm w
    · cases hd : nearD d
      · rw [ofF_no (by simp [ofB, hd])]; exact rof_bad3 y m d hy hm hd w
      · exact rof_near y m d hy hm hd w
end Go.Proofs.YtnjkckkcepkaoaaDoor
