/- The contracts of split and Parts. -/
import Derived.Test.YtnjkckkcepkaoaaDoorDAhead
import Derived.WalkMore
namespace Go.Proofs.YtnjkckkcepkaoaaDoor
open Go.RowKit
set_option maxRecDepth 100000
set_option linter.unusedVariables false

theorem ahead_366 (y : Int) (h : 1900 ≤ y) : Cal.ahead y ≤ 366 * (y - 1900) := by unfold Cal.ahead; omega
theorem first_one (y : Int) : Cal.first y 1 = Cal.ahead y := by unfold Cal.first; rw [Cal.cum_1]; omega
set_option maxHeartbeats 2000000 in
theorem split_any {Y M D day : Int} (h : Cal.IsDate Y M D day) (w : World) : Calls Tryd.prog 34 #[.int .i64 day] w fun e w' => e = .returned (.tuple #[.int .i64 Y, .int .i64 M, .int .i64 D]) ∧ w' = w := by
  have hg := h.good
  have hyr := h.year
  have h66 := ahead_366 (Y + 1) (by have := h.y1; omega)
  have hY := h.y1
  have hY2 := h.y2
  have HD : Hid (Cal.IsDate Y M D day) := h
  clear h
  go_enter Tryd.func34, Tryd.ntmps34
  go_wp2
  go_step3
  go_wp2
  go_step3
  go_wp2
  go_loop [5, 6, 7] (fun y m d => ∃ z : Int, 1900 ≤ z ∧ z ≤ Y ∧ y = .int .i64 z) (fun y _ _ => (Y - intOf y).toNat)
  case atStart => exact ⟨1900 + (day - 1) / 366, by omega, by omega, rfl⟩
  case round =>
    obtain ⟨z, hz1, hz2, rfl⟩ := hrel
    have fb := first_bd z 1 hz1 (by omega) (by omega) (by omega)
    have HF : Hid (Cal.first z 1 = Cal.ahead z) := first_one z
    have A1 := fun u => ahead_any z 1 hz1 (by omega) (by omega) (by omega) u
    by_cases hlt : z < Y
    · have am := Cal.ahead_mono (z + 1) Y (by omega)
      have asu := Cal.ahead_succ z
      have HX : Hid (∀ k : Int, 1 ≤ k → k ≤ 12 → Cal.last z k < day - Cal.ahead z - Cal.cum z k) := fun k k1 k2 => by
        have c := Cal.cum_lt z k 13 k1 (by omega) (by omega)
        rw [Cal.cum_13] at c
        omega
      clear am asu hyr h66
      go_wp2_with (go_at_call 29; refine (A1 _).mono ?_; rintro e w' ⟨rfl, hw⟩; obtain rfl := hw.symm; clear hw)
      go_loop [6, 7] (fun m d => ∃ k X : Int, 1 ≤ k ∧ k ≤ 13 ∧ m = .int .i64 k ∧ d = .int .i64 X ∧ -4000000 ≤ X ∧ X ≤ 4000000 ∧ Hid (X = day - Cal.ahead z - Cal.cum z k)) (fun m _ => (13 - intOf m).toNat)
      case atStart => exact ⟨1, day - Cal.first z 1, by omega, by omega, rfl, rfl, by omega, by omega, by show _ = _; rw [HF.out, Cal.cum_1]; omega⟩
      case round =>
        obtain ⟨k, X, hk1, hk2, rfl, rfl, hX1, hX2, HXe⟩ := hrel
        by_cases hk : k ≤ 12
        · have lx : ¬ X ≤ Cal.last z k := by have := HX.out k hk1 hk; rw [← HXe.out] at this; omega
          have ll := Cal.last_le z k
          have HXn : Hid (X - Cal.last z k = day - Cal.ahead z - Cal.cum z (k + 1)) := by
            show _ = _
            rw [HXe.out, Cal.cum_succ z k hk1 hk]; omega
          go_wp2_with (go_at_call 14; refine (last_any _ _ _).mono ?_; rintro e w' ⟨rfl, hw⟩; obtain rfl := hw.symm; clear hw)
          go_round
          case rel => exact ⟨k + 1, X - Cal.last z k, by omega, by omega, rfl, rfl, by omega, by omega, HXn⟩
          case measure => simp [intOf]; omega
        · go_wp2
          go_round
          case rel => exact ⟨z + 1, by omega, by omega, rfl⟩
          case measure => simp [intOf]; omega
    · obtain rfl : z = Y := by omega
      have HX : Hid (∀ k : Int, 1 ≤ k → k < M → Cal.last z k < day - Cal.ahead z - Cal.cum z k) := fun k k1 k2 => by
        have c := Cal.cum_lt z k M k1 (by omega) (by have := HD.out.m2; omega)
        have e := HD.out.eq
        have d1 := HD.out.d1
        unfold Cal.first at e
        omega
      have HM : Hid (D = day - Cal.ahead z - Cal.cum z M) := by
        have e := HD.out.eq
        unfold Cal.first at e
        show _ = _
        omega
      have m1 := HD.out.m1
      have m2 := HD.out.m2
      have d2 := HD.out.d2
      clear hyr h66
      go_wp2_with (go_at_call 29; refine (A1 _).mono ?_; rintro e w' ⟨rfl, hw⟩; obtain rfl := hw.symm; clear hw)
      go_loop [6, 7, 8] (fun m d _ => ∃ k X : Int, 1 ≤ k ∧ k ≤ M ∧ m = .int .i64 k ∧ d = .int .i64 X ∧ -4000000 ≤ X ∧ X ≤ 4000000 ∧ Hid (X = day - Cal.ahead z - Cal.cum z k)) (fun m _ _ => (13 - intOf m).toNat)
      case atStart => exact ⟨1, day - Cal.first z 1, by omega, by omega, rfl, rfl, by omega, by omega, by show _ = _; rw [HF.out, Cal.cum_1]; omega⟩
      case round =>
        obtain ⟨k, X, hk1, hk2, rfl, rfl, hX1, hX2, HXe⟩ := hrel
        have hk : k ≤ 12 := by omega
        by_cases hkM : k < M
        · have lx : ¬ X ≤ Cal.last z k := by have := HX.out k hk1 hkM; rw [← HXe.out] at this; omega
          have ll := Cal.last_le z k
          have HXn : Hid (X - Cal.last z k = day - Cal.ahead z - Cal.cum z (k + 1)) := by
            show _ = _
            rw [HXe.out, Cal.cum_succ z k hk1 hk]; omega
          go_wp2_with (go_at_call 14; refine (last_any _ _ _).mono ?_; rintro e w' ⟨rfl, hw⟩; obtain rfl := hw.symm; clear hw)
          go_round
          case rel => exact ⟨k + 1, X - Cal.last z k, by omega, by omega, rfl, rfl, by omega, by omega, HXn⟩
          case measure => simp [intOf]; omega
        · obtain rfl : k = M := by omega
          obtain rfl : X = D := by rw [HXe.out, HM.out]
          go_wp2_with (go_at_call 14; refine (last_any _ _ _).mono ?_; rintro e w' ⟨rfl, hw⟩; obtain rfl := hw.symm; clear hw)
          try rw [Exit.noGoto_ret]
          go_ret3
          exact ⟨rfl, rfl⟩
end Go.Proofs.YtnjkckkcepkaoaaDoor
