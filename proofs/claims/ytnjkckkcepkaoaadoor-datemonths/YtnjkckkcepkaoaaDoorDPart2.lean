/- The contracts of Parts, Weekday and Week, of both. -/
import Derived.Test.YtnjkckkcepkaoaaDoorDParts
namespace Go.Proofs.YtnjkckkcepkaoaaDoor
open Go.RowKit
set_option maxRecDepth 100000
set_option linter.unusedVariables false

theorem results_tmp4 {fn : Func} {t u v x : Tmp} (h : fn.results = #[.tmp t, .tmp u, .tmp v, .tmp x]) (tmps : Array Value) (P : Program) (w : World) :
    (results fn tmps).run P w = .ok (.tuple #[tmps.getD t undef, tmps.getD u undef, tmps.getD v undef, tmps.getD x undef]) w := by
  simp [results, h]
def four (a b c : Int) (d : Bool) : Value := .tuple #[.int .i64 a, .int .i64 b, .int .i64 c, .bool d]
set_option maxHeartbeats 1000000 in
theorem parts_yes {Y M D day : Int} (h : Cal.IsDate Y M D day) (w : World) : Calls Tryd.prog 17 #[.int .i64 day] w fun e w' => e = .returned (four Y M D true) ∧ w' = w := by
  have hg := (goodD_iff day).2 h.good
  have S := fun u => split_any h u
  clear h
  go_enter Tryd.func17, Tryd.ntmps17
  go_wp2_with (first
    | (go_at_call 33; refine (good_any _ _).mono ?_; rintro e w' ⟨rfl, hw⟩; obtain rfl := hw.symm; clear hw; rw [hg])
    | (go_at_call 34; refine (S _).mono ?_; rintro e w' ⟨rfl, hw⟩; obtain rfl := hw.symm; clear hw))
  (try simp only [Exit.inBlock, Exit.then])
  refine bodyPost_ret (results_tmp4 rfl _ _ _) rfl ?_
  exact ⟨rfl, rfl⟩
set_option maxHeartbeats 1000000 in
theorem parts_no {day : Int} (hg : goodD day = false) (w : World) : Calls Tryd.prog 17 #[.int .i64 day] w fun e w' => e = .returned (four 0 0 0 false) ∧ w' = w := by
  go_enter Tryd.func17, Tryd.ntmps17
  go_wp2_with (go_at_call 33; refine (good_any _ _).mono ?_; rintro e w' ⟨rfl, hw⟩; obtain rfl := hw.symm; clear hw; rw [hg])
  (try simp only [Exit.inBlock, Exit.then])
  refine bodyPost_ret (results_tmp4 rfl _ _ _) rfl ?_
  exact ⟨rfl, rfl⟩
set_option maxHeartbeats 1000000 in
theorem rparts_no {day : Int} (hg : goodD day = false) (w : World) : Calls Tryd.prog 18 #[.int .i64 day] w fun e w' => e = .returned (four 0 0 0 false) ∧ w' = w := by
  rcases (goodD_not day).1 hg with h | h
  · clear hg
    go_enter Tryd.func18, Tryd.ntmps18
    go_wp2
    (try simp only [Exit.inBlock, Exit.then])
    refine bodyPost_ret (results_tmp4 rfl _ _ _) rfl ?_
    exact ⟨rfl, rfl⟩
  · have h' : ¬ day < 1 := by omega
    clear hg
    go_enter Tryd.func18, Tryd.ntmps18
    go_wp2
    (try simp only [Exit.inBlock, Exit.then])
    refine bodyPost_ret (results_tmp4 rfl _ _ _) rfl ?_
    exact ⟨rfl, rfl⟩
set_option maxHeartbeats 2000000 in
theorem rparts_yes {Y M D day : Int} (h : Cal.IsDate Y M D day) (w : World) : Calls Tryd.prog 18 #[.int .i64 day] w fun e w' => e = .returned (four Y M D true) ∧ w' = w := by
  have hg := h.good
  have hY := h.y1
  have hY2 := h.y2
  have hM := h.m1
  have hM2 := h.m2
  have HD : Hid (day - Cal.first Y M = D) := by have := h.eq; show _ = _; omega
  have fb := first_bd Y M hY hY2 hM (by omega)
  have HY : Hid (∀ z : Int, Cal.ahead z < day ↔ z ≤ Y) := fun z => by
    have hyr := h.year
    constructor
    · intro hz
      rcases (by omega : z ≤ Y ∨ Y + 1 ≤ z) with g | g
      · exact g
      · have := Cal.ahead_mono (Y + 1) z g; omega
    · intro hz
      have := Cal.ahead_mono z Y hz; omega
  have HM : Hid (∀ k : Int, 1 ≤ k → k ≤ 12 → (Cal.first Y k < day ↔ k ≤ M)) := fun k k1 k2 => by
    have e := h.eq
    have d1 := h.d1
    have d2 := h.d2
    unfold Cal.first at *
    constructor
    · intro hz
      rcases (by omega : k ≤ M ∨ M < k) with g | g
      · exact g
      · have := Cal.cum_lt Y M k hM g (by omega); omega
    · intro hz
      rcases (by omega : k = M ∨ k < M) with g | g
      · subst g; omega
      · have := Cal.cum_lt Y k M k1 g (by omega); have l := Cal.last_le Y k; omega
  clear h
  go_enter Tryd.func18, Tryd.ntmps18
  go_wp2
  go_loop [6, 7, 8] (fun y t _ => ∃ a b : Int, 1900 ≤ a ∧ a ≤ Y ∧ Y ≤ b ∧ b ≤ 9999 ∧ y = .int .i64 a ∧ t = .int .i64 b) (fun y t _ => (intOf t - intOf y).toNat)
  case atStart => exact ⟨1900, 9999, by omega, hY, hY2, by omega, rfl, rfl⟩
  case round =>
    obtain ⟨a, b, ha, ha2, hb, hb2, rfl, rfl⟩ := hrel
    by_cases hlt : a < b
    · have A := fun u => rahead_any ((a + b + 1) / 2) (by omega) (by omega) u
      have ab := ahead_bd ((a + b + 1) / 2) (by omega) (by omega)
      have hz := HY.out ((a + b + 1) / 2)
      by_cases hm : (a + b + 1) / 2 ≤ Y
      · have hc : Cal.ahead ((a + b + 1) / 2) < day := hz.2 hm
        clear hz
        go_wp2_with (go_at_call 35; refine (A _).mono ?_; rintro e w' ⟨rfl, hw⟩; obtain rfl := hw.symm; clear hw)
        go_round
        case rel => exact ⟨(a + b + 1) / 2, b, by omega, by omega, by omega, by omega, rfl, rfl⟩
        case measure => simp [intOf]; omega
      · have hc : ¬ Cal.ahead ((a + b + 1) / 2) < day := fun g => hm (hz.1 g)
        clear hz
        go_wp2_with (go_at_call 35; refine (A _).mono ?_; rintro e w' ⟨rfl, hw⟩; obtain rfl := hw.symm; clear hw)
        go_round
        case rel => exact ⟨a, (a + b + 1) / 2 - 1, by omega, by omega, by omega, by omega, rfl, rfl⟩
        case measure => simp [intOf]; omega
    · obtain rfl : a = Y := by omega
      obtain rfl : b = a := by omega
      go_wp2
      go_loop [9] (fun m => ∃ k : Int, 1 ≤ k ∧ k ≤ M ∧ m = .int .i64 k) (fun m => (M - intOf m).toNat)
      case atStart => exact ⟨1, by omega, hM, rfl⟩
      case round =>
        obtain ⟨k, hk1, hk2, rfl⟩ := hrel
        by_cases hk : k < M
        · have h12 : k < 12 := by omega
          have hc : Cal.first b (k + 1) < day := (HM.out (k + 1) (by omega) (by omega)).2 (by omega)
          go_wp2_with (go_at_call 30; refine (first_any _ _ hY hY2 (by omega) (by omega) _).mono ?_; rintro e w' ⟨rfl, hw⟩; obtain rfl := hw.symm; clear hw)
          go_round
          case rel => exact ⟨k + 1, by omega, by omega, rfl⟩
          case measure => simp [intOf]; omega
        · obtain rfl : k = M := by omega
          by_cases h12 : k < 12
          · have hc : ¬ Cal.first b (k + 1) < day := fun g => by have := (HM.out (k + 1) (by omega) (by omega)).1 g; omega
            go_wp2_with (go_at_call 30; refine (first_any _ _ hY hY2 (by omega) (by omega) _).mono ?_; rintro e w' ⟨rfl, hw⟩; obtain rfl := hw.symm; clear hw)
            (try simp only [Exit.inBlock, Exit.then])
            refine bodyPost_ret (results_tmp4 rfl _ _ _) rfl ?_
            exact ⟨by rw [← HD.out]; rfl, rfl⟩
          · go_wp2_with (go_at_call 30; refine (first_any _ _ hY hY2 (by omega) (by omega) _).mono ?_; rintro e w' ⟨rfl, hw⟩; obtain rfl := hw.symm; clear hw)
            (try simp only [Exit.inBlock, Exit.then])
            refine bodyPost_ret (results_tmp4 rfl _ _ _) rfl ?_
            exact ⟨by rw [← HD.out]; rfl, rfl⟩
def wdayF (day : Int) : Int := if goodD day = true then day % 7 + 1 else 0
set_option maxHeartbeats 1000000 in
theorem weekday_any (day : Int) (w : World) : Calls Tryd.prog 23 #[.int .i64 day] w fun e w' => e = .returned (.int .i64 (wdayF day)) ∧ w' = w := by
  cases hg : goodD day
  · rw [show wdayF day = 0 by simp [wdayF, hg]]
    go_enter Tryd.func23, Tryd.ntmps23
    go_wp2_with (go_at_call 33; refine (good_any _ _).mono ?_; rintro e w' ⟨rfl, hw⟩; obtain rfl := hw.symm; clear hw; rw [hg])
    go_ret
    exact ⟨rfl, rfl⟩
  · rw [show wdayF day = day % 7 + 1 by simp [wdayF, hg]]
    have hb := (goodD_iff day).1 hg
    go_enter Tryd.func23, Tryd.ntmps23
    go_wp2_with (go_at_call 33; refine (good_any _ _).mono ?_; rintro e w' ⟨rfl, hw⟩; obtain rfl := hw.symm; clear hw; rw [hg])
    go_ret
    exact ⟨rfl, rfl⟩
set_option maxHeartbeats 1000000 in
theorem rweekday_any (day : Int) (w : World) : Calls Tryd.prog 24 #[.int .i64 day] w fun e w' => e = .returned (.int .i64 (wdayF day)) ∧ w' = w := by
  cases hg : goodD day
  · rw [show wdayF day = 0 by simp [wdayF, hg]]
    rcases (goodD_not day).1 hg with h | h
    · clear hg
      go_enter Tryd.func24, Tryd.ntmps24
      go_wp2
      go_ret
      exact ⟨rfl, rfl⟩
    · have h' : ¬ day < 1 := by omega
      clear hg
      go_enter Tryd.func24, Tryd.ntmps24
      go_wp2
      go_ret
      exact ⟨rfl, rfl⟩
  · rw [show wdayF day = day % 7 + 1 by simp [wdayF, hg]]
    obtain ⟨h1, h2⟩ := (goodD_iff day).1 hg
    clear hg
    go_enter Tryd.func24, Tryd.ntmps24
    go_wp2
    go_ret
    exact ⟨rfl, rfl⟩
end Go.Proofs.YtnjkckkcepkaoaaDoor
