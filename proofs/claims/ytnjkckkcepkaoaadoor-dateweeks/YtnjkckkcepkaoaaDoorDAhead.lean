/- The contracts of ahead, first, month, Day and Of. -/
import Derived.Test.YtnjkckkcepkaoaaDoorDSmall
namespace Go.Proofs.YtnjkckkcepkaoaaDoor
open Go.RowKit
set_option maxRecDepth 100000
set_option linter.unusedVariables false

theorem ahead_bd (y : Int) (h1 : 1900 ≤ y) (h2 : y ≤ 10000) : 0 ≤ Cal.ahead y ∧ Cal.ahead y ≤ 2958464 := by
  have a := Cal.ahead_mono 1900 y h1
  have b := Cal.ahead_mono y 10000 h2
  rw [Cal.ahead_1900] at a
  rw [Cal.ahead_top] at b
  exact ⟨a, b⟩
theorem first_bd (y m : Int) (h1 : 1900 ≤ y) (h2 : y ≤ 9999) (h3 : 1 ≤ m) (h4 : m ≤ 13) : 0 ≤ Cal.first y m ∧ Cal.first y m ≤ 2958464 + 366 := by
  have a := ahead_bd y h1 (by omega)
  have b := Cal.cum_bd y m h3 h4
  unfold Cal.first
  omega
theorem ahead_leaps (y : Int) : (y - 1900) * 365 + ((y - 1) / 4 - (y - 1) / 100 + (y - 1) / 400) - 460 = Cal.ahead y := by
  unfold Cal.ahead; omega
set_option maxHeartbeats 1000000 in
theorem ahead_any (y m : Int) (h1 : 1900 ≤ y) (h2 : y ≤ 9999) (h3 : 1 ≤ m) (h4 : m ≤ 12) (w : World) : Calls Tryd.prog 29 #[.int .i64 y, .int .i64 m] w fun e w' => e = .returned (.int .i64 (Cal.first y m)) ∧ w' = w := by
  have L1 := fun u => leaps_any (y - 1) (by omega) (by omega) u
  have L2 := fun u => leaps_any 1899 (by omega) (by omega) u
  rw [show (1899 : Int) / 4 - 1899 / 100 + 1899 / 400 = 460 from rfl] at L2
  have ha := ahead_bd y h1 (by omega)
  have hE : Hid ((y - 1900) * 365 + ((y - 1) / 4 - (y - 1) / 100 + (y - 1) / 400) - 460 = Cal.ahead y) := ahead_leaps y
  have bL : 0 ≤ ((y - 1) / 4 - (y - 1) / 100 + (y - 1) / 400) ∧ ((y - 1) / 4 - (y - 1) / 100 + (y - 1) / 400) ≤ 10000 := by omega
  generalize (y - 1) / 4 - (y - 1) / 100 + (y - 1) / 400 = l at *
  have HF : Hid (Cal.first y m = Cal.ahead y + Cal.cum y m) := rfl
  generalize hA : Cal.ahead y = A at *
  clear hA
  go_enter Tryd.func29, Tryd.ntmps29
  go_wp2_with fail
  refine (L1 _).mono ?_
  rintro e w' ⟨rfl, hw⟩
  obtain rfl := hw.symm
  clear hw
  go_wp2_with fail
  refine (L2 _).mono ?_
  rintro e w' ⟨rfl, hw⟩
  obtain rfl := hw.symm
  clear hw
  go_wp2
  go_loop [5, 6] (fun n i => ∃ k : Int, 1 ≤ k ∧ k ≤ m ∧ i = .int .i64 k ∧ n = .int .i64 (A + Cal.cum y k)) (fun _ i => (m - intOf i).toNat)
  case atStart => exact ⟨1, by omega, h3, rfl, by rw [hE.out, Cal.cum_1]; simp⟩
  case round =>
    obtain ⟨k, hk1, hk2, rfl, rfl⟩ := hrel
    have cb := Cal.cum_bd y k hk1 (by omega)
    by_cases hlt : k < m
    · have cs : Hid (Cal.cum y (k + 1) = Cal.cum y k + Cal.last y k) := Cal.cum_succ y k hk1 (by omega)
      have lb := Cal.last_le y k
      go_wp2_with (go_at_call 14; refine (last_any _ _ _).mono ?_; rintro e w' ⟨rfl, hw⟩; obtain rfl := hw.symm; clear hw)
      go_round
      case rel => exact ⟨k + 1, by omega, by omega, rfl, by rw [cs.out]; go_num⟩
      case measure => simp [intOf]; omega
    · obtain rfl : k = m := by omega
      go_wp2
      go_ret
      exact ⟨by rw [HF.out]; rfl, rfl⟩
set_option maxHeartbeats 1000000 in
theorem first_any (y m : Int) (h1 : 1900 ≤ y) (h2 : y ≤ 9999) (h3 : 1 ≤ m) (h4 : m ≤ 12) (w : World) : Calls Tryd.prog 30 #[.int .i64 y, .int .i64 m] w fun e w' => e = .returned (.int .i64 (Cal.first y m)) ∧ w' = w := by
  have L1 := fun u => rahead_any y (by omega) (by omega) u
  have ha := ahead_bd y h1 (by omega)
  have HF : Hid (Cal.first y m = Cal.ahead y + Cal.cum y m) := rfl
  generalize hA : Cal.ahead y = A at *
  clear hA
  go_enter Tryd.func30, Tryd.ntmps30
  go_wp2_with (go_at_call 35; refine (L1 _).mono ?_; rintro e w' ⟨rfl, hw⟩; obtain rfl := hw.symm; clear hw)
  go_loop [5, 6] (fun n i => ∃ k : Int, 1 ≤ k ∧ k ≤ m ∧ i = .int .i64 k ∧ n = .int .i64 (A + Cal.cum y k)) (fun _ i => (m - intOf i).toNat)
  case atStart => exact ⟨1, by omega, h3, rfl, by rw [Cal.cum_1]; simp⟩
  case round =>
    obtain ⟨k, hk1, hk2, rfl, rfl⟩ := hrel
    have cb := Cal.cum_bd y k hk1 (by omega)
    by_cases hlt : k < m
    · have cs : Hid (Cal.cum y (k + 1) = Cal.cum y k + Cal.last y k) := Cal.cum_succ y k hk1 (by omega)
      have lb := Cal.last_le y k
      go_wp2_with (go_at_call 15; refine (rlast_any _ _ _).mono ?_; rintro e w' ⟨rfl, hw⟩; obtain rfl := hw.symm; clear hw)
      go_round
      case rel => exact ⟨k + 1, by omega, by omega, rfl, by rw [cs.out]; go_num⟩
      case measure => simp [intOf]; omega
    · obtain rfl : k = m := by omega
      go_wp2
      go_ret
      exact ⟨by rw [HF.out]; rfl, rfl⟩
/-- What a call of two results tells. -/
def two (r : Int × Bool) : Value := .tuple #[.int .i64 r.1, .bool r.2]
/-- Is there such a date? -/
def isB (y m d : Int) : Bool := decide (1900 ≤ y) && decide (y ≤ 9999) && decide (1 ≤ d) && decide (d ≤ Cal.last y m)
def dayF (y m d : Int) : Int × Bool := if isB y m d = true then (Cal.first y m + d, true) else (0, false)
theorem isB_iff (y m d : Int) : isB y m d = true ↔ 1900 ≤ y ∧ y ≤ 9999 ∧ 1 ≤ d ∧ d ≤ Cal.last y m := by simp [isB, and_assoc]
theorem isB_month {y m d : Int} (h1 : 1 ≤ d) (h2 : d ≤ Cal.last y m) : 1 ≤ m ∧ m ≤ 12 := by
  rcases (by omega : (m < 1 ∨ 12 < m) ∨ (1 ≤ m ∧ m ≤ 12)) with h | h
  · rw [Cal.last_out y m h] at h2; omega
  · exact h
theorem dayF_yes {y m d : Int} (h : isB y m d = true) : dayF y m d = (Cal.first y m + d, true) := if_pos h
theorem dayF_no {y m d : Int} (h : ¬ isB y m d = true) : dayF y m d = (0, false) := if_neg h
set_option maxHeartbeats 1000000 in
theorem day_any (y m d : Int) (w : World) : Calls Tryd.prog 8 #[.int .i64 y, .int .i64 m, .int .i64 d] w fun e w' => e = .returned (two (dayF y m d)) ∧ w' = w := by
  by_cases hh : 1900 ≤ y ∧ y ≤ 9999 ∧ 1 ≤ d ∧ d ≤ Cal.last y m
  · obtain ⟨h1, h2, h3, h4⟩ := hh
    have hm := isB_month h3 h4
    have lb := Cal.last_le y m
    have fb := first_bd y m h1 h2 hm.1 (by omega)
    rw [dayF_yes ((isB_iff y m d).2 ⟨h1, h2, h3, h4⟩)]
    go_enter Tryd.func8, Tryd.ntmps8
    go_wp2_with (first
      | (go_at_call 14; refine (last_any _ _ _).mono ?_; rintro e w' ⟨rfl, hw⟩; obtain rfl := hw.symm; clear hw)
      | (go_at_call 29; refine (ahead_any _ _ h1 h2 hm.1 hm.2 _).mono ?_; rintro e w' ⟨rfl, hw⟩; obtain rfl := hw.symm; clear hw))
    go_ret2
    exact ⟨rfl, rfl⟩
  · rw [dayF_no (by rw [isB_iff]; exact hh)]
    by_cases h1 : 1900 ≤ y <;> by_cases h2 : y ≤ 9999 <;> by_cases h3 : 1 ≤ d <;> by_cases h4 : d ≤ Cal.last y m
    all_goals first | (exfalso; exact hh ⟨h1, h2, h3, h4⟩) | skip
    all_goals
     clear hh
     go_enter Tryd.func8, Tryd.ntmps8
     go_wp2_with (go_at_call 14; refine (last_any _ _ _).mono ?_; rintro e w' ⟨rfl, hw⟩; obtain rfl := hw.symm; clear hw)
     go_ret2
     exact ⟨rfl, rfl⟩
set_option maxHeartbeats 1000000 in
theorem rday_any (y m d : Int) (w : World) : Calls Tryd.prog 9 #[.int .i64 y, .int .i64 m, .int .i64 d] w fun e w' => e = .returned (two (dayF y m d)) ∧ w' = w := by
  by_cases hh : 1900 ≤ y ∧ y ≤ 9999 ∧ 1 ≤ d ∧ d ≤ Cal.last y m
  · obtain ⟨h1, h2, h3, h4⟩ := hh
    have hm := isB_month h3 h4
    have lb := Cal.last_le y m
    have fb := first_bd y m h1 h2 hm.1 (by omega)
    rw [dayF_yes ((isB_iff y m d).2 ⟨h1, h2, h3, h4⟩)]
    go_enter Tryd.func9, Tryd.ntmps9
    go_wp2_with (first
      | (go_at_call 15; refine (rlast_any _ _ _).mono ?_; rintro e w' ⟨rfl, hw⟩; obtain rfl := hw.symm; clear hw)
      | (go_at_call 30; refine (first_any _ _ h1 h2 hm.1 hm.2 _).mono ?_; rintro e w' ⟨rfl, hw⟩; obtain rfl := hw.symm; clear hw))
    go_ret2
    exact ⟨rfl, rfl⟩
  · rw [dayF_no (by rw [isB_iff]; exact hh)]
    by_cases h1 : 1900 ≤ y <;> by_cases h2 : y ≤ 9999 <;> by_cases h3 : 1 ≤ d <;> by_cases h4 : d ≤ Cal.last y m
    all_goals first | (exfalso; exact hh ⟨h1, h2, h3, h4⟩) | skip
    all_goals
     clear hh
     go_enter Tryd.func9, Tryd.ntmps9
     go_wp2_with (go_at_call 15; refine (rlast_any _ _ _).mono ?_; rintro e w' ⟨rfl, hw⟩; obtain rfl := hw.symm; clear hw)
     go_ret2
     exact ⟨rfl, rfl⟩
/-- Months counted from 1900 on. -/
def monN (y m : Int) : Int := (y - 1900) * 12 + m - 1
def inN (n : Int) : Bool := decide (0 ≤ n) && decide (n < 97200)
theorem inN_iff (n : Int) : inN n = true ↔ 0 ≤ n ∧ n < 97200 := by simp [inN]
def three (a b : Int) (c : Bool) : Value := .tuple #[.int .i64 a, .int .i64 b, .bool c]
set_option maxHeartbeats 1000000 in
theorem month_yes (y m : Int) (hy : -1000000 ≤ y ∧ y ≤ 1000000) (hm : -1000000 ≤ m ∧ m ≤ 1000000) (h1 : 0 ≤ monN y m) (h2 : monN y m < 97200) (w : World) :
    Calls Tryd.prog 32 #[.int .i64 y, .int .i64 m] w fun e w' => e = .returned (three (1900 + monN y m / 12) (monN y m % 12 + 1) true) ∧ w' = w := by
  have hn : Hid (monN y m = (y - 1900) * 12 + m - 1) := rfl
  have h1' := h1
  have h2' := h2
  rw [hn.out] at h1' h2'
  rw [hn.out]
  go_enter Tryd.func32, Tryd.ntmps32
  go_wp2
  go_ret3
  exact ⟨rfl, rfl⟩
set_option maxHeartbeats 1000000 in
theorem month_no (y m : Int) (hy : -1000000 ≤ y ∧ y ≤ 1000000) (hm : -1000000 ≤ m ∧ m ≤ 1000000) (h : monN y m < 0 ∨ 97200 ≤ monN y m) (w : World) :
    Calls Tryd.prog 32 #[.int .i64 y, .int .i64 m] w fun e w' => e = .returned (three 0 0 false) ∧ w' = w := by
  have hn : Hid (monN y m = (y - 1900) * 12 + m - 1) := rfl
  rw [hn.out] at h
  rcases h with h | h
  · go_enter Tryd.func32, Tryd.ntmps32
    go_wp2
    go_ret3
    exact ⟨rfl, rfl⟩
  · have h' : ¬ (y - 1900) * 12 + m - 1 < 0 := by omega
    go_enter Tryd.func32, Tryd.ntmps32
    go_wp2
    go_ret3
    exact ⟨rfl, rfl⟩
end Go.Proofs.YtnjkckkcepkaoaaDoor
