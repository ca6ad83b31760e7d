/- The contracts of Months, of both. -/
import Derived.Test.YtnjkckkcepkaoaaDoorDPart2
namespace Go.Proofs.YtnjkckkcepkaoaaDoor
open Go.RowKit
set_option maxRecDepth 100000
set_option linter.unusedVariables false

/-- The day of the month that is told. -/
def ddF (e : Bool) (d l : Int) : Int := if (e || decide (l < d)) = true then l else d
def monthsF (Y M D k : Int) (e : Bool) : Int × Bool := dayF (1900 + monN Y (M + k) / 12) (monN Y (M + k) % 12 + 1) (ddF e D (Cal.last (1900 + monN Y (M + k) / 12) (monN Y (M + k) % 12 + 1)))
theorem near_not_F {n : Int} (h : nearD n = false) : n < -100000 ∨ (¬ n < -100000 ∧ 100000 < n) := by
  have := (nearD_not n).1 h
  omega
set_option maxHeartbeats 1000000 in
theorem months_bad {day : Int} (hg : goodD day = false) (k : Int) (e : Bool) (w : World) : Calls Tryd.prog 19 #[.int .i64 day, .int .i64 k, .bool e] w fun e w' => e = .returned (two (0, false)) ∧ w' = w := by
  have P := fun u => parts_no hg u
  unfold four at P
  go_enter Tryd.func19, Tryd.ntmps19
  go_wp2_with (go_at_call 17; refine (P _).mono ?_; rintro e w' ⟨rfl, hw⟩; obtain rfl := hw.symm; clear hw)
  go_ret2
  exact ⟨rfl, rfl⟩
set_option maxHeartbeats 1000000 in
theorem rmonths_bad {day : Int} (hg : goodD day = false) (k : Int) (e : Bool) (w : World) : Calls Tryd.prog 20 #[.int .i64 day, .int .i64 k, .bool e] w fun e w' => e = .returned (two (0, false)) ∧ w' = w := by
  have P := fun u => rparts_no hg u
  unfold four at P
  go_enter Tryd.func20, Tryd.ntmps20
  go_wp2_with (go_at_call 18; refine (P _).mono ?_; rintro e w' ⟨rfl, hw⟩; obtain rfl := hw.symm; clear hw)
  go_ret2
  exact ⟨rfl, rfl⟩
set_option maxHeartbeats 1000000 in
theorem months_far {Y M D day k : Int} (h : Cal.IsDate Y M D day) (hk : nearD k = false) (e : Bool) (w : World) : Calls Tryd.prog 19 #[.int .i64 day, .int .i64 k, .bool e] w fun e w' => e = .returned (two (0, false)) ∧ w' = w := by
  have P := fun u => parts_yes h u
  unfold four at P
  clear h
  go_enter Tryd.func19, Tryd.ntmps19
  go_wp2_with (first
    | (go_at_call 17; refine (P _).mono ?_; rintro e w' ⟨rfl, hw⟩; obtain rfl := hw.symm; clear hw)
    | (go_at_call 31; refine (near_any _ _).mono ?_; rintro e w' ⟨rfl, hw⟩; obtain rfl := hw.symm; clear hw; rw [hk]))
  go_ret2
  exact ⟨rfl, rfl⟩
set_option maxHeartbeats 1000000 in
theorem rmonths_far {Y M D day k : Int} (h : Cal.IsDate Y M D day) (hk : nearD k = false) (e : Bool) (w : World) : Calls Tryd.prog 20 #[.int .i64 day, .int .i64 k, .bool e] w fun e w' => e = .returned (two (0, false)) ∧ w' = w := by
  have P := fun u => rparts_yes h u
  unfold four at P
  clear h
  rcases near_not_F hk with h | ⟨h1, h2⟩
  all_goals
    clear hk
    go_enter Tryd.func20, Tryd.ntmps20
    go_wp2_with (go_at_call 18; refine (P _).mono ?_; rintro e w' ⟨rfl, hw⟩; obtain rfl := hw.symm; clear hw)
    go_ret2
    exact ⟨rfl, rfl⟩
theorem dayF_out {y m d : Int} (h : y < 1900 ∨ 9999 < y) : dayF y m d = (0, false) := dayF_no (by rw [isB_iff]; omega)
set_option maxHeartbeats 2000000 in
theorem months_yes {Y M D day k : Int} (h : Cal.IsDate Y M D day) (hk : nearD k = true) (e : Bool) (w : World) : Calls Tryd.prog 19 #[.int .i64 day, .int .i64 k, .bool e] w fun e' w' => e' = .returned (two (monthsF Y M D k e)) ∧ w' = w := by
  have P := fun u => parts_yes h u
  unfold four at P
  have k1 := (nearD_iff k).1 hk
  have hY := h.y1
  have hY2 := h.y2
  have hM := h.m1
  have hM2 := h.m2
  clear h
  by_cases hn : 0 ≤ monN Y (M + k) ∧ monN Y (M + k) < 97200
  · have MO := fun u => month_yes Y (M + k) (by omega) (by omega) hn.1 hn.2 u
    unfold three at MO
    have HE : Hid (monthsF Y M D k e = dayF (1900 + monN Y (M + k) / 12) (monN Y (M + k) % 12 + 1) (ddF e D (Cal.last (1900 + monN Y (M + k) / 12) (monN Y (M + k) % 12 + 1)))) := rfl
    clear hn
    generalize 1900 + monN Y (M + k) / 12 = y at *
    generalize monN Y (M + k) % 12 + 1 = m at *
    generalize hL : monthsF Y M D k e = r
    rw [hL] at HE
    clear hL
    have LA := fun u => last_any y m u
    generalize Cal.last y m = l at *
    cases e
    · by_cases hl : l < D
      · have hd : Hid (r = dayF y m l) := by show _ = _; rw [HE.out]; simp [ddF, hl]
        have DA := fun u => day_any y m l u
        rw [← hd.out] at DA
        unfold two at *
        clear HE
        go_enter Tryd.func19, Tryd.ntmps19
        go_wp2_with (first
          | (go_at_call 17; refine (P _).mono ?_; rintro e w' ⟨rfl, hw⟩; obtain rfl := hw.symm; clear hw)
          | (go_at_call 31; refine (near_any _ _).mono ?_; rintro e w' ⟨rfl, hw⟩; obtain rfl := hw.symm; clear hw; rw [hk])
          | (go_at_call 32; refine (MO _).mono ?_; rintro e w' ⟨rfl, hw⟩; obtain rfl := hw.symm; clear hw)
          | (go_at_call 14; refine (LA _).mono ?_; rintro e w' ⟨rfl, hw⟩; obtain rfl := hw.symm; clear hw)
          | (go_at_call 8; refine (DA _).mono ?_; rintro e w' ⟨rfl, hw⟩; obtain rfl := hw.symm; clear hw))
        go_ret2
        exact ⟨rfl, rfl⟩
      · have hd : Hid (r = dayF y m D) := by show _ = _; rw [HE.out]; simp [ddF, hl]
        have DA := fun u => day_any y m D u
        rw [← hd.out] at DA
        unfold two at *
        clear HE
        go_enter Tryd.func19, Tryd.ntmps19
        go_wp2_with (first
          | (go_at_call 17; refine (P _).mono ?_; rintro e w' ⟨rfl, hw⟩; obtain rfl := hw.symm; clear hw)
          | (go_at_call 31; refine (near_any _ _).mono ?_; rintro e w' ⟨rfl, hw⟩; obtain rfl := hw.symm; clear hw; rw [hk])
          | (go_at_call 32; refine (MO _).mono ?_; rintro e w' ⟨rfl, hw⟩; obtain rfl := hw.symm; clear hw)
          | (go_at_call 14; refine (LA _).mono ?_; rintro e w' ⟨rfl, hw⟩; obtain rfl := hw.symm; clear hw)
          | (go_at_call 8; refine (DA _).mono ?_; rintro e w' ⟨rfl, hw⟩; obtain rfl := hw.symm; clear hw))
        go_ret2
        exact ⟨rfl, rfl⟩
    · have hd : Hid (r = dayF y m l) := by show _ = _; rw [HE.out]; simp [ddF]
      have DA := fun u => day_any y m l u
      rw [← hd.out] at DA
      unfold two at *
      clear HE
      go_enter Tryd.func19, Tryd.ntmps19
      go_wp2_with (first
        | (go_at_call 17; refine (P _).mono ?_; rintro e w' ⟨rfl, hw⟩; obtain rfl := hw.symm; clear hw)
        | (go_at_call 31; refine (near_any _ _).mono ?_; rintro e w' ⟨rfl, hw⟩; obtain rfl := hw.symm; clear hw; rw [hk])
        | (go_at_call 32; refine (MO _).mono ?_; rintro e w' ⟨rfl, hw⟩; obtain rfl := hw.symm; clear hw)
        | (go_at_call 14; refine (LA _).mono ?_; rintro e w' ⟨rfl, hw⟩; obtain rfl := hw.symm; clear hw)
        | (go_at_call 8; refine (DA _).mono ?_; rintro e w' ⟨rfl, hw⟩; obtain rfl := hw.symm; clear hw))
      go_ret2
      exact ⟨rfl, rfl⟩
  · have MO := fun u => month_no Y (M + k) (by omega) (by omega) (by omega) u
    unfold three at MO
    rw [show monthsF Y M D k e = (0, false) from dayF_out (by omega)]
    clear hn
    go_enter Tryd.func19, Tryd.ntmps19
    go_wp2_with (first
      | (go_at_call 17; refine (P _).mono ?_; rintro e w' ⟨rfl, hw⟩; obtain rfl := hw.symm; clear hw)
      | (go_at_call 31; refine (near_any _ _).mono ?_; rintro e w' ⟨rfl, hw⟩; obtain rfl := hw.symm; clear hw; rw [hk])
      | (go_at_call 32; refine (MO _).mono ?_; rintro e w' ⟨rfl, hw⟩; obtain rfl := hw.symm; clear hw))
    go_ret2
    exact ⟨rfl, rfl⟩
theorem mon_norm2 {y m Y M : Int} (h : Y * 12 + M = y * 12 + m) (h1 : 1 ≤ M) (h2 : M ≤ 12) : Y = 1900 + monN y m / 12 ∧ M = monN y m % 12 + 1 := by
  unfold monN; omega
set_option maxHeartbeats 4000000 in
theorem rmonths_yes {Y M D day k : Int} (h : Cal.IsDate Y M D day) (hk : nearD k = true) (e : Bool) (w : World) : Calls Tryd.prog 20 #[.int .i64 day, .int .i64 k, .bool e] w fun e' w' => e' = .returned (two (monthsF Y M D k e)) ∧ w' = w := by
  have P := fun u => rparts_yes h u
  unfold four at P
  obtain ⟨k1, k2⟩ := (nearD_iff k).1 hk
  have hY := h.y1
  have hY2 := h.y2
  have hM := h.m1
  have hM2 := h.m2
  clear h hk
  have HE : Hid (∀ y m : Int, y * 12 + m = Y * 12 + (M + k) → 1 ≤ m → m ≤ 12 → monthsF Y M D k e = dayF y m (ddF e D (Cal.last y m))) := fun y m q1 q2 q3 => by
    obtain ⟨e1, e2⟩ := mon_norm2 q1 q2 q3
    unfold monthsF
    rw [← e1, ← e2]
  generalize hL : monthsF Y M D k e = r at *
  clear hL
  go_enter Tryd.func20, Tryd.ntmps20
  go_wp2_with (go_at_call 18; refine (P _).mono ?_; rintro e w' ⟨rfl, hw⟩; obtain rfl := hw.symm; clear hw)
  go_loop [8, 9] (fun a b => ∃ y m : Int, a = .int .i64 y ∧ b = .int .i64 m ∧ -100100 ≤ m ∧ m ≤ 100100 ∧ -200000 ≤ y ∧ y ≤ 200000 ∧ Hid (y * 12 + m = Y * 12 + (M + k))) (fun _ b => (1 - intOf b).toNat)
  case atStart => exact ⟨Y, M + k, rfl, rfl, by omega, by omega, by omega, by omega, rfl⟩
  case round =>
    obtain ⟨y, m, rfl, rfl, hM1, hM2, hY1, hY2, HQ⟩ := hrel
    by_cases hlt : m < 1
    · have hYb : -200000 ≤ y - 1 := by have := HQ.out; omega
      go_wp2
      go_round
      case rel => exact ⟨y - 1, m + 12, rfl, rfl, by omega, by omega, by omega, by omega, by have := HQ.out; show _ = _; omega⟩
      case measure => simp [intOf]; omega
    · go_wp2
      go_loop [8, 9] (fun a b => ∃ y m : Int, a = .int .i64 y ∧ b = .int .i64 m ∧ 1 ≤ m ∧ m ≤ 100100 ∧ -200000 ≤ y ∧ y ≤ 200000 ∧ Hid (y * 12 + m = Y * 12 + (M + k))) (fun _ b => (intOf b).toNat)
      case atStart => exact ⟨y, m, rfl, rfl, by omega, by omega, by omega, by omega, HQ⟩
      case round =>
        clear hlt HQ
        obtain ⟨z, x, rfl, rfl, hx1, hx2, hz1, hz2, HQ⟩ := hrel
        by_cases hlt : 12 < x
        · have hYb : z + 1 ≤ 200000 := by have := HQ.out; omega
          go_wp2
          go_round
          case rel => exact ⟨z + 1, x - 12, rfl, rfl, by omega, by omega, by omega, by omega, by have := HQ.out; show _ = _; omega⟩
          case measure => simp [intOf]; omega
        · have HR : Hid (r = dayF z x (ddF e D (Cal.last z x))) := HE.out z x HQ.out hx1 (by omega)
          have LA := fun u => rlast_any z x u
          generalize Cal.last z x = l at *
          clear HE HQ
          cases e
          · by_cases hl : l < D
            · have hd : Hid (r = dayF z x l) := by show _ = _; rw [HR.out]; simp [ddF, hl]
              have DA := fun u => rday_any z x l u
              rw [← hd.out] at DA
              unfold two at *
              clear HR
              go_wp2_with (first
                | (go_at_call 15; refine (LA _).mono ?_; rintro e w' ⟨rfl, hw⟩; obtain rfl := hw.symm; clear hw)
                | (go_at_call 9; refine (DA _).mono ?_; rintro e w' ⟨rfl, hw⟩; obtain rfl := hw.symm; clear hw))
              go_ret2
              exact ⟨rfl, rfl⟩
            · have hd : Hid (r = dayF z x D) := by show _ = _; rw [HR.out]; simp [ddF, hl]
              have DA := fun u => rday_any z x D u
              rw [← hd.out] at DA
              unfold two at *
              clear HR
              go_wp2_with (first
                | (go_at_call 15; refine (LA _).mono ?_; rintro e w' ⟨rfl, hw⟩; obtain rfl := hw.symm; clear hw)
                | (go_at_call 9; refine (DA _).mono ?_; rintro e w' ⟨rfl, hw⟩; obtain rfl := hw.symm; clear hw))
              go_ret2
              exact ⟨rfl, rfl⟩
          · have hd : Hid (r = dayF z x l) := by show _ = _; rw [HR.out]; simp [ddF]
            have DA := fun u => rday_any z x l u
            rw [← hd.out] at DA
            unfold two at *
            clear HR
            go_wp2_with (first
              | (go_at_call 15; refine (LA _).mono ?_; rintro e w' ⟨rfl, hw⟩; obtain rfl := hw.symm; clear hw)
              | (go_at_call 9; refine (DA _).mono ?_; rintro e w' ⟨rfl, hw⟩; obtain rfl := hw.symm; clear hw))
            go_ret2
            exact ⟨rfl, rfl⟩
end Go.Proofs.YtnjkckkcepkaoaaDoor
