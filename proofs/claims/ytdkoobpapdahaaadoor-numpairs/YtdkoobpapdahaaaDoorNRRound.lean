/- The contract of the reference's Round. -/
import Derived.Test.YtdkoobpapdahaaaDoorNRound
namespace Go.Proofs.YtdkoobpapdahaaaDoor
open Go.RowKit
set_option linter.unusedVariables false
set_option maxRecDepth 100000

set_option maxHeartbeats 4000000 in
theorem rround_any (n d how : Int) (w : World) : Calls Tryd.prog 37 #[.int .i64 n, .int .i64 d, .int .i64 how] w fun e w' => e = .returned (two (roundF n d how)) ∧ w' = w := by
  cases hg : gd n
  · rw [show roundF n d how = (0, false) by simp [roundF, hg]]
    unfold two
    go_enter Tryd.func37, Tryd.ntmps37
    go_wp2_with (go_at_call 14; refine (rgood_any _ _).mono ?_; rintro e w' ⟨rfl, hw⟩; obtain rfl := hw.symm; clear hw; rw [hg])
    go_ret2
    exact ⟨rfl, rfl⟩
  have hn := (gd_iff n).1 hg
  by_cases hd : ¬ (-8 ≤ d ∧ d ≤ 4 ∧ 0 ≤ how ∧ how ≤ 4)
  · rw [show roundF n d how = (0, false) by simp only [roundF]; rw [if_neg (fun h => hd ⟨h.2.1.1, h.2.1.2, h.2.2.1, h.2.2.2⟩)]]
    unfold two
    have : d < -8 ∨ (¬ d < -8 ∧ 4 < d) ∨ (¬ d < -8 ∧ ¬ 4 < d ∧ how < 0) ∨ (¬ d < -8 ∧ ¬ 4 < d ∧ ¬ how < 0 ∧ 4 < how) := by omega
    clear hd
    rcases this with h | ⟨h, h2⟩ | ⟨h, h2, h3⟩ | ⟨h, h2, h3, h4⟩
    all_goals
      go_enter Tryd.func37, Tryd.ntmps37
      go_wp2_with (go_at_call 14; refine (rgood_any _ _).mono ?_; rintro e w' ⟨rfl, hw⟩; obtain rfl := hw.symm; clear hw; rw [hg])
      go_ret2
      exact ⟨rfl, rfl⟩
  have hd' : -8 ≤ d ∧ d ≤ 4 := by omega
  have hh : 0 ≤ how ∧ how ≤ 4 := by omega
  clear hd
  have hs := step_bounds d hd'
  have hF : roundF n d how = roundR n (stepI d) how := (if_pos ⟨hg, hd', hh⟩).trans (round_ref n (stepI d) how hg hs.1 hh).symm
  have FLO := fun u => floor_any n (stepI d) hg (by omega) u
  have hfm := floor_mul n (stepI d)
  obtain ⟨h1, h2, h3⟩ := round_facts n (stepI d) hs.1
  have hlb : -1100000000000 ≤ floorI n (stepI d) * stepI d ∧ floorI n (stepI d) * stepI d ≤ 1100000000000 := by
    rw [hfm]; split <;> omega
  clear hfm h1 h2 h3
  generalize roundF n d how = r at *
  obtain ⟨D, hD⟩ : ∃ D : Nat, Hid (d + D = 4) := ⟨(4 - d).toNat, by show _ = _; omega⟩
  have hSt : Hid (stepI d = 10 ^ D) := by
    show _ = _
    unfold stepI
    rw [show (4 - d).toNat = D by have := hD.out; omega]
  have hr' : Hid (r = roundR n (stepI d) how) := hF
  clear hF
  generalize stepI d = s at *
  go_enter Tryd.func37, Tryd.ntmps37
  go_wp2_with (go_at_call 14; refine (rgood_any _ _).mono ?_; rintro e w' ⟨rfl, hw⟩; obtain rfl := hw.symm; clear hw; rw [hg])
  go_loop [8, 9] (fun p i => ∃ (j : Nat) (T : Int), p = .int .i64 T ∧ i = .int .i64 (d + j) ∧ j ≤ D ∧ Hid (T = 10 ^ j)) (fun _ i => (4 - intOf i).toNat)
  case atStart => exact ⟨0, 1, rfl, by go_num, Nat.zero_le _, rfl⟩
  case round =>
    obtain ⟨j, T, rfl, rfl, hj, hT⟩ := hrel
    have hD' := hD.out
    by_cases hlt : j < D
    · have hb := ten_le j (by omega)
      have hE : Hid (T * 10 = 10 ^ (j + 1)) := by
        show _ = _
        rw [hT.out, Int.pow_succ]
      rw [← hT.out] at hb
      have g1 : d + (j : Int) < 4 := by omega
      go_wp2
      go_round
      case rel => exact ⟨j + 1, T * 10, rfl, by go_num, by omega, hE.out⟩
      case measure => simp [intOf]; omega
    · have hTs : T = s := by rw [hT.out, hSt.out, show j = D by omega]
      subst hTs
      have g1 : ¬ d + (j : Int) < 4 := by omega
      have hr2 : Hid (r = if floorI n T * T = n then (n, true) else if upI n (floorI n T * T) (floorI n T * T + T) how = true then ans (floorI n T * T + T) else ans (floorI n T * T)) := hr'
      clear hr' hT hSt hD hD'
      generalize hq : floorI n T = q at *
      obtain ⟨l, hl⟩ : ∃ l : Int, q * T = l := ⟨_, rfl⟩
      rw [hl] at hlb
      have hr3 : Hid (r = if l = n then (n, true) else if upI n l (l + T) how = true then ans (l + T) else ans l) := by rw [hl] at hr2; exact hr2
      clear hr2
      by_cases hln : l = n
      · have hE : Hid (r = (n, true)) := hr3.out.trans (if_pos hln)
        clear hr3
        have hln' : (l == n) = true := by simpa using hln
        go_wp2_with (go_at_call 60; refine (FLO _).mono ?_; rintro e w' ⟨rfl, hw⟩; obtain rfl := hw.symm; clear hw)
        go_ret2
        exact ⟨by rw [hE.out]; rfl, rfl⟩
      · have hln' : (l == n) = false := by simpa using hln
        have hA : Hid (upI n l (l + T) how = true → r = ans (l + T)) := fun h => (hr3.out.trans (if_neg hln)).trans (if_pos h)
        have hB : Hid (upI n l (l + T) how = false → r = ans l) := fun h => (hr3.out.trans (if_neg hln)).trans (if_neg (by rw [h]; decide))
        clear hr3
        have hc : how = 0 ∨ how = 1 ∨ how = 2 ∨ how = 3 ∨ how = 4 := by omega
        clear hh
        rcases hc with rfl | rfl | rfl | rfl | rfl
        · by_cases ha : l + T - n < n - l
          · have hE : Hid (r = ans (l + T)) := hA.out (by simp [upI, ha])
            clear hA hB
            go_wp2_with (first
        | (go_at_call 60; refine (FLO _).mono ?_; rintro e w' ⟨rfl, hw⟩; obtain rfl := hw.symm; clear hw)
        | (go_at_call 50; refine (out_any _ _).mono ?_; rintro e w' ⟨rfl, hw⟩; obtain rfl := hw.symm; clear hw; unfold two))
            go_ret2
            exact ⟨by rw [hE.out]; rfl, rfl⟩
          · by_cases hb : n - l = l + T - n
            · by_cases hc : 0 < n
              · have hE : Hid (r = ans (l + T)) := hA.out (by simp [upI, hb, hc])
                clear hA hB
                go_wp2_with (first
        | (go_at_call 60; refine (FLO _).mono ?_; rintro e w' ⟨rfl, hw⟩; obtain rfl := hw.symm; clear hw)
        | (go_at_call 50; refine (out_any _ _).mono ?_; rintro e w' ⟨rfl, hw⟩; obtain rfl := hw.symm; clear hw; unfold two))
                go_ret2
                exact ⟨by rw [hE.out]; rfl, rfl⟩
              · have hE : Hid (r = ans l) := hB.out (by simp [upI, hb, show n ≤ 0 by omega])
                clear hA hB
                go_wp2_with (first
        | (go_at_call 60; refine (FLO _).mono ?_; rintro e w' ⟨rfl, hw⟩; obtain rfl := hw.symm; clear hw)
        | (go_at_call 50; refine (out_any _ _).mono ?_; rintro e w' ⟨rfl, hw⟩; obtain rfl := hw.symm; clear hw; unfold two))
                go_ret2
                exact ⟨by rw [hE.out]; rfl, rfl⟩
            · have hE : Hid (r = ans l) := hB.out (by simp [upI, hb, show n - l ≤ l + T - n by omega])
              clear hA hB
              go_wp2_with (first
        | (go_at_call 60; refine (FLO _).mono ?_; rintro e w' ⟨rfl, hw⟩; obtain rfl := hw.symm; clear hw)
        | (go_at_call 50; refine (out_any _ _).mono ?_; rintro e w' ⟨rfl, hw⟩; obtain rfl := hw.symm; clear hw; unfold two))
              go_ret2
              exact ⟨by rw [hE.out]; rfl, rfl⟩
        · by_cases hc : 0 < n
          · have hE : Hid (r = ans (l + T)) := hA.out (by simp [upI, hc])
            clear hA hB
            go_wp2_with (first
        | (go_at_call 60; refine (FLO _).mono ?_; rintro e w' ⟨rfl, hw⟩; obtain rfl := hw.symm; clear hw)
        | (go_at_call 50; refine (out_any _ _).mono ?_; rintro e w' ⟨rfl, hw⟩; obtain rfl := hw.symm; clear hw; unfold two))
            go_ret2
            exact ⟨by rw [hE.out]; rfl, rfl⟩
          · have hE : Hid (r = ans l) := hB.out (by simp [upI, show n ≤ 0 by omega])
            clear hA hB
            go_wp2_with (first
        | (go_at_call 60; refine (FLO _).mono ?_; rintro e w' ⟨rfl, hw⟩; obtain rfl := hw.symm; clear hw)
        | (go_at_call 50; refine (out_any _ _).mono ?_; rintro e w' ⟨rfl, hw⟩; obtain rfl := hw.symm; clear hw; unfold two))
            go_ret2
            exact ⟨by rw [hE.out]; rfl, rfl⟩
        · by_cases hc : n < 0
          · have hE : Hid (r = ans (l + T)) := hA.out (by simp [upI, hc])
            clear hA hB
            go_wp2_with (first
        | (go_at_call 60; refine (FLO _).mono ?_; rintro e w' ⟨rfl, hw⟩; obtain rfl := hw.symm; clear hw)
        | (go_at_call 50; refine (out_any _ _).mono ?_; rintro e w' ⟨rfl, hw⟩; obtain rfl := hw.symm; clear hw; unfold two))
            go_ret2
            exact ⟨by rw [hE.out]; rfl, rfl⟩
          · have hE : Hid (r = ans l) := hB.out (by simp [upI, show 0 ≤ n by omega])
            clear hA hB
            go_wp2_with (first
        | (go_at_call 60; refine (FLO _).mono ?_; rintro e w' ⟨rfl, hw⟩; obtain rfl := hw.symm; clear hw)
        | (go_at_call 50; refine (out_any _ _).mono ?_; rintro e w' ⟨rfl, hw⟩; obtain rfl := hw.symm; clear hw; unfold two))
            go_ret2
            exact ⟨by rw [hE.out]; rfl, rfl⟩
        · have hE : Hid (r = ans (l + T)) := hA.out (by simp [upI])
          clear hA hB
          go_wp2_with (first
        | (go_at_call 60; refine (FLO _).mono ?_; rintro e w' ⟨rfl, hw⟩; obtain rfl := hw.symm; clear hw)
        | (go_at_call 50; refine (out_any _ _).mono ?_; rintro e w' ⟨rfl, hw⟩; obtain rfl := hw.symm; clear hw; unfold two))
          go_ret2
          exact ⟨by rw [hE.out]; rfl, rfl⟩
        · have hE : Hid (r = ans l) := hB.out (by simp [upI])
          clear hA hB
          go_wp2_with (first
        | (go_at_call 60; refine (FLO _).mono ?_; rintro e w' ⟨rfl, hw⟩; obtain rfl := hw.symm; clear hw)
        | (go_at_call 50; refine (out_any _ _).mono ?_; rintro e w' ⟨rfl, hw⟩; obtain rfl := hw.symm; clear hw; unfold two))
          go_ret2
          exact ⟨by rw [hE.out]; rfl, rfl⟩
end Go.Proofs.YtdkoobpapdahaaaDoor
