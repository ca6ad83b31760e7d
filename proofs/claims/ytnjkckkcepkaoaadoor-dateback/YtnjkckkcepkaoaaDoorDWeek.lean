/- The contracts of Week, of both. -/
import Derived.Test.YtnjkckkcepkaoaaDoorDPart2
namespace Go.Proofs.YtnjkckkcepkaoaaDoor
open Go.RowKit
set_option maxRecDepth 100000
set_option linter.unusedVariables false

set_option maxHeartbeats 1000000 in
theorem week_no {day : Int} (hg : goodD day = false) (w : World) : Calls Tryd.prog 25 #[.int .i64 day] w fun e w' => e = .returned (.int .i64 0) ∧ w' = w := by
  go_enter Tryd.func25, Tryd.ntmps25
  go_wp2_with (go_at_call 33; refine (good_any _ _).mono ?_; rintro e w' ⟨rfl, hw⟩; obtain rfl := hw.symm; clear hw; rw [hg])
  go_ret
  exact ⟨rfl, rfl⟩
set_option maxHeartbeats 1000000 in
theorem rweek_no {day : Int} (hg : goodD day = false) (w : World) : Calls Tryd.prog 26 #[.int .i64 day] w fun e w' => e = .returned (.int .i64 0) ∧ w' = w := by
  rcases (goodD_not day).1 hg with h | h
  · clear hg
    go_enter Tryd.func26, Tryd.ntmps26
    go_wp2
    go_ret
    exact ⟨rfl, rfl⟩
  · have h' : ¬ day < 1 := by omega
    clear hg
    go_enter Tryd.func26, Tryd.ntmps26
    go_wp2
    go_ret
    exact ⟨rfl, rfl⟩
set_option maxHeartbeats 1000000 in
theorem week_yes {Y M D day : Int} (hg : goodD day = true) (h : Cal.IsDate Y M D (Cal.thu day)) (w : World) : Calls Tryd.prog 25 #[.int .i64 day] w fun e w' => e = .returned (.int .i64 (Cal.wk Y (Cal.thu day))) ∧ w' = w := by
  have hb := (goodD_iff day).1 hg
  have ht : Cal.thu day = day - (day - 1) % 7 + 3 := by unfold Cal.thu; omega
  have hk : Cal.wk Y (Cal.thu day) = (Cal.thu day - Cal.first Y 1 - 1) / 7 + 1 := by unfold Cal.wk; rw [first_one]
  have hyr := h.year
  rw [← first_one] at hyr
  have S := fun u => split_any h u
  have A1 := fun u => ahead_any Y 1 h.y1 h.y2 (by omega) (by omega) u
  have fb := first_bd Y 1 h.y1 h.y2 (by omega) (by omega)
  rw [hk]
  rw [ht] at *
  clear ht hk h
  have b1 := hyr.1
  clear hyr
  generalize Cal.first Y 1 = F at *
  go_enter Tryd.func25, Tryd.ntmps25
  go_wp2_with (first
    | (go_at_call 33; refine (good_any _ _).mono ?_; rintro e w' ⟨rfl, hw⟩; obtain rfl := hw.symm; clear hw; rw [hg])
    | (go_at_call 34; refine (S _).mono ?_; rintro e w' ⟨rfl, hw⟩; obtain rfl := hw.symm; clear hw)
    | (go_at_call 29; refine (A1 _).mono ?_; rintro e w' ⟨rfl, hw⟩; obtain rfl := hw.symm; clear hw))
  go_ret
  exact ⟨rfl, rfl⟩
set_option maxHeartbeats 1000000 in
theorem rweek_yes {Y M D day : Int} (hg : goodD day = true) (h : Cal.IsDate Y M D (Cal.thu day)) (w : World) : Calls Tryd.prog 26 #[.int .i64 day] w fun e w' => e = .returned (.int .i64 (Cal.wk Y (Cal.thu day))) ∧ w' = w := by
  have hb := (goodD_iff day).1 hg
  have ht : Cal.thu day = day - (day + 6) % 7 + 3 := rfl
  have hk : Cal.wk Y (Cal.thu day) = (Cal.thu day - Cal.first Y 1 - 1) / 7 + 1 := by unfold Cal.wk; rw [first_one]
  have hyr := h.year
  rw [← first_one] at hyr
  have S := fun u => rparts_yes h u
  have A1 := fun u => first_any Y 1 h.y1 h.y2 (by omega) (by omega) u
  have fb := first_bd Y 1 h.y1 h.y2 (by omega) (by omega)
  have tb := h.good
  rw [hk]
  rw [ht] at *
  clear ht hk h hg
  have b1 := hyr.1
  clear hyr
  obtain ⟨t1, t2⟩ := tb
  have t3 : ¬ day - (day + 6) % 7 + 3 < 1 := by omega
  obtain ⟨d1, d2⟩ := hb
  unfold four at S
  generalize Cal.first Y 1 = F at *
  go_enter Tryd.func26, Tryd.ntmps26
  go_wp2_with (first
    | (go_at_call 18; refine (S _).mono ?_; rintro e w' ⟨rfl, hw⟩; obtain rfl := hw.symm; clear hw)
    | (go_at_call 30; refine (A1 _).mono ?_; rintro e w' ⟨rfl, hw⟩; obtain rfl := hw.symm; clear hw))
  go_ret
  exact ⟨rfl, rfl⟩
end Go.Proofs.YtnjkckkcepkaoaaDoor
