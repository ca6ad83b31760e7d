/- The walk of DateMonths. -/
import Derived.Test.YtnjkckkcepkaoaaDoorDLives
import Derived.Test.YtnjkckkcepkaoaaDoorDMonths
namespace Go.Proofs.YtnjkckkcepkaoaaDoor
open Go.RowKit
set_option linter.unusedVariables false
set_option maxRecDepth 100000

theorem mon_back (Y M k : Int) (m1 : 1 ≤ M) (m2 : M ≤ 12) :
    1900 + monN (1900 + monN Y (M + k) / 12) (monN Y (M + k) % 12 + 1 + -k) / 12 = Y ∧ monN (1900 + monN Y (M + k) / 12) (monN Y (M + k) % 12 + 1 + -k) % 12 + 1 = M := by
  unfold monN; omega
theorem ddF_le (d l : Int) : ddF false d l ≤ d ∧ ddF false d l ≤ l ∧ (ddF false d l = d ∨ ddF false d l = l) := by
  unfold ddF
  simp
  split <;> omega
theorem months_pure {Y M D day k : Int} (h : Cal.IsDate Y M D day) :
    monthsF Y M D k false = (0, false) ∨ ∃ y m d A b, Cal.IsDate y m d A ∧ monthsF Y M D k false = (A, true) ∧ monthsF y m d (-k) false = (b, true) ∧ b ≤ day ∧ day - b < 4 ∧ 0 ≤ b := by
  have hY := h.y1; have hY2 := h.y2; have hM := h.m1; have hM2 := h.m2; have hD := h.d1; have hD2 := h.d2; have he := h.eq
  have hl := Cal.last_le Y M
  have fb := first_bd Y M hY hY2 hM (by omega)
  have mb := mon_back Y M k hM hM2
  have hm : 1 ≤ monN Y (M + k) % 12 + 1 ∧ monN Y (M + k) % 12 + 1 ≤ 12 := by omega
  unfold monthsF
  generalize 1900 + monN Y (M + k) / 12 = y at *
  generalize monN Y (M + k) % 12 + 1 = m at *
  by_cases hi : isB y m (ddF false D (Cal.last y m)) = true
  · right
    have hq := (isB_iff _ _ _).1 hi
    have dl := ddF_le D (Cal.last y m)
    have lg := Cal.last_ge y m hm.1 hm.2
    generalize ddF false D (Cal.last y m) = d at *
    refine ⟨y, m, d, Cal.first y m + d, Cal.first Y M + d, ⟨hq.1, hq.2.1, hm.1, hm.2, hq.2.2.1, hq.2.2.2, rfl⟩, dayF_yes hi, ?_, by omega, by omega, by omega⟩
    rw [mb.1, mb.2]
    have dl2 := ddF_le d (Cal.last Y M)
    have e : ddF false d (Cal.last Y M) = d := by omega
    rw [e]
    exact dayF_yes ((isB_iff _ _ _).2 ⟨hY, hY2, hq.2.2.1, by omega⟩)
  · left
    exact dayF_no hi
theorem months_last {Y M D day : Int} (h : Cal.IsDate Y M D day) : ∃ l, monthsF Y M D 0 true = (l, true) ∧ day ≤ l := by
  have hY := h.y1; have hY2 := h.y2; have hM := h.m1; have hM2 := h.m2; have hD := h.d1; have hD2 := h.d2; have he := h.eq
  have mb : 1900 + monN Y (M + 0) / 12 = Y ∧ monN Y (M + 0) % 12 + 1 = M := by unfold monN; omega
  have lg := Cal.last_ge Y M hM hM2
  unfold monthsF
  rw [mb.1, mb.2]
  have e : ddF true D (Cal.last Y M) = Cal.last Y M := by simp [ddF]
  rw [e]
  exact ⟨_, dayF_yes ((isB_iff _ _ _).2 ⟨hY, hY2, by omega, Int.le_refl _⟩), by omega⟩
theorem near_neg {k : Int} (h : nearD k = true) : nearD (-k) = true := by
  rw [nearD_iff] at *
  omega
set_option maxHeartbeats 2000000 in
theorem months_core1 {x : Nat} {day k : Int} {w : World} (hx : x < 18446744073709551616) (hday : 1 + (x : Int) % 2958464 = day) (hd : 1 ≤ day ∧ day ≤ 2958464) (T : PTab w)
    (hk : k < -100000 ∨ (¬ k < -100000 ∧ 100000 < k))
    (M1 : ∀ u : World, Calls Tryd.prog 19 #[.int .i64 day, .int .i64 k, .bool false] u fun e w' => e = .returned (.tuple #[.int .i64 0, .bool false]) ∧ w' = u) :
    Calls Tryd.prog 6 #[.int .u64 x, .int .i64 k] w fun e w' => e = .returned (.bool true) ∧ Below w.heap.size w w' := by
  have LV := fun u hu => lives_any u hu
  have HT : Hid (PTab w) := T
  clear T
  rcases hk with h | ⟨h1, h2⟩
  all_goals
    go_enter Tryd.func6, Tryd.ntmps6
    go_wp2_with (first
      | (go_at_call 19; refine (M1 _).mono ?_; rintro e w' ⟨rfl, hw⟩; obtain rfl := hw.symm; clear hw)
      | (go_at_call 16; refine (LV _ HT.out).mono ?_; rintro e w1 ⟨rfl, hb1⟩; have HB1 : Hid _ := hb1; clear hb1))
    go_ret
    exact ⟨rfl, HB1.out⟩
set_option maxHeartbeats 2000000 in
theorem months_core2 {x : Nat} {day k : Int} {w : World} (hx : x < 18446744073709551616) (hday : 1 + (x : Int) % 2958464 = day) (hd : 1 ≤ day ∧ day ≤ 2958464) (T : PTab w)
    (h1 : ¬ k < -100000) (h2 : ¬ 100000 < k)
    (M1 : ∀ u : World, Calls Tryd.prog 19 #[.int .i64 day, .int .i64 k, .bool false] u fun e w' => e = .returned (.tuple #[.int .i64 0, .bool false]) ∧ w' = u) :
    Calls Tryd.prog 6 #[.int .u64 x, .int .i64 k] w fun e w' => e = .returned (.bool true) ∧ Below w.heap.size w w' := by
  have LV := fun u hu => lives_any u hu
  have HT : Hid (PTab w) := T
  clear T
  go_enter Tryd.func6, Tryd.ntmps6
  go_wp2_with (first
    | (go_at_call 19; refine (M1 _).mono ?_; rintro e w' ⟨rfl, hw⟩; obtain rfl := hw.symm; clear hw)
    | (go_at_call 16; refine (LV _ HT.out).mono ?_; rintro e w1 ⟨rfl, hb1⟩; have HB1 : Hid _ := hb1; clear hb1))
  go_ret
  exact ⟨rfl, HB1.out⟩
set_option maxHeartbeats 2000000 in
theorem months_core3 {x : Nat} {day k A b l : Int} {w : World} (hx : x < 18446744073709551616) (hday : 1 + (x : Int) % 2958464 = day) (hd : 1 ≤ day ∧ day ≤ 2958464) (T : PTab w)
    (h1 : ¬ k < -100000) (h2 : ¬ 100000 < k)
    (M1 : ∀ u : World, Calls Tryd.prog 19 #[.int .i64 day, .int .i64 k, .bool false] u fun e w' => e = .returned (.tuple #[.int .i64 A, .bool true]) ∧ w' = u)
    (M2 : ∀ u : World, Calls Tryd.prog 19 #[.int .i64 A, .int .i64 (-k), .bool false] u fun e w' => e = .returned (.tuple #[.int .i64 b, .bool true]) ∧ w' = u)
    (M3 : ∀ u : World, Calls Tryd.prog 19 #[.int .i64 day, .int .i64 0, .bool true] u fun e w' => e = .returned (.tuple #[.int .i64 l, .bool true]) ∧ w' = u)
    (b1 : b ≤ day) (b2 : day - b < 4) (b3 : 0 ≤ b) (b4 : day ≤ l) :
    Calls Tryd.prog 6 #[.int .u64 x, .int .i64 k] w fun e w' => e = .returned (.bool true) ∧ Below w.heap.size w w' := by
  have LV := fun u hu => lives_any u hu
  have HT : Hid (PTab w) := T
  clear T
  go_enter Tryd.func6, Tryd.ntmps6
  go_wp2_with fail
  refine (M1 _).mono ?_
  rintro e w' ⟨rfl, hw⟩
  obtain rfl := hw.symm
  clear hw
  go_wp2_with fail
  refine (M2 _).mono ?_
  rintro e w' ⟨rfl, hw⟩
  obtain rfl := hw.symm
  clear hw
  go_wp2_with fail
  refine (M3 _).mono ?_
  rintro e w' ⟨rfl, hw⟩
  obtain rfl := hw.symm
  clear hw
  go_wp2_with (go_at_call 16; refine (LV _ HT.out).mono ?_; rintro e w1 ⟨rfl, hb1⟩; have HB1 : Hid _ := hb1; clear hb1)
  go_ret
  exact ⟨rfl, HB1.out⟩
theorem months_walk (x : Nat) (hx : x < 18446744073709551616) (k : Int) (w : World) (T : PTab w) : Calls Tryd.prog 6 #[.int .u64 x, .int .i64 k] w fun e w' => e = .returned (.bool true) ∧ Below w.heap.size w w' := by
  have hd : 1 ≤ 1 + (x : Int) % 2958464 ∧ 1 + (x : Int) % 2958464 ≤ 2958464 := by omega
  generalize hday : 1 + (x : Int) % 2958464 = day at hd
  obtain ⟨Y, M, D, i⟩ := Cal.date_some day hd.1 hd.2
  cases hk : nearD k
  · exact months_core1 hx hday hd T (near_not_F hk) (fun u => months_far i hk false u)
  · have kb := (nearD_iff k).1 hk
    rcases months_pure (k := k) i with h | ⟨y, m, d, A, b, j, e1, e2, b1, b2, b3⟩
    · refine months_core2 hx hday hd T (by omega) (by omega) (fun u => ?_)
      have := months_yes i hk false u
      rw [h] at this
      exact this
    · obtain ⟨l, e3, b4⟩ := months_last i
      refine months_core3 (A := A) (b := b) (l := l) hx hday hd T (by omega) (by omega) (fun u => ?_) (fun u => ?_) (fun u => ?_) b1 b2 b3 b4
      · have := months_yes i hk false u
        rw [e1] at this
        exact this
      · have := months_yes j (near_neg hk) false u
        rw [e2] at this
        exact this
      · have := months_yes i (k := 0) (by decide) true u
        rw [e3] at this
        exact this
end Go.Proofs.YtnjkckkcepkaoaaDoor
