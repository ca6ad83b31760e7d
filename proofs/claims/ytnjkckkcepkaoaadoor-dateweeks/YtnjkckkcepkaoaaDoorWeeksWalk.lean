/- The walk of DateWeeks. -/
import Derived.Test.YtnjkckkcepkaoaaDoorDLives
import Derived.Test.YtnjkckkcepkaoaaDoorDWeek
namespace Go.Proofs.YtnjkckkcepkaoaaDoor
open Go.RowKit
set_option linter.unusedVariables false
set_option maxRecDepth 100000

set_option maxHeartbeats 2000000 in
theorem weeks_core {x : Nat} {day a b wd : Int} {w : World} (hx : x < 18446744073709551616) (hday : 1 + (x : Int) % 2958463 = day) (hd : 1 ≤ day ∧ day ≤ 2958463) (T : PTab w)
    (W1 : ∀ u : World, Calls Tryd.prog 25 #[.int .i64 day] u fun e w' => e = .returned (.int .i64 a) ∧ w' = u)
    (W2 : ∀ u : World, Calls Tryd.prog 25 #[.int .i64 (day + 1)] u fun e w' => e = .returned (.int .i64 b) ∧ w' = u)
    (WD : ∀ u : World, Calls Tryd.prog 23 #[.int .i64 (day + 1)] u fun e w' => e = .returned (.int .i64 wd) ∧ w' = u)
    (hab : (wd ≠ 2 ∧ a = b ∧ 1 ≤ a ∧ a ≤ 53) ∨ (wd = 2 ∧ b = a + 1 ∧ 1 ≤ a ∧ a ≤ 53) ∨ (wd = 2 ∧ b = 1 ∧ 52 ≤ a ∧ a ≤ 53)) :
    Calls Tryd.prog 7 #[.int .u64 x] w fun e w' => e = .returned (.bool true) ∧ Below w.heap.size w w' := by
  have LV := fun u hu => lives_any u hu
  have HT : Hid (PTab w) := T
  clear T
  rcases hab with ⟨h1, h2, h3, h4⟩ | ⟨h1, h2, h3, h4⟩ | ⟨h1, h2, h3, h4⟩
  · subst h2
    have hw : (wd != 2) = true := by simpa using h1
    have e1 : (a == a) = true := by simp
    go_enter Tryd.func7, Tryd.ntmps7
    go_wp2_with fail
    refine (W1 _).mono ?_
    rintro e w' ⟨rfl, hw⟩
    obtain rfl := hw.symm
    clear hw
    go_wp2_with fail
    refine (W2 _).mono ?_
    rintro e w' ⟨rfl, hw⟩
    obtain rfl := hw.symm
    clear hw
    go_wp2_with fail
    refine (WD _).mono ?_
    rintro e w' ⟨rfl, hw⟩
    obtain rfl := hw.symm
    clear hw
    go_wp2_with (go_at_call 16; refine (LV _ HT.out).mono ?_; rintro e w1 ⟨rfl, hb1⟩; have HB1 : Hid _ := hb1; clear hb1)
    go_ret
    exact ⟨rfl, HB1.out⟩
  · subst h1
    subst h2
    have e1 : (a + 1 == a + 1) = true := by simp
    go_enter Tryd.func7, Tryd.ntmps7
    go_wp2_with fail
    refine (W1 _).mono ?_
    rintro e w' ⟨rfl, hw⟩
    obtain rfl := hw.symm
    clear hw
    go_wp2_with fail
    refine (W2 _).mono ?_
    rintro e w' ⟨rfl, hw⟩
    obtain rfl := hw.symm
    clear hw
    go_wp2_with fail
    refine (WD _).mono ?_
    rintro e w' ⟨rfl, hw⟩
    obtain rfl := hw.symm
    clear hw
    go_wp2_with (go_at_call 16; refine (LV _ HT.out).mono ?_; rintro e w1 ⟨rfl, hb1⟩; have HB1 : Hid _ := hb1; clear hb1)
    go_ret
    exact ⟨rfl, HB1.out⟩
  · subst h1
    subst h2
    have e1 : ((1 : Int) == a + 1) = false := by simp; omega
    go_enter Tryd.func7, Tryd.ntmps7
    go_wp2_with fail
    refine (W1 _).mono ?_
    rintro e w' ⟨rfl, hw⟩
    obtain rfl := hw.symm
    clear hw
    go_wp2_with fail
    refine (W2 _).mono ?_
    rintro e w' ⟨rfl, hw⟩
    obtain rfl := hw.symm
    clear hw
    go_wp2_with fail
    refine (WD _).mono ?_
    rintro e w' ⟨rfl, hw⟩
    obtain rfl := hw.symm
    clear hw
    go_wp2_with (go_at_call 16; refine (LV _ HT.out).mono ?_; rintro e w1 ⟨rfl, hb1⟩; have HB1 : Hid _ := hb1; clear hb1)
    go_ret
    exact ⟨rfl, HB1.out⟩
theorem weeks_walk (x : Nat) (hx : x < 18446744073709551616) (w : World) (T : PTab w) : Calls Tryd.prog 7 #[.int .u64 x] w fun e w' => e = .returned (.bool true) ∧ Below w.heap.size w w' := by
  have hd : 1 ≤ 1 + (x : Int) % 2958463 ∧ 1 + (x : Int) % 2958463 ≤ 2958463 := by omega
  generalize hday : 1 + (x : Int) % 2958463 = day at hd
  have g1 : goodD day = true := (goodD_iff _).2 (by omega)
  have g2 : goodD (day + 1) = true := (goodD_iff _).2 (by omega)
  have t1 := Cal.thu_bd day (by omega) (by omega)
  have t2 := Cal.thu_bd (day + 1) (by omega) (by omega)
  obtain ⟨Y, M, D, i1⟩ := Cal.date_some _ t1.1 t1.2
  obtain ⟨Z, K, E, i2⟩ := Cal.date_some _ t2.1 t2.2
  have tn := Cal.thu_next day
  have y1 := i1.year
  have y2 := i2.year
  have b1 := Cal.wk_bd y1.1 y1.2
  refine weeks_core hx hday hd T (fun u => week_yes g1 i1 u) (fun u => week_yes g2 i2 u) (fun u => weekday_any (day + 1) u) ?_
  have hwd : wdayF (day + 1) = (day + 1) % 7 + 1 := by unfold wdayF; rw [if_pos g2]
  rw [hwd]
  by_cases hm : (day + 1) % 7 = 1
  · rw [tn.2 hm] at y2 ⊢
    have := Cal.wk_next y1.1 y1.2 y2.1 y2.2
    right
    rcases this with h | h
    · left; exact ⟨by omega, h, b1.1, b1.2⟩
    · right; exact ⟨by omega, h.1, h.2, b1.2⟩
  · left
    rw [tn.1 hm] at y2 ⊢
    have e := Cal.year_one y1.1 y1.2 y2.1 y2.2
    rw [e] at b1 ⊢
    exact ⟨by omega, rfl, b1.1, b1.2⟩
end Go.Proofs.YtnjkckkcepkaoaaDoor
