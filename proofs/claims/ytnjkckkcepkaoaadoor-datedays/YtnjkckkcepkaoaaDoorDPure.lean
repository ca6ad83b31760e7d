/- The calendar, as Lean functions of ints; no walk, no program. -/
import Derived.Test.YtnjkckkcepkaoaaDoorRows
import Derived.WalkKit
namespace Go.Cal

/-- Is y a leap year? -/
def leap (y : Int) : Bool := decide (y % 4 = 0) && (decide (y % 100 ≠ 0) || decide (y % 400 = 0))
def lp (y : Int) : Int := if leap y = true then 1 else 0
theorem lp_01 (y : Int) : 0 ≤ lp y ∧ lp y ≤ 1 := by unfold lp; split <;> omega
/-- How many days month m of year y has. -/
def last (y m : Int) : Int :=
  if m < 1 ∨ 12 < m then 0 else if m = 2 then 28 + lp y else if m = 4 ∨ m = 6 ∨ m = 9 ∨ m = 11 then 30 else 31
theorem last_le (y m : Int) : 0 ≤ last y m ∧ last y m ≤ 31 := by
  have := lp_01 y
  unfold last; repeat' split
  all_goals omega
theorem last_ge (y m : Int) (h1 : 1 ≤ m) (h2 : m ≤ 12) : 28 ≤ last y m := by
  have := lp_01 y
  unfold last; repeat' split
  all_goals omega
theorem last_out (y m : Int) (h : m < 1 ∨ 12 < m) : last y m = 0 := by unfold last; rw [if_pos h]
/-- The days of the years from 1900 to y - 1. -/
def ahead (y : Int) : Int := 365 * (y - 1900) + ((y - 1) / 4 - (y - 1) / 100 + (y - 1) / 400 - 460)
theorem ahead_succ (y : Int) : ahead (y + 1) = ahead y + 365 + lp y := by
  unfold ahead lp leap
  by_cases h4 : y % 4 = 0 <;> by_cases h1 : y % 100 = 0 <;> by_cases h2 : y % 400 = 0
  all_goals simp [h4, h1, h2]
  all_goals omega
theorem ahead_1900 : ahead 1900 = 0 := by decide
theorem ahead_top : ahead 10000 = 2958464 := by decide
theorem ahead_lt (y z : Int) (h : y < z) : ahead y + 365 ≤ ahead z := by
  unfold ahead; omega
theorem ahead_mono (y z : Int) (h : y ≤ z) : ahead y ≤ ahead z := by
  rcases Int.lt_or_eq_of_le h with h | h
  · have := ahead_lt y z h; omega
  · rw [h]; exact Int.le_refl _
/-- The days of a year ahead of month m. -/
def cum (y m : Int) : Int :=
  if m ≤ 1 then 0 else if m = 2 then 31 else if m = 3 then 59 + lp y else if m = 4 then 90 + lp y else if m = 5 then 120 + lp y else if m = 6 then 151 + lp y
  else if m = 7 then 181 + lp y else if m = 8 then 212 + lp y else if m = 9 then 243 + lp y else if m = 10 then 273 + lp y else if m = 11 then 304 + lp y else if m = 12 then 334 + lp y else 365 + lp y
theorem cum_succ (y m : Int) (h1 : 1 ≤ m) (h2 : m ≤ 12) : cum y (m + 1) = cum y m + last y m := by
  have hm : m = 1 ∨ m = 2 ∨ m = 3 ∨ m = 4 ∨ m = 5 ∨ m = 6 ∨ m = 7 ∨ m = 8 ∨ m = 9 ∨ m = 10 ∨ m = 11 ∨ m = 12 := by omega
  rcases hm with rfl | rfl | rfl | rfl | rfl | rfl | rfl | rfl | rfl | rfl | rfl | rfl <;> simp [cum, last] <;> omega
theorem cum_1 (y : Int) : cum y 1 = 0 := by simp [cum]
theorem cum_13 (y : Int) : cum y 13 = 365 + lp y := by simp [cum]
theorem cum_lt (y m k : Int) (h1 : 1 ≤ m) (h2 : m < k) (h3 : k ≤ 13) : cum y m + last y m ≤ cum y k := by
  have hl := lp_01 y
  have hm : m = 1 ∨ m = 2 ∨ m = 3 ∨ m = 4 ∨ m = 5 ∨ m = 6 ∨ m = 7 ∨ m = 8 ∨ m = 9 ∨ m = 10 ∨ m = 11 ∨ m = 12 := by omega
  have hk : k = 2 ∨ k = 3 ∨ k = 4 ∨ k = 5 ∨ k = 6 ∨ k = 7 ∨ k = 8 ∨ k = 9 ∨ k = 10 ∨ k = 11 ∨ k = 12 ∨ k = 13 := by omega
  rcases hm with rfl | rfl | rfl | rfl | rfl | rfl | rfl | rfl | rfl | rfl | rfl | rfl <;>
    rcases hk with rfl | rfl | rfl | rfl | rfl | rfl | rfl | rfl | rfl | rfl | rfl | rfl <;> simp [cum, last] <;> omega
theorem cum_bd (y m : Int) (h1 : 1 ≤ m) (h2 : m ≤ 13) : 0 ≤ cum y m ∧ cum y m ≤ 366 := by
  have hl := lp_01 y
  have hm : m = 1 ∨ m = 2 ∨ m = 3 ∨ m = 4 ∨ m = 5 ∨ m = 6 ∨ m = 7 ∨ m = 8 ∨ m = 9 ∨ m = 10 ∨ m = 11 ∨ m = 12 ∨ m = 13 := by omega
  rcases hm with rfl | rfl | rfl | rfl | rfl | rfl | rfl | rfl | rfl | rfl | rfl | rfl | rfl <;> simp [cum] <;> omega
/-- The day ahead of a month. -/
def first (y m : Int) : Int := ahead y + cum y m
/-- That date is that day. -/
structure IsDate (y m d day : Int) : Prop where
  y1 : 1900 ≤ y
  y2 : y ≤ 9999
  m1 : 1 ≤ m
  m2 : m ≤ 12
  d1 : 1 ≤ d
  d2 : d ≤ last y m
  eq : day = first y m + d
theorem IsDate.year {y m d day : Int} (h : IsDate y m d day) : ahead y < day ∧ day ≤ ahead (y + 1) := by
  have c := cum_bd y m h.m1 (by have := h.m2; omega)
  have s := cum_lt y m 13 h.m1 (by have := h.m2; omega) (by omega)
  have e := h.eq
  have d1 := h.d1
  have d2 := h.d2
  rw [cum_13] at s
  rw [ahead_succ]
  unfold first at e
  omega
theorem IsDate.good {y m d day : Int} (h : IsDate y m d day) : 1 ≤ day ∧ day ≤ 2958464 := by
  have a := h.year
  have b := ahead_mono 1900 y h.y1
  have c := ahead_mono (y + 1) 10000 (by have := h.y2; omega)
  rw [ahead_1900] at b
  rw [ahead_top] at c
  omega
/-- A day has one year. -/
theorem year_one {y z day : Int} (h1 : ahead y < day) (h2 : day ≤ ahead (y + 1)) (g1 : ahead z < day) (g2 : day ≤ ahead (z + 1)) : y = z := by
  rcases Int.lt_trichotomy y z with h | h | h
  · have := ahead_mono (y + 1) z (by omega); omega
  · exact h
  · have := ahead_mono (z + 1) y (by omega); omega
/-- A day has one date. -/
theorem date_one {y m d z k e day : Int} (h : IsDate y m d day) (g : IsDate z k e day) : y = z ∧ m = k ∧ d = e := by
  have hy := h.year
  have gy := g.year
  obtain rfl := year_one hy.1 hy.2 gy.1 gy.2
  have e1 := h.eq
  have e2 := g.eq
  have a1 := h.d1; have a2 := h.d2; have b1 := g.d1; have b2 := g.d2
  unfold first at e1 e2
  rcases Int.lt_trichotomy m k with hm | hm | hm
  · have := cum_lt y m k h.m1 hm (by have := g.m2; omega); omega
  · subst hm; exact ⟨rfl, rfl, by omega⟩
  · have := cum_lt y k m g.m1 hm (by have := h.m2; omega); omega
/-- Each good day has a date. -/
theorem date_some (day : Int) (h1 : 1 ≤ day) (h2 : day ≤ 2958464) : ∃ y m d, IsDate y m d day := by
  have yr : ∃ y, 1900 ≤ y ∧ y ≤ 9999 ∧ ahead y < day ∧ day ≤ ahead (y + 1) := by
    have key : ∀ n : Nat, n ≤ 8099 → day ≤ ahead (1900 + n + 1) → ∃ y, 1900 ≤ y ∧ y ≤ 9999 ∧ ahead y < day ∧ day ≤ ahead (y + 1) := by
      intro n
      induction n with
      | zero => intro _ h; exact ⟨1900, by omega, by omega, by rw [ahead_1900]; omega, by simpa using h⟩
      | succ n ih =>
        intro hn h
        by_cases hd : day ≤ ahead (1900 + n + 1)
        · exact ih (by omega) hd
        · refine ⟨1900 + n + 1, by omega, by omega, by omega, ?_⟩
          have e : (1900 + ((n + 1 : Nat) : Int) + 1) = 1900 + n + 1 + 1 := by omega
          rw [e] at h
          exact h
    exact key 8099 (Nat.le_refl _) (by
      have e : (1900 + ((8099 : Nat) : Int) + 1) = 10000 := by decide
      rw [e, ahead_top]; exact h2)
  obtain ⟨y, y1, y2, a1, a2⟩ := yr
  have mo : ∃ m, 1 ≤ m ∧ m ≤ 12 ∧ cum y m < day - ahead y ∧ day - ahead y ≤ cum y (m + 1) := by
    have key : ∀ n : Nat, n ≤ 11 → day - ahead y ≤ cum y (1 + n + 1) → ∃ m, 1 ≤ m ∧ m ≤ 12 ∧ cum y m < day - ahead y ∧ day - ahead y ≤ cum y (m + 1) := by
      intro n
      induction n with
      | zero => intro _ h; exact ⟨1, by omega, by omega, by rw [cum_1]; omega, by simpa using h⟩
      | succ n ih =>
        intro hn h
        by_cases hd : day - ahead y ≤ cum y (1 + n + 1)
        · exact ih (by omega) hd
        · refine ⟨1 + n + 1, by omega, by omega, by omega, ?_⟩
          have e : (1 + ((n + 1 : Nat) : Int) + 1) = 1 + n + 1 + 1 := by omega
          rw [e] at h
          exact h
    exact key 11 (Nat.le_refl _) (by
      have e : (1 + ((11 : Nat) : Int) + 1) = 13 := by decide
      rw [e, cum_13]
      rw [ahead_succ] at a2
      omega)
  obtain ⟨m, m1, m2, c1, c2⟩ := mo
  rw [cum_succ y m m1 m2] at c2
  exact ⟨y, m, day - first y m, y1, y2, m1, m2, by unfold first; omega, by unfold first; omega, by omega⟩
/-- The day behind a date. -/
theorem date_next {y m d day : Int} (h : IsDate y m d day) (hd : day < 2958464) :
    (d < last y m → IsDate y m (d + 1) (day + 1)) ∧ (¬ d < last y m → m < 12 → IsDate y (m + 1) 1 (day + 1)) ∧ (¬ d < last y m → ¬ m < 12 → IsDate (y + 1) 1 1 (day + 1)) := by
  have e := h.eq
  have d1 := h.d1; have d2 := h.d2; have m1 := h.m1; have m2 := h.m2; have y1 := h.y1; have y2 := h.y2
  refine ⟨fun g => ⟨y1, y2, m1, m2, by omega, by omega, by omega⟩, fun g gm => ?_, fun g gm => ?_⟩
  · have c := cum_succ y m m1 m2
    have l := last_ge y (m + 1) (by omega) (by omega)
    refine ⟨y1, y2, by omega, by omega, by omega, by omega, ?_⟩
    unfold first at *
    omega
  · obtain rfl : m = 12 := by omega
    have c := cum_succ y 12 (by omega) (by omega)
    have c13 : cum y (12 + 1) = 365 + lp y := cum_13 y
    have a := ahead_succ y
    have ye : y + 1 ≤ 9999 := by
      rcases (by omega : 9999 < y + 1 ∨ y + 1 ≤ 9999) with h9 | h9
      · exfalso
        obtain rfl : y = 9999 := by omega
        have t : ahead (9999 + 1) = 2958464 := ahead_top
        unfold first at e
        omega
      · exact h9
    have l := last_ge (y + 1) 1 (by omega) (by omega)
    refine ⟨by omega, ye, by omega, by omega, by omega, by omega, ?_⟩
    unfold first at *
    rw [cum_1]
    omega
/-- Months counted through years. -/
def mon (y m : Int) : Int := y * 12 + (m - 1)
theorem mon_year (y m : Int) (h1 : 1 ≤ m) (h2 : m ≤ 12) : mon y m / 12 = y ∧ mon y m % 12 + 1 = m := by unfold mon; omega
/-- The Thursday of a day's week, and its week's number. -/
def thu (day : Int) : Int := day - (day + 6) % 7 + 3
theorem thu_bd (day : Int) (h1 : 1 ≤ day) (h2 : day ≤ 2958464) : 1 ≤ thu day ∧ thu day ≤ 2958464 := by unfold thu; omega
theorem thu_next (day : Int) : ((day + 1) % 7 ≠ 1 → thu (day + 1) = thu day) ∧ ((day + 1) % 7 = 1 → thu (day + 1) = thu day + 7) := by unfold thu; omega
/-- The week of a Thursday t of year y. -/
def wk (y t : Int) : Int := (t - ahead y - 1) / 7 + 1
theorem wk_bd {y t : Int} (h1 : ahead y < t) (h2 : t ≤ ahead (y + 1)) : 1 ≤ wk y t ∧ wk y t ≤ 53 := by
  have := lp_01 y
  rw [ahead_succ] at h2
  unfold wk
  omega
theorem wk_next {y z t : Int} (h1 : ahead y < t) (h2 : t ≤ ahead (y + 1)) (g1 : ahead z < t + 7) (g2 : t + 7 ≤ ahead (z + 1)) : wk z (t + 7) = wk y t + 1 ∨ (wk z (t + 7) = 1 ∧ 52 ≤ wk y t) := by
  have ly := lp_01 y
  have lz := lp_01 z
  rcases Int.lt_trichotomy y z with h | h | h
  · right
    have e : z = y + 1 := by
      have a := ahead_succ y
      rcases (by omega : y + 1 < z ∨ z ≤ y + 1) with h3 | h3
      · have := ahead_lt (y + 1) z h3; omega
      · omega
    subst e
    have a := ahead_succ y
    unfold wk
    omega
  · subst h
    left
    unfold wk
    omega
  · exfalso
    have := ahead_mono (z + 1) y (by omega)
    omega
end Go.Cal
