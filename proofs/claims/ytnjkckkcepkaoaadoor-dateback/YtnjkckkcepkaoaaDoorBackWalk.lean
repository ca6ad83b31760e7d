/- The walk of DateBack. -/
import Derived.Test.YtnjkckkcepkaoaaDoorDLives
namespace Go.Proofs.YtnjkckkcepkaoaaDoor
open Go.RowKit
set_option linter.unusedVariables false
set_option maxRecDepth 100000

set_option maxHeartbeats 4000000 in
theorem back_core {x : Nat} {day Y M D Z K E l p q : Int} {S : ByteArray} {w : World} (hx : x < 18446744073709551616) (hday : 1 + (x : Int) % 2958463 = day) (hd : 1 ≤ day ∧ day ≤ 2958463) (T : PTab w)
    (P1 : ∀ u : World, Calls Tryd.prog 17 #[.int .i64 day] u fun e w' => e = .returned (.tuple #[.int .i64 Y, .int .i64 M, .int .i64 D, .bool true]) ∧ w' = u)
    (DA : ∀ u : World, Calls Tryd.prog 8 #[.int .i64 Y, .int .i64 M, .int .i64 D] u fun e w' => e = .returned (.tuple #[.int .i64 day, .bool true]) ∧ w' = u)
    (PR : ∀ u : World, PTab u → Calls Tryd.prog 27 #[.int .i64 day] u fun e w' => e = .returned (.string S) ∧ Below u.heap.size u w')
    (PA : ∀ u : World, Calls Tryd.prog 21 #[.string S] u fun e w' => e = .returned (.tuple #[.int .i64 day, .bool true]) ∧ Below u.heap.size u w')
    (LA : ∀ u : World, Calls Tryd.prog 14 #[.int .i64 Y, .int .i64 M] u fun e w' => e = .returned (.int .i64 l) ∧ w' = u)
    (P2 : ∀ u : World, Calls Tryd.prog 17 #[.int .i64 (day + 1)] u fun e w' => e = .returned (.tuple #[.int .i64 Z, .int .i64 K, .int .i64 E, .bool true]) ∧ w' = u)
    (W1 : ∀ u : World, Calls Tryd.prog 23 #[.int .i64 (day + 1)] u fun e w' => e = .returned (.int .i64 p) ∧ w' = u)
    (W2 : ∀ u : World, Calls Tryd.prog 23 #[.int .i64 day] u fun e w' => e = .returned (.int .i64 q) ∧ w' = u)
    (hD : 1 ≤ D) (hD2 : D ≤ 31) (hl : D ≤ l) (hY : 1900 ≤ Y) (hY2 : Y ≤ 9999) (hM : 1 ≤ M) (hM2 : M ≤ 12) (hq : 1 ≤ q ∧ q ≤ 7) (hp : p = q % 7 + 1)
    (hc : (D < l ∧ Z = Y ∧ K = M ∧ E = D + 1) ∨ (¬ D < l ∧ M < 12 ∧ Z = Y ∧ K = M + 1 ∧ E = 1) ∨ (¬ D < l ∧ ¬ M < 12 ∧ Z = Y + 1 ∧ K = 1 ∧ E = 1)) :
    Calls Tryd.prog 5 #[.int .u64 x] w fun e w' => e = .returned (.bool true) ∧ Below w.heap.size w w' := by
  have LV := fun u hu => lives_any u hu
  have HT : Hid (PTab w) := T
  clear T
  have e1 : (day != day) = false := by simp
  have hD' : ¬ D < 1 := by omega
  have hl' : ¬ l < D := by omega
  subst hp
  have e2 : (q % 7 + 1 == q % 7 + 1) = true := by simp
  rcases hc with ⟨c1, rfl, rfl, rfl⟩ | ⟨c1, c2, rfl, rfl, rfl⟩ | ⟨c1, c2, rfl, rfl, rfl⟩
  all_goals
    try have e3 : (Z != Z) = false := by simp
    try have e4 : (Y != Y) = false := by simp
    try have e5 : (K != K) = false := by simp
    try have e6 : (M != M) = false := by simp
    have e7 : (D + 1 != D + 1) = false := by simp
    try have e8 : (M + 1 != M + 1) = false := by simp
    try have e9 : (Y + 1 != Y + 1) = false := by simp
    go_enter Tryd.func5, Tryd.ntmps5
    go_wp2_with fail
    refine (P1 _).mono ?_
    rintro e w' ⟨rfl, hw⟩
    obtain rfl := hw.symm
    clear hw
    go_wp2_with fail
    refine (DA _).mono ?_
    rintro e w' ⟨rfl, hw⟩
    obtain rfl := hw.symm
    clear hw
    go_wp2_with fail
    refine (PR _ HT.out).mono ?_
    rintro e w1 ⟨rfl, hb1⟩
    have HB1 : Hid _ := hb1
    have HT1 : Hid (PTab w1) := HT.out.below hb1
    clear hb1
    go_wp2_with fail
    refine (PA _).mono ?_
    rintro e w2 ⟨rfl, hb2⟩
    have HB2 : Hid (Below w.heap.size w w2) := HB1.out.trans (hb2.mono HB1.out.size)
    have HT2 : Hid (PTab w2) := HT1.out.below hb2
    clear hb2
    go_wp2_with fail
    refine (LA _).mono ?_
    rintro e w' ⟨rfl, hw⟩
    obtain rfl := hw.symm
    clear hw
    go_wp2_with fail
    refine (P2 _).mono ?_
    rintro e w' ⟨rfl, hw⟩
    obtain rfl := hw.symm
    clear hw
    go_wp2_with fail
    refine (LA _).mono ?_
    rintro e w' ⟨rfl, hw⟩
    obtain rfl := hw.symm
    clear hw
    go_wp2_with fail
    refine (W1 _).mono ?_
    rintro e w' ⟨rfl, hw⟩
    obtain rfl := hw.symm
    clear hw
    go_wp2_with fail
    refine (W2 _).mono ?_
    rintro e w' ⟨rfl, hw⟩
    obtain rfl := hw.symm
    clear hw
    go_wp2_with (go_at_call 16; refine (LV _ HT2.out).mono ?_; rintro e w3 ⟨rfl, hb3⟩; have HB3 : Hid _ := hb3; clear hb3)
    go_ret
    exact ⟨rfl, HB2.out.trans (HB3.out.mono HB2.out.size)⟩
theorem back_walk (x : Nat) (hx : x < 18446744073709551616) (w : World) (T : PTab w) : Calls Tryd.prog 5 #[.int .u64 x] w fun e w' => e = .returned (.bool true) ∧ Below w.heap.size w w' := by
  have hd : 1 ≤ 1 + (x : Int) % 2958463 ∧ 1 + (x : Int) % 2958463 ≤ 2958463 := by omega
  generalize hday : 1 + (x : Int) % 2958463 = day at hd
  obtain ⟨Y0, M0, D0, i⟩ := Cal.date_some day (by omega) (by omega)
  obtain ⟨y, m, d, rfl, rfl, rfl, b1, b2, b3, b4, b5, b6⟩ := date_nat i
  obtain ⟨Z, K, E, j⟩ := Cal.date_some (day + 1) (by omega) (by omega)
  have nx := Cal.date_next i (by omega)
  have hB : isB y m d = true := (isB_iff _ _ _).2 ⟨i.y1, i.y2, i.d1, i.d2⟩
  have g1 : goodD day = true := (goodD_iff _).2 (by omega)
  have g2 : goodD (day + 1) = true := (goodD_iff _).2 (by omega)
  have w1 : wdayF (day + 1) = (day + 1) % 7 + 1 := by unfold wdayF; rw [if_pos g2]
  have w2 : wdayF day = day % 7 + 1 := by unfold wdayF; rw [if_pos g1]
  refine back_core (Y := y) (M := m) (D := d) (Z := Z) (K := K) (E := E) (l := Cal.last y m) (p := wdayF (day + 1)) (q := wdayF day) (S := ⟨(printD y m d).toArray⟩) hx hday hd T (fun u => parts_yes i u) (fun u => ?_) (fun u hu => print_yes i u hu) (fun u => ?_) (fun u => last_any y m u) (fun u => parts_yes j u) (fun u => weekday_any _ u) (fun u => weekday_any _ u) (by omega) (by omega) i.d2 (by omega) (by omega) (by omega) (by omega) ?_ ?_ ?_
  · have := day_any y m d u
    rw [dayF_yes hB, ← i.eq] at this
    exact this
  · have hs : (printD y m d).length ≤ 100 := by
      unfold printD
      simp only [List.length_append, dec_len4 y (by omega) (by omega), pad2_len m (by omega), pad2_len d (by omega), List.length_cons, List.length_nil]
      omega
    have := parse_any ⟨(printD y m d).toArray⟩ (by rw [size_mk]; omega) u
    rw [show (⟨(printD y m d).toArray⟩ : ByteArray).data.toList = printD y m d by simp, parse_print i] at this
    exact this
  · rw [w2]; omega
  · rw [w1, w2]; omega
  · by_cases c : (d : Int) < Cal.last y m
    · obtain ⟨e1, e2, e3⟩ := Cal.date_one j (nx.1 c)
      left; exact ⟨c, e1, e2, e3⟩
    · right
      by_cases c2 : (m : Int) < 12
      · obtain ⟨e1, e2, e3⟩ := Cal.date_one j (nx.2.1 c c2)
        left; exact ⟨c, c2, e1, e2, e3⟩
      · obtain ⟨e1, e2, e3⟩ := Cal.date_one j (nx.2.2 c c2)
        right; exact ⟨c, c2, e1, e2, e3⟩
end Go.Proofs.YtnjkckkcepkaoaaDoor
