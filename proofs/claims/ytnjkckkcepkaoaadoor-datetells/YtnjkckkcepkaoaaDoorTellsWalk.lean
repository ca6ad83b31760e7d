/- The walk of DateTells. -/
import Derived.Test.YtnjkckkcepkaoaaDoorDLives
import Derived.Test.YtnjkckkcepkaoaaDoorDMonths
import Derived.Test.YtnjkckkcepkaoaaDoorDWeek
import Derived.Test.YtnjkckkcepkaoaaDoorDRPrint
namespace Go.Proofs.YtnjkckkcepkaoaaDoor
open Go.RowKit
set_option linter.unusedVariables false
set_option maxRecDepth 100000

set_option maxHeartbeats 4000000 in
theorem tells_core {day k Y M D a b q p z : Int} {ok a' b' q' : Bool} {s S : ByteArray} {w : World} (T : PTab w)
    (P1 : ∀ u : World, Calls Tryd.prog 17 #[.int .i64 day] u fun e w' => e = .returned (.tuple #[.int .i64 Y, .int .i64 M, .int .i64 D, .bool ok]) ∧ w' = u)
    (P2 : ∀ u : World, Calls Tryd.prog 18 #[.int .i64 day] u fun e w' => e = .returned (.tuple #[.int .i64 Y, .int .i64 M, .int .i64 D, .bool ok]) ∧ w' = u)
    (A1 : ∀ u : World, Calls Tryd.prog 19 #[.int .i64 day, .int .i64 k, .bool false] u fun e w' => e = .returned (.tuple #[.int .i64 a, .bool a']) ∧ w' = u)
    (A2 : ∀ u : World, Calls Tryd.prog 20 #[.int .i64 day, .int .i64 k, .bool false] u fun e w' => e = .returned (.tuple #[.int .i64 a, .bool a']) ∧ w' = u)
    (B1 : ∀ u : World, Calls Tryd.prog 19 #[.int .i64 day, .int .i64 k, .bool true] u fun e w' => e = .returned (.tuple #[.int .i64 b, .bool b']) ∧ w' = u)
    (B2 : ∀ u : World, Calls Tryd.prog 20 #[.int .i64 day, .int .i64 k, .bool true] u fun e w' => e = .returned (.tuple #[.int .i64 b, .bool b']) ∧ w' = u)
    (S1 : ∀ u : World, Calls Tryd.prog 21 #[.string s] u fun e w' => e = .returned (.tuple #[.int .i64 q, .bool q']) ∧ Below u.heap.size u w')
    (S2 : ∀ u : World, Calls Tryd.prog 22 #[.string s] u fun e w' => e = .returned (.tuple #[.int .i64 q, .bool q']) ∧ Below u.heap.size u w')
    (W1 : ∀ u : World, Calls Tryd.prog 23 #[.int .i64 day] u fun e w' => e = .returned (.int .i64 p) ∧ w' = u)
    (W2 : ∀ u : World, Calls Tryd.prog 24 #[.int .i64 day] u fun e w' => e = .returned (.int .i64 p) ∧ w' = u)
    (K1 : ∀ u : World, Calls Tryd.prog 25 #[.int .i64 day] u fun e w' => e = .returned (.int .i64 z) ∧ w' = u)
    (K2 : ∀ u : World, Calls Tryd.prog 26 #[.int .i64 day] u fun e w' => e = .returned (.int .i64 z) ∧ w' = u)
    (R1 : ∀ u : World, PTab u → Calls Tryd.prog 27 #[.int .i64 day] u fun e w' => e = .returned (.string S) ∧ Below u.heap.size u w')
    (R2 : ∀ u : World, Calls Tryd.prog 28 #[.int .i64 day] u fun e w' => e = .returned (.string S) ∧ Below u.heap.size u w') :
    Calls Tryd.prog 4 #[.int .i64 day, .int .i64 k, .string s] w fun e w' => e = .returned (.bool true) ∧ Below w.heap.size w w' := by
  have LV := fun u hu => lives_any u hu
  have HT : Hid (PTab w) := T
  clear T
  have e1 : (Y == Y) = true := by simp
  have e2 : (M == M) = true := by simp
  have e3 : (D == D) = true := by simp
  have e4 : (ok == ok) = true := by simp
  have e5 : (a == a) = true := by simp
  have e6 : (a' == a') = true := by simp
  have e7 : (b == b) = true := by simp
  have e8 : (b' == b') = true := by simp
  have e9 : (q == q) = true := by simp
  have e10 : (q' == q') = true := by simp
  have e11 : (p == p) = true := by simp
  have e12 : (z == z) = true := by simp
  have e13 : (S.toList == S.toList) = true := by simp
  go_enter Tryd.func4, Tryd.ntmps4
  go_wp2_with fail
  refine (P1 _).mono ?_
  rintro e w' ⟨rfl, hw⟩
  obtain rfl := hw.symm
  clear hw
  go_wp2_with fail
  refine (P2 _).mono ?_
  rintro e w' ⟨rfl, hw⟩
  obtain rfl := hw.symm
  clear hw
  go_wp2_with fail
  refine (A1 _).mono ?_
  rintro e w' ⟨rfl, hw⟩
  obtain rfl := hw.symm
  clear hw
  go_wp2_with fail
  refine (A2 _).mono ?_
  rintro e w' ⟨rfl, hw⟩
  obtain rfl := hw.symm
  clear hw
  go_wp2_with fail
  refine (B1 _).mono ?_
  rintro e w' ⟨rfl, hw⟩
  obtain rfl := hw.symm
  clear hw
  go_wp2_with fail
  refine (B2 _).mono ?_
  rintro e w' ⟨rfl, hw⟩
  obtain rfl := hw.symm
  clear hw
  go_wp2_with fail
  refine (S1 _).mono ?_
  rintro e v1 ⟨rfl, hb⟩
  have HB1 : Hid (Below w.heap.size w v1) := hb
  have HT1 : Hid (PTab v1) := HT.out.below hb
  clear hb
  go_wp2_with fail
  refine (S2 _).mono ?_
  rintro e v2 ⟨rfl, hb⟩
  have HB2 : Hid (Below w.heap.size w v2) := HB1.out.trans (hb.mono HB1.out.size)
  have HT2 : Hid (PTab v2) := HT1.out.below hb
  clear hb
  go_wp2_with fail
  refine (W1 _).mono ?_
  rintro e w' ⟨rfl, hw⟩
  obtain rfl := hw.symm
  clear hw
  go_wp2_with fail
  refine (W2 _).mono ?_
  rintro e w' ⟨rfl, hw⟩
  obtain rfl := hw.symm
  clear hw
  go_wp2_with fail
  refine (K1 _).mono ?_
  rintro e w' ⟨rfl, hw⟩
  obtain rfl := hw.symm
  clear hw
  go_wp2_with fail
  refine (K2 _).mono ?_
  rintro e w' ⟨rfl, hw⟩
  obtain rfl := hw.symm
  clear hw
  go_wp2_with fail
  refine (R1 _ HT2.out).mono ?_
  rintro e v3 ⟨rfl, hb⟩
  have HB3 : Hid (Below w.heap.size w v3) := HB2.out.trans (hb.mono HB2.out.size)
  have HT3 : Hid (PTab v3) := HT2.out.below hb
  clear hb
  go_wp2_with fail
  refine (R2 _).mono ?_
  rintro e v4 ⟨rfl, hb⟩
  have HB4 : Hid (Below w.heap.size w v4) := HB3.out.trans (hb.mono HB3.out.size)
  have HT4 : Hid (PTab v4) := HT3.out.below hb
  clear hb
  go_wp2_with fail
  refine (LV _ HT4.out).mono ?_
  rintro e v5 ⟨rfl, hb⟩
  have HB5 : Hid (Below w.heap.size w v5) := HB4.out.trans (hb.mono HB4.out.size)
  have HT5 : Hid (PTab v5) := HT4.out.below hb
  clear hb
  go_wp2
  go_ret
  exact ⟨rfl, HB5.out⟩
theorem up_below {f : Nat} {args : Array Value} {u : World} {v : Value} (h : Calls Tryd.prog f args u fun e w' => e = .returned v ∧ w' = u) : Calls Tryd.prog f args u fun e w' => e = .returned v ∧ Below u.heap.size u w' :=
  h.mono fun e w' ⟨h1, h2⟩ => ⟨h1, by rw [h2]; exact Below.refl _ _⟩
theorem tells_walk (day k : Int) (s : ByteArray) (hs : s.size ≤ 9223372036854775807) (w : World) (T : PTab w) : Calls Tryd.prog 4 #[.int .i64 day, .int .i64 k, .string s] w fun e w' => e = .returned (.bool true) ∧ Below w.heap.size w w' := by
  cases hg : goodD day
  · exact tells_core (Y := 0) (M := 0) (D := 0) (ok := false) (a := 0) (a' := false) (b := 0) (b' := false) (q := (parseF s.data.toList).1) (q' := (parseF s.data.toList).2) (S := ⟨#[]⟩) T (fun u => parts_no hg u) (fun u => rparts_no hg u) (fun u => months_bad hg k false u) (fun u => rmonths_bad hg k false u) (fun u => months_bad hg k true u) (fun u => rmonths_bad hg k true u)
      (fun u => parse_any s hs u) (fun u => rparse_any s hs u) (fun u => weekday_any day u) (fun u => rweekday_any day u) (fun u => week_no hg u) (fun u => rweek_no hg u) (fun u _ => up_below (print_no hg u)) (fun u => up_below (rprint_no hg u))
  · have hd := (goodD_iff day).1 hg
    obtain ⟨Y0, M0, D0, i⟩ := Cal.date_some day hd.1 hd.2
    obtain ⟨y, m, d, rfl, rfl, rfl, _⟩ := date_nat i
    have t := Cal.thu_bd day hd.1 hd.2
    obtain ⟨Z, K, E, j⟩ := Cal.date_some _ t.1 t.2
    cases hk : nearD k
    · exact tells_core (a := 0) (a' := false) (b := 0) (b' := false) (q := (parseF s.data.toList).1) (q' := (parseF s.data.toList).2) T (fun u => parts_yes i u) (fun u => rparts_yes i u) (fun u => months_far i hk false u) (fun u => rmonths_far i hk false u) (fun u => months_far i hk true u) (fun u => rmonths_far i hk true u)
        (fun u => parse_any s hs u) (fun u => rparse_any s hs u) (fun u => weekday_any day u) (fun u => rweekday_any day u) (fun u => week_yes hg j u) (fun u => rweek_yes hg j u) (fun u hu => print_yes i u hu) (fun u => rprint_yes i u)
    · exact tells_core (a := (monthsF y m d k false).1) (a' := (monthsF y m d k false).2) (b := (monthsF y m d k true).1) (b' := (monthsF y m d k true).2) (q := (parseF s.data.toList).1) (q' := (parseF s.data.toList).2) T (fun u => parts_yes i u) (fun u => rparts_yes i u) (fun u => months_yes i hk false u) (fun u => rmonths_yes i hk false u) (fun u => months_yes i hk true u) (fun u => rmonths_yes i hk true u)
        (fun u => parse_any s hs u) (fun u => rparse_any s hs u) (fun u => weekday_any day u) (fun u => rweekday_any day u) (fun u => week_yes hg j u) (fun u => rweek_yes hg j u) (fun u hu => print_yes i u hu) (fun u => rprint_yes i u)
end Go.Proofs.YtnjkckkcepkaoaaDoor
