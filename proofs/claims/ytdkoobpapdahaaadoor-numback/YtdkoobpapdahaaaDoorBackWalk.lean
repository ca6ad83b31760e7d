/- The walk of the law NumBack. -/
import Derived.Test.YtdkoobpapdahaaaDoorNLives
import Derived.Test.YtdkoobpapdahaaaDoorNSqrt
namespace Go.Proofs.YtdkoobpapdahaaaDoor
open Go.RowKit
set_option linter.unusedVariables false
set_option maxRecDepth 100000

theorem mul_form (a b : Int) (hg : (gd a && gd b) = true) : mulF a b = ans (sgnI ((absI a * absI b + 5000) / 10000) (unl a b)) := by
  have ha : gd a = true := (Bool.and_eq_true _ _ ▸ hg).1
  have hb : gd b = true := (Bool.and_eq_true _ _ ▸ hg).2
  have bx := abs_bounds a ha
  have b_y := abs_bounds b hb
  have mb := mul_bounds (absI a) (absI b) bx.1 bx.2 b_y.1 b_y.2
  unfold mulF
  rw [if_pos hg, near_half _ mb.2.2.1]
  have e : absI a * absI b = 10000 * (absI a / 10000 * absI b) + absI a % 10000 * absI b := by
    rw [← Int.mul_assoc, ← Int.add_mul]
    congr 1
    omega
  rw [e]
  generalize absI a / 10000 * absI b = h
  generalize absI a % 10000 * absI b = l
  congr 2
  omega
theorem mul_comm' (a b : Int) (hg : (gd a && gd b) = true) : mulF b a = mulF a b := by
  rw [mul_form a b hg, mul_form b a (by rw [Bool.and_comm]; exact hg), Int.mul_comm (absI b)]
  congr 2
  unfold unl
  cases decide (a < 0) <;> cases decide (b < 0) <;> rfl
theorem sub_add (a b : Int) (hg : (gd a && gd b) = true) (h : (addF a b).2 = true) : subF (addF a b).1 b = (a, true) := by
  have hab := (gd2_iff a b).1 hg
  unfold addF at *
  rw [if_pos hg] at *
  have hs := ans_good _ h
  rw [hs.1]
  unfold subF
  rw [if_pos (by rw [hs.2]; exact (Bool.and_eq_true _ _ ▸ hg).2), show a + b - b = a by omega]
  exact ans_of a hab.1
theorem mod_facts (a b : Int) (hg : (gd a && gd b) = true) (hb : b ≠ 0) : ∃ m : Int, modF a b = (m, true) ∧ (0 < b → 0 ≤ m ∧ m < b) ∧ (b < 0 → m ≤ 0 ∧ b < m) := by
  have tb := tmod_between a b hb
  have ek : absI b = b ∧ 0 ≤ b ∨ absI b = -b ∧ b < 0 := by unfold absI; split <;> omega
  unfold modF
  rw [if_pos ⟨hg, hb⟩]
  split
  · rename_i h
    have := (unl_iff _ _).1 h.2
    exact ⟨_, rfl, by omega, by omega⟩
  · rename_i h
    have : a.tmod b = 0 ∨ ¬ ((a.tmod b < 0 ∧ 0 ≤ b) ∨ (0 ≤ a.tmod b ∧ b < 0)) := by
      by_cases h0 : a.tmod b = 0
      · exact .inl h0
      · right; intro h2; exact h ⟨h0, (unl_iff _ _).2 h2⟩
    exact ⟨_, rfl, by omega, by omega⟩
theorem sqrt_facts (a : Int) (hg : gd a = true) (h0 : 0 ≤ a) : ∃ r : Int, sqrtF a = (r, true) ∧ (0 ≤ r ∧ r ≤ 100000000) ∧ (0 ≤ r * r ∧ r * r ≤ a * 10000) ∧ (a * 10000 < (r + 1) * (r + 1) ∧ (r + 1) * (r + 1) ≤ 10000000000000001) := by
  have ha := (gd_iff a).1 hg
  have sp := sqrt_spec (a * 10000) 25 0 (by omega) (by omega) (by
    rw [show ((0 : Int) + 2 ^ 25) * (0 + 2 ^ 25) = 1125899906842624 by decide]; omega)
  unfold sqrtF
  rw [if_pos ⟨hg, h0⟩]
  generalize sqrtL (a * 10000) 25 0 = r at *
  obtain ⟨p0, p1, p2⟩ := sp
  have hr : r ≤ 40000000 := by
    by_cases h : r ≤ 40000000
    · exact h
    · have : 40000000 * 40000000 ≤ r * r := Int.mul_le_mul (by omega) (by omega) (by omega) (by omega)
      omega
  have hs : (r + 1) * (r + 1) ≤ 40000001 * 40000001 := Int.mul_le_mul (by omega) (by omega) (by omega) (by omega)
  exact ⟨r, rfl, by omega, ⟨Int.mul_nonneg p0 p0, p1⟩, p2, by omega⟩

set_option maxHeartbeats 2000000 in
theorem back_out (a b : Int) (w : World) (T : PTab w) (hg : (gd a && gd b) = false) :
    Calls Tryd.prog 4 #[.int .i64 a, .int .i64 b] w fun e w' => e = .returned (.bool true) ∧ Below w.heap.size w w' := by
  have HT : Hid (PTab w) := T
  clear T
  have G := fun x u => good_any x u
  have RG := fun x u => rgood_any x u
  cases ha : gd a
  · cases hb : gd b
    all_goals
      go_enter Tryd.func4, Tryd.ntmps4
      go_wp2_with (first
        | (go_at_call 13; refine (good_any _ _).mono ?_; rintro e w' ⟨rfl, hw⟩; obtain rfl := hw.symm; clear hw; first | rw [ha] | rw [hb])
        | (go_at_call 14; refine (rgood_any _ _).mono ?_; rintro e w' ⟨rfl, hw⟩; obtain rfl := hw.symm; clear hw; first | rw [ha] | rw [hb])
        | (go_at_call 15; refine (lives_any _ HT.out).mono ?_; rintro e w9 ⟨rfl, hb9⟩; have HB9 : Hid _ := hb9; clear hb9))
      go_ret
      exact ⟨rfl, HB9.out⟩
  · have hb : gd b = false := by rw [ha] at hg; simpa using hg
    go_enter Tryd.func4, Tryd.ntmps4
    go_wp2_with (first
      | (go_at_call 13; refine (good_any _ _).mono ?_; rintro e w' ⟨rfl, hw⟩; obtain rfl := hw.symm; clear hw; first | rw [ha] | rw [hb])
      | (go_at_call 14; refine (rgood_any _ _).mono ?_; rintro e w' ⟨rfl, hw⟩; obtain rfl := hw.symm; clear hw; first | rw [ha] | rw [hb])
      | (go_at_call 15; refine (lives_any _ HT.out).mono ?_; rintro e w9 ⟨rfl, hb9⟩; have HB9 : Hid _ := hb9; clear hb9))
    go_ret
    exact ⟨rfl, HB9.out⟩
theorem print_len (a : Int) (h : -100000000000 ≤ a ∧ a ≤ 100000000000) : (printF a).length ≤ 100 := by
  have l1 := (dec_len 8 (a.natAbs / 10000) (by decide) (by omega)).2
  have l2 := tail_len (a.natAbs % 10000) (by omega)
  unfold printF
  split <;> split <;> simp <;> omega

set_option maxHeartbeats 4000000 in
theorem back_core {a b s x : Int} {ok xo : Bool} {S1 : ByteArray} {w : World} (ha : gd a = true) (hb : gd b = true) (bA : -100000000000 ≤ a ∧ a ≤ 100000000000) (bB : -100000000000 ≤ b ∧ b ≤ 100000000000) (HT : Hid (PTab w))
    (PR : ∀ u : World, PTab u → Calls Tryd.prog 11 #[.int .i64 a] u fun e w' => e = .returned (.string S1) ∧ Below u.heap.size u w')
    (PA : ∀ u : World, Calls Tryd.prog 9 #[.string S1] u fun e w' => e = .returned (.tuple #[.int .i64 a, .bool true]) ∧ Below u.heap.size u w')
    (AD : ∀ u : World, Calls Tryd.prog 16 #[.int .i64 a, .int .i64 b] u fun e w' => e = .returned (.tuple #[.int .i64 s, .bool ok]) ∧ w' = u)
    (SU : ok = true → ∀ u : World, Calls Tryd.prog 17 #[.int .i64 s, .int .i64 b] u fun e w' => e = .returned (.tuple #[.int .i64 a, .bool true]) ∧ w' = u)
    (M1 : ∀ u : World, Calls Tryd.prog 18 #[.int .i64 a, .int .i64 b] u fun e w' => e = .returned (.tuple #[.int .i64 x, .bool xo]) ∧ w' = u)
    (M2 : ∀ u : World, Calls Tryd.prog 18 #[.int .i64 b, .int .i64 a] u fun e w' => e = .returned (.tuple #[.int .i64 x, .bool xo]) ∧ w' = u)
    (m r : Int) (hm : (b = 0 ∧ ∀ u : World, Calls Tryd.prog 19 #[.int .i64 a, .int .i64 b] u fun e w' => e = .returned (.tuple #[.int .i64 0, .bool false]) ∧ w' = u) ∨
      (b ≠ 0 ∧ (0 < b → 0 ≤ m ∧ m < b) ∧ (b < 0 → m ≤ 0 ∧ b < m) ∧ ∀ u : World, Calls Tryd.prog 19 #[.int .i64 a, .int .i64 b] u fun e w' => e = .returned (.tuple #[.int .i64 m, .bool true]) ∧ w' = u))
    (hr : (a < 0 ∧ ∀ u : World, Calls Tryd.prog 20 #[.int .i64 a] u fun e w' => e = .returned (.tuple #[.int .i64 0, .bool false]) ∧ w' = u) ∨
      (¬ a < 0 ∧ (0 ≤ r ∧ r ≤ 100000000) ∧ (0 ≤ r * r ∧ r * r ≤ a * 10000) ∧ (a * 10000 < (r + 1) * (r + 1) ∧ (r + 1) * (r + 1) ≤ 10000000000000001) ∧ ∀ u : World, Calls Tryd.prog 20 #[.int .i64 a] u fun e w' => e = .returned (.tuple #[.int .i64 r, .bool true]) ∧ w' = u)) :
    Calls Tryd.prog 4 #[.int .i64 a, .int .i64 b] w fun e w' => e = .returned (.bool true) ∧ Below w.heap.size w w' := by
  have GA := fun u => good_any a u
  have GB := fun u => good_any b u
  rw [ha] at GA
  rw [hb] at GB
  cases ok
  · clear SU
    rcases hm with ⟨hb0, MO⟩ | ⟨hb0, hm1, hm2, MO⟩
    · have hb1 : ¬ 0 < b := by omega
      have hb2 : ¬ b < 0 := by omega
      clear hb0
      rcases hr with ⟨ha0, SQ⟩ | ⟨ha0, r1, r2, r3, SQ⟩
      all_goals
        go_enter Tryd.func4, Tryd.ntmps4
        go_wp2_with fail
        refine (GA _).mono ?_
        rintro e w' ⟨rfl, hw⟩
        obtain rfl := hw.symm
        clear hw
        go_wp2_with fail
        refine (GB _).mono ?_
        rintro e w' ⟨rfl, hw⟩
        obtain rfl := hw.symm
        clear hw
        go_wp2_with fail
        refine (PR _ HT.out).mono ?_
        rintro e w1 ⟨rfl, hb1⟩
        have HB1 : Hid (Below w.heap.size w w1) := hb1
        have HT1 : Hid (PTab w1) := HT.out.below hb1
        clear hb1
        go_wp2_with fail
        refine (PA _).mono ?_
        rintro e w2 ⟨rfl, hb2⟩
        have HB2 : Hid (Below w.heap.size w w2) := HB1.out.trans (hb2.mono HB1.out.size)
        have HT2 : Hid (PTab w2) := HT1.out.below hb2
        clear hb2
        go_wp2_with fail
        refine (AD _).mono ?_
        rintro e w' ⟨rfl, hw⟩
        obtain rfl := hw.symm
        clear hw
        go_wp2_with fail
        refine (M1 _).mono ?_
        rintro e w' ⟨rfl, hw⟩
        obtain rfl := hw.symm
        clear hw
        go_wp2_with fail
        refine (M2 _).mono ?_
        rintro e w' ⟨rfl, hw⟩
        obtain rfl := hw.symm
        clear hw
        go_wp2_with fail
        refine (MO _).mono ?_
        rintro e w' ⟨rfl, hw⟩
        obtain rfl := hw.symm
        clear hw
        go_wp2_with fail
        refine (SQ _).mono ?_
        rintro e w' ⟨rfl, hw⟩
        obtain rfl := hw.symm
        clear hw
        go_wp2_with fail
        refine (lives_any _ HT2.out).mono ?_
        rintro e w9 ⟨rfl, hb9⟩
        have HB9 : Hid _ := hb9
        clear hb9
        go_wp2
        go_ret
        exact ⟨rfl, HB2.out.trans (HB9.out.mono HB2.out.size)⟩
    · by_cases hbp : 0 < b
      · have hm3 := hm1 hbp
        clear hm1 hm2
        rcases hr with ⟨ha0, SQ⟩ | ⟨ha0, r1, r2, r3, SQ⟩
        all_goals
          go_enter Tryd.func4, Tryd.ntmps4
          go_wp2_with fail
          refine (GA _).mono ?_
          rintro e w' ⟨rfl, hw⟩
          obtain rfl := hw.symm
          clear hw
          go_wp2_with fail
          refine (GB _).mono ?_
          rintro e w' ⟨rfl, hw⟩
          obtain rfl := hw.symm
          clear hw
          go_wp2_with fail
          refine (PR _ HT.out).mono ?_
          rintro e w1 ⟨rfl, hb1⟩
          have HB1 : Hid (Below w.heap.size w w1) := hb1
          have HT1 : Hid (PTab w1) := HT.out.below hb1
          clear hb1
          go_wp2_with fail
          refine (PA _).mono ?_
          rintro e w2 ⟨rfl, hb2⟩
          have HB2 : Hid (Below w.heap.size w w2) := HB1.out.trans (hb2.mono HB1.out.size)
          have HT2 : Hid (PTab w2) := HT1.out.below hb2
          clear hb2
          go_wp2_with fail
          refine (AD _).mono ?_
          rintro e w' ⟨rfl, hw⟩
          obtain rfl := hw.symm
          clear hw
          go_wp2_with fail
          refine (M1 _).mono ?_
          rintro e w' ⟨rfl, hw⟩
          obtain rfl := hw.symm
          clear hw
          go_wp2_with fail
          refine (M2 _).mono ?_
          rintro e w' ⟨rfl, hw⟩
          obtain rfl := hw.symm
          clear hw
          go_wp2_with fail
          refine (MO _).mono ?_
          rintro e w' ⟨rfl, hw⟩
          obtain rfl := hw.symm
          clear hw
          go_wp2_with fail
          refine (SQ _).mono ?_
          rintro e w' ⟨rfl, hw⟩
          obtain rfl := hw.symm
          clear hw
          go_wp2_with fail
          refine (lives_any _ HT2.out).mono ?_
          rintro e w9 ⟨rfl, hb9⟩
          have HB9 : Hid _ := hb9
          clear hb9
          go_wp2
          go_ret
          exact ⟨rfl, HB2.out.trans (HB9.out.mono HB2.out.size)⟩
      · have hbn : b < 0 := by omega
        have hm3 := hm2 hbn
        clear hm1 hm2
        rcases hr with ⟨ha0, SQ⟩ | ⟨ha0, r1, r2, r3, SQ⟩
        all_goals
          go_enter Tryd.func4, Tryd.ntmps4
          go_wp2_with fail
          refine (GA _).mono ?_
          rintro e w' ⟨rfl, hw⟩
          obtain rfl := hw.symm
          clear hw
          go_wp2_with fail
          refine (GB _).mono ?_
          rintro e w' ⟨rfl, hw⟩
          obtain rfl := hw.symm
          clear hw
          go_wp2_with fail
          refine (PR _ HT.out).mono ?_
          rintro e w1 ⟨rfl, hb1⟩
          have HB1 : Hid (Below w.heap.size w w1) := hb1
          have HT1 : Hid (PTab w1) := HT.out.below hb1
          clear hb1
          go_wp2_with fail
          refine (PA _).mono ?_
          rintro e w2 ⟨rfl, hb2⟩
          have HB2 : Hid (Below w.heap.size w w2) := HB1.out.trans (hb2.mono HB1.out.size)
          have HT2 : Hid (PTab w2) := HT1.out.below hb2
          clear hb2
          go_wp2_with fail
          refine (AD _).mono ?_
          rintro e w' ⟨rfl, hw⟩
          obtain rfl := hw.symm
          clear hw
          go_wp2_with fail
          refine (M1 _).mono ?_
          rintro e w' ⟨rfl, hw⟩
          obtain rfl := hw.symm
          clear hw
          go_wp2_with fail
          refine (M2 _).mono ?_
          rintro e w' ⟨rfl, hw⟩
          obtain rfl := hw.symm
          clear hw
          go_wp2_with fail
          refine (MO _).mono ?_
          rintro e w' ⟨rfl, hw⟩
          obtain rfl := hw.symm
          clear hw
          go_wp2_with fail
          refine (SQ _).mono ?_
          rintro e w' ⟨rfl, hw⟩
          obtain rfl := hw.symm
          clear hw
          go_wp2_with fail
          refine (lives_any _ HT2.out).mono ?_
          rintro e w9 ⟨rfl, hb9⟩
          have HB9 : Hid _ := hb9
          clear hb9
          go_wp2
          go_ret
          exact ⟨rfl, HB2.out.trans (HB9.out.mono HB2.out.size)⟩
  · have SV := SU rfl
    clear SU
    rcases hm with ⟨hb0, MO⟩ | ⟨hb0, hm1, hm2, MO⟩
    · have hb1 : ¬ 0 < b := by omega
      have hb2 : ¬ b < 0 := by omega
      clear hb0
      rcases hr with ⟨ha0, SQ⟩ | ⟨ha0, r1, r2, r3, SQ⟩
      all_goals
        go_enter Tryd.func4, Tryd.ntmps4
        go_wp2_with fail
        refine (GA _).mono ?_
        rintro e w' ⟨rfl, hw⟩
        obtain rfl := hw.symm
        clear hw
        go_wp2_with fail
        refine (GB _).mono ?_
        rintro e w' ⟨rfl, hw⟩
        obtain rfl := hw.symm
        clear hw
        go_wp2_with fail
        refine (PR _ HT.out).mono ?_
        rintro e w1 ⟨rfl, hb1⟩
        have HB1 : Hid (Below w.heap.size w w1) := hb1
        have HT1 : Hid (PTab w1) := HT.out.below hb1
        clear hb1
        go_wp2_with fail
        refine (PA _).mono ?_
        rintro e w2 ⟨rfl, hb2⟩
        have HB2 : Hid (Below w.heap.size w w2) := HB1.out.trans (hb2.mono HB1.out.size)
        have HT2 : Hid (PTab w2) := HT1.out.below hb2
        clear hb2
        go_wp2_with fail
        refine (AD _).mono ?_
        rintro e w' ⟨rfl, hw⟩
        obtain rfl := hw.symm
        clear hw
        go_wp2_with fail
        refine (SV _).mono ?_
        rintro e w' ⟨rfl, hw⟩
        obtain rfl := hw.symm
        clear hw
        go_wp2_with fail
        refine (M1 _).mono ?_
        rintro e w' ⟨rfl, hw⟩
        obtain rfl := hw.symm
        clear hw
        go_wp2_with fail
        refine (M2 _).mono ?_
        rintro e w' ⟨rfl, hw⟩
        obtain rfl := hw.symm
        clear hw
        go_wp2_with fail
        refine (MO _).mono ?_
        rintro e w' ⟨rfl, hw⟩
        obtain rfl := hw.symm
        clear hw
        go_wp2_with fail
        refine (SQ _).mono ?_
        rintro e w' ⟨rfl, hw⟩
        obtain rfl := hw.symm
        clear hw
        go_wp2_with fail
        refine (lives_any _ HT2.out).mono ?_
        rintro e w9 ⟨rfl, hb9⟩
        have HB9 : Hid _ := hb9
        clear hb9
        go_wp2
        go_ret
        exact ⟨rfl, HB2.out.trans (HB9.out.mono HB2.out.size)⟩
    · by_cases hbp : 0 < b
      · have hm3 := hm1 hbp
        clear hm1 hm2
        rcases hr with ⟨ha0, SQ⟩ | ⟨ha0, r1, r2, r3, SQ⟩
        all_goals
          go_enter Tryd.func4, Tryd.ntmps4
          go_wp2_with fail
          refine (GA _).mono ?_
          rintro e w' ⟨rfl, hw⟩
          obtain rfl := hw.symm
          clear hw
          go_wp2_with fail
          refine (GB _).mono ?_
          rintro e w' ⟨rfl, hw⟩
          obtain rfl := hw.symm
          clear hw
          go_wp2_with fail
          refine (PR _ HT.out).mono ?_
          rintro e w1 ⟨rfl, hb1⟩
          have HB1 : Hid (Below w.heap.size w w1) := hb1
          have HT1 : Hid (PTab w1) := HT.out.below hb1
          clear hb1
          go_wp2_with fail
          refine (PA _).mono ?_
          rintro e w2 ⟨rfl, hb2⟩
          have HB2 : Hid (Below w.heap.size w w2) := HB1.out.trans (hb2.mono HB1.out.size)
          have HT2 : Hid (PTab w2) := HT1.out.below hb2
          clear hb2
          go_wp2_with fail
          refine (AD _).mono ?_
          rintro e w' ⟨rfl, hw⟩
          obtain rfl := hw.symm
          clear hw
          go_wp2_with fail
          refine (SV _).mono ?_
          rintro e w' ⟨rfl, hw⟩
          obtain rfl := hw.symm
          clear hw
          go_wp2_with fail
          refine (M1 _).mono ?_
          rintro e w' ⟨rfl, hw⟩
          obtain rfl := hw.symm
          clear hw
          go_wp2_with fail
          refine (M2 _).mono ?_
          rintro e w' ⟨rfl, hw⟩
          obtain rfl := hw.symm
          clear hw
          go_wp2_with fail
          refine (MO _).mono ?_
          rintro e w' ⟨rfl, hw⟩
          obtain rfl := hw.symm
          clear hw
          go_wp2_with fail
          refine (SQ _).mono ?_
          rintro e w' ⟨rfl, hw⟩
          obtain rfl := hw.symm
          clear hw
          go_wp2_with fail
          refine (lives_any _ HT2.out).mono ?_
          rintro e w9 ⟨rfl, hb9⟩
          have HB9 : Hid _ := hb9
          clear hb9
          go_wp2
          go_ret
          exact ⟨rfl, HB2.out.trans (HB9.out.mono HB2.out.size)⟩
      · have hbn : b < 0 := by omega
        have hm3 := hm2 hbn
        clear hm1 hm2
        rcases hr with ⟨ha0, SQ⟩ | ⟨ha0, r1, r2, r3, SQ⟩
        all_goals
          go_enter Tryd.func4, Tryd.ntmps4
          go_wp2_with fail
          refine (GA _).mono ?_
          rintro e w' ⟨rfl, hw⟩
          obtain rfl := hw.symm
          clear hw
          go_wp2_with fail
          refine (GB _).mono ?_
          rintro e w' ⟨rfl, hw⟩
          obtain rfl := hw.symm
          clear hw
          go_wp2_with fail
          refine (PR _ HT.out).mono ?_
          rintro e w1 ⟨rfl, hb1⟩
          have HB1 : Hid (Below w.heap.size w w1) := hb1
          have HT1 : Hid (PTab w1) := HT.out.below hb1
          clear hb1
          go_wp2_with fail
          refine (PA _).mono ?_
          rintro e w2 ⟨rfl, hb2⟩
          have HB2 : Hid (Below w.heap.size w w2) := HB1.out.trans (hb2.mono HB1.out.size)
          have HT2 : Hid (PTab w2) := HT1.out.below hb2
          clear hb2
          go_wp2_with fail
          refine (AD _).mono ?_
          rintro e w' ⟨rfl, hw⟩
          obtain rfl := hw.symm
          clear hw
          go_wp2_with fail
          refine (SV _).mono ?_
          rintro e w' ⟨rfl, hw⟩
          obtain rfl := hw.symm
          clear hw
          go_wp2_with fail
          refine (M1 _).mono ?_
          rintro e w' ⟨rfl, hw⟩
          obtain rfl := hw.symm
          clear hw
          go_wp2_with fail
          refine (M2 _).mono ?_
          rintro e w' ⟨rfl, hw⟩
          obtain rfl := hw.symm
          clear hw
          go_wp2_with fail
          refine (MO _).mono ?_
          rintro e w' ⟨rfl, hw⟩
          obtain rfl := hw.symm
          clear hw
          go_wp2_with fail
          refine (SQ _).mono ?_
          rintro e w' ⟨rfl, hw⟩
          obtain rfl := hw.symm
          clear hw
          go_wp2_with fail
          refine (lives_any _ HT2.out).mono ?_
          rintro e w9 ⟨rfl, hb9⟩
          have HB9 : Hid _ := hb9
          clear hb9
          go_wp2
          go_ret
          exact ⟨rfl, HB2.out.trans (HB9.out.mono HB2.out.size)⟩

theorem back_walk (a b : Int) (w : World) (T : PTab w) :
    Calls Tryd.prog 4 #[.int .i64 a, .int .i64 b] w fun e w' => e = .returned (.bool true) ∧ Below w.heap.size w w' := by
  cases hg : (gd a && gd b)
  · exact back_out a b w T hg
  have ha : gd a = true := (Bool.and_eq_true _ _ ▸ hg).1
  have hb : gd b = true := (Bool.and_eq_true _ _ ▸ hg).2
  have hab := (gd2_iff a b).1 hg
  have PA := fun u => parse_any (printF a) u (by have := print_len a hab.1; omega)
  rw [parse_print a hab.1] at PA
  have M2 := fun u => mul_any b a u
  rw [mul_comm' a b hg] at M2
  have SQ := fun u => sqrt_any a u
  have MO := fun u => mod_any a b u
  obtain ⟨m, hm⟩ : ∃ m : Int, (b = 0 ∧ modF a b = (0, false)) ∨ (b ≠ 0 ∧ (0 < b → 0 ≤ m ∧ m < b) ∧ (b < 0 → m ≤ 0 ∧ b < m) ∧ modF a b = (m, true)) := by
    by_cases h0 : b = 0
    · exact ⟨0, .inl ⟨h0, by simp [modF, h0]⟩⟩
    · obtain ⟨m, h1, h2, h3⟩ := mod_facts a b hg h0
      exact ⟨m, .inr ⟨h0, h2, h3, h1⟩⟩
  obtain ⟨r, hr⟩ : ∃ r : Int, (a < 0 ∧ sqrtF a = (0, false)) ∨ (¬ a < 0 ∧ (0 ≤ r ∧ r ≤ 100000000) ∧ (0 ≤ r * r ∧ r * r ≤ a * 10000) ∧ (a * 10000 < (r + 1) * (r + 1) ∧ (r + 1) * (r + 1) ≤ 10000000000000001) ∧ sqrtF a = (r, true)) := by
    by_cases h0 : a < 0
    · exact ⟨0, .inl ⟨h0, by unfold sqrtF; rw [if_neg (by omega)]⟩⟩
    · obtain ⟨r, h1, h2, h3, h4⟩ := sqrt_facts a ha (by omega)
      exact ⟨r, .inr ⟨h0, h2, h3, h4, h1⟩⟩
  refine back_core ha hb hab.1 hab.2 T (fun u hu => print_any a (by omega) u hu) PA (fun u => add_any a b u) (fun h u => ?_) (fun u => mul_any a b u) M2 m r ?_ ?_
  · have := sub_any (addF a b).1 b u
    rw [sub_add a b hg h] at this
    exact this
  · rcases hm with ⟨h0, h1⟩ | ⟨h0, h1, h2, h3⟩
    · rw [h1] at MO; exact .inl ⟨h0, MO⟩
    · rw [h3] at MO; exact .inr ⟨h0, h1, h2, MO⟩
  · rcases hr with ⟨h0, h1⟩ | ⟨h0, h1, h2, h3, h4⟩
    · rw [h1] at SQ; exact .inl ⟨h0, SQ⟩
    · rw [h4] at SQ; exact .inr ⟨h0, h1, h2, h3, SQ⟩
end Go.Proofs.YtdkoobpapdahaaaDoor
