/- The walk of the law NumPowers. -/
import Derived.Test.YtdkoobpapdahaaaDoorNRPow
import Derived.Test.YtdkoobpapdahaaaDoorNLives
namespace Go.Proofs.YtdkoobpapdahaaaDoor
open Go.RowKit
set_option linter.unusedVariables false
set_option maxRecDepth 100000

theorem powL_no {a : Int} : ∀ {k : Nat}, (powL a k).2 = false → powL a k = (0, false)
  | 0, h => by cases h
  | k + 1, h => by
    unfold powL at *
    split
    · rename_i g
      rw [if_pos g] at h
      unfold mulF at *
      split
      · rename_i g2
        rw [if_pos g2] at h
        unfold ans at *
        split
        · rename_i g3; rw [if_pos g3] at h; cases h
        · rfl
      · rfl
    · rfl
theorem pow_nat (a : Int) (m : Nat) (hm : m ≤ 64) (hg : gd a = true) (h0 : ¬ (a = 0 ∧ m = 0)) : powF a ((m : Int) * 10000) = powL a m := by
  have hw : wholeF ((m : Int) * 10000) = ((m : Int), true) := by
    unfold wholeF
    rw [if_pos ⟨by rw [gd_iff]; omega, Int.mul_tmod_left _ _⟩, Int.mul_tdiv_cancel _ (by decide)]
  have ha : absI (m : Int) = m := by unfold absI; split <;> omega
  unfold powF
  rw [hw]
  simp only [ha, Int.toNat_natCast]
  rw [if_pos ⟨trivial, hg, by omega, by omega⟩]
  by_cases hp : (powL a m).2 = true
  · rw [if_pos hp, if_neg (by omega), ← hp]
  · rw [if_neg hp]
    exact (powL_no (by simpa using hp)).symm
theorem pow_bad (a b : Int) (hg : gd a = false) : powF a b = (0, false) := by
  unfold powF
  rw [if_neg (by simp [hg])]
theorem mul_one (a : Int) (hg : gd a = true) : mulF 10000 a = (a, true) := by
  have h := (gd_iff a).1 hg
  have e : absI 10000 = 10000 := by decide
  unfold mulF
  rw [if_pos (by rw [hg]; decide), e]
  rw [show (10000 : Int) / 10000 * absI a = absI a by omega, show (10000 : Int) % 10000 * absI a = 0 by omega, show nearI 0 10000 = 0 by decide, Int.add_zero]
  have : sgnI (absI a) (unl 10000 a) = a := by
    unfold sgnI absI unl
    by_cases hn : a < 0
    · simp [hn]
    · simp [hn]
  rw [this]
  exact ans_of a h

set_option maxHeartbeats 2000000 in
theorem powers_core (a k N : Int) (hk : 0 ≤ k ∧ k < 18446744073709551616) (hN : k % 20 = N) (bN : 0 ≤ N ∧ N < 20) (w : World) (T : PTab w) :
    Calls Tryd.prog 7 #[.int .i64 a, .int .u64 k] w fun e w' => e = .returned (.bool true) ∧ Below w.heap.size w w' := by
  have HT : Hid (PTab w) := T
  clear T
  obtain ⟨B2, hB2, bB2⟩ : ∃ B : Int, N * 10000 = B ∧ (0 ≤ B ∧ B ≤ 200000) := ⟨_, rfl, by omega⟩
  obtain ⟨B1, hB1⟩ : ∃ B : Int, B2 + 10000 = B := ⟨_, rfl⟩
  have P1 := fun u => pow_any a B1 u
  have P2 := fun u => pow_any a B2 u
  obtain ⟨n, hn⟩ : ∃ n : Nat, Hid (N = (n : Int)) := ⟨N.toNat, by show _ = _; omega⟩
  have e1 : Hid (B1 = ((n + 1 : Nat) : Int) * 10000) := by have := hn.out; show _ = _; omega
  cases hg : gd a
  · rw [pow_bad a _ hg] at P1 P2
    by_cases h0 : N = 0
    · subst h0
      go_enter Tryd.func7, Tryd.ntmps7
      go_wp2_with fail
      refine (P1 _).mono ?_
      rintro e w1 ⟨rfl, hb1⟩
      have HB1 : Hid _ := hb1
      have HT1 : Hid (PTab w1) := HT.out.below hb1
      clear hb1
      unfold two
      go_wp2_with fail
      refine (P2 _).mono ?_
      rintro e w2 ⟨rfl, hb2⟩
      have HB2 : Hid (Below w.heap.size w w2) := HB1.out.trans (hb2.mono HB1.out.size)
      have HT2 : Hid (PTab w2) := HT1.out.below hb2
      clear hb2
      try unfold two
      go_wp2_with (first
        | (go_at_call 15; refine (lives_any _ HT2.out).mono ?_; rintro e w3 ⟨rfl, hb3⟩; have HB3 : Hid _ := hb3; clear hb3)
        | (go_at_call 13; refine (good_any _ _).mono ?_; rintro e w' ⟨rfl, hw⟩; obtain rfl := hw.symm; clear hw; rw [hg]))
      go_ret
      exact ⟨by first | rfl | simp, HB2.out.trans (HB3.out.mono HB2.out.size)⟩
    · have h0' : (N == 0) = false := by simpa using h0
      go_enter Tryd.func7, Tryd.ntmps7
      go_wp2_with fail
      refine (P1 _).mono ?_
      rintro e w1 ⟨rfl, hb1⟩
      have HB1 : Hid _ := hb1
      have HT1 : Hid (PTab w1) := HT.out.below hb1
      clear hb1
      unfold two
      go_wp2_with fail
      refine (P2 _).mono ?_
      rintro e w2 ⟨rfl, hb2⟩
      have HB2 : Hid (Below w.heap.size w w2) := HB1.out.trans (hb2.mono HB1.out.size)
      have HT2 : Hid (PTab w2) := HT1.out.below hb2
      clear hb2
      try unfold two
      go_wp2_with (first
        | (go_at_call 15; refine (lives_any _ HT2.out).mono ?_; rintro e w3 ⟨rfl, hb3⟩; have HB3 : Hid _ := hb3; clear hb3)
        | (go_at_call 13; refine (good_any _ _).mono ?_; rintro e w' ⟨rfl, hw⟩; obtain rfl := hw.symm; clear hw; rw [hg]))
      go_ret
      exact ⟨by first | rfl | simp, HB2.out.trans (HB3.out.mono HB2.out.size)⟩
  · by_cases h0 : N = 0
    · have hP : powF a B1 = (a, true) := by
        rw [e1.out, show n = 0 by have := hn.out; omega, pow_nat a 1 (by decide) hg (by omega), powL_succ rfl, mul_one a hg]
      rw [hP] at P1
      clear hP e1 hn
      subst h0
      generalize powF a B2 = Q at *
      go_enter Tryd.func7, Tryd.ntmps7
      go_wp2_with fail
      refine (P1 _).mono ?_
      rintro e w1 ⟨rfl, hb1⟩
      have HB1 : Hid _ := hb1
      have HT1 : Hid (PTab w1) := HT.out.below hb1
      clear hb1
      unfold two
      go_wp2_with fail
      refine (P2 _).mono ?_
      rintro e w2 ⟨rfl, hb2⟩
      have HB2 : Hid (Below w.heap.size w w2) := HB1.out.trans (hb2.mono HB1.out.size)
      have HT2 : Hid (PTab w2) := HT1.out.below hb2
      clear hb2
      try unfold two
      go_wp2_with (first
        | (go_at_call 15; refine (lives_any _ HT2.out).mono ?_; rintro e w3 ⟨rfl, hb3⟩; have HB3 : Hid _ := hb3; clear hb3)
        | (go_at_call 13; refine (good_any _ _).mono ?_; rintro e w' ⟨rfl, hw⟩; obtain rfl := hw.symm; clear hw; rw [hg]))
      go_ret
      exact ⟨by first | rfl | simp, HB2.out.trans (HB3.out.mono HB2.out.size)⟩
    · have h0' : (N == 0) = false := by simpa using h0
      have hQ := pow_nat a n (by have := hn.out; omega) hg (by have := hn.out; omega)
      have hP := pow_nat a (n + 1) (by have := hn.out; omega) hg (by omega)
      rw [← e1.out] at hP
      rw [← hn.out, hB2] at hQ
      rw [hQ] at P2
      rw [hP] at P1
      clear hP hQ e1 hn
      cases hq : (powL a n).2
      · have e2 : powL a (n + 1) = (0, false) := by
          have := powL_stop hq 1
          exact powL_no this
        rw [e2] at P1
        rw [powL_no hq] at P2
        clear e2 hq
        go_enter Tryd.func7, Tryd.ntmps7
        go_wp2_with fail
        refine (P1 _).mono ?_
        rintro e w1 ⟨rfl, hb1⟩
        have HB1 : Hid _ := hb1
        have HT1 : Hid (PTab w1) := HT.out.below hb1
        clear hb1
        unfold two
        go_wp2_with fail
        refine (P2 _).mono ?_
        rintro e w2 ⟨rfl, hb2⟩
        have HB2 : Hid (Below w.heap.size w w2) := HB1.out.trans (hb2.mono HB1.out.size)
        have HT2 : Hid (PTab w2) := HT1.out.below hb2
        clear hb2
        try unfold two
        go_wp2_with (first
          | (go_at_call 15; refine (lives_any _ HT2.out).mono ?_; rintro e w3 ⟨rfl, hb3⟩; have HB3 : Hid _ := hb3; clear hb3)
          | (go_at_call 13; refine (good_any _ _).mono ?_; rintro e w' ⟨rfl, hw⟩; obtain rfl := hw.symm; clear hw; rw [hg]))
        go_ret
        exact ⟨by first | rfl | simp, HB2.out.trans (HB3.out.mono HB2.out.size)⟩
      · have e2 : powL a (n + 1) = mulF (powL a n).1 a := powL_succ (by rw [← hq])
        rw [e2] at P1
        unfold two at P2
        rw [hq] at P2
        clear e2 hq
        generalize (powL a n).1 = q at *
        cases hm : (mulF q a).2
        · have hmt : Hid (mulF q a = mulF q a) := rfl
          go_enter Tryd.func7, Tryd.ntmps7
          go_wp2_with fail
          refine (P1 _).mono ?_
          rintro e w1 ⟨rfl, hb1⟩
          have HB1 : Hid _ := hb1
          have HT1 : Hid (PTab w1) := HT.out.below hb1
          clear hb1
          unfold two
          go_wp2_with fail
          refine (P2 _).mono ?_
          rintro e w2 ⟨rfl, hb2⟩
          have HB2 : Hid (Below w.heap.size w w2) := HB1.out.trans (hb2.mono HB1.out.size)
          have HT2 : Hid (PTab w2) := HT1.out.below hb2
          clear hb2
          try unfold two
          go_wp2_with (first
            | (go_at_call 15; refine (lives_any _ HT2.out).mono ?_; rintro e w3 ⟨rfl, hb3⟩; have HB3 : Hid _ := hb3; clear hb3)
            | (go_at_call 13; refine (good_any _ _).mono ?_; rintro e w' ⟨rfl, hw⟩; obtain rfl := hw.symm; clear hw; rw [hg])
            | (go_at_call 18; refine (mul_any _ _ _).mono ?_; rintro e w' ⟨rfl, hw⟩; obtain rfl := hw.symm; clear hw; unfold two))
          go_ret
          exact ⟨by first | rfl | simp, HB2.out.trans (HB3.out.mono HB2.out.size)⟩
        · have hmt : Hid (mulF q a = mulF q a) := rfl
          go_enter Tryd.func7, Tryd.ntmps7
          go_wp2_with fail
          refine (P1 _).mono ?_
          rintro e w1 ⟨rfl, hb1⟩
          have HB1 : Hid _ := hb1
          have HT1 : Hid (PTab w1) := HT.out.below hb1
          clear hb1
          unfold two
          go_wp2_with fail
          refine (P2 _).mono ?_
          rintro e w2 ⟨rfl, hb2⟩
          have HB2 : Hid (Below w.heap.size w w2) := HB1.out.trans (hb2.mono HB1.out.size)
          have HT2 : Hid (PTab w2) := HT1.out.below hb2
          clear hb2
          try unfold two
          go_wp2_with (first
            | (go_at_call 15; refine (lives_any _ HT2.out).mono ?_; rintro e w3 ⟨rfl, hb3⟩; have HB3 : Hid _ := hb3; clear hb3)
            | (go_at_call 13; refine (good_any _ _).mono ?_; rintro e w' ⟨rfl, hw⟩; obtain rfl := hw.symm; clear hw; rw [hg])
            | (go_at_call 18; refine (mul_any _ _ _).mono ?_; rintro e w' ⟨rfl, hw⟩; obtain rfl := hw.symm; clear hw; unfold two))
          go_ret
          exact ⟨by first | rfl | simp, HB2.out.trans (HB3.out.mono HB2.out.size)⟩
theorem powers_walk (a : Int) (k : Nat) (hk : k < 18446744073709551616) (w : World) (T : PTab w) :
    Calls Tryd.prog 7 #[.int .i64 a, .int .u64 k] w fun e w' => e = .returned (.bool true) ∧ Below w.heap.size w w' :=
  powers_core a k ((k : Int) % 20) (by omega) rfl (by omega) w T
end Go.Proofs.YtdkoobpapdahaaaDoor
