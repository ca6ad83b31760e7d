/- The walk of the law NumWhole. -/
import Derived.Test.YtdkoobpapdahaaaDoorNLives
namespace Go.Proofs.YtdkoobpapdahaaaDoor
open Go.RowKit
set_option linter.unusedVariables false
set_option maxRecDepth 100000

theorem abs_mul (a b : Int) : absI (a * b) = absI a * absI b := by
  have h : ∀ x : Int, absI x = (x.natAbs : Int) := fun x => by unfold absI; split <;> omega
  rw [h, h, h, Int.natAbs_mul, Int.natCast_mul]
theorem near_times (m y : Int) (hy : 1 ≤ y) : nearI (m * y) y = m := by
  unfold nearI
  rw [Int.mul_emod_left, Int.mul_ediv_cancel _ (by omega), if_neg (by omega)]
theorem sgn_mul (a k : Int) (hk : k ≠ 0) : sgnI (absI a * absI k) (unl a (k * 10000)) = a * k := by
  unfold sgnI absI unl
  by_cases ha : a < 0 <;> by_cases hb : k < 0
  · have h1 : k * 10000 < 0 := by omega
    simp [ha, hb, h1]
    exact Int.neg_mul_neg a k
  · have h1 : ¬ k * 10000 < 0 := by omega
    simp [ha, hb, h1]
    rw [Int.neg_mul, Int.neg_neg]
  · have h1 : k * 10000 < 0 := by omega
    simp [ha, hb, h1]
    rw [Int.mul_neg, Int.neg_neg]
  · have h1 : ¬ k * 10000 < 0 := by omega
    simp [ha, hb, h1]
theorem mul_whole (a k : Int) (hg : gd a = true) (hk : -1000 ≤ k ∧ k ≤ 1000) (h0 : k ≠ 0) : mulF a (k * 10000) = ans (a * k) := by
  have hgk : gd (k * 10000) = true := by rw [gd_iff]; omega
  unfold mulF
  rw [if_pos (by rw [hg, hgk]; rfl)]
  congr 1
  rw [abs_mul k 10000, show absI 10000 = 10000 from rfl, ← Int.mul_assoc (absI a % 10000), near_times _ _ (by decide)]
  rw [← sgn_mul a k h0]
  congr 1
  have : absI a / 10000 * (absI k * 10000) = (absI a / 10000 * 10000) * absI k := by rw [Int.mul_comm (absI k), ← Int.mul_assoc]
  rw [this, ← Int.add_mul]
  congr 1
  omega
theorem div_whole (a k : Int) (hg : gd a = true) (hk : -1000 ≤ k ∧ k ≤ 1000) (h0 : k ≠ 0) (hp : gd (a * k) = true) : divF (a * k) (k * 10000) = (a, true) := by
  have hgk : gd (k * 10000) = true := by rw [gd_iff]; omega
  unfold divF
  rw [if_pos ⟨by rw [hp, hgk]; rfl, by omega⟩]
  rw [abs_mul k 10000, show absI 10000 = 10000 from rfl, abs_mul a k, Int.mul_assoc, near_times _ _ (by unfold absI; split <;> omega)]
  have hs : sgnI (absI a) (unl (a * k) (k * 10000)) = a := by
    by_cases ha0 : a = 0
    · subst ha0; unfold sgnI; split <;> rfl
    have e : unl (a * k) (k * 10000) = decide (a < 0) := by
      unfold unl
      by_cases hb : k < 0
      · have h1 : k * 10000 < 0 := by omega
        by_cases ha : a < 0
        · have : 0 < a * k := Int.mul_pos_of_neg_of_neg ha hb
          simp [h1, ha, show ¬ a * k < 0 by omega]
        · have : a * k < 0 := Int.mul_neg_of_pos_of_neg (by omega) hb
          simp [h1, ha, this]
      · have h1 : ¬ k * 10000 < 0 := by omega
        by_cases ha : a < 0
        · have : a * k < 0 := Int.mul_neg_of_neg_of_pos ha (by omega)
          simp [h1, ha, this]
        · have : 0 < a * k := Int.mul_pos (by omega) (by omega)
          simp [h1, ha, show ¬ a * k < 0 by omega]
    rw [e]
    unfold sgnI absI
    by_cases ha : a < 0
    · simp [ha]
    · simp [ha]
  rw [hs]
  exact ans_of a ((gd_iff a).1 hg)
theorem quo_facts (a k : Int) (hg : gd a = true) (hk : -1000 ≤ k ∧ k ≤ 1000) (h0 : k ≠ 0) : ∃ t R : Int, quoF a (k * 10000) = (t * 10000, true) ∧ (-10000000 ≤ t ∧ t ≤ 10000000) ∧ (-10000000000 ≤ t * k ∧ t * k ≤ 10000000000) ∧ a - t * k * 10000 = R ∧ (R = 0 ∨ (decide (R < 0) == decide (a < 0)) = true) ∧ R < 10000000 ∧ -10000000 < R := by
  have ha := (gd_iff a).1 hg
  have hgk : gd (k * 10000) = true := by rw [gd_iff]; omega
  have dm := Int.mul_tdiv_add_tmod a (k * 10000)
  have tb := tmod_between a (k * 10000) (by omega)
  have ek : absI (k * 10000) = k * 10000 ∧ 0 ≤ k ∨ absI (k * 10000) = -(k * 10000) ∧ k < 0 := by unfold absI; split <;> omega
  have nt : (a.tdiv (k * 10000)).natAbs = a.natAbs / (k * 10000).natAbs := Int.natAbs_tdiv a (k * 10000)
  have nb : a.natAbs / (k * 10000).natAbs ≤ a.natAbs / 10000 := Nat.div_le_div_left (by omega) (by omega)
  have hs : a.tmod (k * 10000) ≠ 0 → ((a.tmod (k * 10000) < 0) ↔ (a < 0)) := fun h => tmod_sign a _ h
  have cm : k * 10000 * a.tdiv (k * 10000) = a.tdiv (k * 10000) * k * 10000 := by
    rw [Int.mul_comm (k * 10000), ← Int.mul_assoc]
  refine ⟨a.tdiv (k * 10000), a.tmod (k * 10000), ?_, ?_, ?_, ?_, ?_, ?_, ?_⟩
  · unfold quoF
    rw [if_pos ⟨by rw [hg, hgk]; rfl, by omega⟩]
    exact ans_of _ (by omega)
  · omega
  · omega
  · omega
  · by_cases h : a.tmod (k * 10000) = 0
    · exact .inl h
    · right; simp [hs h]
  · omega
  · omega

set_option maxHeartbeats 2000000 in
theorem whole_walk (a k : Int) (w : World) (T : PTab w) :
    Calls Tryd.prog 6 #[.int .i64 a, .int .i64 k] w fun e w' => e = .returned (.bool true) ∧ Below w.heap.size w w' := by
  have HT : Hid (PTab w) := T
  clear T
  by_cases hout : ¬ (gd a = true ∧ k ≠ 0 ∧ -1000 ≤ k ∧ k ≤ 1000)
  · have hc : gd a = false ∨ (gd a = true ∧ k = 0) ∨ (gd a = true ∧ k ≠ 0 ∧ k < -1000) ∨ (gd a = true ∧ k ≠ 0 ∧ ¬ k < -1000 ∧ 1000 < k) := by
      cases hg : gd a
      · exact .inl rfl
      · rw [hg] at hout; right; simp at hout ⊢; omega
    clear hout
    rcases hc with hg | ⟨hg, h0⟩ | ⟨hg, h0, h1⟩ | ⟨hg, h0, h1, h2⟩
    · go_enter Tryd.func6, Tryd.ntmps6
      go_wp2_with (first
        | (go_at_call 13; refine (good_any _ _).mono ?_; rintro e w' ⟨rfl, hw⟩; obtain rfl := hw.symm; clear hw; rw [hg])
        | (go_at_call 15; refine (lives_any _ HT.out).mono ?_; rintro e w9 ⟨rfl, hb9⟩; have HB9 : Hid _ := hb9; clear hb9))
      go_ret
      exact ⟨rfl, HB9.out⟩
    · subst h0
      go_enter Tryd.func6, Tryd.ntmps6
      go_wp2_with (first
        | (go_at_call 13; refine (good_any _ _).mono ?_; rintro e w' ⟨rfl, hw⟩; obtain rfl := hw.symm; clear hw; rw [hg])
        | (go_at_call 15; refine (lives_any _ HT.out).mono ?_; rintro e w9 ⟨rfl, hb9⟩; have HB9 : Hid _ := hb9; clear hb9))
      go_ret
      exact ⟨rfl, HB9.out⟩
    all_goals
      have h0' : (k == 0) = false := by simpa using h0
      go_enter Tryd.func6, Tryd.ntmps6
      go_wp2_with (first
        | (go_at_call 13; refine (good_any _ _).mono ?_; rintro e w' ⟨rfl, hw⟩; obtain rfl := hw.symm; clear hw; rw [hg])
        | (go_at_call 15; refine (lives_any _ HT.out).mono ?_; rintro e w9 ⟨rfl, hb9⟩; have HB9 : Hid _ := hb9; clear hb9))
      go_ret
      exact ⟨rfl, HB9.out⟩
  have hin : gd a = true ∧ k ≠ 0 ∧ -1000 ≤ k ∧ k ≤ 1000 := by
    cases hg : gd a <;> simp_all
  clear hout
  obtain ⟨hg, h0, h1, h2⟩ := hin
  have h0' : (k == 0) = false := by simpa using h0
  have ha := (gd_iff a).1 hg
  obtain ⟨t, R, hq, ht, htk, hR, hR1, hR2, hR3⟩ := quo_facts a k hg ⟨h1, h2⟩ h0
  have hm := mul_whole a k hg ⟨h1, h2⟩ h0
  have hd := div_whole a k hg ⟨h1, h2⟩ h0
  obtain ⟨B, hB, bB⟩ : ∃ B : Int, k * 10000 = B ∧ (-10000000 ≤ B ∧ B ≤ 10000000) := ⟨_, rfl, by omega⟩
  rw [hB] at hq hm hd
  have M := fun u => mul_any a B u
  have Q := fun u => quo_any a B u
  have D := fun u => div_any (a * k) B u
  rw [hq] at Q
  rw [hm] at M
  have htd : (t * 10000).tdiv 10000 = t := Int.mul_tdiv_cancel _ (by decide)
  unfold two at Q M D
  obtain ⟨q, hqq⟩ : ∃ q : Int, t * 10000 = q := ⟨_, rfl⟩
  rw [hqq] at htd Q
  have hq2 : -100000000000 ≤ q ∧ q ≤ 100000000000 := by omega
  clear hq hm hqq
  obtain ⟨x, hx⟩ : ∃ x : Int, t * k = x := ⟨_, rfl⟩
  rw [hx] at htk hR
  have hRc : (R == 0) = true ∧ R = 0 ∨ (R == 0) = false ∧ (decide (R < 0) == decide (a < 0)) = true := by
    by_cases hz : R = 0
    · exact .inl ⟨by simpa using hz, hz⟩
    · exact .inr ⟨by simpa using hz, hR1.resolve_left hz⟩
  clear hR1
  cases hp : gd (a * k)
  · rw [show ans (a * k) = (0, false) by simp [ans, hp]] at M
    clear hd D
    rcases hRc with ⟨hz1, hz2⟩ | ⟨hz1, hz2⟩
    · go_enter Tryd.func6, Tryd.ntmps6
      go_wp2_with (first
        | (go_at_call 13; refine (good_any _ _).mono ?_; rintro e w' ⟨rfl, hw⟩; obtain rfl := hw.symm; clear hw; rw [hg])
        | (go_at_call 18; refine (M _).mono ?_; rintro e w' ⟨rfl, hw⟩; obtain rfl := hw.symm; clear hw)
        | (go_at_call 30; refine (Q _).mono ?_; rintro e w' ⟨rfl, hw⟩; obtain rfl := hw.symm; clear hw)
        | (go_at_call 15; refine (lives_any _ HT.out).mono ?_; rintro e w9 ⟨rfl, hb9⟩; have HB9 : Hid _ := hb9; clear hb9))
      go_ret
      exact ⟨rfl, HB9.out⟩
    · go_enter Tryd.func6, Tryd.ntmps6
      go_wp2_with (first
        | (go_at_call 13; refine (good_any _ _).mono ?_; rintro e w' ⟨rfl, hw⟩; obtain rfl := hw.symm; clear hw; rw [hg])
        | (go_at_call 18; refine (M _).mono ?_; rintro e w' ⟨rfl, hw⟩; obtain rfl := hw.symm; clear hw)
        | (go_at_call 30; refine (Q _).mono ?_; rintro e w' ⟨rfl, hw⟩; obtain rfl := hw.symm; clear hw)
        | (go_at_call 15; refine (lives_any _ HT.out).mono ?_; rintro e w9 ⟨rfl, hb9⟩; have HB9 : Hid _ := hb9; clear hb9))
      go_ret
      exact ⟨rfl, HB9.out⟩
  · rw [show ans (a * k) = (a * k, true) by simp [ans, hp]] at M
    rw [hd hp] at D
    clear hd
    obtain ⟨p, hpp⟩ : ∃ p : Int, a * k = p := ⟨_, rfl⟩
    rw [hpp] at M D
    clear hpp hp
    rcases hRc with ⟨hz1, hz2⟩ | ⟨hz1, hz2⟩
    · go_enter Tryd.func6, Tryd.ntmps6
      go_wp2_with (first
        | (go_at_call 13; refine (good_any _ _).mono ?_; rintro e w' ⟨rfl, hw⟩; obtain rfl := hw.symm; clear hw; rw [hg])
        | (go_at_call 18; refine (M _).mono ?_; rintro e w' ⟨rfl, hw⟩; obtain rfl := hw.symm; clear hw)
        | (go_at_call 25; refine (D _).mono ?_; rintro e w' ⟨rfl, hw⟩; obtain rfl := hw.symm; clear hw)
        | (go_at_call 30; refine (Q _).mono ?_; rintro e w' ⟨rfl, hw⟩; obtain rfl := hw.symm; clear hw)
        | (go_at_call 15; refine (lives_any _ HT.out).mono ?_; rintro e w9 ⟨rfl, hb9⟩; have HB9 : Hid _ := hb9; clear hb9))
      go_ret
      exact ⟨rfl, HB9.out⟩
    · go_enter Tryd.func6, Tryd.ntmps6
      go_wp2_with (first
        | (go_at_call 13; refine (good_any _ _).mono ?_; rintro e w' ⟨rfl, hw⟩; obtain rfl := hw.symm; clear hw; rw [hg])
        | (go_at_call 18; refine (M _).mono ?_; rintro e w' ⟨rfl, hw⟩; obtain rfl := hw.symm; clear hw)
        | (go_at_call 25; refine (D _).mono ?_; rintro e w' ⟨rfl, hw⟩; obtain rfl := hw.symm; clear hw)
        | (go_at_call 30; refine (Q _).mono ?_; rintro e w' ⟨rfl, hw⟩; obtain rfl := hw.symm; clear hw)
        | (go_at_call 15; refine (lives_any _ HT.out).mono ?_; rintro e w9 ⟨rfl, hb9⟩; have HB9 : Hid _ := hb9; clear hb9))
      go_ret
      exact ⟨rfl, HB9.out⟩
end Go.Proofs.YtdkoobpapdahaaaDoor
