/- The walk of the law NumRounded. -/
import Derived.Test.YtdkoobpapdahaabDoorNRound
import Derived.Test.YtdkoobpapdahaabDoorNLives
namespace Go.Proofs.YtdkoobpapdahaabDoor
open Go.RowKit
set_option linter.unusedVariables false
set_option maxRecDepth 100000

theorem tmod_mul (s q : Int) : (s * q).tmod s = 0 := Int.mul_tmod_right s q
theorem rounded_facts (a s : Int) (hs : 1 ≤ s) (hL : (roundS a s 4).2 = true) (hN : (roundS a s 0).2 = true) (hH : (roundS a s 3).2 = true) :
    (roundS a s 4).1 ≤ a ∧ a ≤ (roundS a s 3).1 ∧ ((roundS a s 0).1 = (roundS a s 4).1 ∨ (roundS a s 0).1 = (roundS a s 3).1) ∧
      ((roundS a s 3).1 = (roundS a s 4).1 ∨ (roundS a s 3).1 - (roundS a s 4).1 = s) ∧ (roundS a s 4).1.tmod s = 0 := by
  obtain ⟨h1, h2, h3⟩ := round_facts a s hs
  have dm := Int.mul_tdiv_add_tmod a s
  have z1 : (a - a.tmod s).tmod s = 0 := by
    rw [show a - a.tmod s = s * a.tdiv s by omega]
    exact tmod_mul s _
  have z2 : (a - a.tmod s - s).tmod s = 0 := by
    rw [show a - a.tmod s - s = s * (a.tdiv s - 1) by rw [Int.mul_sub]; omega]
    exact tmod_mul s _
  have sg : ∀ n : Int, (n < 0 → sgnI s (decide (n < 0)) = -s) ∧ (¬ n < 0 → sgnI s (decide (n < 0)) = s) := fun n => ⟨fun h => by simp [sgnI, h], fun h => by simp [sgnI, h]⟩
  have ab : absI (a.tmod s) = a.tmod s ∧ 0 ≤ a.tmod s ∨ absI (a.tmod s) = -a.tmod s ∧ a.tmod s < 0 := by unfold absI; split <;> omega
  have e4 : (roundS a s 4).1 = if a.tmod s ≠ 0 ∧ a < 0 then a - a.tmod s - s else a - a.tmod s := by
    unfold roundS at *
    by_cases h : a.tmod s ≠ 0 ∧ a < 0
    · have hw : awayI a (a.tmod s) s 4 = true := by simp [awayI, h.1, h.2]
      rw [if_pos hw] at hL ⊢
      rw [if_pos h, (ans_good _ hL).1, (sg a).1 h.2]
      omega
    · have hw : ¬ awayI a (a.tmod s) s 4 = true := by simp [awayI]; omega
      rw [if_neg hw, if_neg h]
  have e3 : (roundS a s 3).1 = if a.tmod s ≠ 0 ∧ 0 < a then a - a.tmod s + s else a - a.tmod s := by
    unfold roundS at *
    by_cases h : a.tmod s ≠ 0 ∧ 0 < a
    · have hw : awayI a (a.tmod s) s 3 = true := by simp [awayI, h.1, h.2]
      rw [if_pos hw] at hH ⊢
      rw [if_pos h, (ans_good _ hH).1, (sg a).2 (by omega)]
    · have hw : ¬ awayI a (a.tmod s) s 3 = true := by simp [awayI]; omega
      rw [if_neg hw, if_neg h]
  have e0 : (roundS a s 0).1 = if s ≤ absI (a.tmod s) * 2 then (if a < 0 then a - a.tmod s - s else a - a.tmod s + s) else a - a.tmod s := by
    unfold roundS at *
    by_cases h : s ≤ absI (a.tmod s) * 2
    · have hw : awayI a (a.tmod s) s 0 = true := by simp [awayI, h]
      rw [if_pos hw] at hN ⊢
      rw [if_pos h, (ans_good _ hN).1]
      by_cases ha : a < 0
      · rw [if_pos ha, (sg a).1 ha]; omega
      · rw [if_neg ha, (sg a).2 ha]
    · have hw : ¬ awayI a (a.tmod s) s 0 = true := by simp [awayI]; omega
      rw [if_neg hw, if_neg h]
  rw [e4, e3, e0]
  generalize a.tmod s = r at *
  generalize a.tdiv s = q at *
  clear e4 e3 e0 hL hN hH dm sg
  by_cases c1 : r ≠ 0 ∧ a < 0
  · rw [if_pos c1, if_neg (by omega)]
    by_cases c2 : s ≤ absI r * 2
    · rw [if_pos c2, if_pos c1.2]
      exact ⟨by omega, by omega, .inl rfl, by omega, z2⟩
    · rw [if_neg c2]
      exact ⟨by omega, by omega, .inr rfl, by omega, z2⟩
  · rw [if_neg c1]
    by_cases c3 : r ≠ 0 ∧ 0 < a
    · rw [if_pos c3]
      by_cases c2 : s ≤ absI r * 2
      · rw [if_pos c2, if_neg (by omega)]
        exact ⟨by omega, by omega, .inr rfl, by omega, z1⟩
      · rw [if_neg c2]
        exact ⟨by omega, by omega, .inl rfl, by omega, z1⟩
    · rw [if_neg c3]
      have hr0 : r = 0 := by
        by_cases h : r = 0
        · exact h
        · have := h2; have := h3; omega
      rw [if_neg (by omega)]
      exact ⟨by omega, by omega, .inl rfl, .inl rfl, z1⟩

theorem round_gd (n d how : Int) : gd (roundF n d how).1 = true := by
  unfold roundF
  split
  · rename_i h
    have hs := step_bounds d h.2.1
    obtain ⟨h1, h2, h3⟩ := round_facts n (stepI d) hs.1
    have hn := (gd_iff n).1 h.1
    unfold roundS
    split
    · exact ans_gd _
    · rw [gd_iff]; simp only; omega
  · rfl

set_option maxHeartbeats 4000000 in
theorem rounded_core {a d M k s : Int} {l n h : Int} {okl okn okh : Bool} {w : World} (hd : 0 ≤ d ∧ d < 18446744073709551616) (hM : d % 9 = M) (bM : 0 ≤ M ∧ M < 9) (hk : M - 4 = k) (D : Nat) (hD : Hid (k + D = 4)) (hS : Hid (s = 10 ^ D)) (hs : 1 ≤ s ∧ s ≤ 1000000000000)
    (hg : gd a = true) (HT : Hid (PTab w))
    (RL : ∀ u : World, Calls Tryd.prog 6 #[.int .i64 a, .int .i64 k, .int .i64 4] u fun e w' => e = .returned (.tuple #[.int .i64 l, .bool okl]) ∧ w' = u)
    (RN : ∀ u : World, Calls Tryd.prog 6 #[.int .i64 a, .int .i64 k, .int .i64 0] u fun e w' => e = .returned (.tuple #[.int .i64 n, .bool okn]) ∧ w' = u)
    (RH : ∀ u : World, Calls Tryd.prog 6 #[.int .i64 a, .int .i64 k, .int .i64 3] u fun e w' => e = .returned (.tuple #[.int .i64 h, .bool okh]) ∧ w' = u)
    (hb : (-100000000000 ≤ l ∧ l ≤ 100000000000) ∧ (-100000000000 ≤ h ∧ h ≤ 100000000000))
    (hc : okl = false ∨ (okl = true ∧ okn = false) ∨ (okl = true ∧ okn = true ∧ okh = false) ∨ (okl = true ∧ okn = true ∧ okh = true ∧ l ≤ a ∧ a ≤ h ∧ (n = l ∨ n = h) ∧ (h = l ∨ h - l = s) ∧ l.tmod s = 0)) :
    Calls Tryd.prog 3 #[.int .i64 a, .int .u64 d] w fun e w' => e = .returned (.bool true) ∧ Below w.heap.size w w' := by
  have GA := fun u => good_any a u
  rw [hg] at GA
  go_enter Tryd.func3, Tryd.ntmps3
  go_wp2_with fail
  refine (GA _).mono ?_
  rintro e w' ⟨rfl, hw⟩
  obtain rfl := hw.symm
  clear hw
  go_wp2_with fail
  go_loop [6, 7] (fun p i => ∃ (j : Nat) (T : Int), p = .int .i64 T ∧ i = .int .i64 (k + j) ∧ j ≤ D ∧ Hid (T = 10 ^ j)) (fun _ i => (4 - intOf i).toNat)
  case atStart => exact ⟨0, 1, rfl, by go_num, Nat.zero_le _, rfl⟩
  case round =>
    obtain ⟨j, T, rfl, rfl, hj, hT⟩ := hrel
    have hD' := hD.out
    by_cases hlt : j < D
    · have hb := ten_le j (by omega)
      have hE : Hid (T * 10 = 10 ^ (j + 1)) := by
        show _ = _
        rw [hT.out, Int.pow_succ]
      rw [← hT.out] at hb
      have g1 : k + (j : Int) < 4 := by omega
      clear hD'
      go_wp2
      go_round
      case rel => exact ⟨j + 1, T * 10, rfl, by go_num, by omega, hE.out⟩
      case measure => simp [intOf]; omega
    · have hTs : T = s := by rw [hT.out, hS.out, show j = D by omega]
      subst hTs
      have g1 : ¬ k + (j : Int) < 4 := by omega
      clear hD' hD hS hT hlt hj
      generalize k + (j : Int) = i0 at g1
      rcases hc with rfl | ⟨rfl, rfl⟩ | ⟨rfl, rfl, rfl⟩ | ⟨rfl, rfl, rfl, c1, c2, c3, c4, c5⟩
      · skip
        go_wp2_with fail
        refine (RL _).mono ?_
        rintro e w' ⟨rfl, hw⟩
        obtain rfl := hw.symm
        clear hw
        go_wp2_with fail
        refine (RN _).mono ?_
        rintro e w' ⟨rfl, hw⟩
        obtain rfl := hw.symm
        clear hw
        go_wp2_with fail
        refine (RH _).mono ?_
        rintro e w' ⟨rfl, hw⟩
        obtain rfl := hw.symm
        clear hw
        go_wp2_with fail
        refine (lives_any _ HT.out).mono ?_
        rintro e w9 ⟨rfl, hb9⟩
        have HB9 : Hid _ := hb9
        clear hb9
        go_wp2
        go_ret
        exact ⟨rfl, HB9.out⟩
      · skip
        go_wp2_with fail
        refine (RL _).mono ?_
        rintro e w' ⟨rfl, hw⟩
        obtain rfl := hw.symm
        clear hw
        go_wp2_with fail
        refine (RN _).mono ?_
        rintro e w' ⟨rfl, hw⟩
        obtain rfl := hw.symm
        clear hw
        go_wp2_with fail
        refine (RH _).mono ?_
        rintro e w' ⟨rfl, hw⟩
        obtain rfl := hw.symm
        clear hw
        go_wp2_with fail
        refine (lives_any _ HT.out).mono ?_
        rintro e w9 ⟨rfl, hb9⟩
        have HB9 : Hid _ := hb9
        clear hb9
        go_wp2
        go_ret
        exact ⟨rfl, HB9.out⟩
      · skip
        go_wp2_with fail
        refine (RL _).mono ?_
        rintro e w' ⟨rfl, hw⟩
        obtain rfl := hw.symm
        clear hw
        go_wp2_with fail
        refine (RN _).mono ?_
        rintro e w' ⟨rfl, hw⟩
        obtain rfl := hw.symm
        clear hw
        go_wp2_with fail
        refine (RH _).mono ?_
        rintro e w' ⟨rfl, hw⟩
        obtain rfl := hw.symm
        clear hw
        go_wp2_with fail
        refine (lives_any _ HT.out).mono ?_
        rintro e w9 ⟨rfl, hb9⟩
        have HB9 : Hid _ := hb9
        clear hb9
        go_wp2
        go_ret
        exact ⟨rfl, HB9.out⟩
      · by_cases hl : h = l
        · subst hl
          have hn : n = h := by omega
          subst hn
          clear c3 c4
          go_wp2_with fail
          refine (RL _).mono ?_
          rintro e w' ⟨rfl, hw⟩
          obtain rfl := hw.symm
          clear hw
          go_wp2_with fail
          refine (RN _).mono ?_
          rintro e w' ⟨rfl, hw⟩
          obtain rfl := hw.symm
          clear hw
          go_wp2_with fail
          refine (RH _).mono ?_
          rintro e w' ⟨rfl, hw⟩
          obtain rfl := hw.symm
          clear hw
          go_wp2_with fail
          refine (lives_any _ HT.out).mono ?_
          rintro e w9 ⟨rfl, hb9⟩
          have HB9 : Hid _ := hb9
          clear hb9
          go_wp2
          go_ret
          exact ⟨rfl, HB9.out⟩
        · have c6 : h - l = T := c4.resolve_left hl
          have hl' : (h == l) = false := by simpa using hl
          clear c4
          by_cases hn : n = l
          · subst hn
            clear c3
            go_wp2_with fail
            refine (RL _).mono ?_
            rintro e w' ⟨rfl, hw⟩
            obtain rfl := hw.symm
            clear hw
            go_wp2_with fail
            refine (RN _).mono ?_
            rintro e w' ⟨rfl, hw⟩
            obtain rfl := hw.symm
            clear hw
            go_wp2_with fail
            refine (RH _).mono ?_
            rintro e w' ⟨rfl, hw⟩
            obtain rfl := hw.symm
            clear hw
            go_wp2_with fail
            refine (lives_any _ HT.out).mono ?_
            rintro e w9 ⟨rfl, hb9⟩
            have HB9 : Hid _ := hb9
            clear hb9
            go_wp2
            go_ret
            exact ⟨rfl, HB9.out⟩
          · have hn2 : n = h := c3.resolve_left hn
            subst hn2
            clear c3 hn
            go_wp2_with fail
            refine (RL _).mono ?_
            rintro e w' ⟨rfl, hw⟩
            obtain rfl := hw.symm
            clear hw
            go_wp2_with fail
            refine (RN _).mono ?_
            rintro e w' ⟨rfl, hw⟩
            obtain rfl := hw.symm
            clear hw
            go_wp2_with fail
            refine (RH _).mono ?_
            rintro e w' ⟨rfl, hw⟩
            obtain rfl := hw.symm
            clear hw
            go_wp2_with fail
            refine (lives_any _ HT.out).mono ?_
            rintro e w9 ⟨rfl, hb9⟩
            have HB9 : Hid _ := hb9
            clear hb9
            go_wp2
            go_ret
            exact ⟨rfl, HB9.out⟩

theorem rounded_walk (a : Int) (d : Nat) (hd : d < 18446744073709551616) (w : World) (T : PTab w) :
    Calls Tryd.prog 3 #[.int .i64 a, .int .u64 d] w fun e w' => e = .returned (.bool true) ∧ Below w.heap.size w w' := by
  cases hg : gd a
  · have HT : Hid (PTab w) := T
    clear T
    have GA := fun u => good_any a u
    rw [hg] at GA
    obtain ⟨K, hK, bK⟩ : ∃ K : Int, (d : Int) = K ∧ (0 ≤ K ∧ K < 18446744073709551616) := ⟨_, rfl, by omega⟩
    rw [hK]
    obtain ⟨M, hM, bM⟩ : ∃ M : Int, K % 9 = M ∧ (0 ≤ M ∧ M < 9) := ⟨_, rfl, by omega⟩
    clear hK
    go_enter Tryd.func3, Tryd.ntmps3
    go_wp2_with fail
    refine (GA _).mono ?_
    rintro e w' ⟨rfl, hw⟩
    obtain rfl := hw.symm
    clear hw
    go_wp2_with fail
    refine (lives_any _ HT.out).mono ?_
    rintro e w9 ⟨rfl, hb9⟩
    have HB9 : Hid _ := hb9
    clear hb9
    go_wp2
    go_ret
    exact ⟨rfl, HB9.out⟩
  · have hk : -8 ≤ (d : Int) % 9 - 4 ∧ (d : Int) % 9 - 4 ≤ 4 := by omega
    have hs := step_bounds _ hk
    have R := fun (how : Int) u => round_any a ((d : Int) % 9 - 4) how u
    have eR : ∀ how : Int, 0 ≤ how ∧ how ≤ 4 → roundF a ((d : Int) % 9 - 4) how = roundS a (stepI ((d : Int) % 9 - 4)) how := fun how h => if_pos ⟨hg, hk, h⟩
    have R4 := R 4
    have R0 := R 0
    have R3 := R 3
    rw [eR 4 (by decide)] at R4
    rw [eR 0 (by decide)] at R0
    rw [eR 3 (by decide)] at R3
    have hf := rounded_facts a (stepI ((d : Int) % 9 - 4)) hs.1
    have b4 : gd (roundF a ((d : Int) % 9 - 4) 4).1 = true := round_gd _ _ _
    have b3 : gd (roundF a ((d : Int) % 9 - 4) 3).1 = true := round_gd _ _ _
    rw [eR 4 (by decide), gd_iff] at b4
    rw [eR 3 (by decide), gd_iff] at b3
    refine rounded_core (by omega) rfl (by omega) rfl (4 - ((d : Int) % 9 - 4)).toNat ?_ rfl hs hg T R4 R0 R3 ⟨b4, b3⟩ ?_
    · show _ = _
      omega
    · cases h4 : (roundS a (stepI ((d : Int) % 9 - 4)) 4).2
      · exact .inl rfl
      · cases h0 : (roundS a (stepI ((d : Int) % 9 - 4)) 0).2
        · exact .inr (.inl ⟨rfl, rfl⟩)
        · cases h3 : (roundS a (stepI ((d : Int) % 9 - 4)) 3).2
          · exact .inr (.inr (.inl ⟨rfl, rfl, rfl⟩))
          · exact .inr (.inr (.inr ⟨rfl, rfl, rfl, hf h4 h0 h3⟩))
end Go.Proofs.YtdkoobpapdahaabDoor
