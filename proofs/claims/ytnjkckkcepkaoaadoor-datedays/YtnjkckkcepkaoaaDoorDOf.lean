/- The contracts of Of, of both. -/
import Derived.Test.YtnjkckkcepkaoaaDoorDPart2
namespace Go.Proofs.YtnjkckkcepkaoaaDoor
open Go.RowKit
set_option maxRecDepth 100000
set_option linter.unusedVariables false

/-- The day that month m of year y and d make. -/
def ofD (y m d : Int) : Int := Cal.first (1900 + monN y m / 12) (monN y m % 12 + 1) + d
def ofB (y m d : Int) : Bool := nearD y && nearD m && nearD d && inN (monN y m) && goodD (ofD y m d)
def ofF (y m d : Int) : Int × Bool := if ofB y m d = true then (ofD y m d, true) else (0, false)
theorem ofF_yes {y m d : Int} (h : ofB y m d = true) : ofF y m d = (ofD y m d, true) := if_pos h
theorem ofF_no {y m d : Int} (h : ofB y m d = false) : ofF y m d = (0, false) := by unfold ofF; rw [h]; rfl
theorem goodD_T {n : Int} (h1 : 1 ≤ n) (h2 : n ≤ 2958464) : goodD n = true := (goodD_iff n).2 ⟨h1, h2⟩
set_option maxHeartbeats 1000000 in
theorem of_any (y m d : Int) (w : World) : Calls Tryd.prog 10 #[.int .i64 y, .int .i64 m, .int .i64 d] w fun e w' => e = .returned (two (ofF y m d)) ∧ w' = w := by
  cases hy : nearD y
  · rw [ofF_no (by simp [ofB, hy])]
    go_enter Tryd.func10, Tryd.ntmps10
    go_wp2_with (go_at_call 31; refine (near_any _ _).mono ?_; rintro e w' ⟨rfl, hw⟩; obtain rfl := hw.symm; clear hw; rw [hy])
    go_ret2
    exact ⟨rfl, rfl⟩
  · cases hm : nearD m
    · rw [ofF_no (by simp [ofB, hm])]
      go_enter Tryd.func10, Tryd.ntmps10
      go_wp2_with (go_at_call 31; refine (near_any _ _).mono ?_; rintro e w' ⟨rfl, hw⟩; obtain rfl := hw.symm; clear hw; first | rw [hy] | rw [hm])
      go_ret2
      exact ⟨rfl, rfl⟩
    · cases hd : nearD d
      · rw [ofF_no (by simp [ofB, hd])]
        go_enter Tryd.func10, Tryd.ntmps10
        go_wp2_with (go_at_call 31; refine (near_any _ _).mono ?_; rintro e w' ⟨rfl, hw⟩; obtain rfl := hw.symm; clear hw; first | rw [hy] | rw [hm] | rw [hd])
        go_ret2
        exact ⟨rfl, rfl⟩
      · have by1 := (nearD_iff y).1 hy
        have bm1 := (nearD_iff m).1 hm
        have bd1 := (nearD_iff d).1 hd
        cases hn : inN (monN y m)
        · rw [ofF_no (by simp [ofB, hn])]
          have h9 : monN y m < 0 ∨ 97200 ≤ monN y m := by
            unfold inN at hn
            rw [Bool.and_eq_false_iff, decide_eq_false_iff_not, decide_eq_false_iff_not] at hn
            omega
          have MO := fun u => month_no y m (by omega) (by omega) h9 u
          unfold three at MO
          clear h9
          go_enter Tryd.func10, Tryd.ntmps10
          go_wp2_with (first
            | (go_at_call 31; refine (near_any _ _).mono ?_; rintro e w' ⟨rfl, hw⟩; obtain rfl := hw.symm; clear hw; first | rw [hy] | rw [hm] | rw [hd])
            | (go_at_call 32; refine (MO _).mono ?_; rintro e w' ⟨rfl, hw⟩; obtain rfl := hw.symm; clear hw))
          go_ret2
          exact ⟨rfl, rfl⟩
        · have h9 := (inN_iff _).1 hn
          have MO := fun u => month_yes y m (by omega) (by omega) h9.1 h9.2 u
          unfold three at MO
          have hD : Hid (ofD y m d = Cal.first (1900 + monN y m / 12) (monN y m % 12 + 1) + d) := rfl
          have hyy : 1900 ≤ 1900 + monN y m / 12 ∧ 1900 + monN y m / 12 ≤ 9999 := by omega
          have hmm : 1 ≤ monN y m % 12 + 1 ∧ monN y m % 12 + 1 ≤ 12 := by omega
          have AH := fun u => ahead_any _ _ hyy.1 hyy.2 hmm.1 hmm.2 u
          have fb := first_bd _ _ hyy.1 hyy.2 hmm.1 (by omega)
          have hofB : Hid (ofB y m d = goodD (ofD y m d)) := by show _ = _; simp [ofB, hy, hm, hd, hn]
          generalize Cal.first (1900 + monN y m / 12) (monN y m % 12 + 1) = F at *
          clear hn h9
          generalize 1900 + monN y m / 12 = Y at *
          generalize monN y m % 12 + 1 = M at *
          cases hg : goodD (ofD y m d)
          · rw [ofF_no (by rw [hofB.out, hg])]
            rw [hD.out] at hg
            go_enter Tryd.func10, Tryd.ntmps10
            go_wp2_with (first
              | (go_at_call 31; refine (near_any _ _).mono ?_; rintro e w' ⟨rfl, hw⟩; obtain rfl := hw.symm; clear hw; first | rw [hy] | rw [hm] | rw [hd])
              | (go_at_call 32; refine (MO _).mono ?_; rintro e w' ⟨rfl, hw⟩; obtain rfl := hw.symm; clear hw)
              | (go_at_call 29; refine (AH _).mono ?_; rintro e w' ⟨rfl, hw⟩; obtain rfl := hw.symm; clear hw)
              | (go_at_call 33; refine (good_any _ _).mono ?_; rintro e w' ⟨rfl, hw⟩; obtain rfl := hw.symm; clear hw; rw [hg]))
            go_ret2
            exact ⟨rfl, rfl⟩
          · rw [ofF_yes (by rw [hofB.out, hg])]
            rw [hD.out] at hg ⊢
            go_enter Tryd.func10, Tryd.ntmps10
            go_wp2_with (first
              | (go_at_call 31; refine (near_any _ _).mono ?_; rintro e w' ⟨rfl, hw⟩; obtain rfl := hw.symm; clear hw; first | rw [hy] | rw [hm] | rw [hd])
              | (go_at_call 32; refine (MO _).mono ?_; rintro e w' ⟨rfl, hw⟩; obtain rfl := hw.symm; clear hw)
              | (go_at_call 29; refine (AH _).mono ?_; rintro e w' ⟨rfl, hw⟩; obtain rfl := hw.symm; clear hw)
              | (go_at_call 33; refine (good_any _ _).mono ?_; rintro e w' ⟨rfl, hw⟩; obtain rfl := hw.symm; clear hw; rw [hg]))
            go_ret2
            exact ⟨rfl, rfl⟩
end Go.Proofs.YtnjkckkcepkaoaaDoor
