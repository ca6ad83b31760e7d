/- How many bytes the first character of a text has, as the reference tells it. -/
import Derived.Test.YtelpllilepkjmaaDoorVUp
import Derived.Lib.DecodeN
import Derived.Lib.RuneCountTail
namespace Go.Proofs.YtelpllilepkjmaaDoor
open Go.RowKit
set_option maxRecDepth 100000
set_option linter.unusedVariables false
set_option linter.unusedSimpArgs false
theorem gb (s : ByteArray) (j : Nat) (h : j < s.size) : (s.get! j).toNat = (s[j]'h).toNat := by
  simp [ByteArray.get!, getElem!_pos, h]
  rfl
/-- What slowN tells of the width. -/
theorem sl_short {n b0 b1 b2 b3 sz lo hi : Nat} (h : n < sz) : (Lib.slowN n b0 b1 b2 b3 sz lo hi).2 = 1 := by unfold Lib.slowN; rw [if_pos h]
theorem sl_b1 {n b0 b1 b2 b3 sz lo hi : Nat} (h : ¬ n < sz) (h1 : b1 < lo ∨ hi < b1) : (Lib.slowN n b0 b1 b2 b3 sz lo hi).2 = 1 := by unfold Lib.slowN; rw [if_neg h, if_pos h1]
theorem sl_2 {n b0 b1 b2 b3 lo hi : Nat} (h : ¬ n < 2) (h1 : ¬ (b1 < lo ∨ hi < b1)) : (Lib.slowN n b0 b1 b2 b3 2 lo hi).2 = 2 := by unfold Lib.slowN; rw [if_neg h, if_neg h1, if_pos (by decide)]
theorem sl_3b {n b0 b1 b2 b3 sz lo hi : Nat} (hz : 3 ≤ sz) (h : ¬ n < sz) (h1 : ¬ (b1 < lo ∨ hi < b1)) (h2 : b2 < 128 ∨ 191 < b2) : (Lib.slowN n b0 b1 b2 b3 sz lo hi).2 = 1 := by unfold Lib.slowN; rw [if_neg h, if_neg h1, if_neg (by omega), if_pos h2]
theorem sl_3 {n b0 b1 b2 b3 lo hi : Nat} (h : ¬ n < 3) (h1 : ¬ (b1 < lo ∨ hi < b1)) (h2 : ¬ (b2 < 128 ∨ 191 < b2)) : (Lib.slowN n b0 b1 b2 b3 3 lo hi).2 = 3 := by unfold Lib.slowN; rw [if_neg h, if_neg h1, if_neg (by decide), if_neg h2, if_pos (by decide)]
theorem sl_4b {n b0 b1 b2 b3 lo hi : Nat} (h : ¬ n < 4) (h1 : ¬ (b1 < lo ∨ hi < b1)) (h2 : ¬ (b2 < 128 ∨ 191 < b2)) (h3 : b3 < 128 ∨ 191 < b3) : (Lib.slowN n b0 b1 b2 b3 4 lo hi).2 = 1 := by unfold Lib.slowN; rw [if_neg h, if_neg h1, if_neg (by decide), if_neg h2, if_neg (by decide), if_pos h3]
theorem sl_4 {n b0 b1 b2 b3 lo hi : Nat} (h : ¬ n < 4) (h1 : ¬ (b1 < lo ∨ hi < b1)) (h2 : ¬ (b2 < 128 ∨ 191 < b2)) (h3 : ¬ (b3 < 128 ∨ 191 < b3)) : (Lib.slowN n b0 b1 b2 b3 4 lo hi).2 = 4 := by unfold Lib.slowN; rw [if_neg h, if_neg h1, if_neg (by decide), if_neg h2, if_neg (by decide), if_neg h3]

set_option maxHeartbeats 2000000 in
theorem width_low (s : ByteArray) (h0 : 0 < s.size) (hc : ((s[0]'h0).toNat : Int) < 128) (w : World) : Calls Tryd.prog 54 #[.string s] w fun e w' => e = .returned (.int .i64 1) ∧ w' = w := by
  have h0' : (0 : Int) < (s.size : Int) := by omega
  go_enter Tryd.func54, Tryd.ntmps54
  go_wp2
  go_ret
  exact ⟨rfl, rfl⟩
set_option maxHeartbeats 2000000 in
theorem width_mid (s : ByteArray) (h0 : 0 < s.size) (hc : 128 ≤ ((s[0]'h0).toNat : Int) ∧ ((s[0]'h0).toNat : Int) < 194) (w : World) : Calls Tryd.prog 54 #[.string s] w fun e w' => e = .returned (.int .i64 1) ∧ w' = w := by
  have h0' : (0 : Int) < (s.size : Int) := by omega
  have t1 : ¬ ((s[0]'h0).toNat : Int) < 128 := by omega
  have t2 : ¬ (194 : Int) ≤ ((s[0]'h0).toNat : Int) := by omega
  have t3 : ¬ (224 : Int) ≤ ((s[0]'h0).toNat : Int) := by omega
  have t4 : ¬ (240 : Int) ≤ ((s[0]'h0).toNat : Int) := by omega
  clear hc
  go_enter Tryd.func54, Tryd.ntmps54
  go_wp2
  go_ret
  exact ⟨rfl, rfl⟩
set_option maxHeartbeats 2000000 in
theorem width_high (s : ByteArray) (h0 : 0 < s.size) (hc : 244 < ((s[0]'h0).toNat : Int)) (w : World) : Calls Tryd.prog 54 #[.string s] w fun e w' => e = .returned (.int .i64 1) ∧ w' = w := by
  have h0' : (0 : Int) < (s.size : Int) := by omega
  have t1 : ¬ ((s[0]'h0).toNat : Int) < 128 := by omega
  have t2 : (194 : Int) ≤ ((s[0]'h0).toNat : Int) := by omega
  have t2b : ¬ ((s[0]'h0).toNat : Int) ≤ 223 := by omega
  have t3 : (224 : Int) ≤ ((s[0]'h0).toNat : Int) := by omega
  have t3b : ¬ ((s[0]'h0).toNat : Int) ≤ 239 := by omega
  have t4 : (240 : Int) ≤ ((s[0]'h0).toNat : Int) := by omega
  have t4b : ¬ ((s[0]'h0).toNat : Int) ≤ 244 := by omega
  clear hc
  go_enter Tryd.func54, Tryd.ntmps54
  go_wp2
  go_ret
  exact ⟨rfl, rfl⟩
set_option maxHeartbeats 4000000 in
theorem width_C2 (s : ByteArray) (h0 : 0 < s.size) (hs : s.size ≤ 9223372036854775807) (hc : 194 ≤ (s[0]'h0).toNat ∧ (s[0]'h0).toNat ≤ 223) (w : World) :
    Calls Tryd.prog 54 #[.string s] w fun e w' => e = .returned (.int .i64 ((Lib.slowN s.size (s.get! 0).toNat (s.get! 1).toNat (s.get! 2).toNat (s.get! 3).toNat 2 128 191).2 : Nat)) ∧ w' = w := by
  have h0' : (0 : Int) < (s.size : Int) := by omega
  generalize hX : (Lib.slowN s.size (s.get! 0).toNat (s.get! 1).toNat (s.get! 2).toNat (s.get! 3).toNat 2 128 191).2 = X at *
  have HX : Hid (_ = X) := hX
  clear hX
  obtain ⟨hc1, hc2⟩ := hc
  have t1 : ¬ ((s[0]'h0).toNat : Int) < 128 := by omega
  have t2 : (194 : Int) ≤ ((s[0]'h0).toNat : Int) := by omega
  have t2b : ((s[0]'h0).toNat : Int) ≤ 223 := by omega
  clear hc1 hc2
  by_cases p1 : s.size < 2
  · have p1' : (s.size : Int) < 2 := by omega
    have hx : X = 1 := HX.out.symm.trans (sl_short p1)
    subst hx
    go_enter Tryd.func54, Tryd.ntmps54
    go_wp2
    go_ret
    exact ⟨rfl, rfl⟩
  · have p1' : ¬ (s.size : Int) < 2 := by omega
    have h1 : 1 < s.size := by omega
    have h1' : (1 : Int) < (s.size : Int) := by omega
    have e1 := gb s 1 h1
    by_cases p2 : ((s[1]'h1).toNat : Int) < 128
    · have hx : X = 1 := HX.out.symm.trans (sl_b1 p1 (by rw [e1]; omega))
      subst hx
      clear e1
      go_enter Tryd.func54, Tryd.ntmps54
      go_wp2
      go_ret
      exact ⟨rfl, rfl⟩
    · by_cases p3 : 191 < ((s[1]'h1).toNat : Int)
      · have hx : X = 1 := HX.out.symm.trans (sl_b1 p1 (by rw [e1]; omega))
        subst hx
        clear e1
        go_enter Tryd.func54, Tryd.ntmps54
        go_wp2
        go_ret
        exact ⟨rfl, rfl⟩
      · have HG : Hid (¬ ((s.get! 1).toNat < 128 ∨ 191 < (s.get! 1).toNat)) := by show ¬ _; rw [e1]; omega
        clear e1
        go_enter Tryd.func54, Tryd.ntmps54
        go_wp2
        go_loop [7] (fun i => ∃ j : Nat, 2 ≤ j ∧ j ≤ 2 ∧ i = .int .i64 j ∧ Hid (∀ t, 2 ≤ t → t < j → ¬ ((s.get! t).toNat < 128 ∨ 191 < (s.get! t).toNat))) (fun i => 2 - (intOf i).toNat)
        case atStart => exact ⟨2, by omega, by omega, rfl, fun t h h' => by omega⟩
        case round =>
          obtain ⟨j, hj1, hj2, rfl, hg⟩ := hrel
          by_cases hj : j < 2
          · omega
          · have hx : X = 2 := HX.out.symm.trans (sl_2 p1 HG.out)
            obtain rfl : j = 2 := by omega
            subst hx
            go_wp2
            go_ret
            exact ⟨rfl, rfl⟩
set_option maxHeartbeats 4000000 in
theorem width_E0 (s : ByteArray) (h0 : 0 < s.size) (hs : s.size ≤ 9223372036854775807) (hc : 224 ≤ (s[0]'h0).toNat ∧ (s[0]'h0).toNat ≤ 224) (w : World) :
    Calls Tryd.prog 54 #[.string s] w fun e w' => e = .returned (.int .i64 ((Lib.slowN s.size (s.get! 0).toNat (s.get! 1).toNat (s.get! 2).toNat (s.get! 3).toNat 3 160 191).2 : Nat)) ∧ w' = w := by
  have h0' : (0 : Int) < (s.size : Int) := by omega
  generalize hX : (Lib.slowN s.size (s.get! 0).toNat (s.get! 1).toNat (s.get! 2).toNat (s.get! 3).toNat 3 160 191).2 = X at *
  have HX : Hid (_ = X) := hX
  clear hX
  obtain ⟨hc1, hc2⟩ := hc
  have t1 : ¬ ((s[0]'h0).toNat : Int) < 128 := by omega
  have t2 : (194 : Int) ≤ ((s[0]'h0).toNat : Int) := by omega
  have t2b : ¬ ((s[0]'h0).toNat : Int) ≤ 223 := by omega
  have t3 : (224 : Int) ≤ ((s[0]'h0).toNat : Int) := by omega
  have t3b : ((s[0]'h0).toNat : Int) ≤ 239 := by omega
  have t3c : (((s[0]'h0).toNat : Int) == 224) = true := by simp; omega
  have t3d : (((s[0]'h0).toNat : Int) == 237) = false := by simp; omega
  clear hc1 hc2
  by_cases p1 : s.size < 3
  · have p1' : (s.size : Int) < 3 := by omega
    have hx : X = 1 := HX.out.symm.trans (sl_short p1)
    subst hx
    go_enter Tryd.func54, Tryd.ntmps54
    go_wp2
    go_ret
    exact ⟨rfl, rfl⟩
  · have p1' : ¬ (s.size : Int) < 3 := by omega
    have h1 : 1 < s.size := by omega
    have h1' : (1 : Int) < (s.size : Int) := by omega
    have e1 := gb s 1 h1
    by_cases p2 : ((s[1]'h1).toNat : Int) < 160
    · have hx : X = 1 := HX.out.symm.trans (sl_b1 p1 (by rw [e1]; omega))
      subst hx
      clear e1
      go_enter Tryd.func54, Tryd.ntmps54
      go_wp2
      go_ret
      exact ⟨rfl, rfl⟩
    · by_cases p3 : 191 < ((s[1]'h1).toNat : Int)
      · have hx : X = 1 := HX.out.symm.trans (sl_b1 p1 (by rw [e1]; omega))
        subst hx
        clear e1
        go_enter Tryd.func54, Tryd.ntmps54
        go_wp2
        go_ret
        exact ⟨rfl, rfl⟩
      · have HG : Hid (¬ ((s.get! 1).toNat < 160 ∨ 191 < (s.get! 1).toNat)) := by show ¬ _; rw [e1]; omega
        clear e1
        go_enter Tryd.func54, Tryd.ntmps54
        go_wp2
        go_loop [7] (fun i => ∃ j : Nat, 2 ≤ j ∧ j ≤ 3 ∧ i = .int .i64 j ∧ Hid (∀ t, 2 ≤ t → t < j → ¬ ((s.get! t).toNat < 128 ∨ 191 < (s.get! t).toNat))) (fun i => 3 - (intOf i).toNat)
        case atStart => exact ⟨2, by omega, by omega, rfl, fun t h h' => by omega⟩
        case round =>
          obtain ⟨j, hj1, hj2, rfl, hg⟩ := hrel
          by_cases hj : j < 3
          · have hjs : j < s.size := by omega
            have hjs' : (j : Int) < (s.size : Int) := by omega
            have ej := gb s j hjs
            have HBAD : Hid ((s.get! j).toNat < 128 ∨ 191 < (s.get! j).toNat → X = 1) := fun hb => HX.out.symm.trans (by
              obtain rfl : j = 2 := by omega
              exact sl_3b (by decide) p1 HG.out hb)
            by_cases q1 : ((s[j]'hjs).toNat : Int) < 128
            · have hx : X = 1 := HBAD.out (by rw [ej]; omega)
              subst hx
              clear ej
              go_wp2
              go_ret
              exact ⟨rfl, rfl⟩
            · by_cases q2 : 191 < ((s[j]'hjs).toNat : Int)
              · have hx : X = 1 := HBAD.out (by rw [ej]; omega)
                subst hx
                clear ej
                go_wp2
                go_ret
                exact ⟨rfl, rfl⟩
              · have HE : Hid (¬ ((s.get! j).toNat < 128 ∨ 191 < (s.get! j).toNat)) := by show ¬ _; rw [ej]; omega
                clear ej
                go_wp2
                go_round
                case rel => exact ⟨j + 1, by omega, by omega, by go_num, fun t h h' => by
                  rcases (by omega : t < j ∨ t = j) with h2 | rfl
                  · exact hg.out t h h2
                  · exact HE.out⟩
                case measure => simp [intOf]; omega
          · have hx : X = 3 := HX.out.symm.trans (sl_3 p1 HG.out (hg.out 2 (by omega) (by omega)))
            obtain rfl : j = 3 := by omega
            subst hx
            go_wp2
            go_ret
            exact ⟨rfl, rfl⟩
set_option maxHeartbeats 4000000 in
theorem width_Ea (s : ByteArray) (h0 : 0 < s.size) (hs : s.size ≤ 9223372036854775807) (hc : 225 ≤ (s[0]'h0).toNat ∧ (s[0]'h0).toNat ≤ 236) (w : World) :
    Calls Tryd.prog 54 #[.string s] w fun e w' => e = .returned (.int .i64 ((Lib.slowN s.size (s.get! 0).toNat (s.get! 1).toNat (s.get! 2).toNat (s.get! 3).toNat 3 128 191).2 : Nat)) ∧ w' = w := by
  have h0' : (0 : Int) < (s.size : Int) := by omega
  generalize hX : (Lib.slowN s.size (s.get! 0).toNat (s.get! 1).toNat (s.get! 2).toNat (s.get! 3).toNat 3 128 191).2 = X at *
  have HX : Hid (_ = X) := hX
  clear hX
  obtain ⟨hc1, hc2⟩ := hc
  have t1 : ¬ ((s[0]'h0).toNat : Int) < 128 := by omega
  have t2 : (194 : Int) ≤ ((s[0]'h0).toNat : Int) := by omega
  have t2b : ¬ ((s[0]'h0).toNat : Int) ≤ 223 := by omega
  have t3 : (224 : Int) ≤ ((s[0]'h0).toNat : Int) := by omega
  have t3b : ((s[0]'h0).toNat : Int) ≤ 239 := by omega
  have t3c : (((s[0]'h0).toNat : Int) == 224) = false := by simp; omega
  have t3d : (((s[0]'h0).toNat : Int) == 237) = false := by simp; omega
  clear hc1 hc2
  by_cases p1 : s.size < 3
  · have p1' : (s.size : Int) < 3 := by omega
    have hx : X = 1 := HX.out.symm.trans (sl_short p1)
    subst hx
    go_enter Tryd.func54, Tryd.ntmps54
    go_wp2
    go_ret
    exact ⟨rfl, rfl⟩
  · have p1' : ¬ (s.size : Int) < 3 := by omega
    have h1 : 1 < s.size := by omega
    have h1' : (1 : Int) < (s.size : Int) := by omega
    have e1 := gb s 1 h1
    by_cases p2 : ((s[1]'h1).toNat : Int) < 128
    · have hx : X = 1 := HX.out.symm.trans (sl_b1 p1 (by rw [e1]; omega))
      subst hx
      clear e1
      go_enter Tryd.func54, Tryd.ntmps54
      go_wp2
      go_ret
      exact ⟨rfl, rfl⟩
    · by_cases p3 : 191 < ((s[1]'h1).toNat : Int)
      · have hx : X = 1 := HX.out.symm.trans (sl_b1 p1 (by rw [e1]; omega))
        subst hx
        clear e1
        go_enter Tryd.func54, Tryd.ntmps54
        go_wp2
        go_ret
        exact ⟨rfl, rfl⟩
      · have HG : Hid (¬ ((s.get! 1).toNat < 128 ∨ 191 < (s.get! 1).toNat)) := by show ¬ _; rw [e1]; omega
        clear e1
        go_enter Tryd.func54, Tryd.ntmps54
        go_wp2
        go_loop [7] (fun i => ∃ j : Nat, 2 ≤ j ∧ j ≤ 3 ∧ i = .int .i64 j ∧ Hid (∀ t, 2 ≤ t → t < j → ¬ ((s.get! t).toNat < 128 ∨ 191 < (s.get! t).toNat))) (fun i => 3 - (intOf i).toNat)
        case atStart => exact ⟨2, by omega, by omega, rfl, fun t h h' => by omega⟩
        case round =>
          obtain ⟨j, hj1, hj2, rfl, hg⟩ := hrel
          by_cases hj : j < 3
          · have hjs : j < s.size := by omega
            have hjs' : (j : Int) < (s.size : Int) := by omega
            have ej := gb s j hjs
            have HBAD : Hid ((s.get! j).toNat < 128 ∨ 191 < (s.get! j).toNat → X = 1) := fun hb => HX.out.symm.trans (by
              obtain rfl : j = 2 := by omega
              exact sl_3b (by decide) p1 HG.out hb)
            by_cases q1 : ((s[j]'hjs).toNat : Int) < 128
            · have hx : X = 1 := HBAD.out (by rw [ej]; omega)
              subst hx
              clear ej
              go_wp2
              go_ret
              exact ⟨rfl, rfl⟩
            · by_cases q2 : 191 < ((s[j]'hjs).toNat : Int)
              · have hx : X = 1 := HBAD.out (by rw [ej]; omega)
                subst hx
                clear ej
                go_wp2
                go_ret
                exact ⟨rfl, rfl⟩
              · have HE : Hid (¬ ((s.get! j).toNat < 128 ∨ 191 < (s.get! j).toNat)) := by show ¬ _; rw [ej]; omega
                clear ej
                go_wp2
                go_round
                case rel => exact ⟨j + 1, by omega, by omega, by go_num, fun t h h' => by
                  rcases (by omega : t < j ∨ t = j) with h2 | rfl
                  · exact hg.out t h h2
                  · exact HE.out⟩
                case measure => simp [intOf]; omega
          · have hx : X = 3 := HX.out.symm.trans (sl_3 p1 HG.out (hg.out 2 (by omega) (by omega)))
            obtain rfl : j = 3 := by omega
            subst hx
            go_wp2
            go_ret
            exact ⟨rfl, rfl⟩
set_option maxHeartbeats 4000000 in
theorem width_ED (s : ByteArray) (h0 : 0 < s.size) (hs : s.size ≤ 9223372036854775807) (hc : 237 ≤ (s[0]'h0).toNat ∧ (s[0]'h0).toNat ≤ 237) (w : World) :
    Calls Tryd.prog 54 #[.string s] w fun e w' => e = .returned (.int .i64 ((Lib.slowN s.size (s.get! 0).toNat (s.get! 1).toNat (s.get! 2).toNat (s.get! 3).toNat 3 128 159).2 : Nat)) ∧ w' = w := by
  have h0' : (0 : Int) < (s.size : Int) := by omega
  generalize hX : (Lib.slowN s.size (s.get! 0).toNat (s.get! 1).toNat (s.get! 2).toNat (s.get! 3).toNat 3 128 159).2 = X at *
  have HX : Hid (_ = X) := hX
  clear hX
  obtain ⟨hc1, hc2⟩ := hc
  have t1 : ¬ ((s[0]'h0).toNat : Int) < 128 := by omega
  have t2 : (194 : Int) ≤ ((s[0]'h0).toNat : Int) := by omega
  have t2b : ¬ ((s[0]'h0).toNat : Int) ≤ 223 := by omega
  have t3 : (224 : Int) ≤ ((s[0]'h0).toNat : Int) := by omega
  have t3b : ((s[0]'h0).toNat : Int) ≤ 239 := by omega
  have t3c : (((s[0]'h0).toNat : Int) == 224) = false := by simp; omega
  have t3d : (((s[0]'h0).toNat : Int) == 237) = true := by simp; omega
  clear hc1 hc2
  by_cases p1 : s.size < 3
  · have p1' : (s.size : Int) < 3 := by omega
    have hx : X = 1 := HX.out.symm.trans (sl_short p1)
    subst hx
    go_enter Tryd.func54, Tryd.ntmps54
    go_wp2
    go_ret
    exact ⟨rfl, rfl⟩
  · have p1' : ¬ (s.size : Int) < 3 := by omega
    have h1 : 1 < s.size := by omega
    have h1' : (1 : Int) < (s.size : Int) := by omega
    have e1 := gb s 1 h1
    by_cases p2 : ((s[1]'h1).toNat : Int) < 128
    · have hx : X = 1 := HX.out.symm.trans (sl_b1 p1 (by rw [e1]; omega))
      subst hx
      clear e1
      go_enter Tryd.func54, Tryd.ntmps54
      go_wp2
      go_ret
      exact ⟨rfl, rfl⟩
    · by_cases p3 : 159 < ((s[1]'h1).toNat : Int)
      · have hx : X = 1 := HX.out.symm.trans (sl_b1 p1 (by rw [e1]; omega))
        subst hx
        clear e1
        go_enter Tryd.func54, Tryd.ntmps54
        go_wp2
        go_ret
        exact ⟨rfl, rfl⟩
      · have HG : Hid (¬ ((s.get! 1).toNat < 128 ∨ 159 < (s.get! 1).toNat)) := by show ¬ _; rw [e1]; omega
        clear e1
        go_enter Tryd.func54, Tryd.ntmps54
        go_wp2
        go_loop [7] (fun i => ∃ j : Nat, 2 ≤ j ∧ j ≤ 3 ∧ i = .int .i64 j ∧ Hid (∀ t, 2 ≤ t → t < j → ¬ ((s.get! t).toNat < 128 ∨ 191 < (s.get! t).toNat))) (fun i => 3 - (intOf i).toNat)
        case atStart => exact ⟨2, by omega, by omega, rfl, fun t h h' => by omega⟩
        case round =>
          obtain ⟨j, hj1, hj2, rfl, hg⟩ := hrel
          by_cases hj : j < 3
          · have hjs : j < s.size := by omega
            have hjs' : (j : Int) < (s.size : Int) := by omega
            have ej := gb s j hjs
            have HBAD : Hid ((s.get! j).toNat < 128 ∨ 191 < (s.get! j).toNat → X = 1) := fun hb => HX.out.symm.trans (by
              obtain rfl : j = 2 := by omega
              exact sl_3b (by decide) p1 HG.out hb)
            by_cases q1 : ((s[j]'hjs).toNat : Int) < 128
            · have hx : X = 1 := HBAD.out (by rw [ej]; omega)
              subst hx
              clear ej
              go_wp2
              go_ret
              exact ⟨rfl, rfl⟩
            · by_cases q2 : 191 < ((s[j]'hjs).toNat : Int)
              · have hx : X = 1 := HBAD.out (by rw [ej]; omega)
                subst hx
                clear ej
                go_wp2
                go_ret
                exact ⟨rfl, rfl⟩
              · have HE : Hid (¬ ((s.get! j).toNat < 128 ∨ 191 < (s.get! j).toNat)) := by show ¬ _; rw [ej]; omega
                clear ej
                go_wp2
                go_round
                case rel => exact ⟨j + 1, by omega, by omega, by go_num, fun t h h' => by
                  rcases (by omega : t < j ∨ t = j) with h2 | rfl
                  · exact hg.out t h h2
                  · exact HE.out⟩
                case measure => simp [intOf]; omega
          · have hx : X = 3 := HX.out.symm.trans (sl_3 p1 HG.out (hg.out 2 (by omega) (by omega)))
            obtain rfl : j = 3 := by omega
            subst hx
            go_wp2
            go_ret
            exact ⟨rfl, rfl⟩
set_option maxHeartbeats 4000000 in
theorem width_Eb (s : ByteArray) (h0 : 0 < s.size) (hs : s.size ≤ 9223372036854775807) (hc : 238 ≤ (s[0]'h0).toNat ∧ (s[0]'h0).toNat ≤ 239) (w : World) :
    Calls Tryd.prog 54 #[.string s] w fun e w' => e = .returned (.int .i64 ((Lib.slowN s.size (s.get! 0).toNat (s.get! 1).toNat (s.get! 2).toNat (s.get! 3).toNat 3 128 191).2 : Nat)) ∧ w' = w := by
  have h0' : (0 : Int) < (s.size : Int) := by omega
  generalize hX : (Lib.slowN s.size (s.get! 0).toNat (s.get! 1).toNat (s.get! 2).toNat (s.get! 3).toNat 3 128 191).2 = X at *
  have HX : Hid (_ = X) := hX
  clear hX
  obtain ⟨hc1, hc2⟩ := hc
  have t1 : ¬ ((s[0]'h0).toNat : Int) < 128 := by omega
  have t2 : (194 : Int) ≤ ((s[0]'h0).toNat : Int) := by omega
  have t2b : ¬ ((s[0]'h0).toNat : Int) ≤ 223 := by omega
  have t3 : (224 : Int) ≤ ((s[0]'h0).toNat : Int) := by omega
  have t3b : ((s[0]'h0).toNat : Int) ≤ 239 := by omega
  have t3c : (((s[0]'h0).toNat : Int) == 224) = false := by simp; omega
  have t3d : (((s[0]'h0).toNat : Int) == 237) = false := by simp; omega
  clear hc1 hc2
  by_cases p1 : s.size < 3
  · have p1' : (s.size : Int) < 3 := by omega
    have hx : X = 1 := HX.out.symm.trans (sl_short p1)
    subst hx
    go_enter Tryd.func54, Tryd.ntmps54
    go_wp2
    go_ret
    exact ⟨rfl, rfl⟩
  · have p1' : ¬ (s.size : Int) < 3 := by omega
    have h1 : 1 < s.size := by omega
    have h1' : (1 : Int) < (s.size : Int) := by omega
    have e1 := gb s 1 h1
    by_cases p2 : ((s[1]'h1).toNat : Int) < 128
    · have hx : X = 1 := HX.out.symm.trans (sl_b1 p1 (by rw [e1]; omega))
      subst hx
      clear e1
      go_enter Tryd.func54, Tryd.ntmps54
      go_wp2
      go_ret
      exact ⟨rfl, rfl⟩
    · by_cases p3 : 191 < ((s[1]'h1).toNat : Int)
      · have hx : X = 1 := HX.out.symm.trans (sl_b1 p1 (by rw [e1]; omega))
        subst hx
        clear e1
        go_enter Tryd.func54, Tryd.ntmps54
        go_wp2
        go_ret
        exact ⟨rfl, rfl⟩
      · have HG : Hid (¬ ((s.get! 1).toNat < 128 ∨ 191 < (s.get! 1).toNat)) := by show ¬ _; rw [e1]; omega
        clear e1
        go_enter Tryd.func54, Tryd.ntmps54
        go_wp2
        go_loop [7] (fun i => ∃ j : Nat, 2 ≤ j ∧ j ≤ 3 ∧ i = .int .i64 j ∧ Hid (∀ t, 2 ≤ t → t < j → ¬ ((s.get! t).toNat < 128 ∨ 191 < (s.get! t).toNat))) (fun i => 3 - (intOf i).toNat)
        case atStart => exact ⟨2, by omega, by omega, rfl, fun t h h' => by omega⟩
        case round =>
          obtain ⟨j, hj1, hj2, rfl, hg⟩ := hrel
          by_cases hj : j < 3
          · have hjs : j < s.size := by omega
            have hjs' : (j : Int) < (s.size : Int) := by omega
            have ej := gb s j hjs
            have HBAD : Hid ((s.get! j).toNat < 128 ∨ 191 < (s.get! j).toNat → X = 1) := fun hb => HX.out.symm.trans (by
              obtain rfl : j = 2 := by omega
              exact sl_3b (by decide) p1 HG.out hb)
            by_cases q1 : ((s[j]'hjs).toNat : Int) < 128
            · have hx : X = 1 := HBAD.out (by rw [ej]; omega)
              subst hx
              clear ej
              go_wp2
              go_ret
              exact ⟨rfl, rfl⟩
            · by_cases q2 : 191 < ((s[j]'hjs).toNat : Int)
              · have hx : X = 1 := HBAD.out (by rw [ej]; omega)
                subst hx
                clear ej
                go_wp2
                go_ret
                exact ⟨rfl, rfl⟩
              · have HE : Hid (¬ ((s.get! j).toNat < 128 ∨ 191 < (s.get! j).toNat)) := by show ¬ _; rw [ej]; omega
                clear ej
                go_wp2
                go_round
                case rel => exact ⟨j + 1, by omega, by omega, by go_num, fun t h h' => by
                  rcases (by omega : t < j ∨ t = j) with h2 | rfl
                  · exact hg.out t h h2
                  · exact HE.out⟩
                case measure => simp [intOf]; omega
          · have hx : X = 3 := HX.out.symm.trans (sl_3 p1 HG.out (hg.out 2 (by omega) (by omega)))
            obtain rfl : j = 3 := by omega
            subst hx
            go_wp2
            go_ret
            exact ⟨rfl, rfl⟩
set_option maxHeartbeats 4000000 in
theorem width_F0 (s : ByteArray) (h0 : 0 < s.size) (hs : s.size ≤ 9223372036854775807) (hc : 240 ≤ (s[0]'h0).toNat ∧ (s[0]'h0).toNat ≤ 240) (w : World) :
    Calls Tryd.prog 54 #[.string s] w fun e w' => e = .returned (.int .i64 ((Lib.slowN s.size (s.get! 0).toNat (s.get! 1).toNat (s.get! 2).toNat (s.get! 3).toNat 4 144 191).2 : Nat)) ∧ w' = w := by
  have h0' : (0 : Int) < (s.size : Int) := by omega
  generalize hX : (Lib.slowN s.size (s.get! 0).toNat (s.get! 1).toNat (s.get! 2).toNat (s.get! 3).toNat 4 144 191).2 = X at *
  have HX : Hid (_ = X) := hX
  clear hX
  obtain ⟨hc1, hc2⟩ := hc
  have t1 : ¬ ((s[0]'h0).toNat : Int) < 128 := by omega
  have t2 : (194 : Int) ≤ ((s[0]'h0).toNat : Int) := by omega
  have t2b : ¬ ((s[0]'h0).toNat : Int) ≤ 223 := by omega
  have t3 : (224 : Int) ≤ ((s[0]'h0).toNat : Int) := by omega
  have t3b : ¬ ((s[0]'h0).toNat : Int) ≤ 239 := by omega
  have t4 : (240 : Int) ≤ ((s[0]'h0).toNat : Int) := by omega
  have t4b : ((s[0]'h0).toNat : Int) ≤ 244 := by omega
  have t4c : (((s[0]'h0).toNat : Int) == 240) = true := by simp; omega
  have t4d : (((s[0]'h0).toNat : Int) == 244) = false := by simp; omega
  clear hc1 hc2
  by_cases p1 : s.size < 4
  · have p1' : (s.size : Int) < 4 := by omega
    have hx : X = 1 := HX.out.symm.trans (sl_short p1)
    subst hx
    go_enter Tryd.func54, Tryd.ntmps54
    go_wp2
    go_ret
    exact ⟨rfl, rfl⟩
  · have p1' : ¬ (s.size : Int) < 4 := by omega
    have h1 : 1 < s.size := by omega
    have h1' : (1 : Int) < (s.size : Int) := by omega
    have e1 := gb s 1 h1
    by_cases p2 : ((s[1]'h1).toNat : Int) < 144
    · have hx : X = 1 := HX.out.symm.trans (sl_b1 p1 (by rw [e1]; omega))
      subst hx
      clear e1
      go_enter Tryd.func54, Tryd.ntmps54
      go_wp2
      go_ret
      exact ⟨rfl, rfl⟩
    · by_cases p3 : 191 < ((s[1]'h1).toNat : Int)
      · have hx : X = 1 := HX.out.symm.trans (sl_b1 p1 (by rw [e1]; omega))
        subst hx
        clear e1
        go_enter Tryd.func54, Tryd.ntmps54
        go_wp2
        go_ret
        exact ⟨rfl, rfl⟩
      · have HG : Hid (¬ ((s.get! 1).toNat < 144 ∨ 191 < (s.get! 1).toNat)) := by show ¬ _; rw [e1]; omega
        clear e1
        go_enter Tryd.func54, Tryd.ntmps54
        go_wp2
        go_loop [7] (fun i => ∃ j : Nat, 2 ≤ j ∧ j ≤ 4 ∧ i = .int .i64 j ∧ Hid (∀ t, 2 ≤ t → t < j → ¬ ((s.get! t).toNat < 128 ∨ 191 < (s.get! t).toNat))) (fun i => 4 - (intOf i).toNat)
        case atStart => exact ⟨2, by omega, by omega, rfl, fun t h h' => by omega⟩
        case round =>
          obtain ⟨j, hj1, hj2, rfl, hg⟩ := hrel
          by_cases hj : j < 4
          · have hjs : j < s.size := by omega
            have hjs' : (j : Int) < (s.size : Int) := by omega
            have ej := gb s j hjs
            have HBAD : Hid ((s.get! j).toNat < 128 ∨ 191 < (s.get! j).toNat → X = 1) := fun hb => HX.out.symm.trans (by
              rcases (by omega : j = 2 ∨ j = 3) with rfl | rfl
              · exact sl_3b (by decide) p1 HG.out hb
              · exact sl_4b p1 HG.out (hg.out 2 (by omega) (by omega)) hb)
            by_cases q1 : ((s[j]'hjs).toNat : Int) < 128
            · have hx : X = 1 := HBAD.out (by rw [ej]; omega)
              subst hx
              clear ej
              go_wp2
              go_ret
              exact ⟨rfl, rfl⟩
            · by_cases q2 : 191 < ((s[j]'hjs).toNat : Int)
              · have hx : X = 1 := HBAD.out (by rw [ej]; omega)
                subst hx
                clear ej
                go_wp2
                go_ret
                exact ⟨rfl, rfl⟩
              · have HE : Hid (¬ ((s.get! j).toNat < 128 ∨ 191 < (s.get! j).toNat)) := by show ¬ _; rw [ej]; omega
                clear ej
                go_wp2
                go_round
                case rel => exact ⟨j + 1, by omega, by omega, by go_num, fun t h h' => by
                  rcases (by omega : t < j ∨ t = j) with h2 | rfl
                  · exact hg.out t h h2
                  · exact HE.out⟩
                case measure => simp [intOf]; omega
          · have hx : X = 4 := HX.out.symm.trans (sl_4 p1 HG.out (hg.out 2 (by omega) (by omega)) (hg.out 3 (by omega) (by omega)))
            obtain rfl : j = 4 := by omega
            subst hx
            go_wp2
            go_ret
            exact ⟨rfl, rfl⟩
set_option maxHeartbeats 4000000 in
theorem width_Fa (s : ByteArray) (h0 : 0 < s.size) (hs : s.size ≤ 9223372036854775807) (hc : 241 ≤ (s[0]'h0).toNat ∧ (s[0]'h0).toNat ≤ 243) (w : World) :
    Calls Tryd.prog 54 #[.string s] w fun e w' => e = .returned (.int .i64 ((Lib.slowN s.size (s.get! 0).toNat (s.get! 1).toNat (s.get! 2).toNat (s.get! 3).toNat 4 128 191).2 : Nat)) ∧ w' = w := by
  have h0' : (0 : Int) < (s.size : Int) := by omega
  generalize hX : (Lib.slowN s.size (s.get! 0).toNat (s.get! 1).toNat (s.get! 2).toNat (s.get! 3).toNat 4 128 191).2 = X at *
  have HX : Hid (_ = X) := hX
  clear hX
  obtain ⟨hc1, hc2⟩ := hc
  have t1 : ¬ ((s[0]'h0).toNat : Int) < 128 := by omega
  have t2 : (194 : Int) ≤ ((s[0]'h0).toNat : Int) := by omega
  have t2b : ¬ ((s[0]'h0).toNat : Int) ≤ 223 := by omega
  have t3 : (224 : Int) ≤ ((s[0]'h0).toNat : Int) := by omega
  have t3b : ¬ ((s[0]'h0).toNat : Int) ≤ 239 := by omega
  have t4 : (240 : Int) ≤ ((s[0]'h0).toNat : Int) := by omega
  have t4b : ((s[0]'h0).toNat : Int) ≤ 244 := by omega
  have t4c : (((s[0]'h0).toNat : Int) == 240) = false := by simp; omega
  have t4d : (((s[0]'h0).toNat : Int) == 244) = false := by simp; omega
  clear hc1 hc2
  by_cases p1 : s.size < 4
  · have p1' : (s.size : Int) < 4 := by omega
    have hx : X = 1 := HX.out.symm.trans (sl_short p1)
    subst hx
    go_enter Tryd.func54, Tryd.ntmps54
    go_wp2
    go_ret
    exact ⟨rfl, rfl⟩
  · have p1' : ¬ (s.size : Int) < 4 := by omega
    have h1 : 1 < s.size := by omega
    have h1' : (1 : Int) < (s.size : Int) := by omega
    have e1 := gb s 1 h1
    by_cases p2 : ((s[1]'h1).toNat : Int) < 128
    · have hx : X = 1 := HX.out.symm.trans (sl_b1 p1 (by rw [e1]; omega))
      subst hx
      clear e1
      go_enter Tryd.func54, Tryd.ntmps54
      go_wp2
      go_ret
      exact ⟨rfl, rfl⟩
    · by_cases p3 : 191 < ((s[1]'h1).toNat : Int)
      · have hx : X = 1 := HX.out.symm.trans (sl_b1 p1 (by rw [e1]; omega))
        subst hx
        clear e1
        go_enter Tryd.func54, Tryd.ntmps54
        go_wp2
        go_ret
        exact ⟨rfl, rfl⟩
      · have HG : Hid (¬ ((s.get! 1).toNat < 128 ∨ 191 < (s.get! 1).toNat)) := by show ¬ _; rw [e1]; omega
        clear e1
        go_enter Tryd.func54, Tryd.ntmps54
        go_wp2
        go_loop [7] (fun i => ∃ j : Nat, 2 ≤ j ∧ j ≤ 4 ∧ i = .int .i64 j ∧ Hid (∀ t, 2 ≤ t → t < j → ¬ ((s.get! t).toNat < 128 ∨ 191 < (s.get! t).toNat))) (fun i => 4 - (intOf i).toNat)
        case atStart => exact ⟨2, by omega, by omega, rfl, fun t h h' => by omega⟩
        case round =>
          obtain ⟨j, hj1, hj2, rfl, hg⟩ := hrel
          by_cases hj : j < 4
          · have hjs : j < s.size := by omega
            have hjs' : (j : Int) < (s.size : Int) := by omega
            have ej := gb s j hjs
            have HBAD : Hid ((s.get! j).toNat < 128 ∨ 191 < (s.get! j).toNat → X = 1) := fun hb => HX.out.symm.trans (by
              rcases (by omega : j = 2 ∨ j = 3) with rfl | rfl
              · exact sl_3b (by decide) p1 HG.out hb
              · exact sl_4b p1 HG.out (hg.out 2 (by omega) (by omega)) hb)
            by_cases q1 : ((s[j]'hjs).toNat : Int) < 128
            · have hx : X = 1 := HBAD.out (by rw [ej]; omega)
              subst hx
              clear ej
              go_wp2
              go_ret
              exact ⟨rfl, rfl⟩
            · by_cases q2 : 191 < ((s[j]'hjs).toNat : Int)
              · have hx : X = 1 := HBAD.out (by rw [ej]; omega)
                subst hx
                clear ej
                go_wp2
                go_ret
                exact ⟨rfl, rfl⟩
              · have HE : Hid (¬ ((s.get! j).toNat < 128 ∨ 191 < (s.get! j).toNat)) := by show ¬ _; rw [ej]; omega
                clear ej
                go_wp2
                go_round
                case rel => exact ⟨j + 1, by omega, by omega, by go_num, fun t h h' => by
                  rcases (by omega : t < j ∨ t = j) with h2 | rfl
                  · exact hg.out t h h2
                  · exact HE.out⟩
                case measure => simp [intOf]; omega
          · have hx : X = 4 := HX.out.symm.trans (sl_4 p1 HG.out (hg.out 2 (by omega) (by omega)) (hg.out 3 (by omega) (by omega)))
            obtain rfl : j = 4 := by omega
            subst hx
            go_wp2
            go_ret
            exact ⟨rfl, rfl⟩
set_option maxHeartbeats 4000000 in
theorem width_F4 (s : ByteArray) (h0 : 0 < s.size) (hs : s.size ≤ 9223372036854775807) (hc : 244 ≤ (s[0]'h0).toNat ∧ (s[0]'h0).toNat ≤ 244) (w : World) :
    Calls Tryd.prog 54 #[.string s] w fun e w' => e = .returned (.int .i64 ((Lib.slowN s.size (s.get! 0).toNat (s.get! 1).toNat (s.get! 2).toNat (s.get! 3).toNat 4 128 143).2 : Nat)) ∧ w' = w := by
  have h0' : (0 : Int) < (s.size : Int) := by omega
  generalize hX : (Lib.slowN s.size (s.get! 0).toNat (s.get! 1).toNat (s.get! 2).toNat (s.get! 3).toNat 4 128 143).2 = X at *
  have HX : Hid (_ = X) := hX
  clear hX
  obtain ⟨hc1, hc2⟩ := hc
  have t1 : ¬ ((s[0]'h0).toNat : Int) < 128 := by omega
  have t2 : (194 : Int) ≤ ((s[0]'h0).toNat : Int) := by omega
  have t2b : ¬ ((s[0]'h0).toNat : Int) ≤ 223 := by omega
  have t3 : (224 : Int) ≤ ((s[0]'h0).toNat : Int) := by omega
  have t3b : ¬ ((s[0]'h0).toNat : Int) ≤ 239 := by omega
  have t4 : (240 : Int) ≤ ((s[0]'h0).toNat : Int) := by omega
  have t4b : ((s[0]'h0).toNat : Int) ≤ 244 := by omega
  have t4c : (((s[0]'h0).toNat : Int) == 240) = false := by simp; omega
  have t4d : (((s[0]'h0).toNat : Int) == 244) = true := by simp; omega
  clear hc1 hc2
  by_cases p1 : s.size < 4
  · have p1' : (s.size : Int) < 4 := by omega
    have hx : X = 1 := HX.out.symm.trans (sl_short p1)
    subst hx
    go_enter Tryd.func54, Tryd.ntmps54
    go_wp2
    go_ret
    exact ⟨rfl, rfl⟩
  · have p1' : ¬ (s.size : Int) < 4 := by omega
    have h1 : 1 < s.size := by omega
    have h1' : (1 : Int) < (s.size : Int) := by omega
    have e1 := gb s 1 h1
    by_cases p2 : ((s[1]'h1).toNat : Int) < 128
    · have hx : X = 1 := HX.out.symm.trans (sl_b1 p1 (by rw [e1]; omega))
      subst hx
      clear e1
      go_enter Tryd.func54, Tryd.ntmps54
      go_wp2
      go_ret
      exact ⟨rfl, rfl⟩
    · by_cases p3 : 143 < ((s[1]'h1).toNat : Int)
      · have hx : X = 1 := HX.out.symm.trans (sl_b1 p1 (by rw [e1]; omega))
        subst hx
        clear e1
        go_enter Tryd.func54, Tryd.ntmps54
        go_wp2
        go_ret
        exact ⟨rfl, rfl⟩
      · have HG : Hid (¬ ((s.get! 1).toNat < 128 ∨ 143 < (s.get! 1).toNat)) := by show ¬ _; rw [e1]; omega
        clear e1
        go_enter Tryd.func54, Tryd.ntmps54
        go_wp2
        go_loop [7] (fun i => ∃ j : Nat, 2 ≤ j ∧ j ≤ 4 ∧ i = .int .i64 j ∧ Hid (∀ t, 2 ≤ t → t < j → ¬ ((s.get! t).toNat < 128 ∨ 191 < (s.get! t).toNat))) (fun i => 4 - (intOf i).toNat)
        case atStart => exact ⟨2, by omega, by omega, rfl, fun t h h' => by omega⟩
        case round =>
          obtain ⟨j, hj1, hj2, rfl, hg⟩ := hrel
          by_cases hj : j < 4
          · have hjs : j < s.size := by omega
            have hjs' : (j : Int) < (s.size : Int) := by omega
            have ej := gb s j hjs
            have HBAD : Hid ((s.get! j).toNat < 128 ∨ 191 < (s.get! j).toNat → X = 1) := fun hb => HX.out.symm.trans (by
              rcases (by omega : j = 2 ∨ j = 3) with rfl | rfl
              · exact sl_3b (by decide) p1 HG.out hb
              · exact sl_4b p1 HG.out (hg.out 2 (by omega) (by omega)) hb)
            by_cases q1 : ((s[j]'hjs).toNat : Int) < 128
            · have hx : X = 1 := HBAD.out (by rw [ej]; omega)
              subst hx
              clear ej
              go_wp2
              go_ret
              exact ⟨rfl, rfl⟩
            · by_cases q2 : 191 < ((s[j]'hjs).toNat : Int)
              · have hx : X = 1 := HBAD.out (by rw [ej]; omega)
                subst hx
                clear ej
                go_wp2
                go_ret
                exact ⟨rfl, rfl⟩
              · have HE : Hid (¬ ((s.get! j).toNat < 128 ∨ 191 < (s.get! j).toNat)) := by show ¬ _; rw [ej]; omega
                clear ej
                go_wp2
                go_round
                case rel => exact ⟨j + 1, by omega, by omega, by go_num, fun t h h' => by
                  rcases (by omega : t < j ∨ t = j) with h2 | rfl
                  · exact hg.out t h h2
                  · exact HE.out⟩
                case measure => simp [intOf]; omega
          · have hx : X = 4 := HX.out.symm.trans (sl_4 p1 HG.out (hg.out 2 (by omega) (by omega)) (hg.out 3 (by omega) (by omega)))
            obtain rfl : j = 4 := by omega
            subst hx
            go_wp2
            go_ret
            exact ⟨rfl, rfl⟩
end Go.Proofs.YtelpllilepkjmaaDoor
