/- NRParse. -/
import Derived.Test.YtnibldnfbikipaaGreatDoorNRPrintBy
set_option linter.unusedVariables false
set_option linter.unusedSimpArgs false
set_option maxHeartbeats 16000000
set_option maxRecDepth 100000
namespace Go.Proofs.YtnibldnfbikipaaGreatDoor
open Go.RowKit
theorem pad_step (t : ByteArray) (L : List UInt8) (h : ∃ j, t = ⟨(L ++ List.replicate j 48).toArray⟩) : ∃ j, t ++ ⟨#[48]⟩ = ⟨(L ++ List.replicate j 48).toArray⟩ := by
 obtain ⟨j, rfl⟩ := h
 refine ⟨j + 1, ?_⟩
 rw [show (⟨#[48]⟩ : ByteArray) = ⟨([48] : List UInt8).toArray⟩ from rfl, app_mk, List.append_assoc, ← List.replicate_succ']
theorem pad_num (L : List UInt8) (j : Nat) : numD (L ++ List.replicate j 48) = numD L * 10 ^ j := by
 rw [numD_append, numD_zeros, List.length_replicate, Nat.add_zero]
theorem all_rep : ∀ j : Nat, (List.replicate j (48 : UInt8)).all isD = true
 | 0 => rfl
 | j + 1 => by rw [List.replicate_succ, List.all_cons, all_rep j]; rfl
theorem num_step (B : ByteArray) (k : Nat) (h : k < B.size) : numD (B.data.toList.take (k + 1)) = numD (B.data.toList.take k) * 10 + ((B[k]'h).toNat - 48) := by
 rw [take_snoc _ _ (by rw [size_list]; exact h), numD_append, ← byte_at B k h (by rw [size_list]; exact h)]
 simp [numD, numG]
theorem pow16 : ∀ k : Nat, k ≤ 16 → 10 ^ k ≤ 10000000000000000 := by decide
theorem all_take (l : List UInt8) (k : Nat) (h : l.all isD = true) : (l.take k).all isD = true := by
 rw [List.all_eq_true] at *
 exact fun x hx => h x (List.mem_of_mem_take hx)
theorem rp_b0_A0 {s0 s1 A2 A3 : ByteArray} {w : World} (hs : s0.size ≤ 9223372036854775807) (hs1 : s1.size ≤ 9223372036854775807) (h0 : s1.size = 0)
  (G1 : ∀ u : World, Calls Tryz.prog 238 #[.string s1, .int .i64 1, .int .i64 12] u fun e w' => e = .returned (.bool false) ∧ w' = u)
  (hno : Hid (∀ k (h : k < s1.size), ((((s1[k]'h).toNat : Nat) : Int) == 46) = false)) :
  Calls Tryz.prog 198 #[.string s1] w fun e w' => e = .returned (two (0, false)) ∧ Below w.heap.size w w' := by
 go_enter Tryz.func198, Tryz.ntmps198
 go_wp2
 go_loop [5, 6, 7, 8] (fun u5 u6 u7 u8 => ∃ k : Nat, k ≤ s1.size ∧ u5 = .string s1 ∧ u6 = .string ⟨#[]⟩ ∧ u7 = .bool false ∧ u8 = .int .i64 k) (fun _ _ _ u8 => s1.size - (intOf u8).toNat)
 case atStart => exact ⟨0, Nat.zero_le _, rfl, rfl, rfl, rfl⟩
 case round =>
  obtain ⟨k, hk, rfl, rfl, rfl, rfl⟩ := hrel
  by_cases hlt : k < s1.size
  ·omega
  ·have hlt' : ¬ (k : Int) < (s1.size : Int) := by omega
   go_wp2_with fail
   refine (G1 _).mono ?_
   rintro e w' ⟨rfl, hw⟩
   obtain rfl := hw.symm
   clear hw
   go_wp2
   go_ret2
   exact ⟨rfl, Below.refl _ _⟩
theorem rp_b1_A0 {s0 s1 A2 A3 : ByteArray} {w : World} (hs : s0.size ≤ 9223372036854775807) (hs1 : s1.size ≤ 9223372036854775807) (h1 : 0 < s1.size) (hb : ((((s1[0]'h1).toNat : Nat) : Int) == 45) = false)
  (G1 : ∀ u : World, Calls Tryz.prog 238 #[.string s1, .int .i64 1, .int .i64 12] u fun e w' => e = .returned (.bool false) ∧ w' = u)
  (hno : Hid (∀ k (h : k < s1.size), ((((s1[k]'h).toNat : Nat) : Int) == 46) = false)) :
  Calls Tryz.prog 198 #[.string s1] w fun e w' => e = .returned (two (0, false)) ∧ Below w.heap.size w w' := by
 go_enter Tryz.func198, Tryz.ntmps198
 go_wp2
 go_loop [5, 6, 7, 8] (fun u5 u6 u7 u8 => ∃ k : Nat, k ≤ s1.size ∧ u5 = .string s1 ∧ u6 = .string ⟨#[]⟩ ∧ u7 = .bool false ∧ u8 = .int .i64 k) (fun _ _ _ u8 => s1.size - (intOf u8).toNat)
 case atStart => exact ⟨0, Nat.zero_le _, rfl, rfl, rfl, rfl⟩
 case round =>
  obtain ⟨k, hk, rfl, rfl, rfl, rfl⟩ := hrel
  by_cases hlt : k < s1.size
  ·have hq := hno.out k hlt
   go_wp2
   go_round
   case rel => exact ⟨k + 1, by omega, rfl, rfl, rfl, by go_num⟩
   case measure => simp [intOf]; omega
  ·have hlt' : ¬ (k : Int) < (s1.size : Int) := by omega
   go_wp2_with fail
   refine (G1 _).mono ?_
   rintro e w' ⟨rfl, hw⟩
   obtain rfl := hw.symm
   clear hw
   go_wp2
   go_ret2
   exact ⟨rfl, Below.refl _ _⟩
theorem rp_b1_A1 {s0 s1 A2 A3 : ByteArray} {w : World} (hs : s0.size ≤ 9223372036854775807) (hs1 : s1.size ≤ 9223372036854775807) (h1 : 0 < s1.size) (hb : ((((s1[0]'h1).toNat : Nat) : Int) == 45) = false)
  (G1 : ∀ u : World, Calls Tryz.prog 238 #[.string s1, .int .i64 1, .int .i64 12] u fun e w' => e = .returned (.bool true) ∧ w' = u)
  (hno : Hid (∀ k (h : k < s1.size), ((((s1[k]'h).toNat : Nat) : Int) == 46) = false))
  (LR : List UInt8) (V : Nat) (hW : 1 ≤ s1.size ∧ s1.size ≤ 12) (h3 : (⟨#[]⟩ : ByteArray).size ≤ 4) (hLR : Hid ((⟨#[]⟩ : ByteArray) = ⟨LR.toArray⟩))
  (hB : Hid (∀ t : ByteArray, t.size = 4 → (∃ j, t = ⟨(LR ++ List.replicate j 48).toArray⟩) → (s1 ++ t).size ≤ 16 ∧ (s1 ++ t).data.toList.all isD = true ∧ numD (s1 ++ t).data.toList = V)) (hV : V < 10000000000000000) :
  Calls Tryz.prog 198 #[.string s1] w fun e w' => e = .returned (two (ans (V : Int))) ∧ Below w.heap.size w w' := by
 go_enter Tryz.func198, Tryz.ntmps198
 go_wp2
 go_loop [5, 6, 7, 8] (fun u5 u6 u7 u8 => ∃ k : Nat, k ≤ s1.size ∧ u5 = .string s1 ∧ u6 = .string ⟨#[]⟩ ∧ u7 = .bool false ∧ u8 = .int .i64 k) (fun _ _ _ u8 => s1.size - (intOf u8).toNat)
 case atStart => exact ⟨0, Nat.zero_le _, rfl, rfl, rfl, rfl⟩
 case round =>
  obtain ⟨k, hk, rfl, rfl, rfl, rfl⟩ := hrel
  by_cases hlt : k < s1.size
  ·have hq := hno.out k hlt
   go_wp2
   go_round
   case rel => exact ⟨k + 1, by omega, rfl, rfl, rfl, by go_num⟩
   case measure => simp [intOf]; omega
  ·have hlt' : ¬ (k : Int) < (s1.size : Int) := by omega
   go_wp2_with fail
   refine (G1 _).mono ?_
   rintro e w' ⟨rfl, hw⟩
   obtain rfl := hw.symm
   clear hw
   go_wp2
   go_loop [6] (fun u6 => ∃ t : ByteArray, u6 = .string t ∧ t.size ≤ 4 ∧ Hid (∃ j, t = ⟨(LR ++ List.replicate j 48).toArray⟩)) (fun u6 => 4 - lenOf u6)
   case atStart => exact ⟨_, rfl, h3, 0, by rw [hLR.out]; simp⟩
   case round =>
    obtain ⟨t, rfl, ht, hH⟩ := hrel
    by_cases h4 : t.size < 4
    ·have g4 : (t.size : Int) < 4 := by omega
     have hS : (t ++ (⟨#[48]⟩ : ByteArray)).size = t.size + 1 := by rw [ByteArray.size_append]; rfl
     have hone : (⟨#[48]⟩ : ByteArray).size = 1 := rfl
     have HN : Hid (∃ j, t ++ ⟨#[48]⟩ = ⟨(LR ++ List.replicate j 48).toArray⟩) := pad_step t LR hH.out
     go_wp2
     go_round
     case rel => exact ⟨_, rfl, by omega, HN.out⟩
     case measure => simp [lenOf, hS]; omega
    ·have g4 : ¬ (t.size : Int) < 4 := by omega
     have hb := hB.out t (by omega) hH.out
     have hBt := hb.1
     have HB2 : Hid ((s1 ++ t).data.toList.all isD = true ∧ numD (s1 ++ t).data.toList = V) := hb.2
     clear hb
     have hsum : s1.size + t.size ≤ 16 := by rw [ByteArray.size_append] at hBt; exact hBt
     obtain ⟨B, hBe⟩ : ∃ B : ByteArray, s1 ++ t = B := ⟨_, rfl⟩
     rw [hBe] at hBt HB2
     go_wp2
     go_loop [9, 11] (fun u9 u11 => ∃ k N : Nat, u9 = .int .i64 N ∧ u11 = .int .i64 k ∧ k ≤ B.size ∧ N < 10000000000000000 ∧ Hid (N = numD (B.data.toList.take k))) (fun _ u11 => B.size - (intOf u11).toNat)
     case atStart => exact ⟨0, 0, rfl, rfl, Nat.zero_le _, by omega, rfl⟩
     case round =>
      obtain ⟨k, N, rfl, rfl, hk, hN, hH2⟩ := hrel
      by_cases hlt : k < B.size
      ·have hd := all_at B k hlt HB2.out.1
       simp only [isD, Bool.and_eq_true, decide_eq_true_eq] at hd
       have hst : Hid (N * 10 + ((B[k]'hlt).toNat - 48) = numD (B.data.toList.take (k + 1))) := by
        show _ = _
        rw [num_step B k hlt, ← hH2.out]
       have hbd : N * 10 + ((B[k]'hlt).toNat - 48) < 10000000000000000 := by
        rw [hst.out]
        have h1 := numD_lt _ (all_take _ (k + 1) HB2.out.1)
        have h2 := pow16 (B.data.toList.take (k + 1)).length (by have := size_list B; simp; omega)
        omega
       generalize hc : (B[k]'hlt).toNat = c at *
       go_wp2
       go_round
       case rel => exact ⟨k + 1, N * 10 + (c - 48), by go_num, by go_num, by omega, hbd, hst.out⟩
       case measure => simp [intOf]; omega
      ·have hVN : N = V := by
        rw [hH2.out, List.take_of_length_le (by rw [size_list]; omega)]
        exact HB2.out.2
       subst hVN
       go_wp2_with fail
       refine (out_any _ _).mono ?_
       rintro e w' ⟨rfl, hw⟩
       obtain rfl := hw.symm
       clear hw
       unfold two
       go_wp2
       go_ret2
       exact ⟨rfl, Below.refl _ _⟩
theorem rp_b1_B0 {s0 s1 A2 A3 : ByteArray} {w : World} (hs : s0.size ≤ 9223372036854775807) (hs1 : s1.size ≤ 9223372036854775807) (h1 : 0 < s1.size) (hb : ((((s1[0]'h1).toNat : Nat) : Int) == 45) = false)
  (G1 : ∀ u : World, Calls Tryz.prog 238 #[.string A2, .int .i64 1, .int .i64 12] u fun e w' => e = .returned (.bool false) ∧ w' = u)
  (p : Nat) (hp : p < s1.size) (hpt : ((((s1[p]'hp).toNat : Nat) : Int) == 46) = true) (hno : Hid (∀ k (h : k < p), ((((s1[k]'(Nat.lt_trans h hp)).toNat : Nat) : Int) == 46) = false)) (hA2 : s1.extract 0 p = A2) (hA3 : s1.extract (p + 1) s1.size = A3) :
  Calls Tryz.prog 198 #[.string s1] w fun e w' => e = .returned (two (0, false)) ∧ Below w.heap.size w w' := by
 go_enter Tryz.func198, Tryz.ntmps198
 go_wp2
 go_loop [5, 6, 7, 8] (fun u5 u6 u7 u8 => ∃ k : Nat, k ≤ p ∧ u5 = .string s1 ∧ u6 = .string ⟨#[]⟩ ∧ u7 = .bool false ∧ u8 = .int .i64 k) (fun _ _ _ u8 => s1.size - (intOf u8).toNat)
 case atStart => exact ⟨0, Nat.zero_le _, rfl, rfl, rfl, rfl⟩
 case round =>
  obtain ⟨k, hk, rfl, rfl, rfl, rfl⟩ := hrel
  by_cases hlt : k < p
  ·have hlt2 : k < s1.size := by omega
   have hq := hno.out k hlt
   go_wp2
   go_round
   case rel => exact ⟨k + 1, by omega, rfl, rfl, rfl, by go_num⟩
   case measure => simp [intOf]; omega
  ·obtain rfl : k = p := by omega
   go_wp2
   go_region
   go_wp2_with fail
   refine (G1 _).mono ?_
   rintro e w' ⟨rfl, hw⟩
   obtain rfl := hw.symm
   clear hw
   go_wp2
   go_ret2
   exact ⟨rfl, (Below.refl _ _).drew⟩
theorem rp_b1_B1 {s0 s1 A2 A3 : ByteArray} {w : World} (hs : s0.size ≤ 9223372036854775807) (hs1 : s1.size ≤ 9223372036854775807) (h1 : 0 < s1.size) (hb : ((((s1[0]'h1).toNat : Nat) : Int) == 45) = false)
  (G1 : ∀ u : World, Calls Tryz.prog 238 #[.string A2, .int .i64 1, .int .i64 12] u fun e w' => e = .returned (.bool true) ∧ w' = u)
  (p : Nat) (hp : p < s1.size) (hpt : ((((s1[p]'hp).toNat : Nat) : Int) == 46) = true) (hno : Hid (∀ k (h : k < p), ((((s1[k]'(Nat.lt_trans h hp)).toNat : Nat) : Int) == 46) = false)) (hA2 : s1.extract 0 p = A2) (hA3 : s1.extract (p + 1) s1.size = A3)
  (G2 : ∀ u : World, Calls Tryz.prog 238 #[.string A3, .int .i64 1, .int .i64 4] u fun e w' => e = .returned (.bool false) ∧ w' = u) :
  Calls Tryz.prog 198 #[.string s1] w fun e w' => e = .returned (two (0, false)) ∧ Below w.heap.size w w' := by
 go_enter Tryz.func198, Tryz.ntmps198
 go_wp2
 go_loop [5, 6, 7, 8] (fun u5 u6 u7 u8 => ∃ k : Nat, k ≤ p ∧ u5 = .string s1 ∧ u6 = .string ⟨#[]⟩ ∧ u7 = .bool false ∧ u8 = .int .i64 k) (fun _ _ _ u8 => s1.size - (intOf u8).toNat)
 case atStart => exact ⟨0, Nat.zero_le _, rfl, rfl, rfl, rfl⟩
 case round =>
  obtain ⟨k, hk, rfl, rfl, rfl, rfl⟩ := hrel
  by_cases hlt : k < p
  ·have hlt2 : k < s1.size := by omega
   have hq := hno.out k hlt
   go_wp2
   go_round
   case rel => exact ⟨k + 1, by omega, rfl, rfl, rfl, by go_num⟩
   case measure => simp [intOf]; omega
  ·obtain rfl : k = p := by omega
   go_wp2
   go_region
   go_wp2_with fail
   refine (G1 _).mono ?_
   rintro e w' ⟨rfl, hw⟩
   obtain rfl := hw.symm
   clear hw
   go_wp2_with fail
   refine (G2 _).mono ?_
   rintro e w' ⟨rfl, hw⟩
   obtain rfl := hw.symm
   clear hw
   go_wp2
   go_ret2
   exact ⟨rfl, (Below.refl _ _).drew⟩
theorem rp_b1_B2 {s0 s1 A2 A3 : ByteArray} {w : World} (hs : s0.size ≤ 9223372036854775807) (hs1 : s1.size ≤ 9223372036854775807) (h1 : 0 < s1.size) (hb : ((((s1[0]'h1).toNat : Nat) : Int) == 45) = false)
  (G1 : ∀ u : World, Calls Tryz.prog 238 #[.string A2, .int .i64 1, .int .i64 12] u fun e w' => e = .returned (.bool true) ∧ w' = u)
  (p : Nat) (hp : p < s1.size) (hpt : ((((s1[p]'hp).toNat : Nat) : Int) == 46) = true) (hno : Hid (∀ k (h : k < p), ((((s1[k]'(Nat.lt_trans h hp)).toNat : Nat) : Int) == 46) = false)) (hA2 : s1.extract 0 p = A2) (hA3 : s1.extract (p + 1) s1.size = A3)
  (G2 : ∀ u : World, Calls Tryz.prog 238 #[.string A3, .int .i64 1, .int .i64 4] u fun e w' => e = .returned (.bool true) ∧ w' = u)
  (LR : List UInt8) (V : Nat) (hW : 1 ≤ A2.size ∧ A2.size ≤ 12) (h3 : A3.size ≤ 4) (hLR : Hid (A3 = ⟨LR.toArray⟩))
  (hB : Hid (∀ t : ByteArray, t.size = 4 → (∃ j, t = ⟨(LR ++ List.replicate j 48).toArray⟩) → (A2 ++ t).size ≤ 16 ∧ (A2 ++ t).data.toList.all isD = true ∧ numD (A2 ++ t).data.toList = V)) (hV : V < 10000000000000000) :
  Calls Tryz.prog 198 #[.string s1] w fun e w' => e = .returned (two (ans (V : Int))) ∧ Below w.heap.size w w' := by
 go_enter Tryz.func198, Tryz.ntmps198
 go_wp2
 go_loop [5, 6, 7, 8] (fun u5 u6 u7 u8 => ∃ k : Nat, k ≤ p ∧ u5 = .string s1 ∧ u6 = .string ⟨#[]⟩ ∧ u7 = .bool false ∧ u8 = .int .i64 k) (fun _ _ _ u8 => s1.size - (intOf u8).toNat)
 case atStart => exact ⟨0, Nat.zero_le _, rfl, rfl, rfl, rfl⟩
 case round =>
  obtain ⟨k, hk, rfl, rfl, rfl, rfl⟩ := hrel
  by_cases hlt : k < p
  ·have hlt2 : k < s1.size := by omega
   have hq := hno.out k hlt
   go_wp2
   go_round
   case rel => exact ⟨k + 1, by omega, rfl, rfl, rfl, by go_num⟩
   case measure => simp [intOf]; omega
  ·obtain rfl : k = p := by omega
   go_wp2
   go_region
   go_wp2_with fail
   refine (G1 _).mono ?_
   rintro e w' ⟨rfl, hw⟩
   obtain rfl := hw.symm
   clear hw
   go_wp2_with fail
   refine (G2 _).mono ?_
   rintro e w' ⟨rfl, hw⟩
   obtain rfl := hw.symm
   clear hw
   go_wp2
   go_loop [6] (fun u6 => ∃ t : ByteArray, u6 = .string t ∧ t.size ≤ 4 ∧ Hid (∃ j, t = ⟨(LR ++ List.replicate j 48).toArray⟩)) (fun u6 => 4 - lenOf u6)
   case atStart => exact ⟨_, rfl, h3, 0, by rw [hLR.out]; simp⟩
   case round =>
    obtain ⟨t, rfl, ht, hH⟩ := hrel
    by_cases h4 : t.size < 4
    ·have g4 : (t.size : Int) < 4 := by omega
     have hS : (t ++ (⟨#[48]⟩ : ByteArray)).size = t.size + 1 := by rw [ByteArray.size_append]; rfl
     have hone : (⟨#[48]⟩ : ByteArray).size = 1 := rfl
     have HN : Hid (∃ j, t ++ ⟨#[48]⟩ = ⟨(LR ++ List.replicate j 48).toArray⟩) := pad_step t LR hH.out
     go_wp2
     go_round
     case rel => exact ⟨_, rfl, by omega, HN.out⟩
     case measure => simp [lenOf, hS]; omega
    ·have g4 : ¬ (t.size : Int) < 4 := by omega
     have hb := hB.out t (by omega) hH.out
     have hBt := hb.1
     have HB2 : Hid ((A2 ++ t).data.toList.all isD = true ∧ numD (A2 ++ t).data.toList = V) := hb.2
     clear hb
     have hsum : A2.size + t.size ≤ 16 := by rw [ByteArray.size_append] at hBt; exact hBt
     obtain ⟨B, hBe⟩ : ∃ B : ByteArray, A2 ++ t = B := ⟨_, rfl⟩
     rw [hBe] at hBt HB2
     go_wp2
     go_loop [9, 11] (fun u9 u11 => ∃ k N : Nat, u9 = .int .i64 N ∧ u11 = .int .i64 k ∧ k ≤ B.size ∧ N < 10000000000000000 ∧ Hid (N = numD (B.data.toList.take k))) (fun _ u11 => B.size - (intOf u11).toNat)
     case atStart => exact ⟨0, 0, rfl, rfl, Nat.zero_le _, by omega, rfl⟩
     case round =>
      obtain ⟨k, N, rfl, rfl, hk, hN, hH2⟩ := hrel
      by_cases hlt : k < B.size
      ·have hd := all_at B k hlt HB2.out.1
       simp only [isD, Bool.and_eq_true, decide_eq_true_eq] at hd
       have hst : Hid (N * 10 + ((B[k]'hlt).toNat - 48) = numD (B.data.toList.take (k + 1))) := by
        show _ = _
        rw [num_step B k hlt, ← hH2.out]
       have hbd : N * 10 + ((B[k]'hlt).toNat - 48) < 10000000000000000 := by
        rw [hst.out]
        have h1 := numD_lt _ (all_take _ (k + 1) HB2.out.1)
        have h2 := pow16 (B.data.toList.take (k + 1)).length (by have := size_list B; simp; omega)
        omega
       generalize hc : (B[k]'hlt).toNat = c at *
       go_wp2
       go_round
       case rel => exact ⟨k + 1, N * 10 + (c - 48), by go_num, by go_num, by omega, hbd, hst.out⟩
       case measure => simp [intOf]; omega
      ·have hVN : N = V := by
        rw [hH2.out, List.take_of_length_le (by rw [size_list]; omega)]
        exact HB2.out.2
       subst hVN
       go_wp2_with fail
       refine (out_any _ _).mono ?_
       rintro e w' ⟨rfl, hw⟩
       obtain rfl := hw.symm
       clear hw
       unfold two
       go_wp2
       go_ret2
       exact ⟨rfl, (Below.refl _ _).drew⟩
theorem rp_b2_A0 {s0 s1 A2 A3 : ByteArray} {w : World} (hs : s0.size ≤ 9223372036854775807) (hs1 : s1.size ≤ 9223372036854775807) (h1 : 0 < s0.size) (hb : ((((s0[0]'h1).toNat : Nat) : Int) == 45) = true) (he : s0.extract 1 s0.size = s1)
  (G1 : ∀ u : World, Calls Tryz.prog 238 #[.string s1, .int .i64 1, .int .i64 12] u fun e w' => e = .returned (.bool false) ∧ w' = u)
  (hno : Hid (∀ k (h : k < s1.size), ((((s1[k]'h).toNat : Nat) : Int) == 46) = false)) :
  Calls Tryz.prog 198 #[.string s0] w fun e w' => e = .returned (two (0, false)) ∧ Below w.heap.size w w' := by
 go_enter Tryz.func198, Tryz.ntmps198
 go_wp2
 go_loop [5, 6, 7, 8] (fun u5 u6 u7 u8 => ∃ k : Nat, k ≤ s1.size ∧ u5 = .string s1 ∧ u6 = .string ⟨#[]⟩ ∧ u7 = .bool false ∧ u8 = .int .i64 k) (fun _ _ _ u8 => s1.size - (intOf u8).toNat)
 case atStart => exact ⟨0, Nat.zero_le _, rfl, rfl, rfl, rfl⟩
 case round =>
  obtain ⟨k, hk, rfl, rfl, rfl, rfl⟩ := hrel
  by_cases hlt : k < s1.size
  ·have hq := hno.out k hlt
   go_wp2
   go_round
   case rel => exact ⟨k + 1, by omega, rfl, rfl, rfl, by go_num⟩
   case measure => simp [intOf]; omega
  ·have hlt' : ¬ (k : Int) < (s1.size : Int) := by omega
   go_wp2_with fail
   refine (G1 _).mono ?_
   rintro e w' ⟨rfl, hw⟩
   obtain rfl := hw.symm
   clear hw
   go_wp2
   go_ret2
   exact ⟨rfl, Below.refl _ _⟩
theorem rp_b2_A1 {s0 s1 A2 A3 : ByteArray} {w : World} (hs : s0.size ≤ 9223372036854775807) (hs1 : s1.size ≤ 9223372036854775807) (h1 : 0 < s0.size) (hb : ((((s0[0]'h1).toNat : Nat) : Int) == 45) = true) (he : s0.extract 1 s0.size = s1)
  (G1 : ∀ u : World, Calls Tryz.prog 238 #[.string s1, .int .i64 1, .int .i64 12] u fun e w' => e = .returned (.bool true) ∧ w' = u)
  (hno : Hid (∀ k (h : k < s1.size), ((((s1[k]'h).toNat : Nat) : Int) == 46) = false))
  (LR : List UInt8) (V : Nat) (hW : 1 ≤ s1.size ∧ s1.size ≤ 12) (h3 : (⟨#[]⟩ : ByteArray).size ≤ 4) (hLR : Hid ((⟨#[]⟩ : ByteArray) = ⟨LR.toArray⟩))
  (hB : Hid (∀ t : ByteArray, t.size = 4 → (∃ j, t = ⟨(LR ++ List.replicate j 48).toArray⟩) → (s1 ++ t).size ≤ 16 ∧ (s1 ++ t).data.toList.all isD = true ∧ numD (s1 ++ t).data.toList = V)) (hV : V < 10000000000000000) :
  Calls Tryz.prog 198 #[.string s0] w fun e w' => e = .returned (two (ans (-(V : Int)))) ∧ Below w.heap.size w w' := by
 go_enter Tryz.func198, Tryz.ntmps198
 go_wp2
 go_loop [5, 6, 7, 8] (fun u5 u6 u7 u8 => ∃ k : Nat, k ≤ s1.size ∧ u5 = .string s1 ∧ u6 = .string ⟨#[]⟩ ∧ u7 = .bool false ∧ u8 = .int .i64 k) (fun _ _ _ u8 => s1.size - (intOf u8).toNat)
 case atStart => exact ⟨0, Nat.zero_le _, rfl, rfl, rfl, rfl⟩
 case round =>
  obtain ⟨k, hk, rfl, rfl, rfl, rfl⟩ := hrel
  by_cases hlt : k < s1.size
  ·have hq := hno.out k hlt
   go_wp2
   go_round
   case rel => exact ⟨k + 1, by omega, rfl, rfl, rfl, by go_num⟩
   case measure => simp [intOf]; omega
  ·have hlt' : ¬ (k : Int) < (s1.size : Int) := by omega
   go_wp2_with fail
   refine (G1 _).mono ?_
   rintro e w' ⟨rfl, hw⟩
   obtain rfl := hw.symm
   clear hw
   go_wp2
   go_loop [6] (fun u6 => ∃ t : ByteArray, u6 = .string t ∧ t.size ≤ 4 ∧ Hid (∃ j, t = ⟨(LR ++ List.replicate j 48).toArray⟩)) (fun u6 => 4 - lenOf u6)
   case atStart => exact ⟨_, rfl, h3, 0, by rw [hLR.out]; simp⟩
   case round =>
    obtain ⟨t, rfl, ht, hH⟩ := hrel
    by_cases h4 : t.size < 4
    ·have g4 : (t.size : Int) < 4 := by omega
     have hS : (t ++ (⟨#[48]⟩ : ByteArray)).size = t.size + 1 := by rw [ByteArray.size_append]; rfl
     have hone : (⟨#[48]⟩ : ByteArray).size = 1 := rfl
     have HN : Hid (∃ j, t ++ ⟨#[48]⟩ = ⟨(LR ++ List.replicate j 48).toArray⟩) := pad_step t LR hH.out
     go_wp2
     go_round
     case rel => exact ⟨_, rfl, by omega, HN.out⟩
     case measure => simp [lenOf, hS]; omega
    ·have g4 : ¬ (t.size : Int) < 4 := by omega
     have hb := hB.out t (by omega) hH.out
     have hBt := hb.1
     have HB2 : Hid ((s1 ++ t).data.toList.all isD = true ∧ numD (s1 ++ t).data.toList = V) := hb.2
     clear hb
     have hsum : s1.size + t.size ≤ 16 := by rw [ByteArray.size_append] at hBt; exact hBt
     obtain ⟨B, hBe⟩ : ∃ B : ByteArray, s1 ++ t = B := ⟨_, rfl⟩
     rw [hBe] at hBt HB2
     go_wp2
     go_loop [9, 11] (fun u9 u11 => ∃ k N : Nat, u9 = .int .i64 N ∧ u11 = .int .i64 k ∧ k ≤ B.size ∧ N < 10000000000000000 ∧ Hid (N = numD (B.data.toList.take k))) (fun _ u11 => B.size - (intOf u11).toNat)
     case atStart => exact ⟨0, 0, rfl, rfl, Nat.zero_le _, by omega, rfl⟩
     case round =>
      obtain ⟨k, N, rfl, rfl, hk, hN, hH2⟩ := hrel
      by_cases hlt : k < B.size
      ·have hd := all_at B k hlt HB2.out.1
       simp only [isD, Bool.and_eq_true, decide_eq_true_eq] at hd
       have hst : Hid (N * 10 + ((B[k]'hlt).toNat - 48) = numD (B.data.toList.take (k + 1))) := by
        show _ = _
        rw [num_step B k hlt, ← hH2.out]
       have hbd : N * 10 + ((B[k]'hlt).toNat - 48) < 10000000000000000 := by
        rw [hst.out]
        have h1 := numD_lt _ (all_take _ (k + 1) HB2.out.1)
        have h2 := pow16 (B.data.toList.take (k + 1)).length (by have := size_list B; simp; omega)
        omega
       generalize hc : (B[k]'hlt).toNat = c at *
       go_wp2
       go_round
       case rel => exact ⟨k + 1, N * 10 + (c - 48), by go_num, by go_num, by omega, hbd, hst.out⟩
       case measure => simp [intOf]; omega
      ·have hVN : N = V := by
        rw [hH2.out, List.take_of_length_le (by rw [size_list]; omega)]
        exact HB2.out.2
       subst hVN
       go_wp2_with fail
       refine (out_any _ _).mono ?_
       rintro e w' ⟨rfl, hw⟩
       obtain rfl := hw.symm
       clear hw
       unfold two
       go_wp2
       go_ret2
       exact ⟨rfl, Below.refl _ _⟩
theorem rp_b2_B0 {s0 s1 A2 A3 : ByteArray} {w : World} (hs : s0.size ≤ 9223372036854775807) (hs1 : s1.size ≤ 9223372036854775807) (h1 : 0 < s0.size) (hb : ((((s0[0]'h1).toNat : Nat) : Int) == 45) = true) (he : s0.extract 1 s0.size = s1)
  (G1 : ∀ u : World, Calls Tryz.prog 238 #[.string A2, .int .i64 1, .int .i64 12] u fun e w' => e = .returned (.bool false) ∧ w' = u)
  (p : Nat) (hp : p < s1.size) (hpt : ((((s1[p]'hp).toNat : Nat) : Int) == 46) = true) (hno : Hid (∀ k (h : k < p), ((((s1[k]'(Nat.lt_trans h hp)).toNat : Nat) : Int) == 46) = false)) (hA2 : s1.extract 0 p = A2) (hA3 : s1.extract (p + 1) s1.size = A3) :
  Calls Tryz.prog 198 #[.string s0] w fun e w' => e = .returned (two (0, false)) ∧ Below w.heap.size w w' := by
 go_enter Tryz.func198, Tryz.ntmps198
 go_wp2
 go_loop [5, 6, 7, 8] (fun u5 u6 u7 u8 => ∃ k : Nat, k ≤ p ∧ u5 = .string s1 ∧ u6 = .string ⟨#[]⟩ ∧ u7 = .bool false ∧ u8 = .int .i64 k) (fun _ _ _ u8 => s1.size - (intOf u8).toNat)
 case atStart => exact ⟨0, Nat.zero_le _, rfl, rfl, rfl, rfl⟩
 case round =>
  obtain ⟨k, hk, rfl, rfl, rfl, rfl⟩ := hrel
  by_cases hlt : k < p
  ·have hlt2 : k < s1.size := by omega
   have hq := hno.out k hlt
   go_wp2
   go_round
   case rel => exact ⟨k + 1, by omega, rfl, rfl, rfl, by go_num⟩
   case measure => simp [intOf]; omega
  ·obtain rfl : k = p := by omega
   go_wp2
   go_region
   go_wp2_with fail
   refine (G1 _).mono ?_
   rintro e w' ⟨rfl, hw⟩
   obtain rfl := hw.symm
   clear hw
   go_wp2
   go_ret2
   exact ⟨rfl, (Below.refl _ _).drew⟩
theorem rp_b2_B1 {s0 s1 A2 A3 : ByteArray} {w : World} (hs : s0.size ≤ 9223372036854775807) (hs1 : s1.size ≤ 9223372036854775807) (h1 : 0 < s0.size) (hb : ((((s0[0]'h1).toNat : Nat) : Int) == 45) = true) (he : s0.extract 1 s0.size = s1)
  (G1 : ∀ u : World, Calls Tryz.prog 238 #[.string A2, .int .i64 1, .int .i64 12] u fun e w' => e = .returned (.bool true) ∧ w' = u)
  (p : Nat) (hp : p < s1.size) (hpt : ((((s1[p]'hp).toNat : Nat) : Int) == 46) = true) (hno : Hid (∀ k (h : k < p), ((((s1[k]'(Nat.lt_trans h hp)).toNat : Nat) : Int) == 46) = false)) (hA2 : s1.extract 0 p = A2) (hA3 : s1.extract (p + 1) s1.size = A3)
  (G2 : ∀ u : World, Calls Tryz.prog 238 #[.string A3, .int .i64 1, .int .i64 4] u fun e w' => e = .returned (.bool false) ∧ w' = u) :
  Calls Tryz.prog 198 #[.string s0] w fun e w' => e = .returned (two (0, false)) ∧ Below w.heap.size w w' := by
 go_enter Tryz.func198, Tryz.ntmps198
 go_wp2
 go_loop [5, 6, 7, 8] (fun u5 u6 u7 u8 => ∃ k : Nat, k ≤ p ∧ u5 = .string s1 ∧ u6 = .string ⟨#[]⟩ ∧ u7 = .bool false ∧ u8 = .int .i64 k) (fun _ _ _ u8 => s1.size - (intOf u8).toNat)
 case atStart => exact ⟨0, Nat.zero_le _, rfl, rfl, rfl, rfl⟩
 case round =>
  obtain ⟨k, hk, rfl, rfl, rfl, rfl⟩ := hrel
  by_cases hlt : k < p
  ·have hlt2 : k < s1.size := by omega
   have hq := hno.out k hlt
   go_wp2
   go_round
   case rel => exact ⟨k + 1, by omega, rfl, rfl, rfl, by go_num⟩
   case measure => simp [intOf]; omega
  ·obtain rfl : k = p := by omega
   go_wp2
   go_region
   go_wp2_with fail
   refine (G1 _).mono ?_
   rintro e w' ⟨rfl, hw⟩
   obtain rfl := hw.symm
   clear hw
   go_wp2_with fail
   refine (G2 _).mono ?_
   rintro e w' ⟨rfl, hw⟩
   obtain rfl := hw.symm
   clear hw
   go_wp2
   go_ret2
   exact ⟨rfl, (Below.refl _ _).drew⟩
theorem rp_b2_B2 {s0 s1 A2 A3 : ByteArray} {w : World} (hs : s0.size ≤ 9223372036854775807) (hs1 : s1.size ≤ 9223372036854775807) (h1 : 0 < s0.size) (hb : ((((s0[0]'h1).toNat : Nat) : Int) == 45) = true) (he : s0.extract 1 s0.size = s1)
  (G1 : ∀ u : World, Calls Tryz.prog 238 #[.string A2, .int .i64 1, .int .i64 12] u fun e w' => e = .returned (.bool true) ∧ w' = u)
  (p : Nat) (hp : p < s1.size) (hpt : ((((s1[p]'hp).toNat : Nat) : Int) == 46) = true) (hno : Hid (∀ k (h : k < p), ((((s1[k]'(Nat.lt_trans h hp)).toNat : Nat) : Int) == 46) = false)) (hA2 : s1.extract 0 p = A2) (hA3 : s1.extract (p + 1) s1.size = A3)
  (G2 : ∀ u : World, Calls Tryz.prog 238 #[.string A3, .int .i64 1, .int .i64 4] u fun e w' => e = .returned (.bool true) ∧ w' = u)
  (LR : List UInt8) (V : Nat) (hW : 1 ≤ A2.size ∧ A2.size ≤ 12) (h3 : A3.size ≤ 4) (hLR : Hid (A3 = ⟨LR.toArray⟩))
  (hB : Hid (∀ t : ByteArray, t.size = 4 → (∃ j, t = ⟨(LR ++ List.replicate j 48).toArray⟩) → (A2 ++ t).size ≤ 16 ∧ (A2 ++ t).data.toList.all isD = true ∧ numD (A2 ++ t).data.toList = V)) (hV : V < 10000000000000000) :
  Calls Tryz.prog 198 #[.string s0] w fun e w' => e = .returned (two (ans (-(V : Int)))) ∧ Below w.heap.size w w' := by
 go_enter Tryz.func198, Tryz.ntmps198
 go_wp2
 go_loop [5, 6, 7, 8] (fun u5 u6 u7 u8 => ∃ k : Nat, k ≤ p ∧ u5 = .string s1 ∧ u6 = .string ⟨#[]⟩ ∧ u7 = .bool false ∧ u8 = .int .i64 k) (fun _ _ _ u8 => s1.size - (intOf u8).toNat)
 case atStart => exact ⟨0, Nat.zero_le _, rfl, rfl, rfl, rfl⟩
 case round =>
  obtain ⟨k, hk, rfl, rfl, rfl, rfl⟩ := hrel
  by_cases hlt : k < p
  ·have hlt2 : k < s1.size := by omega
   have hq := hno.out k hlt
   go_wp2
   go_round
   case rel => exact ⟨k + 1, by omega, rfl, rfl, rfl, by go_num⟩
   case measure => simp [intOf]; omega
  ·obtain rfl : k = p := by omega
   go_wp2
   go_region
   go_wp2_with fail
   refine (G1 _).mono ?_
   rintro e w' ⟨rfl, hw⟩
   obtain rfl := hw.symm
   clear hw
   go_wp2_with fail
   refine (G2 _).mono ?_
   rintro e w' ⟨rfl, hw⟩
   obtain rfl := hw.symm
   clear hw
   go_wp2
   go_loop [6] (fun u6 => ∃ t : ByteArray, u6 = .string t ∧ t.size ≤ 4 ∧ Hid (∃ j, t = ⟨(LR ++ List.replicate j 48).toArray⟩)) (fun u6 => 4 - lenOf u6)
   case atStart => exact ⟨_, rfl, h3, 0, by rw [hLR.out]; simp⟩
   case round =>
    obtain ⟨t, rfl, ht, hH⟩ := hrel
    by_cases h4 : t.size < 4
    ·have g4 : (t.size : Int) < 4 := by omega
     have hS : (t ++ (⟨#[48]⟩ : ByteArray)).size = t.size + 1 := by rw [ByteArray.size_append]; rfl
     have hone : (⟨#[48]⟩ : ByteArray).size = 1 := rfl
     have HN : Hid (∃ j, t ++ ⟨#[48]⟩ = ⟨(LR ++ List.replicate j 48).toArray⟩) := pad_step t LR hH.out
     go_wp2
     go_round
     case rel => exact ⟨_, rfl, by omega, HN.out⟩
     case measure => simp [lenOf, hS]; omega
    ·have g4 : ¬ (t.size : Int) < 4 := by omega
     have hb := hB.out t (by omega) hH.out
     have hBt := hb.1
     have HB2 : Hid ((A2 ++ t).data.toList.all isD = true ∧ numD (A2 ++ t).data.toList = V) := hb.2
     clear hb
     have hsum : A2.size + t.size ≤ 16 := by rw [ByteArray.size_append] at hBt; exact hBt
     obtain ⟨B, hBe⟩ : ∃ B : ByteArray, A2 ++ t = B := ⟨_, rfl⟩
     rw [hBe] at hBt HB2
     go_wp2
     go_loop [9, 11] (fun u9 u11 => ∃ k N : Nat, u9 = .int .i64 N ∧ u11 = .int .i64 k ∧ k ≤ B.size ∧ N < 10000000000000000 ∧ Hid (N = numD (B.data.toList.take k))) (fun _ u11 => B.size - (intOf u11).toNat)
     case atStart => exact ⟨0, 0, rfl, rfl, Nat.zero_le _, by omega, rfl⟩
     case round =>
      obtain ⟨k, N, rfl, rfl, hk, hN, hH2⟩ := hrel
      by_cases hlt : k < B.size
      ·have hd := all_at B k hlt HB2.out.1
       simp only [isD, Bool.and_eq_true, decide_eq_true_eq] at hd
       have hst : Hid (N * 10 + ((B[k]'hlt).toNat - 48) = numD (B.data.toList.take (k + 1))) := by
        show _ = _
        rw [num_step B k hlt, ← hH2.out]
       have hbd : N * 10 + ((B[k]'hlt).toNat - 48) < 10000000000000000 := by
        rw [hst.out]
        have h1 := numD_lt _ (all_take _ (k + 1) HB2.out.1)
        have h2 := pow16 (B.data.toList.take (k + 1)).length (by have := size_list B; simp; omega)
        omega
       generalize hc : (B[k]'hlt).toNat = c at *
       go_wp2
       go_round
       case rel => exact ⟨k + 1, N * 10 + (c - 48), by go_num, by go_num, by omega, hbd, hst.out⟩
       case measure => simp [intOf]; omega
      ·have hVN : N = V := by
        rw [hH2.out, List.take_of_length_le (by rw [size_list]; omega)]
        exact HB2.out.2
       subst hVN
       go_wp2_with fail
       refine (out_any _ _).mono ?_
       rintro e w' ⟨rfl, hw⟩
       obtain rfl := hw.symm
       clear hw
       unfold two
       go_wp2
       go_ret2
       exact ⟨rfl, (Below.refl _ _).drew⟩
end Go.Proofs.YtnibldnfbikipaaGreatDoor
