import Derived.Test.YtdgnodijmbeajaaGreatDoorNRPrint2
import Derived.Lib.IndexLaws
/- The walks of the reference's Parse. -/
namespace Go.Proofs.YtdgnodijmbeajaaGreatDoor
set_option linter.unusedSimpArgs false
open Go.RowKit
set_option linter.unusedVariables false
set_option maxRecDepth 100000

theorem pad_step (t : ByteArray) (L : List UInt8) (h : ∃ j, t = ⟨(L ++ List.replicate j 48).toArray⟩) : ∃ j, t ++ ⟨#[48]⟩ = ⟨(L ++ List.replicate j 48).toArray⟩ := by
  obtain ⟨j, rfl⟩ := h
  refine ⟨j + 1, ?_⟩
  rw [show (⟨#[48]⟩ : ByteArray) = ⟨([48] : List UInt8).toArray⟩ from rfl, app_mk, List.append_assoc, ← List.replicate_succ']
theorem pad_num (L : List UInt8) (j : Nat) : numD (L ++ List.replicate j 48) = numD L * 10 ^ j := by
  rw [numD_append, numD_zeros, List.length_replicate, Nat.add_zero]
theorem all_rep : ∀ j : Nat, (List.replicate j (48 : UInt8)).all isD = true
  | 0 => rfl
  | j + 1 => by rw [List.replicate_succ, List.all_cons, all_rep j]; rfl
theorem num_step (B : ByteArray) (k : Nat) (h : k < B.size) : numD (B.data.toList.take (k + 1)) = numD (B.data.toList.take k) * 10 + ((B[k]'h).toNat - 48) := by
  rw [take_snoc _ _ (by rw [size_list]; exact h), numD_append, ← byte_at B k h (by rw [size_list]; exact h)]
  simp [numD, numG]
theorem pow16 : ∀ k : Nat, k ≤ 16 → 10 ^ k ≤ 10000000000000000 := by decide
theorem all_take (l : List UInt8) (k : Nat) (h : l.all isD = true) : (l.take k).all isD = true := by
  rw [List.all_eq_true] at *
  exact fun x hx => h x (List.mem_of_mem_take hx)

set_option maxHeartbeats 2000000 in
theorem rp_b0_A0 {s0 s1 A2 A3 : ByteArray} {w : World} (hs : s0.size ≤ 9223372036854775807) (hs1 : s1.size ≤ 9223372036854775807) (h0 : s1.size = 0)
    (G1 : ∀ u : World, Calls Tryz.prog 61 #[.string s1, .int .i64 1, .int .i64 12] u fun e w' => e = .returned (.bool false) ∧ w' = u)
    (hno : Hid (∀ k (h : k < s1.size), ((((s1[k]'h).toNat : Nat) : Int) == 46) = false)) :
    Calls Tryz.prog 34 #[.string s1] w fun e w' => e = .returned (two (0, false)) ∧ Below w.heap.size w w' := by
  go_enter Tryz.func34, Tryz.ntmps34
  go_wp2
  go_loop [5, 6, 7, 8] (fun u5 u6 u7 u8 => ∃ k : Nat, k ≤ s1.size ∧ u5 = .string s1 ∧ u6 = .string ⟨#[]⟩ ∧ u7 = .bool false ∧ u8 = .int .i64 k) (fun _ _ _ u8 => s1.size - (intOf u8).toNat)
  case atStart => exact ⟨0, Nat.zero_le _, rfl, rfl, rfl, rfl⟩
  case round =>
    obtain ⟨k, hk, rfl, rfl, rfl, rfl⟩ := hrel
    by_cases hlt : k < s1.size
    · omega
    · have hlt' : ¬ (k : Int) < (s1.size : Int) := by omega
      go_wp2_with fail
      refine (G1 _).mono ?_
      rintro e w' ⟨rfl, hw⟩
      obtain rfl := hw.symm
      clear hw
      go_wp2
      go_ret2
      exact ⟨rfl, Below.refl _ _⟩

set_option maxHeartbeats 2000000 in
theorem rp_b1_A0 {s0 s1 A2 A3 : ByteArray} {w : World} (hs : s0.size ≤ 9223372036854775807) (hs1 : s1.size ≤ 9223372036854775807) (h1 : 0 < s1.size) (hb : ((((s1[0]'h1).toNat : Nat) : Int) == 45) = false)
    (G1 : ∀ u : World, Calls Tryz.prog 61 #[.string s1, .int .i64 1, .int .i64 12] u fun e w' => e = .returned (.bool false) ∧ w' = u)
    (hno : Hid (∀ k (h : k < s1.size), ((((s1[k]'h).toNat : Nat) : Int) == 46) = false)) :
    Calls Tryz.prog 34 #[.string s1] w fun e w' => e = .returned (two (0, false)) ∧ Below w.heap.size w w' := by
  go_enter Tryz.func34, Tryz.ntmps34
  go_wp2
  go_loop [5, 6, 7, 8] (fun u5 u6 u7 u8 => ∃ k : Nat, k ≤ s1.size ∧ u5 = .string s1 ∧ u6 = .string ⟨#[]⟩ ∧ u7 = .bool false ∧ u8 = .int .i64 k) (fun _ _ _ u8 => s1.size - (intOf u8).toNat)
  case atStart => exact ⟨0, Nat.zero_le _, rfl, rfl, rfl, rfl⟩
  case round =>
    obtain ⟨k, hk, rfl, rfl, rfl, rfl⟩ := hrel
    by_cases hlt : k < s1.size
    · have hq := hno.out k hlt
      go_wp2
      go_round
      case rel => exact ⟨k + 1, by omega, rfl, rfl, rfl, by go_num⟩
      case measure => simp [intOf]; omega
    · have hlt' : ¬ (k : Int) < (s1.size : Int) := by omega
      go_wp2_with fail
      refine (G1 _).mono ?_
      rintro e w' ⟨rfl, hw⟩
      obtain rfl := hw.symm
      clear hw
      go_wp2
      go_ret2
      exact ⟨rfl, Below.refl _ _⟩

set_option maxHeartbeats 2000000 in
theorem rp_b1_A1 {s0 s1 A2 A3 : ByteArray} {w : World} (hs : s0.size ≤ 9223372036854775807) (hs1 : s1.size ≤ 9223372036854775807) (h1 : 0 < s1.size) (hb : ((((s1[0]'h1).toNat : Nat) : Int) == 45) = false)
    (G1 : ∀ u : World, Calls Tryz.prog 61 #[.string s1, .int .i64 1, .int .i64 12] u fun e w' => e = .returned (.bool true) ∧ w' = u)
    (hno : Hid (∀ k (h : k < s1.size), ((((s1[k]'h).toNat : Nat) : Int) == 46) = false))
    (LR : List UInt8) (V : Nat) (hW : 1 ≤ s1.size ∧ s1.size ≤ 12) (h3 : (⟨#[]⟩ : ByteArray).size ≤ 4) (hLR : Hid ((⟨#[]⟩ : ByteArray) = ⟨LR.toArray⟩))
    (hB : Hid (∀ t : ByteArray, t.size = 4 → (∃ j, t = ⟨(LR ++ List.replicate j 48).toArray⟩) → (s1 ++ t).size ≤ 16 ∧ (s1 ++ t).data.toList.all isD = true ∧ numD (s1 ++ t).data.toList = V)) (hV : V < 10000000000000000) :
    Calls Tryz.prog 34 #[.string s1] w fun e w' => e = .returned (two (ans (V : Int))) ∧ Below w.heap.size w w' := by
  go_enter Tryz.func34, Tryz.ntmps34
  go_wp2
  go_loop [5, 6, 7, 8] (fun u5 u6 u7 u8 => ∃ k : Nat, k ≤ s1.size ∧ u5 = .string s1 ∧ u6 = .string ⟨#[]⟩ ∧ u7 = .bool false ∧ u8 = .int .i64 k) (fun _ _ _ u8 => s1.size - (intOf u8).toNat)
  case atStart => exact ⟨0, Nat.zero_le _, rfl, rfl, rfl, rfl⟩
  case round =>
    obtain ⟨k, hk, rfl, rfl, rfl, rfl⟩ := hrel
    by_cases hlt : k < s1.size
    · have hq := hno.out k hlt
      go_wp2
      go_round
      case rel => exact ⟨k + 1, by omega, rfl, rfl, rfl, by go_num⟩
      case measure => simp [intOf]; omega
    · have hlt' : ¬ (k : Int) < (s1.size : Int) := by omega
      go_wp2_with fail
      refine (G1 _).mono ?_
      rintro e w' ⟨rfl, hw⟩
      obtain rfl := hw.symm
      clear hw
      go_wp2
      go_loop [6] (fun u6 => ∃ t : ByteArray, u6 = .string t ∧ t.size ≤ 4 ∧ Hid (∃ j, t = ⟨(LR ++ List.replicate j 48).toArray⟩)) (fun u6 => 4 - lenOf u6)
      case atStart => exact ⟨_, rfl, h3, 0, by rw [hLR.out]; simp⟩
      case round =>
        obtain ⟨t, rfl, ht, hH⟩ := hrel
        by_cases h4 : t.size < 4
        · have g4 : (t.size : Int) < 4 := by omega
          have hS : (t ++ (⟨#[48]⟩ : ByteArray)).size = t.size + 1 := by rw [ByteArray.size_append]; rfl
          have hone : (⟨#[48]⟩ : ByteArray).size = 1 := rfl
          have HN : Hid (∃ j, t ++ ⟨#[48]⟩ = ⟨(LR ++ List.replicate j 48).toArray⟩) := pad_step t LR hH.out
          go_wp2
          go_round
          case rel => exact ⟨_, rfl, by omega, HN.out⟩
          case measure => simp [lenOf, hS]; omega
        · have g4 : ¬ (t.size : Int) < 4 := by omega
          have hb := hB.out t (by omega) hH.out
          have hBt := hb.1
          have HB2 : Hid ((s1 ++ t).data.toList.all isD = true ∧ numD (s1 ++ t).data.toList = V) := hb.2
          clear hb
          have hsum : s1.size + t.size ≤ 16 := by rw [ByteArray.size_append] at hBt; exact hBt
          obtain ⟨B, hBe⟩ : ∃ B : ByteArray, s1 ++ t = B := ⟨_, rfl⟩
          rw [hBe] at hBt HB2
          go_wp2
          go_loop [9, 11] (fun u9 u11 => ∃ k N : Nat, u9 = .int .i64 N ∧ u11 = .int .i64 k ∧ k ≤ B.size ∧ N < 10000000000000000 ∧ Hid (N = numD (B.data.toList.take k))) (fun _ u11 => B.size - (intOf u11).toNat)
          case atStart => exact ⟨0, 0, rfl, rfl, Nat.zero_le _, by omega, rfl⟩
          case round =>
            obtain ⟨k, N, rfl, rfl, hk, hN, hH2⟩ := hrel
            by_cases hlt : k < B.size
            · have hd := all_at B k hlt HB2.out.1
              simp only [isD, Bool.and_eq_true, decide_eq_true_eq] at hd
              have hst : Hid (N * 10 + ((B[k]'hlt).toNat - 48) = numD (B.data.toList.take (k + 1))) := by
                show _ = _
                rw [num_step B k hlt, ← hH2.out]
              have hbd : N * 10 + ((B[k]'hlt).toNat - 48) < 10000000000000000 := by
                rw [hst.out]
                have h1 := numD_lt _ (all_take _ (k + 1) HB2.out.1)
                have h2 := pow16 (B.data.toList.take (k + 1)).length (by have := size_list B; simp; omega)
                omega
              generalize hc : (B[k]'hlt).toNat = c at *
              go_wp2
              go_round
              case rel => exact ⟨k + 1, N * 10 + (c - 48), by go_num, by go_num, by omega, hbd, hst.out⟩
              case measure => simp [intOf]; omega
            · have hVN : N = V := by
                rw [hH2.out, List.take_of_length_le (by rw [size_list]; omega)]
                exact HB2.out.2
              subst hVN
              go_wp2_with fail
              refine (out_any _ _).mono ?_
              rintro e w' ⟨rfl, hw⟩
              obtain rfl := hw.symm
              clear hw
              unfold two
              go_wp2
              go_ret2
              exact ⟨rfl, Below.refl _ _⟩

set_option maxHeartbeats 2000000 in
theorem rp_b1_B0 {s0 s1 A2 A3 : ByteArray} {w : World} (hs : s0.size ≤ 9223372036854775807) (hs1 : s1.size ≤ 9223372036854775807) (h1 : 0 < s1.size) (hb : ((((s1[0]'h1).toNat : Nat) : Int) == 45) = false)
    (G1 : ∀ u : World, Calls Tryz.prog 61 #[.string A2, .int .i64 1, .int .i64 12] u fun e w' => e = .returned (.bool false) ∧ w' = u)
    (p : Nat) (hp : p < s1.size) (hpt : ((((s1[p]'hp).toNat : Nat) : Int) == 46) = true) (hno : Hid (∀ k (h : k < p), ((((s1[k]'(Nat.lt_trans h hp)).toNat : Nat) : Int) == 46) = false)) (hA2 : s1.extract 0 p = A2) (hA3 : s1.extract (p + 1) s1.size = A3) :
    Calls Tryz.prog 34 #[.string s1] w fun e w' => e = .returned (two (0, false)) ∧ Below w.heap.size w w' := by
  go_enter Tryz.func34, Tryz.ntmps34
  go_wp2
  go_loop [5, 6, 7, 8] (fun u5 u6 u7 u8 => ∃ k : Nat, k ≤ p ∧ u5 = .string s1 ∧ u6 = .string ⟨#[]⟩ ∧ u7 = .bool false ∧ u8 = .int .i64 k) (fun _ _ _ u8 => s1.size - (intOf u8).toNat)
  case atStart => exact ⟨0, Nat.zero_le _, rfl, rfl, rfl, rfl⟩
  case round =>
    obtain ⟨k, hk, rfl, rfl, rfl, rfl⟩ := hrel
    by_cases hlt : k < p
    · have hlt2 : k < s1.size := by omega
      have hq := hno.out k hlt
      go_wp2
      go_round
      case rel => exact ⟨k + 1, by omega, rfl, rfl, rfl, by go_num⟩
      case measure => simp [intOf]; omega
    · obtain rfl : k = p := by omega
      go_wp2
      go_region
      go_wp2_with fail
      refine (G1 _).mono ?_
      rintro e w' ⟨rfl, hw⟩
      obtain rfl := hw.symm
      clear hw
      go_wp2
      go_ret2
      exact ⟨rfl, (Below.refl _ _).drew⟩

set_option maxHeartbeats 2000000 in
theorem rp_b1_B1 {s0 s1 A2 A3 : ByteArray} {w : World} (hs : s0.size ≤ 9223372036854775807) (hs1 : s1.size ≤ 9223372036854775807) (h1 : 0 < s1.size) (hb : ((((s1[0]'h1).toNat : Nat) : Int) == 45) = false)
    (G1 : ∀ u : World, Calls Tryz.prog 61 #[.string A2, .int .i64 1, .int .i64 12] u fun e w' => e = .returned (.bool true) ∧ w' = u)
    (p : Nat) (hp : p < s1.size) (hpt : ((((s1[p]'hp).toNat : Nat) : Int) == 46) = true) (hno : Hid (∀ k (h : k < p), ((((s1[k]'(Nat.lt_trans h hp)).toNat : Nat) : Int) == 46) = false)) (hA2 : s1.extract 0 p = A2) (hA3 : s1.extract (p + 1) s1.size = A3)
    (G2 : ∀ u : World, Calls Tryz.prog 61 #[.string A3, .int .i64 1, .int .i64 4] u fun e w' => e = .returned (.bool false) ∧ w' = u) :
    Calls Tryz.prog 34 #[.string s1] w fun e w' => e = .returned (two (0, false)) ∧ Below w.heap.size w w' := by
  go_enter Tryz.func34, Tryz.ntmps34
  go_wp2
  go_loop [5, 6, 7, 8] (fun u5 u6 u7 u8 => ∃ k : Nat, k ≤ p ∧ u5 = .string s1 ∧ u6 = .string ⟨#[]⟩ ∧ u7 = .bool false ∧ u8 = .int .i64 k) (fun _ _ _ u8 => s1.size - (intOf u8).toNat)
  case atStart => exact ⟨0, Nat.zero_le _, rfl, rfl, rfl, rfl⟩
  case round =>
    obtain ⟨k, hk, rfl, rfl, rfl, rfl⟩ := hrel
    by_cases hlt : k < p
    · have hlt2 : k < s1.size := by omega
      have hq := hno.out k hlt
      go_wp2
      go_round
      case rel => exact ⟨k + 1, by omega, rfl, rfl, rfl, by go_num⟩
      case measure => simp [intOf]; omega
    · obtain rfl : k = p := by omega
      go_wp2
      go_region
      go_wp2_with fail
      refine (G1 _).mono ?_
      rintro e w' ⟨rfl, hw⟩
      obtain rfl := hw.symm
      clear hw
      go_wp2_with fail
      refine (G2 _).mono ?_
      rintro e w' ⟨rfl, hw⟩
      obtain rfl := hw.symm
      clear hw
      go_wp2
      go_ret2
      exact ⟨rfl, (Below.refl _ _).drew⟩

set_option maxHeartbeats 2000000 in
theorem rp_b1_B2 {s0 s1 A2 A3 : ByteArray} {w : World} (hs : s0.size ≤ 9223372036854775807) (hs1 : s1.size ≤ 9223372036854775807) (h1 : 0 < s1.size) (hb : ((((s1[0]'h1).toNat : Nat) : Int) == 45) = false)
    (G1 : ∀ u : World, Calls Tryz.prog 61 #[.string A2, .int .i64 1, .int .i64 12] u fun e w' => e = .returned (.bool true) ∧ w' = u)
    (p : Nat) (hp : p < s1.size) (hpt : ((((s1[p]'hp).toNat : Nat) : Int) == 46) = true) (hno : Hid (∀ k (h : k < p), ((((s1[k]'(Nat.lt_trans h hp)).toNat : Nat) : Int) == 46) = false)) (hA2 : s1.extract 0 p = A2) (hA3 : s1.extract (p + 1) s1.size = A3)
    (G2 : ∀ u : World, Calls Tryz.prog 61 #[.string A3, .int .i64 1, .int .i64 4] u fun e w' => e = .returned (.bool true) ∧ w' = u)
    (LR : List UInt8) (V : Nat) (hW : 1 ≤ A2.size ∧ A2.size ≤ 12) (h3 : A3.size ≤ 4) (hLR : Hid (A3 = ⟨LR.toArray⟩))
    (hB : Hid (∀ t : ByteArray, t.size = 4 → (∃ j, t = ⟨(LR ++ List.replicate j 48).toArray⟩) → (A2 ++ t).size ≤ 16 ∧ (A2 ++ t).data.toList.all isD = true ∧ numD (A2 ++ t).data.toList = V)) (hV : V < 10000000000000000) :
    Calls Tryz.prog 34 #[.string s1] w fun e w' => e = .returned (two (ans (V : Int))) ∧ Below w.heap.size w w' := by
  go_enter Tryz.func34, Tryz.ntmps34
  go_wp2
  go_loop [5, 6, 7, 8] (fun u5 u6 u7 u8 => ∃ k : Nat, k ≤ p ∧ u5 = .string s1 ∧ u6 = .string ⟨#[]⟩ ∧ u7 = .bool false ∧ u8 = .int .i64 k) (fun _ _ _ u8 => s1.size - (intOf u8).toNat)
  case atStart => exact ⟨0, Nat.zero_le _, rfl, rfl, rfl, rfl⟩
  case round =>
    obtain ⟨k, hk, rfl, rfl, rfl, rfl⟩ := hrel
    by_cases hlt : k < p
    · have hlt2 : k < s1.size := by omega
      have hq := hno.out k hlt
      go_wp2
      go_round
      case rel => exact ⟨k + 1, by omega, rfl, rfl, rfl, by go_num⟩
      case measure => simp [intOf]; omega
    · obtain rfl : k = p := by omega
      go_wp2
      go_region
      go_wp2_with fail
      refine (G1 _).mono ?_
      rintro e w' ⟨rfl, hw⟩
      obtain rfl := hw.symm
      clear hw
      go_wp2_with fail
      refine (G2 _).mono ?_
      rintro e w' ⟨rfl, hw⟩
      obtain rfl := hw.symm
      clear hw
      go_wp2
      go_loop [6] (fun u6 => ∃ t : ByteArray, u6 = .string t ∧ t.size ≤ 4 ∧ Hid (∃ j, t = ⟨(LR ++ List.replicate j 48).toArray⟩)) (fun u6 => 4 - lenOf u6)
      case atStart => exact ⟨_, rfl, h3, 0, by rw [hLR.out]; simp⟩
      case round =>
        obtain ⟨t, rfl, ht, hH⟩ := hrel
        by_cases h4 : t.size < 4
        · have g4 : (t.size : Int) < 4 := by omega
          have hS : (t ++ (⟨#[48]⟩ : ByteArray)).size = t.size + 1 := by rw [ByteArray.size_append]; rfl
          have hone : (⟨#[48]⟩ : ByteArray).size = 1 := rfl
          have HN : Hid (∃ j, t ++ ⟨#[48]⟩ = ⟨(LR ++ List.replicate j 48).toArray⟩) := pad_step t LR hH.out
          go_wp2
          go_round
          case rel => exact ⟨_, rfl, by omega, HN.out⟩
          case measure => simp [lenOf, hS]; omega
        · have g4 : ¬ (t.size : Int) < 4 := by omega
          have hb := hB.out t (by omega) hH.out
          have hBt := hb.1
          have HB2 : Hid ((A2 ++ t).data.toList.all isD = true ∧ numD (A2 ++ t).data.toList = V) := hb.2
          clear hb
          have hsum : A2.size + t.size ≤ 16 := by rw [ByteArray.size_append] at hBt; exact hBt
          obtain ⟨B, hBe⟩ : ∃ B : ByteArray, A2 ++ t = B := ⟨_, rfl⟩
          rw [hBe] at hBt HB2
          go_wp2
          go_loop [9, 11] (fun u9 u11 => ∃ k N : Nat, u9 = .int .i64 N ∧ u11 = .int .i64 k ∧ k ≤ B.size ∧ N < 10000000000000000 ∧ Hid (N = numD (B.data.toList.take k))) (fun _ u11 => B.size - (intOf u11).toNat)
          case atStart => exact ⟨0, 0, rfl, rfl, Nat.zero_le _, by omega, rfl⟩
          case round =>
            obtain ⟨k, N, rfl, rfl, hk, hN, hH2⟩ := hrel
            by_cases hlt : k < B.size
            · have hd := all_at B k hlt HB2.out.1
              simp only [isD, Bool.and_eq_true, decide_eq_true_eq] at hd
              have hst : Hid (N * 10 + ((B[k]'hlt).toNat - 48) = numD (B.data.toList.take (k + 1))) := by
                show _ = _
                rw [num_step B k hlt, ← hH2.out]
              have hbd : N * 10 + ((B[k]'hlt).toNat - 48) < 10000000000000000 := by
                rw [hst.out]
                have h1 := numD_lt _ (all_take _ (k + 1) HB2.out.1)
                have h2 := pow16 (B.data.toList.take (k + 1)).length (by have := size_list B; simp; omega)
                omega
              generalize hc : (B[k]'hlt).toNat = c at *
              go_wp2
              go_round
              case rel => exact ⟨k + 1, N * 10 + (c - 48), by go_num, by go_num, by omega, hbd, hst.out⟩
              case measure => simp [intOf]; omega
            · have hVN : N = V := by
                rw [hH2.out, List.take_of_length_le (by rw [size_list]; omega)]
                exact HB2.out.2
              subst hVN
              go_wp2_with fail
              refine (out_any _ _).mono ?_
              rintro e w' ⟨rfl, hw⟩
              obtain rfl := hw.symm
              clear hw
              unfold two
              go_wp2
              go_ret2
              exact ⟨rfl, (Below.refl _ _).drew⟩

set_option maxHeartbeats 2000000 in
theorem rp_b2_A0 {s0 s1 A2 A3 : ByteArray} {w : World} (hs : s0.size ≤ 9223372036854775807) (hs1 : s1.size ≤ 9223372036854775807) (h1 : 0 < s0.size) (hb : ((((s0[0]'h1).toNat : Nat) : Int) == 45) = true) (he : s0.extract 1 s0.size = s1)
    (G1 : ∀ u : World, Calls Tryz.prog 61 #[.string s1, .int .i64 1, .int .i64 12] u fun e w' => e = .returned (.bool false) ∧ w' = u)
    (hno : Hid (∀ k (h : k < s1.size), ((((s1[k]'h).toNat : Nat) : Int) == 46) = false)) :
    Calls Tryz.prog 34 #[.string s0] w fun e w' => e = .returned (two (0, false)) ∧ Below w.heap.size w w' := by
  go_enter Tryz.func34, Tryz.ntmps34
  go_wp2
  go_loop [5, 6, 7, 8] (fun u5 u6 u7 u8 => ∃ k : Nat, k ≤ s1.size ∧ u5 = .string s1 ∧ u6 = .string ⟨#[]⟩ ∧ u7 = .bool false ∧ u8 = .int .i64 k) (fun _ _ _ u8 => s1.size - (intOf u8).toNat)
  case atStart => exact ⟨0, Nat.zero_le _, rfl, rfl, rfl, rfl⟩
  case round =>
    obtain ⟨k, hk, rfl, rfl, rfl, rfl⟩ := hrel
    by_cases hlt : k < s1.size
    · have hq := hno.out k hlt
      go_wp2
      go_round
      case rel => exact ⟨k + 1, by omega, rfl, rfl, rfl, by go_num⟩
      case measure => simp [intOf]; omega
    · have hlt' : ¬ (k : Int) < (s1.size : Int) := by omega
      go_wp2_with fail
      refine (G1 _).mono ?_
      rintro e w' ⟨rfl, hw⟩
      obtain rfl := hw.symm
      clear hw
      go_wp2
      go_ret2
      exact ⟨rfl, Below.refl _ _⟩

set_option maxHeartbeats 2000000 in
theorem rp_b2_A1 {s0 s1 A2 A3 : ByteArray} {w : World} (hs : s0.size ≤ 9223372036854775807) (hs1 : s1.size ≤ 9223372036854775807) (h1 : 0 < s0.size) (hb : ((((s0[0]'h1).toNat : Nat) : Int) == 45) = true) (he : s0.extract 1 s0.size = s1)
    (G1 : ∀ u : World, Calls Tryz.prog 61 #[.string s1, .int .i64 1, .int .i64 12] u fun e w' => e = .returned (.bool true) ∧ w' = u)
    (hno : Hid (∀ k (h : k < s1.size), ((((s1[k]'h).toNat : Nat) : Int) == 46) = false))
    (LR : List UInt8) (V : Nat) (hW : 1 ≤ s1.size ∧ s1.size ≤ 12) (h3 : (⟨#[]⟩ : ByteArray).size ≤ 4) (hLR : Hid ((⟨#[]⟩ : ByteArray) = ⟨LR.toArray⟩))
    (hB : Hid (∀ t : ByteArray, t.size = 4 → (∃ j, t = ⟨(LR ++ List.replicate j 48).toArray⟩) → (s1 ++ t).size ≤ 16 ∧ (s1 ++ t).data.toList.all isD = true ∧ numD (s1 ++ t).data.toList = V)) (hV : V < 10000000000000000) :
    Calls Tryz.prog 34 #[.string s0] w fun e w' => e = .returned (two (ans (-(V : Int)))) ∧ Below w.heap.size w w' := by
  go_enter Tryz.func34, Tryz.ntmps34
  go_wp2
  go_loop [5, 6, 7, 8] (fun u5 u6 u7 u8 => ∃ k : Nat, k ≤ s1.size ∧ u5 = .string s1 ∧ u6 = .string ⟨#[]⟩ ∧ u7 = .bool false ∧ u8 = .int .i64 k) (fun _ _ _ u8 => s1.size - (intOf u8).toNat)
  case atStart => exact ⟨0, Nat.zero_le _, rfl, rfl, rfl, rfl⟩
  case round =>
    obtain ⟨k, hk, rfl, rfl, rfl, rfl⟩ := hrel
    by_cases hlt : k < s1.size
    · have hq := hno.out k hlt
      go_wp2
      go_round
      case rel => exact ⟨k + 1, by omega, rfl, rfl, rfl, by go_num⟩
      case measure => simp [intOf]; omega
    · have hlt' : ¬ (k : Int) < (s1.size : Int) := by omega
      go_wp2_with fail
      refine (G1 _).mono ?_
      rintro e w' ⟨rfl, hw⟩
      obtain rfl := hw.symm
      clear hw
      go_wp2
      go_loop [6] (fun u6 => ∃ t : ByteArray, u6 = .string t ∧ t.size ≤ 4 ∧ Hid (∃ j, t = ⟨(LR ++ List.replicate j 48).toArray⟩)) (fun u6 => 4 - lenOf u6)
      case atStart => exact ⟨_, rfl, h3, 0, by rw [hLR.out]; simp⟩
      case round =>
        obtain ⟨t, rfl, ht, hH⟩ := hrel
        by_cases h4 : t.size < 4
        · have g4 : (t.size : Int) < 4 := by omega
          have hS : (t ++ (⟨#[48]⟩ : ByteArray)).size = t.size + 1 := by rw [ByteArray.size_append]; rfl
          have hone : (⟨#[48]⟩ : ByteArray).size = 1 := rfl
          have HN : Hid (∃ j, t ++ ⟨#[48]⟩ = ⟨(LR ++ List.replicate j 48).toArray⟩) := pad_step t LR hH.out
          go_wp2
          go_round
          case rel => exact ⟨_, rfl, by omega, HN.out⟩
          case measure => simp [lenOf, hS]; omega
        · have g4 : ¬ (t.size : Int) < 4 := by omega
          have hb := hB.out t (by omega) hH.out
          have hBt := hb.1
          have HB2 : Hid ((s1 ++ t).data.toList.all isD = true ∧ numD (s1 ++ t).data.toList = V) := hb.2
          clear hb
          have hsum : s1.size + t.size ≤ 16 := by rw [ByteArray.size_append] at hBt; exact hBt
          obtain ⟨B, hBe⟩ : ∃ B : ByteArray, s1 ++ t = B := ⟨_, rfl⟩
          rw [hBe] at hBt HB2
          go_wp2
          go_loop [9, 11] (fun u9 u11 => ∃ k N : Nat, u9 = .int .i64 N ∧ u11 = .int .i64 k ∧ k ≤ B.size ∧ N < 10000000000000000 ∧ Hid (N = numD (B.data.toList.take k))) (fun _ u11 => B.size - (intOf u11).toNat)
          case atStart => exact ⟨0, 0, rfl, rfl, Nat.zero_le _, by omega, rfl⟩
          case round =>
            obtain ⟨k, N, rfl, rfl, hk, hN, hH2⟩ := hrel
            by_cases hlt : k < B.size
            · have hd := all_at B k hlt HB2.out.1
              simp only [isD, Bool.and_eq_true, decide_eq_true_eq] at hd
              have hst : Hid (N * 10 + ((B[k]'hlt).toNat - 48) = numD (B.data.toList.take (k + 1))) := by
                show _ = _
                rw [num_step B k hlt, ← hH2.out]
              have hbd : N * 10 + ((B[k]'hlt).toNat - 48) < 10000000000000000 := by
                rw [hst.out]
                have h1 := numD_lt _ (all_take _ (k + 1) HB2.out.1)
                have h2 := pow16 (B.data.toList.take (k + 1)).length (by have := size_list B; simp; omega)
                omega
              generalize hc : (B[k]'hlt).toNat = c at *
              go_wp2
              go_round
              case rel => exact ⟨k + 1, N * 10 + (c - 48), by go_num, by go_num, by omega, hbd, hst.out⟩
              case measure => simp [intOf]; omega
            · have hVN : N = V := by
                rw [hH2.out, List.take_of_length_le (by rw [size_list]; omega)]
                exact HB2.out.2
              subst hVN
              go_wp2_with fail
              refine (out_any _ _).mono ?_
              rintro e w' ⟨rfl, hw⟩
              obtain rfl := hw.symm
              clear hw
              unfold two
              go_wp2
              go_ret2
              exact ⟨rfl, Below.refl _ _⟩

set_option maxHeartbeats 2000000 in
theorem rp_b2_B0 {s0 s1 A2 A3 : ByteArray} {w : World} (hs : s0.size ≤ 9223372036854775807) (hs1 : s1.size ≤ 9223372036854775807) (h1 : 0 < s0.size) (hb : ((((s0[0]'h1).toNat : Nat) : Int) == 45) = true) (he : s0.extract 1 s0.size = s1)
    (G1 : ∀ u : World, Calls Tryz.prog 61 #[.string A2, .int .i64 1, .int .i64 12] u fun e w' => e = .returned (.bool false) ∧ w' = u)
    (p : Nat) (hp : p < s1.size) (hpt : ((((s1[p]'hp).toNat : Nat) : Int) == 46) = true) (hno : Hid (∀ k (h : k < p), ((((s1[k]'(Nat.lt_trans h hp)).toNat : Nat) : Int) == 46) = false)) (hA2 : s1.extract 0 p = A2) (hA3 : s1.extract (p + 1) s1.size = A3) :
    Calls Tryz.prog 34 #[.string s0] w fun e w' => e = .returned (two (0, false)) ∧ Below w.heap.size w w' := by
  go_enter Tryz.func34, Tryz.ntmps34
  go_wp2
  go_loop [5, 6, 7, 8] (fun u5 u6 u7 u8 => ∃ k : Nat, k ≤ p ∧ u5 = .string s1 ∧ u6 = .string ⟨#[]⟩ ∧ u7 = .bool false ∧ u8 = .int .i64 k) (fun _ _ _ u8 => s1.size - (intOf u8).toNat)
  case atStart => exact ⟨0, Nat.zero_le _, rfl, rfl, rfl, rfl⟩
  case round =>
    obtain ⟨k, hk, rfl, rfl, rfl, rfl⟩ := hrel
    by_cases hlt : k < p
    · have hlt2 : k < s1.size := by omega
      have hq := hno.out k hlt
      go_wp2
      go_round
      case rel => exact ⟨k + 1, by omega, rfl, rfl, rfl, by go_num⟩
      case measure => simp [intOf]; omega
    · obtain rfl : k = p := by omega
      go_wp2
      go_region
      go_wp2_with fail
      refine (G1 _).mono ?_
      rintro e w' ⟨rfl, hw⟩
      obtain rfl := hw.symm
      clear hw
      go_wp2
      go_ret2
      exact ⟨rfl, (Below.refl _ _).drew⟩

set_option maxHeartbeats 2000000 in
theorem rp_b2_B1 {s0 s1 A2 A3 : ByteArray} {w : World} (hs : s0.size ≤ 9223372036854775807) (hs1 : s1.size ≤ 9223372036854775807) (h1 : 0 < s0.size) (hb : ((((s0[0]'h1).toNat : Nat) : Int) == 45) = true) (he : s0.extract 1 s0.size = s1)
    (G1 : ∀ u : World, Calls Tryz.prog 61 #[.string A2, .int .i64 1, .int .i64 12] u fun e w' => e = .returned (.bool true) ∧ w' = u)
    (p : Nat) (hp : p < s1.size) (hpt : ((((s1[p]'hp).toNat : Nat) : Int) == 46) = true) (hno : Hid (∀ k (h : k < p), ((((s1[k]'(Nat.lt_trans h hp)).toNat : Nat) : Int) == 46) = false)) (hA2 : s1.extract 0 p = A2) (hA3 : s1.extract (p + 1) s1.size = A3)
    (G2 : ∀ u : World, Calls Tryz.prog 61 #[.string A3, .int .i64 1, .int .i64 4] u fun e w' => e = .returned (.bool false) ∧ w' = u) :
    Calls Tryz.prog 34 #[.string s0] w fun e w' => e = .returned (two (0, false)) ∧ Below w.heap.size w w' := by
  go_enter Tryz.func34, Tryz.ntmps34
  go_wp2
  go_loop [5, 6, 7, 8] (fun u5 u6 u7 u8 => ∃ k : Nat, k ≤ p ∧ u5 = .string s1 ∧ u6 = .string ⟨#[]⟩ ∧ u7 = .bool false ∧ u8 = .int .i64 k) (fun _ _ _ u8 => s1.size - (intOf u8).toNat)
  case atStart => exact ⟨0, Nat.zero_le _, rfl, rfl, rfl, rfl⟩
  case round =>
    obtain ⟨k, hk, rfl, rfl, rfl, rfl⟩ := hrel
    by_cases hlt : k < p
    · have hlt2 : k < s1.size := by omega
      have hq := hno.out k hlt
      go_wp2
      go_round
      case rel => exact ⟨k + 1, by omega, rfl, rfl, rfl, by go_num⟩
      case measure => simp [intOf]; omega
    · obtain rfl : k = p := by omega
      go_wp2
      go_region
      go_wp2_with fail
      refine (G1 _).mono ?_
      rintro e w' ⟨rfl, hw⟩
      obtain rfl := hw.symm
      clear hw
      go_wp2_with fail
      refine (G2 _).mono ?_
      rintro e w' ⟨rfl, hw⟩
      obtain rfl := hw.symm
      clear hw
      go_wp2
      go_ret2
      exact ⟨rfl, (Below.refl _ _).drew⟩

set_option maxHeartbeats 2000000 in
theorem rp_b2_B2 {s0 s1 A2 A3 : ByteArray} {w : World} (hs : s0.size ≤ 9223372036854775807) (hs1 : s1.size ≤ 9223372036854775807) (h1 : 0 < s0.size) (hb : ((((s0[0]'h1).toNat : Nat) : Int) == 45) = true) (he : s0.extract 1 s0.size = s1)
    (G1 : ∀ u : World, Calls Tryz.prog 61 #[.string A2, .int .i64 1, .int .i64 12] u fun e w' => e = .returned (.bool true) ∧ w' = u)
    (p : Nat) (hp : p < s1.size) (hpt : ((((s1[p]'hp).toNat : Nat) : Int) == 46) = true) (hno : Hid (∀ k (h : k < p), ((((s1[k]'(Nat.lt_trans h hp)).toNat : Nat) : Int) == 46) = false)) (hA2 : s1.extract 0 p = A2) (hA3 : s1.extract (p + 1) s1.size = A3)
    (G2 : ∀ u : World, Calls Tryz.prog 61 #[.string A3, .int .i64 1, .int .i64 4] u fun e w' => e = .returned (.bool true) ∧ w' = u)
    (LR : List UInt8) (V : Nat) (hW : 1 ≤ A2.size ∧ A2.size ≤ 12) (h3 : A3.size ≤ 4) (hLR : Hid (A3 = ⟨LR.toArray⟩))
    (hB : Hid (∀ t : ByteArray, t.size = 4 → (∃ j, t = ⟨(LR ++ List.replicate j 48).toArray⟩) → (A2 ++ t).size ≤ 16 ∧ (A2 ++ t).data.toList.all isD = true ∧ numD (A2 ++ t).data.toList = V)) (hV : V < 10000000000000000) :
    Calls Tryz.prog 34 #[.string s0] w fun e w' => e = .returned (two (ans (-(V : Int)))) ∧ Below w.heap.size w w' := by
  go_enter Tryz.func34, Tryz.ntmps34
  go_wp2
  go_loop [5, 6, 7, 8] (fun u5 u6 u7 u8 => ∃ k : Nat, k ≤ p ∧ u5 = .string s1 ∧ u6 = .string ⟨#[]⟩ ∧ u7 = .bool false ∧ u8 = .int .i64 k) (fun _ _ _ u8 => s1.size - (intOf u8).toNat)
  case atStart => exact ⟨0, Nat.zero_le _, rfl, rfl, rfl, rfl⟩
  case round =>
    obtain ⟨k, hk, rfl, rfl, rfl, rfl⟩ := hrel
    by_cases hlt : k < p
    · have hlt2 : k < s1.size := by omega
      have hq := hno.out k hlt
      go_wp2
      go_round
      case rel => exact ⟨k + 1, by omega, rfl, rfl, rfl, by go_num⟩
      case measure => simp [intOf]; omega
    · obtain rfl : k = p := by omega
      go_wp2
      go_region
      go_wp2_with fail
      refine (G1 _).mono ?_
      rintro e w' ⟨rfl, hw⟩
      obtain rfl := hw.symm
      clear hw
      go_wp2_with fail
      refine (G2 _).mono ?_
      rintro e w' ⟨rfl, hw⟩
      obtain rfl := hw.symm
      clear hw
      go_wp2
      go_loop [6] (fun u6 => ∃ t : ByteArray, u6 = .string t ∧ t.size ≤ 4 ∧ Hid (∃ j, t = ⟨(LR ++ List.replicate j 48).toArray⟩)) (fun u6 => 4 - lenOf u6)
      case atStart => exact ⟨_, rfl, h3, 0, by rw [hLR.out]; simp⟩
      case round =>
        obtain ⟨t, rfl, ht, hH⟩ := hrel
        by_cases h4 : t.size < 4
        · have g4 : (t.size : Int) < 4 := by omega
          have hS : (t ++ (⟨#[48]⟩ : ByteArray)).size = t.size + 1 := by rw [ByteArray.size_append]; rfl
          have hone : (⟨#[48]⟩ : ByteArray).size = 1 := rfl
          have HN : Hid (∃ j, t ++ ⟨#[48]⟩ = ⟨(LR ++ List.replicate j 48).toArray⟩) := pad_step t LR hH.out
          go_wp2
          go_round
          case rel => exact ⟨_, rfl, by omega, HN.out⟩
          case measure => simp [lenOf, hS]; omega
        · have g4 : ¬ (t.size : Int) < 4 := by omega
          have hb := hB.out t (by omega) hH.out
          have hBt := hb.1
          have HB2 : Hid ((A2 ++ t).data.toList.all isD = true ∧ numD (A2 ++ t).data.toList = V) := hb.2
          clear hb
          have hsum : A2.size + t.size ≤ 16 := by rw [ByteArray.size_append] at hBt; exact hBt
          obtain ⟨B, hBe⟩ : ∃ B : ByteArray, A2 ++ t = B := ⟨_, rfl⟩
          rw [hBe] at hBt HB2
          go_wp2
          go_loop [9, 11] (fun u9 u11 => ∃ k N : Nat, u9 = .int .i64 N ∧ u11 = .int .i64 k ∧ k ≤ B.size ∧ N < 10000000000000000 ∧ Hid (N = numD (B.data.toList.take k))) (fun _ u11 => B.size - (intOf u11).toNat)
          case atStart => exact ⟨0, 0, rfl, rfl, Nat.zero_le _, by omega, rfl⟩
          case round =>
            obtain ⟨k, N, rfl, rfl, hk, hN, hH2⟩ := hrel
            by_cases hlt : k < B.size
            · have hd := all_at B k hlt HB2.out.1
              simp only [isD, Bool.and_eq_true, decide_eq_true_eq] at hd
              have hst : Hid (N * 10 + ((B[k]'hlt).toNat - 48) = numD (B.data.toList.take (k + 1))) := by
                show _ = _
                rw [num_step B k hlt, ← hH2.out]
              have hbd : N * 10 + ((B[k]'hlt).toNat - 48) < 10000000000000000 := by
                rw [hst.out]
                have h1 := numD_lt _ (all_take _ (k + 1) HB2.out.1)
                have h2 := pow16 (B.data.toList.take (k + 1)).length (by have := size_list B; simp; omega)
                omega
              generalize hc : (B[k]'hlt).toNat = c at *
              go_wp2
              go_round
              case rel => exact ⟨k + 1, N * 10 + (c - 48), by go_num, by go_num, by omega, hbd, hst.out⟩
              case measure => simp [intOf]; omega
            · have hVN : N = V := by
                rw [hH2.out, List.take_of_length_le (by rw [size_list]; omega)]
                exact HB2.out.2
              subst hVN
              go_wp2_with fail
              refine (out_any _ _).mono ?_
              rintro e w' ⟨rfl, hw⟩
              obtain rfl := hw.symm
              clear hw
              unfold two
              go_wp2
              go_ret2
              exact ⟨rfl, (Below.refl _ _).drew⟩

end Go.Proofs.YtdgnodijmbeajaaGreatDoor

/- The contract of the reference's Parse. -/
namespace Go.Proofs.YtdgnodijmbeajaaGreatDoor
set_option linter.unusedSimpArgs false
open Go.RowKit
set_option linter.unusedVariables false
set_option maxRecDepth 100000

theorem pt_yes (bl : List UInt8) (h : hasP bl = true) : ∃ p, ∃ hp : p < bl.length, bl[p] = 46 ∧ (∀ k (hk : k < p), bl[k]'(Nat.lt_trans hk hp) ≠ 46) ∧ fstP bl = bl.take p ∧ sndP bl = bl.drop (p + 1) := by
  have hge := Lib.indexByte_ge bl 46
  by_cases hi : Lib.indexByte bl 46 = -1
  · have := ((indexP bl).1 hi).2.2
    rw [h] at this
    cases this
  · obtain ⟨p, hp⟩ : ∃ p : Nat, Lib.indexByte bl 46 = p := ⟨(Lib.indexByte bl 46).toNat, by omega⟩
    obtain ⟨h1, h2⟩ := Lib.indexByte_some hp
    obtain ⟨e1, e2, _⟩ := (indexP bl).2 p hp
    have hlt : p < bl.length := by
      rcases Nat.lt_or_ge p bl.length with g | g
      · exact g
      · rw [List.getElem?_eq_none g] at h1; cases h1
    refine ⟨p, hlt, ?_, fun k hk e => ?_, e1, e2⟩
    · rw [List.getElem?_eq_getElem hlt] at h1
      exact Option.some.inj h1
    · refine h2 k hk ?_
      rw [List.getElem?_eq_getElem (Nat.lt_trans hk hlt), e]
theorem pt_no (bl : List UInt8) (h : hasP bl = false) : (∀ k (hk : k < bl.length), bl[k] ≠ 46) ∧ fstP bl = bl := by
  have hge := Lib.indexByte_ge bl 46
  by_cases hi : Lib.indexByte bl 46 = -1
  · refine ⟨fun k hk e => ?_, ((indexP bl).1 hi).1⟩
    refine Lib.indexByte_none hi k ?_
    rw [List.getElem?_eq_getElem hk, e]
  · have := ((indexP bl).2 (Lib.indexByte bl 46).toNat (by omega)).2.2
    rw [h] at this
    cases this
theorem get_mk (l : List UInt8) (k : Nat) (h : k < l.length) (h2 : k < (⟨l.toArray⟩ : ByteArray).size) : (⟨l.toArray⟩ : ByteArray)[k] = l[k] := by
  rw [byte_at _ k h2 (by simpa using h)]
theorem ne_beq (b c : UInt8) (h : b ≠ c) : (((b.toNat : Nat) : Int) == ((c.toNat : Nat) : Int)) = false := by
  rw [beq_eq_false_iff_ne]
  intro e
  apply h
  apply UInt8.toNat_inj.1
  omega
theorem full_facts (F R : List UInt8) (hF : F.all isD = true ∧ 1 ≤ F.length ∧ F.length ≤ 12) (hR : R.all isD = true ∧ R.length ≤ 4) :
    (∀ t : ByteArray, t.size = 4 → (∃ j, t = ⟨(R ++ List.replicate j 48).toArray⟩) → ((⟨F.toArray⟩ : ByteArray) ++ t).size ≤ 16 ∧ ((⟨F.toArray⟩ : ByteArray) ++ t).data.toList.all isD = true ∧ numD ((⟨F.toArray⟩ : ByteArray) ++ t).data.toList = numD F * 10000 + numD R * 10 ^ (4 - R.length)) ∧
      numD F * 10000 + numD R * 10 ^ (4 - R.length) < 10000000000000000 := by
  constructor
  · rintro t ht ⟨j, rfl⟩
    rw [size_mk] at ht
    simp at ht
    have hj : j = 4 - R.length := by omega
    rw [app_mk, size_mk]
    refine ⟨by simp; omega, ?_, ?_⟩
    · show (F ++ (R ++ List.replicate j 48)).all isD = true
      rw [List.all_append, List.all_append, hF.1, hR.1, all_rep]
      rfl
    · show numD (F ++ (R ++ List.replicate j 48)) = _
      rw [numD_append, pad_num, hj]
      simp
      rw [show R.length + (4 - R.length) = 4 by omega]
  · have h1 := num_bound F 12 hF.1 hF.2.2
    have h2 := numD_lt R hR.1
    have h3 : (numD R + 1) * 10 ^ (4 - R.length) ≤ 10 ^ R.length * 10 ^ (4 - R.length) := Nat.mul_le_mul_right _ (by omega)
    rw [← Nat.pow_add, show R.length + (4 - R.length) = 4 by omega, Nat.add_mul] at h3
    have h4 : 1 ≤ 10 ^ (4 - R.length) := Nat.one_le_pow _ _ (by decide)
    omega

theorem rg (l : List UInt8) (m : Nat) (hm : m ≤ 12) (hl : l.length ≤ 9223372036854775807) {r : Bool} (hr : digs l 1 m = r) (u : World) :
    Calls Tryz.prog 61 #[.string ⟨l.toArray⟩, .int .i64 1, .int .i64 m] u fun e w' => e = .returned (.bool r) ∧ w' = u := by
  have := rdigits_any ⟨l.toArray⟩ m hm u (by rw [size_mk]; exact hl)
  rw [← hr]
  exact this
theorem rparse_any (l : List UInt8) (w : World) (hl : l.length ≤ 9223372036854775807) :
    Calls Tryz.prog 34 #[.string ⟨l.toArray⟩] w fun e w' => e = .returned (two (parseF l)) ∧ Below w.heap.size w w' := by
  have hbl := body_len l
  have hs : (⟨l.toArray⟩ : ByteArray).size ≤ 9223372036854775807 := by rw [size_mk]; exact hl
  have hs1 : (⟨(body l).toArray⟩ : ByteArray).size ≤ 9223372036854775807 := by rw [size_mk]; omega
  have hfl := fst_len (body l)
  have hsl := snd_len (body l)
  -- how the text begins
  have hbeg : (dash l = true ∧ ∃ h1 : 0 < (⟨l.toArray⟩ : ByteArray).size, (((((⟨l.toArray⟩ : ByteArray)[0]'h1).toNat : Nat) : Int) == 45) = true ∧ (⟨l.toArray⟩ : ByteArray).extract 1 (⟨l.toArray⟩ : ByteArray).size = ⟨(body l).toArray⟩) ∨
      (dash l = false ∧ body l = l ∧ ((⟨(body l).toArray⟩ : ByteArray).size = 0 ∨ ∃ h1 : 0 < (⟨(body l).toArray⟩ : ByteArray).size, (((((⟨(body l).toArray⟩ : ByteArray)[0]'h1).toNat : Nat) : Int) == 45) = false)) := by
    cases hd : dash l
    · right
      have hb : body l = l := by unfold body; rw [hd]; rfl
      refine ⟨rfl, hb, ?_⟩
      rw [hb]
      cases l with
      | nil => left; rfl
      | cons b l =>
        right
        refine ⟨by rw [size_mk]; simp, ?_⟩
        rw [get_mk (b :: l) 0 (by simp)]
        refine ne_beq b 45 fun e => ?_
        subst e
        cases hd
    · left
      have hb : body l = l.drop 1 := by unfold body; rw [hd]; rfl
      refine ⟨rfl, ?_⟩
      rw [hb, drop_mk]
      cases l with
      | nil => cases hd
      | cons b l =>
        refine ⟨by rw [size_mk]; simp, ?_, rfl⟩
        rw [get_mk (b :: l) 0 (by simp)]
        have : b = 45 := by
          unfold dash at hd
          simpa using hd
        subst this
        rfl
  unfold parseF restN
  have e1 : ∀ (V : Nat), sgnI (V : Int) true = -(V : Int) := fun _ => rfl
  have e0 : ∀ (V : Nat), sgnI (V : Int) false = (V : Int) := fun _ => rfl
  cases hp : hasP (body l)
  · obtain ⟨hno, hfst⟩ := pt_no (body l) hp
    have hno' : Hid (∀ k (h : k < (⟨(body l).toArray⟩ : ByteArray).size), (((((⟨(body l).toArray⟩ : ByteArray)[k]'h).toNat : Nat) : Int) == 46) = false) := fun k h => by
      have hk : k < (body l).length := by rw [size_mk] at h; exact h
      rw [get_mk (body l) k hk h]
      exact ne_beq _ 46 (hno k hk)
    rw [hfst]
    cases h1 : digs (body l) 1 12
    · rw [if_neg (by simp)]
      have G1 := fun u => rg (body l) 12 (by decide) (by omega) h1 u
      rcases hbeg with ⟨hd, hq, hb, he⟩ | ⟨hd, hb, h0 | ⟨hq, hb1⟩⟩
      · exact rp_b2_A0 (A2 := ⟨#[]⟩) (A3 := ⟨#[]⟩) hs hs1 hq hb he G1 hno'
      · conv => arg 3; rw [← hb]
        exact rp_b0_A0 (A2 := ⟨#[]⟩) (A3 := ⟨#[]⟩) hs hs1 h0 G1 hno'
      · conv => arg 3; rw [← hb]
        exact rp_b1_A0 (A2 := ⟨#[]⟩) (A3 := ⟨#[]⟩) hs hs1 hq hb1 G1 hno'
    · rw [if_pos ⟨rfl, fun h => by cases h⟩, if_neg (by decide)]
      have hd1 := (digs_iff _ _ _).1 h1
      have G1 := fun u => rg (body l) 12 (by decide) (by omega) h1 u
      have ff := full_facts (body l) [] hd1 ⟨rfl, by simp⟩
      have ez : numD ([] : List UInt8) * 10 ^ (4 - ([] : List UInt8).length) = 0 := rfl
      rw [ez] at ff
      rcases hbeg with ⟨hd, hq, hb, he⟩ | ⟨hd, hb, h0 | ⟨hq, hb1⟩⟩
      · rw [hd, e1]
        exact rp_b2_A1 (A2 := ⟨#[]⟩) (A3 := ⟨#[]⟩) hs hs1 hq hb he G1 hno' [] _ (by rw [size_mk]; exact hd1.2) (by decide) rfl ff.1 ff.2
      · rw [size_mk] at h0; omega
      · rw [hd, e0]
        conv => arg 3; rw [← hb]
        exact rp_b1_A1 (A2 := ⟨#[]⟩) (A3 := ⟨#[]⟩) hs hs1 hq hb1 G1 hno' [] _ (by rw [size_mk]; exact hd1.2) (by decide) rfl ff.1 ff.2
  · obtain ⟨p, hpl, hpt, hno, hfst, hsnd⟩ := pt_yes (body l) hp
    have hps : p < (⟨(body l).toArray⟩ : ByteArray).size := by rw [size_mk]; exact hpl
    have hpt' : (((((⟨(body l).toArray⟩ : ByteArray)[p]'hps).toNat : Nat) : Int) == 46) = true := by rw [get_mk (body l) p hpl hps, hpt]; rfl
    have hno' : Hid (∀ k (h : k < p), (((((⟨(body l).toArray⟩ : ByteArray)[k]'(Nat.lt_trans h hps)).toNat : Nat) : Int) == 46) = false) := fun k h => by
      rw [get_mk (body l) k (Nat.lt_trans h hpl)]
      exact ne_beq _ 46 (hno k h)
    have hA2 : (⟨(body l).toArray⟩ : ByteArray).extract 0 p = ⟨(fstP (body l)).toArray⟩ := by
      rw [← mk_list ((⟨(body l).toArray⟩ : ByteArray).extract 0 p), (ext_list _ p (by omega)).1, hfst]
    have hA3 : (⟨(body l).toArray⟩ : ByteArray).extract (p + 1) (⟨(body l).toArray⟩ : ByteArray).size = ⟨(sndP (body l)).toArray⟩ := by
      rw [hsnd]
      apply ByteArray.ext
      rw [size_mk, ByteArray.data_extract]
      simp
      exact List.take_of_length_le (by simp)
    cases h1 : digs (fstP (body l)) 1 12
    · rw [if_neg (by simp)]
      have G1 := fun u => rg (fstP (body l)) 12 (by decide) (by omega) h1 u
      rcases hbeg with ⟨hd, hq, hb, he⟩ | ⟨hd, hb, h0 | ⟨hq, hb1⟩⟩
      · exact rp_b2_B0 hs hs1 hq hb he G1 p hps hpt' hno' hA2 hA3
      · rw [size_mk] at h0; omega
      · conv => arg 3; rw [← hb]
        exact rp_b1_B0 hs hs1 hq hb1 G1 p hps hpt' hno' hA2 hA3
    · have hd1 := (digs_iff _ _ _).1 h1
      have G1 := fun u => rg (fstP (body l)) 12 (by decide) (by omega) h1 u
      cases h2 : digs (sndP (body l)) 1 4
      · rw [if_neg (by simp)]
        have G2 := fun u => rg (sndP (body l)) 4 (by decide) (by omega) h2 u
        rcases hbeg with ⟨hd, hq, hb, he⟩ | ⟨hd, hb, h0 | ⟨hq, hb1⟩⟩
        · exact rp_b2_B1 hs hs1 hq hb he G1 p hps hpt' hno' hA2 hA3 G2
        · rw [size_mk] at h0; omega
        · conv => arg 3; rw [← hb]
          exact rp_b1_B1 hs hs1 hq hb1 G1 p hps hpt' hno' hA2 hA3 G2
      · rw [if_pos ⟨rfl, fun _ => rfl⟩, if_pos rfl]
        have hd2 := (digs_iff _ _ _).1 h2
        have G2 := fun u => rg (sndP (body l)) 4 (by decide) (by omega) h2 u
        have ff := full_facts (fstP (body l)) (sndP (body l)) hd1 ⟨hd2.1, hd2.2.2⟩
        rcases hbeg with ⟨hd, hq, hb, he⟩ | ⟨hd, hb, h0 | ⟨hq, hb1⟩⟩
        · rw [hd, e1]
          exact rp_b2_B2 hs hs1 hq hb he G1 p hps hpt' hno' hA2 hA3 G2 (sndP (body l)) _ (by rw [size_mk]; exact hd1.2) (by rw [size_mk]; exact hd2.2.2) rfl ff.1 ff.2
        · rw [size_mk] at h0; omega
        · rw [hd, e0]
          conv => arg 3; rw [← hb]
          exact rp_b1_B2 hs hs1 hq hb1 G1 p hps hpt' hno' hA2 hA3 G2 (sndP (body l)) _ (by rw [size_mk]; exact hd1.2) (by rw [size_mk]; exact hd2.2.2) rfl ff.1 ff.2
end Go.Proofs.YtdgnodijmbeajaaGreatDoor
