/- RNmC, RNmD, RNmN, RWord, RRun. -/
import Derived.Test.YtlndkjcincflpaaGreatDoorRNmBX
import Derived.Test.YtlndkjcincflpaaGreatDoorPTokenX
set_option linter.unusedVariables false
set_option linter.unusedSimpArgs false
namespace Go.Proofs.YtlndkjcincflpaaGreatDoor
open Go.RowKit
set_option maxRecDepth 100000
section
variable {w : World} {n p q1 n1 q2 n2 : Nat} {S A1 A2 D Wd K B H : ByteArray} {r c : Int} {fr fc : Bool}
set_option maxHeartbeats 4000000 in
theorem nmB_word_no_end (hs : S.size = n)
    (hn : n ≤ 255)
    (h0 : 0 < S.size)
    (h91 : ((S[0].toNat : Int) == 91) = true)
    {k0 : Nat}
    (k1 : 1 ≤ k0)
    (k2 : k0 < S.size)
    (hk : Hid (∀ k, 1 ≤ k → k < k0 → ∀ h : k < S.size, ((S[k].toNat : Int) != 93) = true))
    (hk0 : ((S[k0].toNat : Int) != 93) = false)
    (hK : S.extract 1 k0 = K)
    (hKe : (K.toList == []) = false)
    (RG : ∀ u, Calls Tryz.prog 55 #[.string K] u fun e w' => e = .returned (.bool true) ∧ Below u.heap.size u w')
    (hp : (k0 : Int) + 1 = (p : Nat))
    (hpn : p ≤ n)
    (hA1 : S.extract p n = A1)
    (RN1 : ∀ u, Calls Tryz.prog 202 #[.string A1] u fun e w' => e = .returned (.int .i64 (q1 : Nat)) ∧ w' = u)
    (hn1 : (p : Int) + (q1 : Int) = (n1 : Nat))
    (hle : n1 ≤ n)
    (hlt : ¬ n1 < n)
    (hpn1 : p ≤ n1)
    (hW : S.extract p n1 = Wd)
    {ok : Bool}
    (CE : ∀ u, Calls Tryz.prog 204 #[.string Wd] u fun e w' => e = .returned (.tuple #[refV B H r c fr fc, .bool ok]) ∧ Below u.heap.size u w')
    (WD : ∀ u, Calls Tryz.prog 205 #[.string Wd, .bool true] u fun e w' => e = .returned (.bool false) ∧ Below u.heap.size u w') :
    Calls Tryz.prog 166 #[.string S] w fun e w' => e = .returned (.tuple #[.agg (tk0), .int .i64 0]) ∧ Below w.heap.size w w' := by
  have HZ0 : Hid (RZ w (w.alloc tkR)) := RZ.begin w
  have i0 : (n1 : Int) ≤ n := by omega
  have i1 : ¬ (n1 : Int) < n := by omega
  have i4 : (p : Int) ≤ n := by omega
  have i5 : (p : Int) ≤ n1 := by omega
  have j1 : (k0 : Int) < n := by omega
  have j2 : ((k0 : Int) == (n : Int)) = false := by simp; omega
  have j3 : (1 : Int) ≤ k0 := by omega
  have j4 : (k0 : Int) ≤ n := by omega
  go_enter Tryz.func166, Tryz.ntmps166
  go_wp2
  go_loop [6] (fun i => ∃ k : Nat, 1 ≤ k ∧ k ≤ k0 ∧ i = .int .i64 (k : Nat)) (fun i => k0 - (intOf i).toNat)
  case atStart => exact ⟨1, Nat.le_refl _, k1, rfl⟩
  case round =>
    obtain ⟨k, hk1, hk2, rfl⟩ := hrel
    by_cases hlk : k < k0
    · have g1 : (k : Int) < n := by omega
      have g2 : k < S.size := by omega
      have g3 := hk.out k hk1 hlk g2
      clear hk RN1 RG
      go_wp2
      go_round
      case rel => exact ⟨k + 1, by omega, by omega, by go_num⟩
      case measure => simp [intOf]; omega
    · obtain rfl : k = k0 := by omega
      clear hk hlk
      cases ok
      all_goals
        go_wp2_with (first
          | (go_at_call 55; refine (RG _).mono ?_; rintro e w4 ⟨rfl, hs4⟩; have HZ4 : Hid (RZ w w4) := HZ0.out.below hs4; clear hs4 HZ0 RG)
          | (go_at_call 202; refine (RN1 _).mono ?_; rintro e w' ⟨rfl, hw⟩; obtain rfl := hw.symm; clear hw RN1)
          | (go_at_call 204; refine (CE _).mono ?_; rintro e w5 ⟨rfl, hs5⟩; have HZ6 : Hid (RZ w (w5.alloc (refO B H r c fr fc))) := (HZ4.out.below hs5).alloc _; clear hs5 HZ4)
          | (go_at_call 205; refine (WD _).mono ?_; rintro e w7 ⟨rfl, hs7⟩; have HZ7 : Hid (RZ w w7) := HZ6.out.below hs7; have RR := HZ7.out.put 0 0 noB noB noB 0 0 false false; clear hs7 HZ6)
          | (refine wpList_store_run rfl 138 _ _ rfl _ _ _ rfl rfl RR.out ?_))
        exact bodyPost_ret (v := .tuple #[.agg (tk0), .int .i64 0]) (HZ7.out.ans (tk0) rfl rfl rfl rfl) rfl ⟨rfl, HZ7.out.fin _⟩
set_option maxHeartbeats 4000000 in
theorem nmB_word_no_sign (hs : S.size = n)
    (hn : n ≤ 255)
    (h0 : 0 < S.size)
    (h91 : ((S[0].toNat : Int) == 91) = true)
    {k0 : Nat}
    (k1 : 1 ≤ k0)
    (k2 : k0 < S.size)
    (hk : Hid (∀ k, 1 ≤ k → k < k0 → ∀ h : k < S.size, ((S[k].toNat : Int) != 93) = true))
    (hk0 : ((S[k0].toNat : Int) != 93) = false)
    (hK : S.extract 1 k0 = K)
    (hKe : (K.toList == []) = false)
    (RG : ∀ u, Calls Tryz.prog 55 #[.string K] u fun e w' => e = .returned (.bool true) ∧ Below u.heap.size u w')
    (hp : (k0 : Int) + 1 = (p : Nat))
    (hpn : p ≤ n)
    (hA1 : S.extract p n = A1)
    (RN1 : ∀ u, Calls Tryz.prog 202 #[.string A1] u fun e w' => e = .returned (.int .i64 (q1 : Nat)) ∧ w' = u)
    (hn1 : (p : Int) + (q1 : Int) = (n1 : Nat))
    (hle : n1 ≤ n)
    (hlt : n1 < S.size)
    (h33 : ((S[n1].toNat : Int) == 33) = false)
    (hpn1 : p ≤ n1)
    (hW : S.extract p n1 = Wd)
    {ok : Bool}
    (CE : ∀ u, Calls Tryz.prog 204 #[.string Wd] u fun e w' => e = .returned (.tuple #[refV B H r c fr fc, .bool ok]) ∧ Below u.heap.size u w')
    (WD : ∀ u, Calls Tryz.prog 205 #[.string Wd, .bool true] u fun e w' => e = .returned (.bool false) ∧ Below u.heap.size u w') :
    Calls Tryz.prog 166 #[.string S] w fun e w' => e = .returned (.tuple #[.agg (tk0), .int .i64 0]) ∧ Below w.heap.size w w' := by
  have HZ0 : Hid (RZ w (w.alloc tkR)) := RZ.begin w
  have i0 : (n1 : Int) ≤ n := by omega
  have i1 : (n1 : Int) < n := by omega
  have i4 : (p : Int) ≤ n := by omega
  have i5 : (p : Int) ≤ n1 := by omega
  have j1 : (k0 : Int) < n := by omega
  have j2 : ((k0 : Int) == (n : Int)) = false := by simp; omega
  have j3 : (1 : Int) ≤ k0 := by omega
  have j4 : (k0 : Int) ≤ n := by omega
  go_enter Tryz.func166, Tryz.ntmps166
  go_wp2
  go_loop [6] (fun i => ∃ k : Nat, 1 ≤ k ∧ k ≤ k0 ∧ i = .int .i64 (k : Nat)) (fun i => k0 - (intOf i).toNat)
  case atStart => exact ⟨1, Nat.le_refl _, k1, rfl⟩
  case round =>
    obtain ⟨k, hk1, hk2, rfl⟩ := hrel
    by_cases hlk : k < k0
    · have g1 : (k : Int) < n := by omega
      have g2 : k < S.size := by omega
      have g3 := hk.out k hk1 hlk g2
      clear hk RN1 RG
      go_wp2
      go_round
      case rel => exact ⟨k + 1, by omega, by omega, by go_num⟩
      case measure => simp [intOf]; omega
    · obtain rfl : k = k0 := by omega
      clear hk hlk
      cases ok
      all_goals
        go_wp2_with (first
          | (go_at_call 55; refine (RG _).mono ?_; rintro e w4 ⟨rfl, hs4⟩; have HZ4 : Hid (RZ w w4) := HZ0.out.below hs4; clear hs4 HZ0 RG)
          | (go_at_call 202; refine (RN1 _).mono ?_; rintro e w' ⟨rfl, hw⟩; obtain rfl := hw.symm; clear hw RN1)
          | (go_at_call 204; refine (CE _).mono ?_; rintro e w5 ⟨rfl, hs5⟩; have HZ6 : Hid (RZ w (w5.alloc (refO B H r c fr fc))) := (HZ4.out.below hs5).alloc _; clear hs5 HZ4)
          | (go_at_call 205; refine (WD _).mono ?_; rintro e w7 ⟨rfl, hs7⟩; have HZ7 : Hid (RZ w w7) := HZ6.out.below hs7; have RR := HZ7.out.put 0 0 noB noB noB 0 0 false false; clear hs7 HZ6)
          | (refine wpList_store_run rfl 138 _ _ rfl _ _ _ rfl rfl RR.out ?_))
        exact bodyPost_ret (v := .tuple #[.agg (tk0), .int .i64 0]) (HZ7.out.ans (tk0) rfl rfl rfl rfl) rfl ⟨rfl, HZ7.out.fin _⟩
end
end Go.Proofs.YtlndkjcincflpaaGreatDoor

namespace Go.Proofs.YtlndkjcincflpaaGreatDoor
open Go.RowKit
set_option maxRecDepth 100000
section
variable {w : World} {n p q1 n1 q2 n2 : Nat} {S A1 A2 D Wd K B H : ByteArray} {r c : Int} {fr fc : Bool}
set_option maxHeartbeats 4000000 in
theorem nmB_word_yes_end (hs : S.size = n)
    (hn : n ≤ 255)
    (h0 : 0 < S.size)
    (h91 : ((S[0].toNat : Int) == 91) = true)
    {k0 : Nat}
    (k1 : 1 ≤ k0)
    (k2 : k0 < S.size)
    (hk : Hid (∀ k, 1 ≤ k → k < k0 → ∀ h : k < S.size, ((S[k].toNat : Int) != 93) = true))
    (hk0 : ((S[k0].toNat : Int) != 93) = false)
    (hK : S.extract 1 k0 = K)
    (hKe : (K.toList == []) = false)
    (RG : ∀ u, Calls Tryz.prog 55 #[.string K] u fun e w' => e = .returned (.bool true) ∧ Below u.heap.size u w')
    (hp : (k0 : Int) + 1 = (p : Nat))
    (hpn : p ≤ n)
    (hA1 : S.extract p n = A1)
    (RN1 : ∀ u, Calls Tryz.prog 202 #[.string A1] u fun e w' => e = .returned (.int .i64 (q1 : Nat)) ∧ w' = u)
    (hn1 : (p : Int) + (q1 : Int) = (n1 : Nat))
    (hle : n1 ≤ n)
    (hlt : ¬ n1 < n)
    (hpn1 : p ≤ n1)
    (hW : S.extract p n1 = Wd)
    {ok : Bool}
    (CE : ∀ u, Calls Tryz.prog 204 #[.string Wd] u fun e w' => e = .returned (.tuple #[refV B H r c fr fc, .bool ok]) ∧ Below u.heap.size u w')
    (WD : ∀ u, Calls Tryz.prog 205 #[.string Wd, .bool true] u fun e w' => e = .returned (.bool true) ∧ Below u.heap.size u w') :
    Calls Tryz.prog 166 #[.string S] w fun e w' => e = .returned (.tuple #[.agg (tcs 4 0 Wd K noB 0 0 false false), .int .i64 (n1 : Int)]) ∧ Below w.heap.size w w' := by
  have HZ0 : Hid (RZ w (w.alloc tkR)) := RZ.begin w
  have i0 : (n1 : Int) ≤ n := by omega
  have i1 : ¬ (n1 : Int) < n := by omega
  have i4 : (p : Int) ≤ n := by omega
  have i5 : (p : Int) ≤ n1 := by omega
  have j1 : (k0 : Int) < n := by omega
  have j2 : ((k0 : Int) == (n : Int)) = false := by simp; omega
  have j3 : (1 : Int) ≤ k0 := by omega
  have j4 : (k0 : Int) ≤ n := by omega
  go_enter Tryz.func166, Tryz.ntmps166
  go_wp2
  go_loop [6] (fun i => ∃ k : Nat, 1 ≤ k ∧ k ≤ k0 ∧ i = .int .i64 (k : Nat)) (fun i => k0 - (intOf i).toNat)
  case atStart => exact ⟨1, Nat.le_refl _, k1, rfl⟩
  case round =>
    obtain ⟨k, hk1, hk2, rfl⟩ := hrel
    by_cases hlk : k < k0
    · have g1 : (k : Int) < n := by omega
      have g2 : k < S.size := by omega
      have g3 := hk.out k hk1 hlk g2
      clear hk RN1 RG
      go_wp2
      go_round
      case rel => exact ⟨k + 1, by omega, by omega, by go_num⟩
      case measure => simp [intOf]; omega
    · obtain rfl : k = k0 := by omega
      clear hk hlk
      cases ok
      all_goals
        go_wp2_with (first
          | (go_at_call 55; refine (RG _).mono ?_; rintro e w4 ⟨rfl, hs4⟩; have HZ4 : Hid (RZ w w4) := HZ0.out.below hs4; clear hs4 HZ0 RG)
          | (go_at_call 202; refine (RN1 _).mono ?_; rintro e w' ⟨rfl, hw⟩; obtain rfl := hw.symm; clear hw RN1)
          | (go_at_call 204; refine (CE _).mono ?_; rintro e w5 ⟨rfl, hs5⟩; have HZ6 : Hid (RZ w (w5.alloc (refO B H r c fr fc))) := (HZ4.out.below hs5).alloc _; clear hs5 HZ4)
          | (go_at_call 205; refine (WD _).mono ?_; rintro e w7 ⟨rfl, hs7⟩; have HZ7 : Hid (RZ w w7) := HZ6.out.below hs7; have RR := HZ7.out.put 4 0 Wd K noB 0 0 false false; clear hs7 HZ6)
          | (refine wpList_store_run rfl 138 _ _ rfl _ _ _ rfl rfl RR.out ?_))
        exact bodyPost_ret (v := .tuple #[.agg (tcs 4 0 Wd K noB 0 0 false false), .int .i64 (n1 : Int)]) (HZ7.out.ans (tcs 4 0 Wd K noB 0 0 false false) rfl rfl rfl rfl) rfl ⟨rfl, HZ7.out.fin _⟩
set_option maxHeartbeats 4000000 in
theorem nmB_word_yes_sign (hs : S.size = n)
    (hn : n ≤ 255)
    (h0 : 0 < S.size)
    (h91 : ((S[0].toNat : Int) == 91) = true)
    {k0 : Nat}
    (k1 : 1 ≤ k0)
    (k2 : k0 < S.size)
    (hk : Hid (∀ k, 1 ≤ k → k < k0 → ∀ h : k < S.size, ((S[k].toNat : Int) != 93) = true))
    (hk0 : ((S[k0].toNat : Int) != 93) = false)
    (hK : S.extract 1 k0 = K)
    (hKe : (K.toList == []) = false)
    (RG : ∀ u, Calls Tryz.prog 55 #[.string K] u fun e w' => e = .returned (.bool true) ∧ Below u.heap.size u w')
    (hp : (k0 : Int) + 1 = (p : Nat))
    (hpn : p ≤ n)
    (hA1 : S.extract p n = A1)
    (RN1 : ∀ u, Calls Tryz.prog 202 #[.string A1] u fun e w' => e = .returned (.int .i64 (q1 : Nat)) ∧ w' = u)
    (hn1 : (p : Int) + (q1 : Int) = (n1 : Nat))
    (hle : n1 ≤ n)
    (hlt : n1 < S.size)
    (h33 : ((S[n1].toNat : Int) == 33) = false)
    (hpn1 : p ≤ n1)
    (hW : S.extract p n1 = Wd)
    {ok : Bool}
    (CE : ∀ u, Calls Tryz.prog 204 #[.string Wd] u fun e w' => e = .returned (.tuple #[refV B H r c fr fc, .bool ok]) ∧ Below u.heap.size u w')
    (WD : ∀ u, Calls Tryz.prog 205 #[.string Wd, .bool true] u fun e w' => e = .returned (.bool true) ∧ Below u.heap.size u w') :
    Calls Tryz.prog 166 #[.string S] w fun e w' => e = .returned (.tuple #[.agg (tcs 4 0 Wd K noB 0 0 false false), .int .i64 (n1 : Int)]) ∧ Below w.heap.size w w' := by
  have HZ0 : Hid (RZ w (w.alloc tkR)) := RZ.begin w
  have i0 : (n1 : Int) ≤ n := by omega
  have i1 : (n1 : Int) < n := by omega
  have i4 : (p : Int) ≤ n := by omega
  have i5 : (p : Int) ≤ n1 := by omega
  have j1 : (k0 : Int) < n := by omega
  have j2 : ((k0 : Int) == (n : Int)) = false := by simp; omega
  have j3 : (1 : Int) ≤ k0 := by omega
  have j4 : (k0 : Int) ≤ n := by omega
  go_enter Tryz.func166, Tryz.ntmps166
  go_wp2
  go_loop [6] (fun i => ∃ k : Nat, 1 ≤ k ∧ k ≤ k0 ∧ i = .int .i64 (k : Nat)) (fun i => k0 - (intOf i).toNat)
  case atStart => exact ⟨1, Nat.le_refl _, k1, rfl⟩
  case round =>
    obtain ⟨k, hk1, hk2, rfl⟩ := hrel
    by_cases hlk : k < k0
    · have g1 : (k : Int) < n := by omega
      have g2 : k < S.size := by omega
      have g3 := hk.out k hk1 hlk g2
      clear hk RN1 RG
      go_wp2
      go_round
      case rel => exact ⟨k + 1, by omega, by omega, by go_num⟩
      case measure => simp [intOf]; omega
    · obtain rfl : k = k0 := by omega
      clear hk hlk
      cases ok
      all_goals
        go_wp2_with (first
          | (go_at_call 55; refine (RG _).mono ?_; rintro e w4 ⟨rfl, hs4⟩; have HZ4 : Hid (RZ w w4) := HZ0.out.below hs4; clear hs4 HZ0 RG)
          | (go_at_call 202; refine (RN1 _).mono ?_; rintro e w' ⟨rfl, hw⟩; obtain rfl := hw.symm; clear hw RN1)
          | (go_at_call 204; refine (CE _).mono ?_; rintro e w5 ⟨rfl, hs5⟩; have HZ6 : Hid (RZ w (w5.alloc (refO B H r c fr fc))) := (HZ4.out.below hs5).alloc _; clear hs5 HZ4)
          | (go_at_call 205; refine (WD _).mono ?_; rintro e w7 ⟨rfl, hs7⟩; have HZ7 : Hid (RZ w w7) := HZ6.out.below hs7; have RR := HZ7.out.put 4 0 Wd K noB 0 0 false false; clear hs7 HZ6)
          | (refine wpList_store_run rfl 138 _ _ rfl _ _ _ rfl rfl RR.out ?_))
        exact bodyPost_ret (v := .tuple #[.agg (tcs 4 0 Wd K noB 0 0 false false), .int .i64 (n1 : Int)]) (HZ7.out.ans (tcs 4 0 Wd K noB 0 0 false false) rfl rfl rfl rfl) rfl ⟨rfl, HZ7.out.fin _⟩
end
end Go.Proofs.YtlndkjcincflpaaGreatDoor

namespace Go.Proofs.YtlndkjcincflpaaGreatDoor
open Go.RowKit
set_option maxRecDepth 100000
section
variable {w : World} {n p q1 n1 q2 n2 : Nat} {S A1 A2 D Wd K B H : ByteArray} {r c : Int} {fr fc : Bool}
set_option maxHeartbeats 4000000 in
theorem nmN_open (hs : S.size = n) (hn : n ≤ 255) (h0 : 0 < S.size) (h91 : ((S[0].toNat : Int) == 91) = true) {k0 : Nat} (k1 : 1 ≤ k0) (k2 : k0 = n) (hk : Hid (∀ k, 1 ≤ k → k < k0 → ∀ h : k < S.size, ((S[k].toNat : Int) != 93) = true)) :
    Calls Tryz.prog 166 #[.string S] w fun e w' => e = .returned (.tuple #[.agg tk0, .int .i64 0]) ∧ Below w.heap.size w w' := by
  have HZ0 : Hid (RZ w (w.alloc tkR)) := RZ.begin w
  have j1 : ¬ (k0 : Int) < n := by omega
  have j2 : ((k0 : Int) == (n : Int)) = true := by simp; omega
  go_enter Tryz.func166, Tryz.ntmps166
  go_wp2
  go_loop [6] (fun i => ∃ k : Nat, 1 ≤ k ∧ k ≤ k0 ∧ i = .int .i64 (k : Nat)) (fun i => k0 - (intOf i).toNat)
  case atStart => exact ⟨1, Nat.le_refl _, k1, rfl⟩
  case round =>
    obtain ⟨k, hk1, hk2, rfl⟩ := hrel
    by_cases hlk : k < k0
    · have g1 : (k : Int) < n := by omega
      have g2 : k < S.size := by omega
      have g3 := hk.out k hk1 hlk g2
      clear hk
      go_wp2
      go_round
      case rel => exact ⟨k + 1, by omega, by omega, by go_num⟩
      case measure => simp [intOf]; omega
    · obtain rfl : k = k0 := by omega
      clear hk hlk
      go_wp2
      exact bodyPost_ret (v := .tuple #[.agg tk0, .int .i64 0]) (ret_new tk0 rfl rfl rfl rfl) rfl ⟨rfl, bel_alloc (Below.refl _ _) _⟩
set_option maxHeartbeats 4000000 in
theorem nmN_name (hs : S.size = n) (hn : n ≤ 255) (h0 : 0 < S.size) (h91 : ((S[0].toNat : Int) == 91) = true) {k0 : Nat} (k1 : 1 ≤ k0) (k2 : k0 < S.size) (hk0 : ((S[k0].toNat : Int) != 93) = false) (hK : S.extract 1 k0 = K) (RG : ∀ u, Calls Tryz.prog 55 #[.string K] u fun e w' => e = .returned (.bool false) ∧ Below u.heap.size u w') (hk : Hid (∀ k, 1 ≤ k → k < k0 → ∀ h : k < S.size, ((S[k].toNat : Int) != 93) = true)) :
    Calls Tryz.prog 166 #[.string S] w fun e w' => e = .returned (.tuple #[.agg tk0, .int .i64 0]) ∧ Below w.heap.size w w' := by
  have HZ0 : Hid (RZ w (w.alloc tkR)) := RZ.begin w
  have j1 : (k0 : Int) < n := by omega
  have j2 : ((k0 : Int) == (n : Int)) = false := by simp; omega
  have j3 : (1 : Int) ≤ k0 := by omega
  have j4 : (k0 : Int) ≤ n := by omega
  go_enter Tryz.func166, Tryz.ntmps166
  go_wp2
  go_loop [6] (fun i => ∃ k : Nat, 1 ≤ k ∧ k ≤ k0 ∧ i = .int .i64 (k : Nat)) (fun i => k0 - (intOf i).toNat)
  case atStart => exact ⟨1, Nat.le_refl _, k1, rfl⟩
  case round =>
    obtain ⟨k, hk1, hk2, rfl⟩ := hrel
    by_cases hlk : k < k0
    · have g1 : (k : Int) < n := by omega
      have g2 : k < S.size := by omega
      have g3 := hk.out k hk1 hlk g2
      clear hk RG
      go_wp2
      go_round
      case rel => exact ⟨k + 1, by omega, by omega, by go_num⟩
      case measure => simp [intOf]; omega
    · obtain rfl : k = k0 := by omega
      clear hk hlk
      go_wp2_with (first
        | (go_at_call 55; refine (RG _).mono ?_; rintro e w4 ⟨rfl, hs4⟩; have HZ4 : Hid (RZ w w4) := HZ0.out.below hs4; have RR := HZ4.out.put 0 0 noB noB noB 0 0 false false; clear hs4 HZ0 RG)
        | (refine wpList_store_run rfl 138 _ _ rfl _ _ _ rfl rfl RR.out ?_))
      exact bodyPost_ret (v := .tuple #[.agg tk0, .int .i64 0]) (HZ4.out.ans tk0 rfl rfl rfl rfl) rfl ⟨rfl, HZ4.out.fin _⟩
end
end Go.Proofs.YtlndkjcincflpaaGreatDoor

namespace Go.Proofs.YtlndkjcincflpaaGreatDoor
open Go.RowKit
set_option maxRecDepth 100000
set_option maxHeartbeats 2000000 in
theorem rword_any (l : List UInt8) (hl : l.length ≤ 255) (b : Bool) (w : World) : Calls Tryz.prog 205 #[.string (ba l), .bool b] w fun e w' => e = .returned (.bool (gnF l || (!b && trB l))) ∧ Below w.heap.size w w' := by
  have G : Calls Tryz.prog 55 #[.string (ba l)] w fun e w' => e = .returned (.bool (gnF l)) ∧ Below w.heap.size w w' := rgoodname_any (ba l) (by rw [size_mk]; omega) w
  have R := fun u => rtruth_any (ba l) (by rw [size_mk]; omega) u
  have hw := tru_ways (ba l)
  have ht : trB l = (truF (ba l)).2 := rfl
  rw [ht]
  generalize (truF (ba l)).2 = t at *
  generalize truN (szF 97 65 (ba l).data.toList) = n at *
  generalize ba l = A at *
  clear ht
  generalize gnF l = g at *
  cases g <;> cases b
  · rcases hw with ⟨rfl, h⟩ | ⟨rfl, h⟩
    · go_enter Tryz.func205, Tryz.ntmps205
      go_wp2_with (first | (go_at_call 55; refine G.mono ?_; rintro e w1 ⟨rfl, hb⟩; have HB : Hid (Below w.heap.size w w1) := hb; clear hb) | (go_at_call 89; refine (R _).mono ?_; rintro e w2 ⟨rfl, hb⟩; have HB2 : Hid (Below w.heap.size w w2) := bel_step HB.out hb; clear hb))
      go_ret
      exact ⟨rfl, HB2.out⟩
    · have h' : ¬ 0 ≤ n := by omega
      go_enter Tryz.func205, Tryz.ntmps205
      go_wp2_with (first | (go_at_call 55; refine G.mono ?_; rintro e w1 ⟨rfl, hb⟩; have HB : Hid (Below w.heap.size w w1) := hb; clear hb) | (go_at_call 89; refine (R _).mono ?_; rintro e w2 ⟨rfl, hb⟩; have HB2 : Hid (Below w.heap.size w w2) := bel_step HB.out hb; clear hb))
      go_ret
      refine ⟨ret_bool ?_, HB2.out⟩
      simpa using h
  all_goals
    clear hw R
    go_enter Tryz.func205, Tryz.ntmps205
    go_wp2_with (go_at_call 55; refine G.mono ?_; rintro e w1 ⟨rfl, hb⟩; have HB : Hid (Below w.heap.size w w1) := hb; clear hb)
    go_ret
    exact ⟨rfl, HB.out⟩
end Go.Proofs.YtlndkjcincflpaaGreatDoor

namespace Go.Proofs.YtlndkjcincflpaaGreatDoor
open Go.RowKit
set_option maxRecDepth 100000
set_option maxHeartbeats 1000000 in
theorem rblank_any (c : UInt8) (w : World) : Calls Tryz.prog 122 #[.int .u8 (c.toNat : Nat)] w fun e w' => e = .returned (.bool (Tk.blank c)) ∧ w' = w := by
  rw [show Tk.blank c = (decide (c.toNat = 32) || decide (c.toNat = 9)) by unfold Tk.blank; rw [u8_eq, u8_eq]; rfl]
  generalize c.toNat = n
  go_enter Tryz.func122, Tryz.ntmps122
  go_wp2
  all_goals (go_ret; refine ⟨ret_bool ?_, rfl⟩; rw [Bool.eq_iff_iff]; simp; omega)
theorem run_ways (c : UInt8) : (Ad.isL c = true ∧ Tk.runC c = true) ∨ (Ad.isL c = false ∧ Ad.isD c = true ∧ Tk.runC c = true) ∨
    (Ad.isL c = false ∧ Ad.isD c = false ∧ ((c.toNat : Int) == 95) = true ∧ Tk.runC c = true) ∨ (Ad.isL c = false ∧ Ad.isD c = false ∧ ((c.toNat : Int) == 95) = false ∧ ((c.toNat : Int) == 36) = true ∧ Tk.runC c = true) ∨
    (Ad.isL c = false ∧ Ad.isD c = false ∧ ((c.toNat : Int) == 95) = false ∧ ((c.toNat : Int) == 36) = false ∧ Tk.runC c = false) := by
  have e95 : ((c.toNat : Int) == 95) = (c == 95) := by
    rcases ch_facts c 95 with ⟨h1, h2⟩ | ⟨h1, h2⟩
    · subst h1; rfl
    · rw [show ((c.toNat : Int) == 95) = false from h2]; exact (beq_eq_false_iff_ne.2 h1).symm
  have e36 : ((c.toNat : Int) == 36) = (c == 36) := by
    rcases ch_facts c 36 with ⟨h1, h2⟩ | ⟨h1, h2⟩
    · subst h1; rfl
    · rw [show ((c.toNat : Int) == 36) = false from h2]; exact (beq_eq_false_iff_ne.2 h1).symm
  unfold Tk.runC
  rw [e95, e36]
  cases Ad.isL c <;> cases Ad.isD c <;> cases (c == 95) <;> cases (c == 36) <;> simp
set_option maxHeartbeats 4000000 in
theorem rrun_core (l : List UInt8) (S : ByteArray) (hs : S.size = l.length) (HG : Hid (∀ k (h : k < l.length) (h2 : k < S.size), S[k] = l[k])) (hl : l.length ≤ 255) (w : World) : Calls Tryz.prog 202 #[.string S] w fun e w' => e = .returned (.int .i64 ((l.takeWhile Tk.runC).length : Nat)) ∧ w' = w := by
  generalize hr : (l.takeWhile Tk.runC).length = r
  have HR : Hid ((l.takeWhile Tk.runC).length = r) := hr
  clear hr
  go_enter Tryz.func202, Tryz.ntmps202
  go_wp2
  go_loop [3] (fun i => ∃ k : Nat, k ≤ l.length ∧ i = .int .i64 k ∧ Hid ((l.take k).all Tk.runC = true)) (fun i => l.length - (intOf i).toNat)
  case atStart => exact ⟨0, Nat.zero_le _, rfl, by simp [Hid]⟩
  case round =>
    obtain ⟨k, hk, rfl, ha⟩ := hrel
    by_cases hlt : k < l.length
    · have hki : (k : Int) < l.length := by omega
      have hks : k < S.size := by rw [hs]; exact hlt
      have hg := HG.out k hlt hks
      have L := fun u => rletter_any l[k] u
      have D := fun u => rdigit_any l[k] u
      have HE : Hid (Tk.runC l[k] = false → r = k) := fun h => by
        rw [← HR.out, (while_at hlt ha.out h).1, List.length_take]; omega
      have HN : Hid (Tk.runC l[k] = true → (l.take (k + 1)).all Tk.runC = true) := fun h => all_more l k 1 ha.out (fun j hj h2 => by
        obtain rfl : j = 0 := by omega
        exact h)
      have hw := run_ways l[k]
      rw [← hg] at L D HE HN hw
      clear hg HR HG
      rcases hw with ⟨h1, h2⟩ | ⟨h1, h2, h3⟩ | ⟨h1, h2, h3, h4⟩ | ⟨h1, h2, h3, h4, h5⟩ | ⟨h1, h2, h3, h4, h5⟩
      · rw [h1] at L
        have HN2 := HN.out h2
        clear HE HN h1 h2
        go_wp2_with (first | (go_at_call 88; refine (L _).mono ?_; rintro e w' ⟨rfl, hw⟩; obtain rfl := hw.symm; clear hw) | (go_at_call 90; refine (D _).mono ?_; rintro e w' ⟨rfl, hw⟩; obtain rfl := hw.symm; clear hw))
        go_round
        case rel => exact ⟨k + 1, by omega, by go_num, HN2⟩
        case measure => simp [intOf]; omega
      · rw [h1] at L
        rw [h2] at D
        have HN2 := HN.out h3
        clear HE HN h1 h2 h3
        go_wp2_with (first | (go_at_call 88; refine (L _).mono ?_; rintro e w' ⟨rfl, hw⟩; obtain rfl := hw.symm; clear hw) | (go_at_call 90; refine (D _).mono ?_; rintro e w' ⟨rfl, hw⟩; obtain rfl := hw.symm; clear hw))
        go_round
        case rel => exact ⟨k + 1, by omega, by go_num, HN2⟩
        case measure => simp [intOf]; omega
      · rw [h1] at L
        rw [h2] at D
        have HN2 := HN.out h4
        clear HE HN h1 h2 h4
        go_wp2_with (first | (go_at_call 88; refine (L _).mono ?_; rintro e w' ⟨rfl, hw⟩; obtain rfl := hw.symm; clear hw) | (go_at_call 90; refine (D _).mono ?_; rintro e w' ⟨rfl, hw⟩; obtain rfl := hw.symm; clear hw))
        go_round
        case rel => exact ⟨k + 1, by omega, by go_num, HN2⟩
        case measure => simp [intOf]; omega
      · rw [h1] at L
        rw [h2] at D
        have HN2 := HN.out h5
        clear HE HN h1 h2 h5
        go_wp2_with (first | (go_at_call 88; refine (L _).mono ?_; rintro e w' ⟨rfl, hw⟩; obtain rfl := hw.symm; clear hw) | (go_at_call 90; refine (D _).mono ?_; rintro e w' ⟨rfl, hw⟩; obtain rfl := hw.symm; clear hw))
        go_round
        case rel => exact ⟨k + 1, by omega, by go_num, HN2⟩
        case measure => simp [intOf]; omega
      · rw [h1] at L
        rw [h2] at D
        have HE2 : Hid (r = k) := HE.out h5
        clear HE HN h1 h2 h5
        go_wp2_with (first | (go_at_call 88; refine (L _).mono ?_; rintro e w' ⟨rfl, hw⟩; obtain rfl := hw.symm; clear hw) | (go_at_call 90; refine (D _).mono ?_; rintro e w' ⟨rfl, hw⟩; obtain rfl := hw.symm; clear hw))
        go_ret
        exact ⟨by rw [HE2.out]; rfl, rfl⟩
    · have hki : ¬ (k : Int) < l.length := by omega
      have HE : Hid (r = k) := by
        show _ = _
        have := ha.out
        rw [List.take_of_length_le (by omega)] at this
        rw [← HR.out, (while_all this).1]; omega
      clear HR HG
      go_wp2
      go_ret
      exact ⟨by rw [HE.out]; rfl, rfl⟩
theorem rrun_any (l : List UInt8) (hl : l.length ≤ 255) (w : World) : Calls Tryz.prog 202 #[.string (ba l)] w fun e w' => e = .returned (.int .i64 ((l.takeWhile Tk.runC).length : Nat)) ∧ w' = w :=
  rrun_core l (ba l) (size_mk l) (fun k h h2 => ba_get l k h h2) hl w
end Go.Proofs.YtlndkjcincflpaaGreatDoor
