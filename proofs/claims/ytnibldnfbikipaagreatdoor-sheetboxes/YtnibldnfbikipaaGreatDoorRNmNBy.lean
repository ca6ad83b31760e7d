/- RNmP, RNmQ, RNmB, RNmC, RNmD, RNmN. -/
import Derived.Test.YtnibldnfbikipaaGreatDoorRQuoBy
set_option linter.unusedVariables false
set_option linter.unusedSimpArgs false
set_option maxHeartbeats 16000000
set_option maxRecDepth 100000
namespace Go.Proofs.YtnibldnfbikipaaGreatDoor
open Go.RowKit
section
variable {w : World} {n p q1 n1 q2 n2 : Nat} {S A1 A2 D Wd K B H : ByteArray} {r c : Int} {fr fc : Bool}
theorem nmP_sheet_no (hs : S.size = n)
  (hn : n ≤ 255)
  (h0 : 0 < S.size)
  (h91 : ((S[0].toNat : Int) == 91) = false)
  (hA1 : S.extract 0 n = S)
  (RN1 : ∀ u, Calls Tryz.prog 240 #[.string S] u fun e w' => e = .returned (.int .i64 (n1 : Nat)) ∧ w' = u)
  (hle : n1 ≤ n)
  (hlt : n1 < S.size)
  (h33 : ((S[n1].toNat : Int) == 33) = true)
  (hA2 : S.extract (n1 + 1) n = A2)
  (RN2 : ∀ u, Calls Tryz.prog 240 #[.string A2] u fun e w' => e = .returned (.int .i64 (q2 : Nat)) ∧ w' = u)
  (hn2 : (n1 : Int) + (1 + (q2 : Int)) = (n2 : Nat))
  (hn2n : n2 ≤ n)
  (hD : S.extract 0 n2 = D)
  (PR : ∀ u, Calls Tryz.prog 241 #[.string D] u fun e w' => e = .returned (.tuple #[refV B H r c fr fc, .bool false]) ∧ Below u.heap.size u w') :
  Calls Tryz.prog 200 #[.string S] w fun e w' => e = .returned (.tuple #[.agg (tk0), .int .i64 0]) ∧ Below w.heap.size w w' := by
 have HZ0 : Hid (RZ w (w.alloc tkR)) := RZ.begin w
 have i0 : (n1 : Int) ≤ n := by omega
 have i1 : (n1 : Int) < n := by omega
 have i2 : (n1 : Int) + 1 ≤ n := by omega
 have i3 : (n2 : Int) ≤ n := by omega
 go_enter Tryz.func200, Tryz.ntmps200
 go_wp2_with (first
  | (go_at_call 240; refine (RN1 _).mono ?_; rintro e w' ⟨rfl, hw⟩; obtain rfl := hw.symm; clear hw RN1)
  | (go_at_call 240; refine (RN2 _).mono ?_; rintro e w' ⟨rfl, hw⟩; obtain rfl := hw.symm; clear hw RN2)
  | (go_at_call 241; refine (PR _).mono ?_; rintro e w5 ⟨rfl, hs5⟩; have HZ6 : Hid (RZ w (w5.alloc (refO B H r c fr fc))) := (HZ0.out.below hs5).alloc _; have RR := HZ6.out.put 0 0 noB noB noB 0 0 false false; clear hs5 HZ0)
  | (refine wpList_store_run rfl 188 _ _ rfl _ _ _ rfl rfl RR.out ?_))
 exact bodyPost_ret (v := .tuple #[.agg (tk0), .int .i64 0]) (HZ6.out.ans (tk0) rfl rfl rfl rfl) rfl ⟨rfl, HZ6.out.fin _⟩
theorem nmP_sheet_yes (hs : S.size = n)
  (hn : n ≤ 255)
  (h0 : 0 < S.size)
  (h91 : ((S[0].toNat : Int) == 91) = false)
  (hA1 : S.extract 0 n = S)
  (RN1 : ∀ u, Calls Tryz.prog 240 #[.string S] u fun e w' => e = .returned (.int .i64 (n1 : Nat)) ∧ w' = u)
  (hle : n1 ≤ n)
  (hlt : n1 < S.size)
  (h33 : ((S[n1].toNat : Int) == 33) = true)
  (hA2 : S.extract (n1 + 1) n = A2)
  (RN2 : ∀ u, Calls Tryz.prog 240 #[.string A2] u fun e w' => e = .returned (.int .i64 (q2 : Nat)) ∧ w' = u)
  (hn2 : (n1 : Int) + (1 + (q2 : Int)) = (n2 : Nat))
  (hn2n : n2 ≤ n)
  (hD : S.extract 0 n2 = D)
  (PR : ∀ u, Calls Tryz.prog 241 #[.string D] u fun e w' => e = .returned (.tuple #[refV B H r c fr fc, .bool true]) ∧ Below u.heap.size u w') :
  Calls Tryz.prog 200 #[.string S] w fun e w' => e = .returned (.tuple #[.agg (tcs 3 0 noB B H r c fr fc), .int .i64 (n2 : Int)]) ∧ Below w.heap.size w w' := by
 have HZ0 : Hid (RZ w (w.alloc tkR)) := RZ.begin w
 have i0 : (n1 : Int) ≤ n := by omega
 have i1 : (n1 : Int) < n := by omega
 have i2 : (n1 : Int) + 1 ≤ n := by omega
 have i3 : (n2 : Int) ≤ n := by omega
 go_enter Tryz.func200, Tryz.ntmps200
 go_wp2_with (first
  | (go_at_call 240; refine (RN1 _).mono ?_; rintro e w' ⟨rfl, hw⟩; obtain rfl := hw.symm; clear hw RN1)
  | (go_at_call 240; refine (RN2 _).mono ?_; rintro e w' ⟨rfl, hw⟩; obtain rfl := hw.symm; clear hw RN2)
  | (go_at_call 241; refine (PR _).mono ?_; rintro e w5 ⟨rfl, hs5⟩; have HZ6 : Hid (RZ w (w5.alloc (refO B H r c fr fc))) := (HZ0.out.below hs5).alloc _; have RR := HZ6.out.put 3 0 noB B H r c fr fc; clear hs5 HZ0)
  | (refine wpList_store_run rfl 188 _ _ rfl _ _ _ rfl rfl RR.out ?_))
 exact bodyPost_ret (v := .tuple #[.agg (tcs 3 0 noB B H r c fr fc), .int .i64 (n2 : Int)]) (HZ6.out.ans (tcs 3 0 noB B H r c fr fc) rfl rfl rfl rfl) rfl ⟨rfl, HZ6.out.fin _⟩
theorem nmP_cell_end (hs : S.size = n)
  (hn : n ≤ 255)
  (h0 : 0 < S.size)
  (h91 : ((S[0].toNat : Int) == 91) = false)
  (hA1 : S.extract 0 n = S)
  (RN1 : ∀ u, Calls Tryz.prog 240 #[.string S] u fun e w' => e = .returned (.int .i64 (n1 : Nat)) ∧ w' = u)
  (hle : n1 ≤ n)
  (hlt : ¬ n1 < n)
  (hW : S.extract 0 n1 = Wd)
  (CE : ∀ u, Calls Tryz.prog 242 #[.string Wd] u fun e w' => e = .returned (.tuple #[refV B H r c fr fc, .bool true]) ∧ Below u.heap.size u w') :
  Calls Tryz.prog 200 #[.string S] w fun e w' => e = .returned (.tuple #[.agg (tcs 3 0 noB B H r c fr fc), .int .i64 (n1 : Int)]) ∧ Below w.heap.size w w' := by
 have HZ0 : Hid (RZ w (w.alloc tkR)) := RZ.begin w
 have i0 : (n1 : Int) ≤ n := by omega
 have i1 : ¬ (n1 : Int) < n := by omega
 go_enter Tryz.func200, Tryz.ntmps200
 go_wp2_with (first
  | (go_at_call 240; refine (RN1 _).mono ?_; rintro e w' ⟨rfl, hw⟩; obtain rfl := hw.symm; clear hw RN1)
  | (go_at_call 242; refine (CE _).mono ?_; rintro e w5 ⟨rfl, hs5⟩; have HZ6 : Hid (RZ w (w5.alloc (refO B H r c fr fc))) := (HZ0.out.below hs5).alloc _; have RR := HZ6.out.put 3 0 noB B H r c fr fc; clear hs5 HZ0)
  | (refine wpList_store_run rfl 188 _ _ rfl _ _ _ rfl rfl RR.out ?_))
 exact bodyPost_ret (v := .tuple #[.agg (tcs 3 0 noB B H r c fr fc), .int .i64 (n1 : Int)]) (HZ6.out.ans (tcs 3 0 noB B H r c fr fc) rfl rfl rfl rfl) rfl ⟨rfl, HZ6.out.fin _⟩
theorem nmP_cell_sign (hs : S.size = n)
  (hn : n ≤ 255)
  (h0 : 0 < S.size)
  (h91 : ((S[0].toNat : Int) == 91) = false)
  (hA1 : S.extract 0 n = S)
  (RN1 : ∀ u, Calls Tryz.prog 240 #[.string S] u fun e w' => e = .returned (.int .i64 (n1 : Nat)) ∧ w' = u)
  (hle : n1 ≤ n)
  (hlt : n1 < S.size)
  (h33 : ((S[n1].toNat : Int) == 33) = false)
  (hW : S.extract 0 n1 = Wd)
  (CE : ∀ u, Calls Tryz.prog 242 #[.string Wd] u fun e w' => e = .returned (.tuple #[refV B H r c fr fc, .bool true]) ∧ Below u.heap.size u w') :
  Calls Tryz.prog 200 #[.string S] w fun e w' => e = .returned (.tuple #[.agg (tcs 3 0 noB B H r c fr fc), .int .i64 (n1 : Int)]) ∧ Below w.heap.size w w' := by
 have HZ0 : Hid (RZ w (w.alloc tkR)) := RZ.begin w
 have i0 : (n1 : Int) ≤ n := by omega
 have i1 : (n1 : Int) < n := by omega
 go_enter Tryz.func200, Tryz.ntmps200
 go_wp2_with (first
  | (go_at_call 240; refine (RN1 _).mono ?_; rintro e w' ⟨rfl, hw⟩; obtain rfl := hw.symm; clear hw RN1)
  | (go_at_call 242; refine (CE _).mono ?_; rintro e w5 ⟨rfl, hs5⟩; have HZ6 : Hid (RZ w (w5.alloc (refO B H r c fr fc))) := (HZ0.out.below hs5).alloc _; have RR := HZ6.out.put 3 0 noB B H r c fr fc; clear hs5 HZ0)
  | (refine wpList_store_run rfl 188 _ _ rfl _ _ _ rfl rfl RR.out ?_))
 exact bodyPost_ret (v := .tuple #[.agg (tcs 3 0 noB B H r c fr fc), .int .i64 (n1 : Int)]) (HZ6.out.ans (tcs 3 0 noB B H r c fr fc) rfl rfl rfl rfl) rfl ⟨rfl, HZ6.out.fin _⟩
end
section
variable {w : World} {n p q1 n1 q2 n2 : Nat} {S A1 A2 D Wd K B H : ByteArray} {r c : Int} {fr fc : Bool}
theorem nmP_word_no_end (hs : S.size = n)
  (hn : n ≤ 255)
  (h0 : 0 < S.size)
  (h91 : ((S[0].toNat : Int) == 91) = false)
  (hA1 : S.extract 0 n = S)
  (RN1 : ∀ u, Calls Tryz.prog 240 #[.string S] u fun e w' => e = .returned (.int .i64 (n1 : Nat)) ∧ w' = u)
  (hle : n1 ≤ n)
  (hlt : ¬ n1 < n)
  (hW : S.extract 0 n1 = Wd)
  (CE : ∀ u, Calls Tryz.prog 242 #[.string Wd] u fun e w' => e = .returned (.tuple #[refV B H r c fr fc, .bool false]) ∧ Below u.heap.size u w')
  (WD : ∀ u, Calls Tryz.prog 243 #[.string Wd, .bool false] u fun e w' => e = .returned (.bool false) ∧ Below u.heap.size u w') :
  Calls Tryz.prog 200 #[.string S] w fun e w' => e = .returned (.tuple #[.agg (tk0), .int .i64 0]) ∧ Below w.heap.size w w' := by
 have HZ0 : Hid (RZ w (w.alloc tkR)) := RZ.begin w
 have i0 : (n1 : Int) ≤ n := by omega
 have i1 : ¬ (n1 : Int) < n := by omega
 go_enter Tryz.func200, Tryz.ntmps200
 go_wp2_with (first
  | (go_at_call 240; refine (RN1 _).mono ?_; rintro e w' ⟨rfl, hw⟩; obtain rfl := hw.symm; clear hw RN1)
  | (go_at_call 242; refine (CE _).mono ?_; rintro e w5 ⟨rfl, hs5⟩; have HZ6 : Hid (RZ w (w5.alloc (refO B H r c fr fc))) := (HZ0.out.below hs5).alloc _; clear hs5 HZ0)
  | (go_at_call 243; refine (WD _).mono ?_; rintro e w7 ⟨rfl, hs7⟩; have HZ7 : Hid (RZ w w7) := HZ6.out.below hs7; have RR := HZ7.out.put 0 0 noB noB noB 0 0 false false; clear hs7 HZ6)
  | (refine wpList_store_run rfl 188 _ _ rfl _ _ _ rfl rfl RR.out ?_))
 exact bodyPost_ret (v := .tuple #[.agg (tk0), .int .i64 0]) (HZ7.out.ans (tk0) rfl rfl rfl rfl) rfl ⟨rfl, HZ7.out.fin _⟩
theorem nmP_word_no_sign (hs : S.size = n)
  (hn : n ≤ 255)
  (h0 : 0 < S.size)
  (h91 : ((S[0].toNat : Int) == 91) = false)
  (hA1 : S.extract 0 n = S)
  (RN1 : ∀ u, Calls Tryz.prog 240 #[.string S] u fun e w' => e = .returned (.int .i64 (n1 : Nat)) ∧ w' = u)
  (hle : n1 ≤ n)
  (hlt : n1 < S.size)
  (h33 : ((S[n1].toNat : Int) == 33) = false)
  (hW : S.extract 0 n1 = Wd)
  (CE : ∀ u, Calls Tryz.prog 242 #[.string Wd] u fun e w' => e = .returned (.tuple #[refV B H r c fr fc, .bool false]) ∧ Below u.heap.size u w')
  (WD : ∀ u, Calls Tryz.prog 243 #[.string Wd, .bool false] u fun e w' => e = .returned (.bool false) ∧ Below u.heap.size u w') :
  Calls Tryz.prog 200 #[.string S] w fun e w' => e = .returned (.tuple #[.agg (tk0), .int .i64 0]) ∧ Below w.heap.size w w' := by
 have HZ0 : Hid (RZ w (w.alloc tkR)) := RZ.begin w
 have i0 : (n1 : Int) ≤ n := by omega
 have i1 : (n1 : Int) < n := by omega
 go_enter Tryz.func200, Tryz.ntmps200
 go_wp2_with (first
  | (go_at_call 240; refine (RN1 _).mono ?_; rintro e w' ⟨rfl, hw⟩; obtain rfl := hw.symm; clear hw RN1)
  | (go_at_call 242; refine (CE _).mono ?_; rintro e w5 ⟨rfl, hs5⟩; have HZ6 : Hid (RZ w (w5.alloc (refO B H r c fr fc))) := (HZ0.out.below hs5).alloc _; clear hs5 HZ0)
  | (go_at_call 243; refine (WD _).mono ?_; rintro e w7 ⟨rfl, hs7⟩; have HZ7 : Hid (RZ w w7) := HZ6.out.below hs7; have RR := HZ7.out.put 0 0 noB noB noB 0 0 false false; clear hs7 HZ6)
  | (refine wpList_store_run rfl 188 _ _ rfl _ _ _ rfl rfl RR.out ?_))
 exact bodyPost_ret (v := .tuple #[.agg (tk0), .int .i64 0]) (HZ7.out.ans (tk0) rfl rfl rfl rfl) rfl ⟨rfl, HZ7.out.fin _⟩
theorem nmP_word_yes_end (hs : S.size = n)
  (hn : n ≤ 255)
  (h0 : 0 < S.size)
  (h91 : ((S[0].toNat : Int) == 91) = false)
  (hA1 : S.extract 0 n = S)
  (RN1 : ∀ u, Calls Tryz.prog 240 #[.string S] u fun e w' => e = .returned (.int .i64 (n1 : Nat)) ∧ w' = u)
  (hle : n1 ≤ n)
  (hlt : ¬ n1 < n)
  (hW : S.extract 0 n1 = Wd)
  (CE : ∀ u, Calls Tryz.prog 242 #[.string Wd] u fun e w' => e = .returned (.tuple #[refV B H r c fr fc, .bool false]) ∧ Below u.heap.size u w')
  (WD : ∀ u, Calls Tryz.prog 243 #[.string Wd, .bool false] u fun e w' => e = .returned (.bool true) ∧ Below u.heap.size u w') :
  Calls Tryz.prog 200 #[.string S] w fun e w' => e = .returned (.tuple #[.agg (tcs 4 0 Wd noB noB 0 0 false false), .int .i64 (n1 : Int)]) ∧ Below w.heap.size w w' := by
 have HZ0 : Hid (RZ w (w.alloc tkR)) := RZ.begin w
 have i0 : (n1 : Int) ≤ n := by omega
 have i1 : ¬ (n1 : Int) < n := by omega
 go_enter Tryz.func200, Tryz.ntmps200
 go_wp2_with (first
  | (go_at_call 240; refine (RN1 _).mono ?_; rintro e w' ⟨rfl, hw⟩; obtain rfl := hw.symm; clear hw RN1)
  | (go_at_call 242; refine (CE _).mono ?_; rintro e w5 ⟨rfl, hs5⟩; have HZ6 : Hid (RZ w (w5.alloc (refO B H r c fr fc))) := (HZ0.out.below hs5).alloc _; clear hs5 HZ0)
  | (go_at_call 243; refine (WD _).mono ?_; rintro e w7 ⟨rfl, hs7⟩; have HZ7 : Hid (RZ w w7) := HZ6.out.below hs7; have RR := HZ7.out.put 4 0 Wd noB noB 0 0 false false; clear hs7 HZ6)
  | (refine wpList_store_run rfl 188 _ _ rfl _ _ _ rfl rfl RR.out ?_))
 exact bodyPost_ret (v := .tuple #[.agg (tcs 4 0 Wd noB noB 0 0 false false), .int .i64 (n1 : Int)]) (HZ7.out.ans (tcs 4 0 Wd noB noB 0 0 false false) rfl rfl rfl rfl) rfl ⟨rfl, HZ7.out.fin _⟩
theorem nmP_word_yes_sign (hs : S.size = n)
  (hn : n ≤ 255)
  (h0 : 0 < S.size)
  (h91 : ((S[0].toNat : Int) == 91) = false)
  (hA1 : S.extract 0 n = S)
  (RN1 : ∀ u, Calls Tryz.prog 240 #[.string S] u fun e w' => e = .returned (.int .i64 (n1 : Nat)) ∧ w' = u)
  (hle : n1 ≤ n)
  (hlt : n1 < S.size)
  (h33 : ((S[n1].toNat : Int) == 33) = false)
  (hW : S.extract 0 n1 = Wd)
  (CE : ∀ u, Calls Tryz.prog 242 #[.string Wd] u fun e w' => e = .returned (.tuple #[refV B H r c fr fc, .bool false]) ∧ Below u.heap.size u w')
  (WD : ∀ u, Calls Tryz.prog 243 #[.string Wd, .bool false] u fun e w' => e = .returned (.bool true) ∧ Below u.heap.size u w') :
  Calls Tryz.prog 200 #[.string S] w fun e w' => e = .returned (.tuple #[.agg (tcs 4 0 Wd noB noB 0 0 false false), .int .i64 (n1 : Int)]) ∧ Below w.heap.size w w' := by
 have HZ0 : Hid (RZ w (w.alloc tkR)) := RZ.begin w
 have i0 : (n1 : Int) ≤ n := by omega
 have i1 : (n1 : Int) < n := by omega
 go_enter Tryz.func200, Tryz.ntmps200
 go_wp2_with (first
  | (go_at_call 240; refine (RN1 _).mono ?_; rintro e w' ⟨rfl, hw⟩; obtain rfl := hw.symm; clear hw RN1)
  | (go_at_call 242; refine (CE _).mono ?_; rintro e w5 ⟨rfl, hs5⟩; have HZ6 : Hid (RZ w (w5.alloc (refO B H r c fr fc))) := (HZ0.out.below hs5).alloc _; clear hs5 HZ0)
  | (go_at_call 243; refine (WD _).mono ?_; rintro e w7 ⟨rfl, hs7⟩; have HZ7 : Hid (RZ w w7) := HZ6.out.below hs7; have RR := HZ7.out.put 4 0 Wd noB noB 0 0 false false; clear hs7 HZ6)
  | (refine wpList_store_run rfl 188 _ _ rfl _ _ _ rfl rfl RR.out ?_))
 exact bodyPost_ret (v := .tuple #[.agg (tcs 4 0 Wd noB noB 0 0 false false), .int .i64 (n1 : Int)]) (HZ7.out.ans (tcs 4 0 Wd noB noB 0 0 false false) rfl rfl rfl rfl) rfl ⟨rfl, HZ7.out.fin _⟩
end
section
variable {w : World} {n p q1 n1 q2 n2 : Nat} {S A1 A2 D Wd K B H : ByteArray} {r c : Int} {fr fc : Bool}
theorem nmB_sheet_no (hs : S.size = n)
  (hn : n ≤ 255)
  (h0 : 0 < S.size)
  (h91 : ((S[0].toNat : Int) == 91) = true)
  {k0 : Nat}
  (k1 : 1 ≤ k0)
  (k2 : k0 < S.size)
  (hk : Hid (∀ k, 1 ≤ k → k < k0 → ∀ h : k < S.size, ((S[k].toNat : Int) != 93) = true))
  (hk0 : ((S[k0].toNat : Int) != 93) = false)
  (hK : S.extract 1 k0 = K)
  (hKe : (K.toList == []) = false)
  (RG : ∀ u, Calls Tryz.prog 48 #[.string K] u fun e w' => e = .returned (.bool true) ∧ Below u.heap.size u w')
  (hp : (k0 : Int) + 1 = (p : Nat))
  (hpn : p ≤ n)
  (hA1 : S.extract p n = A1)
  (RN1 : ∀ u, Calls Tryz.prog 240 #[.string A1] u fun e w' => e = .returned (.int .i64 (q1 : Nat)) ∧ w' = u)
  (hn1 : (p : Int) + (q1 : Int) = (n1 : Nat))
  (hle : n1 ≤ n)
  (hlt : n1 < S.size)
  (h33 : ((S[n1].toNat : Int) == 33) = true)
  (hA2 : S.extract (n1 + 1) n = A2)
  (RN2 : ∀ u, Calls Tryz.prog 240 #[.string A2] u fun e w' => e = .returned (.int .i64 (q2 : Nat)) ∧ w' = u)
  (hn2 : (n1 : Int) + (1 + (q2 : Int)) = (n2 : Nat))
  (hn2n : n2 ≤ n)
  (hD : S.extract 0 n2 = D)
  (PR : ∀ u, Calls Tryz.prog 241 #[.string D] u fun e w' => e = .returned (.tuple #[refV B H r c fr fc, .bool false]) ∧ Below u.heap.size u w') :
  Calls Tryz.prog 200 #[.string S] w fun e w' => e = .returned (.tuple #[.agg (tk0), .int .i64 0]) ∧ Below w.heap.size w w' := by
 have HZ0 : Hid (RZ w (w.alloc tkR)) := RZ.begin w
 have i0 : (n1 : Int) ≤ n := by omega
 have i1 : (n1 : Int) < n := by omega
 have i2 : (n1 : Int) + 1 ≤ n := by omega
 have i3 : (n2 : Int) ≤ n := by omega
 have i4 : (p : Int) ≤ n := by omega
 have j1 : (k0 : Int) < n := by omega
 have j2 : ((k0 : Int) == (n : Int)) = false := by simp; omega
 have j3 : (1 : Int) ≤ k0 := by omega
 have j4 : (k0 : Int) ≤ n := by omega
 go_enter Tryz.func200, Tryz.ntmps200
 go_wp2
 go_loop [6] (fun i => ∃ k : Nat, 1 ≤ k ∧ k ≤ k0 ∧ i = .int .i64 (k : Nat)) (fun i => k0 - (intOf i).toNat)
 case atStart => exact ⟨1, Nat.le_refl _, k1, rfl⟩
 case round =>
  obtain ⟨k, hk1, hk2, rfl⟩ := hrel
  by_cases hlk : k < k0
  ·have g1 : (k : Int) < n := by omega
   have g2 : k < S.size := by omega
   have g3 := hk.out k hk1 hlk g2
   clear hk RN1 RG
   go_wp2
   go_round
   case rel => exact ⟨k + 1, by omega, by omega, by go_num⟩
   case measure => simp [intOf]; omega
  ·obtain rfl : k = k0 := by omega
   clear hk hlk
   go_wp2_with (first
    | (go_at_call 48; refine (RG _).mono ?_; rintro e w4 ⟨rfl, hs4⟩; have HZ4 : Hid (RZ w w4) := HZ0.out.below hs4; clear hs4 HZ0 RG)
    | (go_at_call 240; refine (RN1 _).mono ?_; rintro e w' ⟨rfl, hw⟩; obtain rfl := hw.symm; clear hw RN1)
    | (go_at_call 240; refine (RN2 _).mono ?_; rintro e w' ⟨rfl, hw⟩; obtain rfl := hw.symm; clear hw RN2)
    | (go_at_call 241; refine (PR _).mono ?_; rintro e w5 ⟨rfl, hs5⟩; have HZ6 : Hid (RZ w (w5.alloc (refO B H r c fr fc))) := (HZ4.out.below hs5).alloc _; have RR := HZ6.out.put 0 0 noB noB noB 0 0 false false; clear hs5 HZ4)
    | (refine wpList_store_run rfl 188 _ _ rfl _ _ _ rfl rfl RR.out ?_))
   exact bodyPost_ret (v := .tuple #[.agg (tk0), .int .i64 0]) (HZ6.out.ans (tk0) rfl rfl rfl rfl) rfl ⟨rfl, HZ6.out.fin _⟩
theorem nmB_sheet_yes (hs : S.size = n)
  (hn : n ≤ 255)
  (h0 : 0 < S.size)
  (h91 : ((S[0].toNat : Int) == 91) = true)
  {k0 : Nat}
  (k1 : 1 ≤ k0)
  (k2 : k0 < S.size)
  (hk : Hid (∀ k, 1 ≤ k → k < k0 → ∀ h : k < S.size, ((S[k].toNat : Int) != 93) = true))
  (hk0 : ((S[k0].toNat : Int) != 93) = false)
  (hK : S.extract 1 k0 = K)
  (hKe : (K.toList == []) = false)
  (RG : ∀ u, Calls Tryz.prog 48 #[.string K] u fun e w' => e = .returned (.bool true) ∧ Below u.heap.size u w')
  (hp : (k0 : Int) + 1 = (p : Nat))
  (hpn : p ≤ n)
  (hA1 : S.extract p n = A1)
  (RN1 : ∀ u, Calls Tryz.prog 240 #[.string A1] u fun e w' => e = .returned (.int .i64 (q1 : Nat)) ∧ w' = u)
  (hn1 : (p : Int) + (q1 : Int) = (n1 : Nat))
  (hle : n1 ≤ n)
  (hlt : n1 < S.size)
  (h33 : ((S[n1].toNat : Int) == 33) = true)
  (hA2 : S.extract (n1 + 1) n = A2)
  (RN2 : ∀ u, Calls Tryz.prog 240 #[.string A2] u fun e w' => e = .returned (.int .i64 (q2 : Nat)) ∧ w' = u)
  (hn2 : (n1 : Int) + (1 + (q2 : Int)) = (n2 : Nat))
  (hn2n : n2 ≤ n)
  (hD : S.extract 0 n2 = D)
  (PR : ∀ u, Calls Tryz.prog 241 #[.string D] u fun e w' => e = .returned (.tuple #[refV B H r c fr fc, .bool true]) ∧ Below u.heap.size u w') :
  Calls Tryz.prog 200 #[.string S] w fun e w' => e = .returned (.tuple #[.agg (tcs 3 0 noB B H r c fr fc), .int .i64 (n2 : Int)]) ∧ Below w.heap.size w w' := by
 have HZ0 : Hid (RZ w (w.alloc tkR)) := RZ.begin w
 have i0 : (n1 : Int) ≤ n := by omega
 have i1 : (n1 : Int) < n := by omega
 have i2 : (n1 : Int) + 1 ≤ n := by omega
 have i3 : (n2 : Int) ≤ n := by omega
 have i4 : (p : Int) ≤ n := by omega
 have j1 : (k0 : Int) < n := by omega
 have j2 : ((k0 : Int) == (n : Int)) = false := by simp; omega
 have j3 : (1 : Int) ≤ k0 := by omega
 have j4 : (k0 : Int) ≤ n := by omega
 go_enter Tryz.func200, Tryz.ntmps200
 go_wp2
 go_loop [6] (fun i => ∃ k : Nat, 1 ≤ k ∧ k ≤ k0 ∧ i = .int .i64 (k : Nat)) (fun i => k0 - (intOf i).toNat)
 case atStart => exact ⟨1, Nat.le_refl _, k1, rfl⟩
 case round =>
  obtain ⟨k, hk1, hk2, rfl⟩ := hrel
  by_cases hlk : k < k0
  ·have g1 : (k : Int) < n := by omega
   have g2 : k < S.size := by omega
   have g3 := hk.out k hk1 hlk g2
   clear hk RN1 RG
   go_wp2
   go_round
   case rel => exact ⟨k + 1, by omega, by omega, by go_num⟩
   case measure => simp [intOf]; omega
  ·obtain rfl : k = k0 := by omega
   clear hk hlk
   go_wp2_with (first
    | (go_at_call 48; refine (RG _).mono ?_; rintro e w4 ⟨rfl, hs4⟩; have HZ4 : Hid (RZ w w4) := HZ0.out.below hs4; clear hs4 HZ0 RG)
    | (go_at_call 240; refine (RN1 _).mono ?_; rintro e w' ⟨rfl, hw⟩; obtain rfl := hw.symm; clear hw RN1)
    | (go_at_call 240; refine (RN2 _).mono ?_; rintro e w' ⟨rfl, hw⟩; obtain rfl := hw.symm; clear hw RN2)
    | (go_at_call 241; refine (PR _).mono ?_; rintro e w5 ⟨rfl, hs5⟩; have HZ6 : Hid (RZ w (w5.alloc (refO B H r c fr fc))) := (HZ4.out.below hs5).alloc _; have RR := HZ6.out.put 3 0 noB B H r c fr fc; clear hs5 HZ4)
    | (refine wpList_store_run rfl 188 _ _ rfl _ _ _ rfl rfl RR.out ?_))
   exact bodyPost_ret (v := .tuple #[.agg (tcs 3 0 noB B H r c fr fc), .int .i64 (n2 : Int)]) (HZ6.out.ans (tcs 3 0 noB B H r c fr fc) rfl rfl rfl rfl) rfl ⟨rfl, HZ6.out.fin _⟩
end
section
variable {w : World} {n p q1 n1 q2 n2 : Nat} {S A1 A2 D Wd K B H : ByteArray} {r c : Int} {fr fc : Bool}
theorem nmB_word_no_end (hs : S.size = n)
  (hn : n ≤ 255)
  (h0 : 0 < S.size)
  (h91 : ((S[0].toNat : Int) == 91) = true)
  {k0 : Nat}
  (k1 : 1 ≤ k0)
  (k2 : k0 < S.size)
  (hk : Hid (∀ k, 1 ≤ k → k < k0 → ∀ h : k < S.size, ((S[k].toNat : Int) != 93) = true))
  (hk0 : ((S[k0].toNat : Int) != 93) = false)
  (hK : S.extract 1 k0 = K)
  (hKe : (K.toList == []) = false)
  (RG : ∀ u, Calls Tryz.prog 48 #[.string K] u fun e w' => e = .returned (.bool true) ∧ Below u.heap.size u w')
  (hp : (k0 : Int) + 1 = (p : Nat))
  (hpn : p ≤ n)
  (hA1 : S.extract p n = A1)
  (RN1 : ∀ u, Calls Tryz.prog 240 #[.string A1] u fun e w' => e = .returned (.int .i64 (q1 : Nat)) ∧ w' = u)
  (hn1 : (p : Int) + (q1 : Int) = (n1 : Nat))
  (hle : n1 ≤ n)
  (hlt : ¬ n1 < n)
  (hpn1 : p ≤ n1)
  (hW : S.extract p n1 = Wd)
  {ok : Bool}
  (CE : ∀ u, Calls Tryz.prog 242 #[.string Wd] u fun e w' => e = .returned (.tuple #[refV B H r c fr fc, .bool ok]) ∧ Below u.heap.size u w')
  (WD : ∀ u, Calls Tryz.prog 243 #[.string Wd, .bool true] u fun e w' => e = .returned (.bool false) ∧ Below u.heap.size u w') :
  Calls Tryz.prog 200 #[.string S] w fun e w' => e = .returned (.tuple #[.agg (tk0), .int .i64 0]) ∧ Below w.heap.size w w' := by
 have HZ0 : Hid (RZ w (w.alloc tkR)) := RZ.begin w
 have i0 : (n1 : Int) ≤ n := by omega
 have i1 : ¬ (n1 : Int) < n := by omega
 have i4 : (p : Int) ≤ n := by omega
 have i5 : (p : Int) ≤ n1 := by omega
 have j1 : (k0 : Int) < n := by omega
 have j2 : ((k0 : Int) == (n : Int)) = false := by simp; omega
 have j3 : (1 : Int) ≤ k0 := by omega
 have j4 : (k0 : Int) ≤ n := by omega
 go_enter Tryz.func200, Tryz.ntmps200
 go_wp2
 go_loop [6] (fun i => ∃ k : Nat, 1 ≤ k ∧ k ≤ k0 ∧ i = .int .i64 (k : Nat)) (fun i => k0 - (intOf i).toNat)
 case atStart => exact ⟨1, Nat.le_refl _, k1, rfl⟩
 case round =>
  obtain ⟨k, hk1, hk2, rfl⟩ := hrel
  by_cases hlk : k < k0
  ·have g1 : (k : Int) < n := by omega
   have g2 : k < S.size := by omega
   have g3 := hk.out k hk1 hlk g2
   clear hk RN1 RG
   go_wp2
   go_round
   case rel => exact ⟨k + 1, by omega, by omega, by go_num⟩
   case measure => simp [intOf]; omega
  ·obtain rfl : k = k0 := by omega
   clear hk hlk
   cases ok
   all_goals
    go_wp2_with (first
     | (go_at_call 48; refine (RG _).mono ?_; rintro e w4 ⟨rfl, hs4⟩; have HZ4 : Hid (RZ w w4) := HZ0.out.below hs4; clear hs4 HZ0 RG)
     | (go_at_call 240; refine (RN1 _).mono ?_; rintro e w' ⟨rfl, hw⟩; obtain rfl := hw.symm; clear hw RN1)
     | (go_at_call 242; refine (CE _).mono ?_; rintro e w5 ⟨rfl, hs5⟩; have HZ6 : Hid (RZ w (w5.alloc (refO B H r c fr fc))) := (HZ4.out.below hs5).alloc _; clear hs5 HZ4)
     | (go_at_call 243; refine (WD _).mono ?_; rintro e w7 ⟨rfl, hs7⟩; have HZ7 : Hid (RZ w w7) := HZ6.out.below hs7; have RR := HZ7.out.put 0 0 noB noB noB 0 0 false false; clear hs7 HZ6)
     | (refine wpList_store_run rfl 188 _ _ rfl _ _ _ rfl rfl RR.out ?_))
    exact bodyPost_ret (v := .tuple #[.agg (tk0), .int .i64 0]) (HZ7.out.ans (tk0) rfl rfl rfl rfl) rfl ⟨rfl, HZ7.out.fin _⟩
theorem nmB_word_no_sign (hs : S.size = n)
  (hn : n ≤ 255)
  (h0 : 0 < S.size)
  (h91 : ((S[0].toNat : Int) == 91) = true)
  {k0 : Nat}
  (k1 : 1 ≤ k0)
  (k2 : k0 < S.size)
  (hk : Hid (∀ k, 1 ≤ k → k < k0 → ∀ h : k < S.size, ((S[k].toNat : Int) != 93) = true))
  (hk0 : ((S[k0].toNat : Int) != 93) = false)
  (hK : S.extract 1 k0 = K)
  (hKe : (K.toList == []) = false)
  (RG : ∀ u, Calls Tryz.prog 48 #[.string K] u fun e w' => e = .returned (.bool true) ∧ Below u.heap.size u w')
  (hp : (k0 : Int) + 1 = (p : Nat))
  (hpn : p ≤ n)
  (hA1 : S.extract p n = A1)
  (RN1 : ∀ u, Calls Tryz.prog 240 #[.string A1] u fun e w' => e = .returned (.int .i64 (q1 : Nat)) ∧ w' = u)
  (hn1 : (p : Int) + (q1 : Int) = (n1 : Nat))
  (hle : n1 ≤ n)
  (hlt : n1 < S.size)
  (h33 : ((S[n1].toNat : Int) == 33) = false)
  (hpn1 : p ≤ n1)
  (hW : S.extract p n1 = Wd)
  {ok : Bool}
  (CE : ∀ u, Calls Tryz.prog 242 #[.string Wd] u fun e w' => e = .returned (.tuple #[refV B H r c fr fc, .bool ok]) ∧ Below u.heap.size u w')
  (WD : ∀ u, Calls Tryz.prog 243 #[.string Wd, .bool true] u fun e w' => e = .returned (.bool false) ∧ Below u.heap.size u w') :
  Calls Tryz.prog 200 #[.string S] w fun e w' => e = .returned (.tuple #[.agg (tk0), .int .i64 0]) ∧ Below w.heap.size w w' := by
 have HZ0 : Hid (RZ w (w.alloc tkR)) := RZ.begin w
 have i0 : (n1 : Int) ≤ n := by omega
 have i1 : (n1 : Int) < n := by omega
 have i4 : (p : Int) ≤ n := by omega
 have i5 : (p : Int) ≤ n1 := by omega
 have j1 : (k0 : Int) < n := by omega
 have j2 : ((k0 : Int) == (n : Int)) = false := by simp; omega
 have j3 : (1 : Int) ≤ k0 := by omega
 have j4 : (k0 : Int) ≤ n := by omega
 go_enter Tryz.func200, Tryz.ntmps200
 go_wp2
 go_loop [6] (fun i => ∃ k : Nat, 1 ≤ k ∧ k ≤ k0 ∧ i = .int .i64 (k : Nat)) (fun i => k0 - (intOf i).toNat)
 case atStart => exact ⟨1, Nat.le_refl _, k1, rfl⟩
 case round =>
  obtain ⟨k, hk1, hk2, rfl⟩ := hrel
  by_cases hlk : k < k0
  ·have g1 : (k : Int) < n := by omega
   have g2 : k < S.size := by omega
   have g3 := hk.out k hk1 hlk g2
   clear hk RN1 RG
   go_wp2
   go_round
   case rel => exact ⟨k + 1, by omega, by omega, by go_num⟩
   case measure => simp [intOf]; omega
  ·obtain rfl : k = k0 := by omega
   clear hk hlk
   cases ok
   all_goals
    go_wp2_with (first
     | (go_at_call 48; refine (RG _).mono ?_; rintro e w4 ⟨rfl, hs4⟩; have HZ4 : Hid (RZ w w4) := HZ0.out.below hs4; clear hs4 HZ0 RG)
     | (go_at_call 240; refine (RN1 _).mono ?_; rintro e w' ⟨rfl, hw⟩; obtain rfl := hw.symm; clear hw RN1)
     | (go_at_call 242; refine (CE _).mono ?_; rintro e w5 ⟨rfl, hs5⟩; have HZ6 : Hid (RZ w (w5.alloc (refO B H r c fr fc))) := (HZ4.out.below hs5).alloc _; clear hs5 HZ4)
     | (go_at_call 243; refine (WD _).mono ?_; rintro e w7 ⟨rfl, hs7⟩; have HZ7 : Hid (RZ w w7) := HZ6.out.below hs7; have RR := HZ7.out.put 0 0 noB noB noB 0 0 false false; clear hs7 HZ6)
     | (refine wpList_store_run rfl 188 _ _ rfl _ _ _ rfl rfl RR.out ?_))
    exact bodyPost_ret (v := .tuple #[.agg (tk0), .int .i64 0]) (HZ7.out.ans (tk0) rfl rfl rfl rfl) rfl ⟨rfl, HZ7.out.fin _⟩
end
section
variable {w : World} {n p q1 n1 q2 n2 : Nat} {S A1 A2 D Wd K B H : ByteArray} {r c : Int} {fr fc : Bool}
theorem nmB_word_yes_end (hs : S.size = n)
  (hn : n ≤ 255)
  (h0 : 0 < S.size)
  (h91 : ((S[0].toNat : Int) == 91) = true)
  {k0 : Nat}
  (k1 : 1 ≤ k0)
  (k2 : k0 < S.size)
  (hk : Hid (∀ k, 1 ≤ k → k < k0 → ∀ h : k < S.size, ((S[k].toNat : Int) != 93) = true))
  (hk0 : ((S[k0].toNat : Int) != 93) = false)
  (hK : S.extract 1 k0 = K)
  (hKe : (K.toList == []) = false)
  (RG : ∀ u, Calls Tryz.prog 48 #[.string K] u fun e w' => e = .returned (.bool true) ∧ Below u.heap.size u w')
  (hp : (k0 : Int) + 1 = (p : Nat))
  (hpn : p ≤ n)
  (hA1 : S.extract p n = A1)
  (RN1 : ∀ u, Calls Tryz.prog 240 #[.string A1] u fun e w' => e = .returned (.int .i64 (q1 : Nat)) ∧ w' = u)
  (hn1 : (p : Int) + (q1 : Int) = (n1 : Nat))
  (hle : n1 ≤ n)
  (hlt : ¬ n1 < n)
  (hpn1 : p ≤ n1)
  (hW : S.extract p n1 = Wd)
  {ok : Bool}
  (CE : ∀ u, Calls Tryz.prog 242 #[.string Wd] u fun e w' => e = .returned (.tuple #[refV B H r c fr fc, .bool ok]) ∧ Below u.heap.size u w')
  (WD : ∀ u, Calls Tryz.prog 243 #[.string Wd, .bool true] u fun e w' => e = .returned (.bool true) ∧ Below u.heap.size u w') :
  Calls Tryz.prog 200 #[.string S] w fun e w' => e = .returned (.tuple #[.agg (tcs 4 0 Wd K noB 0 0 false false), .int .i64 (n1 : Int)]) ∧ Below w.heap.size w w' := by
 have HZ0 : Hid (RZ w (w.alloc tkR)) := RZ.begin w
 have i0 : (n1 : Int) ≤ n := by omega
 have i1 : ¬ (n1 : Int) < n := by omega
 have i4 : (p : Int) ≤ n := by omega
 have i5 : (p : Int) ≤ n1 := by omega
 have j1 : (k0 : Int) < n := by omega
 have j2 : ((k0 : Int) == (n : Int)) = false := by simp; omega
 have j3 : (1 : Int) ≤ k0 := by omega
 have j4 : (k0 : Int) ≤ n := by omega
 go_enter Tryz.func200, Tryz.ntmps200
 go_wp2
 go_loop [6] (fun i => ∃ k : Nat, 1 ≤ k ∧ k ≤ k0 ∧ i = .int .i64 (k : Nat)) (fun i => k0 - (intOf i).toNat)
 case atStart => exact ⟨1, Nat.le_refl _, k1, rfl⟩
 case round =>
  obtain ⟨k, hk1, hk2, rfl⟩ := hrel
  by_cases hlk : k < k0
  ·have g1 : (k : Int) < n := by omega
   have g2 : k < S.size := by omega
   have g3 := hk.out k hk1 hlk g2
   clear hk RN1 RG
   go_wp2
   go_round
   case rel => exact ⟨k + 1, by omega, by omega, by go_num⟩
   case measure => simp [intOf]; omega
  ·obtain rfl : k = k0 := by omega
   clear hk hlk
   cases ok
   all_goals
    go_wp2_with (first
     | (go_at_call 48; refine (RG _).mono ?_; rintro e w4 ⟨rfl, hs4⟩; have HZ4 : Hid (RZ w w4) := HZ0.out.below hs4; clear hs4 HZ0 RG)
     | (go_at_call 240; refine (RN1 _).mono ?_; rintro e w' ⟨rfl, hw⟩; obtain rfl := hw.symm; clear hw RN1)
     | (go_at_call 242; refine (CE _).mono ?_; rintro e w5 ⟨rfl, hs5⟩; have HZ6 : Hid (RZ w (w5.alloc (refO B H r c fr fc))) := (HZ4.out.below hs5).alloc _; clear hs5 HZ4)
     | (go_at_call 243; refine (WD _).mono ?_; rintro e w7 ⟨rfl, hs7⟩; have HZ7 : Hid (RZ w w7) := HZ6.out.below hs7; have RR := HZ7.out.put 4 0 Wd K noB 0 0 false false; clear hs7 HZ6)
     | (refine wpList_store_run rfl 188 _ _ rfl _ _ _ rfl rfl RR.out ?_))
    exact bodyPost_ret (v := .tuple #[.agg (tcs 4 0 Wd K noB 0 0 false false), .int .i64 (n1 : Int)]) (HZ7.out.ans (tcs 4 0 Wd K noB 0 0 false false) rfl rfl rfl rfl) rfl ⟨rfl, HZ7.out.fin _⟩
theorem nmB_word_yes_sign (hs : S.size = n)
  (hn : n ≤ 255)
  (h0 : 0 < S.size)
  (h91 : ((S[0].toNat : Int) == 91) = true)
  {k0 : Nat}
  (k1 : 1 ≤ k0)
  (k2 : k0 < S.size)
  (hk : Hid (∀ k, 1 ≤ k → k < k0 → ∀ h : k < S.size, ((S[k].toNat : Int) != 93) = true))
  (hk0 : ((S[k0].toNat : Int) != 93) = false)
  (hK : S.extract 1 k0 = K)
  (hKe : (K.toList == []) = false)
  (RG : ∀ u, Calls Tryz.prog 48 #[.string K] u fun e w' => e = .returned (.bool true) ∧ Below u.heap.size u w')
  (hp : (k0 : Int) + 1 = (p : Nat))
  (hpn : p ≤ n)
  (hA1 : S.extract p n = A1)
  (RN1 : ∀ u, Calls Tryz.prog 240 #[.string A1] u fun e w' => e = .returned (.int .i64 (q1 : Nat)) ∧ w' = u)
  (hn1 : (p : Int) + (q1 : Int) = (n1 : Nat))
  (hle : n1 ≤ n)
  (hlt : n1 < S.size)
  (h33 : ((S[n1].toNat : Int) == 33) = false)
  (hpn1 : p ≤ n1)
  (hW : S.extract p n1 = Wd)
  {ok : Bool}
  (CE : ∀ u, Calls Tryz.prog 242 #[.string Wd] u fun e w' => e = .returned (.tuple #[refV B H r c fr fc, .bool ok]) ∧ Below u.heap.size u w')
  (WD : ∀ u, Calls Tryz.prog 243 #[.string Wd, .bool true] u fun e w' => e = .returned (.bool true) ∧ Below u.heap.size u w') :
  Calls Tryz.prog 200 #[.string S] w fun e w' => e = .returned (.tuple #[.agg (tcs 4 0 Wd K noB 0 0 false false), .int .i64 (n1 : Int)]) ∧ Below w.heap.size w w' := by
 have HZ0 : Hid (RZ w (w.alloc tkR)) := RZ.begin w
 have i0 : (n1 : Int) ≤ n := by omega
 have i1 : (n1 : Int) < n := by omega
 have i4 : (p : Int) ≤ n := by omega
 have i5 : (p : Int) ≤ n1 := by omega
 have j1 : (k0 : Int) < n := by omega
 have j2 : ((k0 : Int) == (n : Int)) = false := by simp; omega
 have j3 : (1 : Int) ≤ k0 := by omega
 have j4 : (k0 : Int) ≤ n := by omega
 go_enter Tryz.func200, Tryz.ntmps200
 go_wp2
 go_loop [6] (fun i => ∃ k : Nat, 1 ≤ k ∧ k ≤ k0 ∧ i = .int .i64 (k : Nat)) (fun i => k0 - (intOf i).toNat)
 case atStart => exact ⟨1, Nat.le_refl _, k1, rfl⟩
 case round =>
  obtain ⟨k, hk1, hk2, rfl⟩ := hrel
  by_cases hlk : k < k0
  ·have g1 : (k : Int) < n := by omega
   have g2 : k < S.size := by omega
   have g3 := hk.out k hk1 hlk g2
   clear hk RN1 RG
   go_wp2
   go_round
   case rel => exact ⟨k + 1, by omega, by omega, by go_num⟩
   case measure => simp [intOf]; omega
  ·obtain rfl : k = k0 := by omega
   clear hk hlk
   cases ok
   all_goals
    go_wp2_with (first
     | (go_at_call 48; refine (RG _).mono ?_; rintro e w4 ⟨rfl, hs4⟩; have HZ4 : Hid (RZ w w4) := HZ0.out.below hs4; clear hs4 HZ0 RG)
     | (go_at_call 240; refine (RN1 _).mono ?_; rintro e w' ⟨rfl, hw⟩; obtain rfl := hw.symm; clear hw RN1)
     | (go_at_call 242; refine (CE _).mono ?_; rintro e w5 ⟨rfl, hs5⟩; have HZ6 : Hid (RZ w (w5.alloc (refO B H r c fr fc))) := (HZ4.out.below hs5).alloc _; clear hs5 HZ4)
     | (go_at_call 243; refine (WD _).mono ?_; rintro e w7 ⟨rfl, hs7⟩; have HZ7 : Hid (RZ w w7) := HZ6.out.below hs7; have RR := HZ7.out.put 4 0 Wd K noB 0 0 false false; clear hs7 HZ6)
     | (refine wpList_store_run rfl 188 _ _ rfl _ _ _ rfl rfl RR.out ?_))
    exact bodyPost_ret (v := .tuple #[.agg (tcs 4 0 Wd K noB 0 0 false false), .int .i64 (n1 : Int)]) (HZ7.out.ans (tcs 4 0 Wd K noB 0 0 false false) rfl rfl rfl rfl) rfl ⟨rfl, HZ7.out.fin _⟩
end
section
variable {w : World} {n p q1 n1 q2 n2 : Nat} {S A1 A2 D Wd K B H : ByteArray} {r c : Int} {fr fc : Bool}
theorem nmN_open (hs : S.size = n) (hn : n ≤ 255) (h0 : 0 < S.size) (h91 : ((S[0].toNat : Int) == 91) = true) {k0 : Nat} (k1 : 1 ≤ k0) (k2 : k0 = n) (hk : Hid (∀ k, 1 ≤ k → k < k0 → ∀ h : k < S.size, ((S[k].toNat : Int) != 93) = true)) :
  Calls Tryz.prog 200 #[.string S] w fun e w' => e = .returned (.tuple #[.agg tk0, .int .i64 0]) ∧ Below w.heap.size w w' := by
 have HZ0 : Hid (RZ w (w.alloc tkR)) := RZ.begin w
 have j1 : ¬ (k0 : Int) < n := by omega
 have j2 : ((k0 : Int) == (n : Int)) = true := by simp; omega
 go_enter Tryz.func200, Tryz.ntmps200
 go_wp2
 go_loop [6] (fun i => ∃ k : Nat, 1 ≤ k ∧ k ≤ k0 ∧ i = .int .i64 (k : Nat)) (fun i => k0 - (intOf i).toNat)
 case atStart => exact ⟨1, Nat.le_refl _, k1, rfl⟩
 case round =>
  obtain ⟨k, hk1, hk2, rfl⟩ := hrel
  by_cases hlk : k < k0
  ·have g1 : (k : Int) < n := by omega
   have g2 : k < S.size := by omega
   have g3 := hk.out k hk1 hlk g2
   clear hk
   go_wp2
   go_round
   case rel => exact ⟨k + 1, by omega, by omega, by go_num⟩
   case measure => simp [intOf]; omega
  ·obtain rfl : k = k0 := by omega
   clear hk hlk
   go_wp2
   exact bodyPost_ret (v := .tuple #[.agg tk0, .int .i64 0]) (ret_new tk0 rfl rfl rfl rfl) rfl ⟨rfl, bel_alloc (Below.refl _ _) _⟩
theorem nmN_name (hs : S.size = n) (hn : n ≤ 255) (h0 : 0 < S.size) (h91 : ((S[0].toNat : Int) == 91) = true) {k0 : Nat} (k1 : 1 ≤ k0) (k2 : k0 < S.size) (hk0 : ((S[k0].toNat : Int) != 93) = false) (hK : S.extract 1 k0 = K) (RG : ∀ u, Calls Tryz.prog 48 #[.string K] u fun e w' => e = .returned (.bool false) ∧ Below u.heap.size u w') (hk : Hid (∀ k, 1 ≤ k → k < k0 → ∀ h : k < S.size, ((S[k].toNat : Int) != 93) = true)) :
  Calls Tryz.prog 200 #[.string S] w fun e w' => e = .returned (.tuple #[.agg tk0, .int .i64 0]) ∧ Below w.heap.size w w' := by
 have HZ0 : Hid (RZ w (w.alloc tkR)) := RZ.begin w
 have j1 : (k0 : Int) < n := by omega
 have j2 : ((k0 : Int) == (n : Int)) = false := by simp; omega
 have j3 : (1 : Int) ≤ k0 := by omega
 have j4 : (k0 : Int) ≤ n := by omega
 go_enter Tryz.func200, Tryz.ntmps200
 go_wp2
 go_loop [6] (fun i => ∃ k : Nat, 1 ≤ k ∧ k ≤ k0 ∧ i = .int .i64 (k : Nat)) (fun i => k0 - (intOf i).toNat)
 case atStart => exact ⟨1, Nat.le_refl _, k1, rfl⟩
 case round =>
  obtain ⟨k, hk1, hk2, rfl⟩ := hrel
  by_cases hlk : k < k0
  ·have g1 : (k : Int) < n := by omega
   have g2 : k < S.size := by omega
   have g3 := hk.out k hk1 hlk g2
   clear hk RG
   go_wp2
   go_round
   case rel => exact ⟨k + 1, by omega, by omega, by go_num⟩
   case measure => simp [intOf]; omega
  ·obtain rfl : k = k0 := by omega
   clear hk hlk
   go_wp2_with (first
    | (go_at_call 48; refine (RG _).mono ?_; rintro e w4 ⟨rfl, hs4⟩; have HZ4 : Hid (RZ w w4) := HZ0.out.below hs4; have RR := HZ4.out.put 0 0 noB noB noB 0 0 false false; clear hs4 HZ0 RG)
    | (refine wpList_store_run rfl 188 _ _ rfl _ _ _ rfl rfl RR.out ?_))
   exact bodyPost_ret (v := .tuple #[.agg tk0, .int .i64 0]) (HZ4.out.ans tk0 rfl rfl rfl rfl) rfl ⟨rfl, HZ4.out.fin _⟩
end
end Go.Proofs.YtnibldnfbikipaaGreatDoor
