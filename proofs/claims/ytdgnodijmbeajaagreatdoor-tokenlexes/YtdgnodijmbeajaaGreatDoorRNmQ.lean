import Derived.Test.YtdgnodijmbeajaaGreatDoorRQuo
/- The reference: named, walked: no book. -/
namespace Go.Proofs.YtdgnodijmbeajaaGreatDoor
open Go.RowKit
set_option maxRecDepth 100000
set_option linter.unusedVariables false
set_option linter.unusedSimpArgs false
section
variable {w : World} {n p q1 n1 q2 n2 : Nat} {S A1 A2 D Wd K B H : ByteArray} {r c : Int} {fr fc : Bool}
set_option maxHeartbeats 4000000 in
theorem nmP_sheet_no (hs : S.size = n)
    (hn : n ≤ 255)
    (h0 : 0 < S.size)
    (h91 : ((S[0].toNat : Int) == 91) = false)
    (hA1 : S.extract 0 n = S)
    (RN1 : ∀ u, Calls Tryz.prog 64 #[.string S] u fun e w' => e = .returned (.int .i64 (n1 : Nat)) ∧ w' = u)
    (hle : n1 ≤ n)
    (hlt : n1 < S.size)
    (h33 : ((S[n1].toNat : Int) == 33) = true)
    (hA2 : S.extract (n1 + 1) n = A2)
    (RN2 : ∀ u, Calls Tryz.prog 64 #[.string A2] u fun e w' => e = .returned (.int .i64 (q2 : Nat)) ∧ w' = u)
    (hn2 : (n1 : Int) + (1 + (q2 : Int)) = (n2 : Nat))
    (hn2n : n2 ≤ n)
    (hD : S.extract 0 n2 = D)
    (PR : ∀ u, Calls Tryz.prog 65 #[.string D] u fun e w' => e = .returned (.tuple #[refV B H r c fr fc, .bool false]) ∧ Below u.heap.size u w') :
    Calls Tryz.prog 38 #[.string S] w fun e w' => e = .returned (.tuple #[.agg (tk0), .int .i64 0]) ∧ Below w.heap.size w w' := by
  have HZ0 : Hid (RZ w (w.alloc tkR)) := RZ.begin w
  have i0 : (n1 : Int) ≤ n := by omega
  have i1 : (n1 : Int) < n := by omega
  have i2 : (n1 : Int) + 1 ≤ n := by omega
  have i3 : (n2 : Int) ≤ n := by omega
  go_enter Tryz.func38, Tryz.ntmps38
  go_wp2_with (first
    | (go_at_call 64; refine (RN1 _).mono ?_; rintro e w' ⟨rfl, hw⟩; obtain rfl := hw.symm; clear hw RN1)
    | (go_at_call 64; refine (RN2 _).mono ?_; rintro e w' ⟨rfl, hw⟩; obtain rfl := hw.symm; clear hw RN2)
    | (go_at_call 65; refine (PR _).mono ?_; rintro e w5 ⟨rfl, hs5⟩; have HZ6 : Hid (RZ w (w5.alloc (refO B H r c fr fc))) := (HZ0.out.below hs5).alloc _; have RR := HZ6.out.put 0 0 noB noB noB 0 0 false false; clear hs5 HZ0)
    | (refine wpList_store_run rfl 46 _ _ rfl _ _ _ rfl rfl RR.out ?_))
  exact bodyPost_ret (v := .tuple #[.agg (tk0), .int .i64 0]) (HZ6.out.ans (tk0) rfl rfl rfl rfl) rfl ⟨rfl, HZ6.out.fin _⟩
set_option maxHeartbeats 4000000 in
theorem nmP_sheet_yes (hs : S.size = n)
    (hn : n ≤ 255)
    (h0 : 0 < S.size)
    (h91 : ((S[0].toNat : Int) == 91) = false)
    (hA1 : S.extract 0 n = S)
    (RN1 : ∀ u, Calls Tryz.prog 64 #[.string S] u fun e w' => e = .returned (.int .i64 (n1 : Nat)) ∧ w' = u)
    (hle : n1 ≤ n)
    (hlt : n1 < S.size)
    (h33 : ((S[n1].toNat : Int) == 33) = true)
    (hA2 : S.extract (n1 + 1) n = A2)
    (RN2 : ∀ u, Calls Tryz.prog 64 #[.string A2] u fun e w' => e = .returned (.int .i64 (q2 : Nat)) ∧ w' = u)
    (hn2 : (n1 : Int) + (1 + (q2 : Int)) = (n2 : Nat))
    (hn2n : n2 ≤ n)
    (hD : S.extract 0 n2 = D)
    (PR : ∀ u, Calls Tryz.prog 65 #[.string D] u fun e w' => e = .returned (.tuple #[refV B H r c fr fc, .bool true]) ∧ Below u.heap.size u w') :
    Calls Tryz.prog 38 #[.string S] w fun e w' => e = .returned (.tuple #[.agg (tcs 3 0 noB B H r c fr fc), .int .i64 (n2 : Int)]) ∧ Below w.heap.size w w' := by
  have HZ0 : Hid (RZ w (w.alloc tkR)) := RZ.begin w
  have i0 : (n1 : Int) ≤ n := by omega
  have i1 : (n1 : Int) < n := by omega
  have i2 : (n1 : Int) + 1 ≤ n := by omega
  have i3 : (n2 : Int) ≤ n := by omega
  go_enter Tryz.func38, Tryz.ntmps38
  go_wp2_with (first
    | (go_at_call 64; refine (RN1 _).mono ?_; rintro e w' ⟨rfl, hw⟩; obtain rfl := hw.symm; clear hw RN1)
    | (go_at_call 64; refine (RN2 _).mono ?_; rintro e w' ⟨rfl, hw⟩; obtain rfl := hw.symm; clear hw RN2)
    | (go_at_call 65; refine (PR _).mono ?_; rintro e w5 ⟨rfl, hs5⟩; have HZ6 : Hid (RZ w (w5.alloc (refO B H r c fr fc))) := (HZ0.out.below hs5).alloc _; have RR := HZ6.out.put 3 0 noB B H r c fr fc; clear hs5 HZ0)
    | (refine wpList_store_run rfl 46 _ _ rfl _ _ _ rfl rfl RR.out ?_))
  exact bodyPost_ret (v := .tuple #[.agg (tcs 3 0 noB B H r c fr fc), .int .i64 (n2 : Int)]) (HZ6.out.ans (tcs 3 0 noB B H r c fr fc) rfl rfl rfl rfl) rfl ⟨rfl, HZ6.out.fin _⟩
set_option maxHeartbeats 4000000 in
theorem nmP_cell_end (hs : S.size = n)
    (hn : n ≤ 255)
    (h0 : 0 < S.size)
    (h91 : ((S[0].toNat : Int) == 91) = false)
    (hA1 : S.extract 0 n = S)
    (RN1 : ∀ u, Calls Tryz.prog 64 #[.string S] u fun e w' => e = .returned (.int .i64 (n1 : Nat)) ∧ w' = u)
    (hle : n1 ≤ n)
    (hlt : ¬ n1 < n)
    (hW : S.extract 0 n1 = Wd)
    (CE : ∀ u, Calls Tryz.prog 66 #[.string Wd] u fun e w' => e = .returned (.tuple #[refV B H r c fr fc, .bool true]) ∧ Below u.heap.size u w') :
    Calls Tryz.prog 38 #[.string S] w fun e w' => e = .returned (.tuple #[.agg (tcs 3 0 noB B H r c fr fc), .int .i64 (n1 : Int)]) ∧ Below w.heap.size w w' := by
  have HZ0 : Hid (RZ w (w.alloc tkR)) := RZ.begin w
  have i0 : (n1 : Int) ≤ n := by omega
  have i1 : ¬ (n1 : Int) < n := by omega
  go_enter Tryz.func38, Tryz.ntmps38
  go_wp2_with (first
    | (go_at_call 64; refine (RN1 _).mono ?_; rintro e w' ⟨rfl, hw⟩; obtain rfl := hw.symm; clear hw RN1)
    | (go_at_call 66; refine (CE _).mono ?_; rintro e w5 ⟨rfl, hs5⟩; have HZ6 : Hid (RZ w (w5.alloc (refO B H r c fr fc))) := (HZ0.out.below hs5).alloc _; have RR := HZ6.out.put 3 0 noB B H r c fr fc; clear hs5 HZ0)
    | (refine wpList_store_run rfl 46 _ _ rfl _ _ _ rfl rfl RR.out ?_))
  exact bodyPost_ret (v := .tuple #[.agg (tcs 3 0 noB B H r c fr fc), .int .i64 (n1 : Int)]) (HZ6.out.ans (tcs 3 0 noB B H r c fr fc) rfl rfl rfl rfl) rfl ⟨rfl, HZ6.out.fin _⟩
set_option maxHeartbeats 4000000 in
theorem nmP_cell_sign (hs : S.size = n)
    (hn : n ≤ 255)
    (h0 : 0 < S.size)
    (h91 : ((S[0].toNat : Int) == 91) = false)
    (hA1 : S.extract 0 n = S)
    (RN1 : ∀ u, Calls Tryz.prog 64 #[.string S] u fun e w' => e = .returned (.int .i64 (n1 : Nat)) ∧ w' = u)
    (hle : n1 ≤ n)
    (hlt : n1 < S.size)
    (h33 : ((S[n1].toNat : Int) == 33) = false)
    (hW : S.extract 0 n1 = Wd)
    (CE : ∀ u, Calls Tryz.prog 66 #[.string Wd] u fun e w' => e = .returned (.tuple #[refV B H r c fr fc, .bool true]) ∧ Below u.heap.size u w') :
    Calls Tryz.prog 38 #[.string S] w fun e w' => e = .returned (.tuple #[.agg (tcs 3 0 noB B H r c fr fc), .int .i64 (n1 : Int)]) ∧ Below w.heap.size w w' := by
  have HZ0 : Hid (RZ w (w.alloc tkR)) := RZ.begin w
  have i0 : (n1 : Int) ≤ n := by omega
  have i1 : (n1 : Int) < n := by omega
  go_enter Tryz.func38, Tryz.ntmps38
  go_wp2_with (first
    | (go_at_call 64; refine (RN1 _).mono ?_; rintro e w' ⟨rfl, hw⟩; obtain rfl := hw.symm; clear hw RN1)
    | (go_at_call 66; refine (CE _).mono ?_; rintro e w5 ⟨rfl, hs5⟩; have HZ6 : Hid (RZ w (w5.alloc (refO B H r c fr fc))) := (HZ0.out.below hs5).alloc _; have RR := HZ6.out.put 3 0 noB B H r c fr fc; clear hs5 HZ0)
    | (refine wpList_store_run rfl 46 _ _ rfl _ _ _ rfl rfl RR.out ?_))
  exact bodyPost_ret (v := .tuple #[.agg (tcs 3 0 noB B H r c fr fc), .int .i64 (n1 : Int)]) (HZ6.out.ans (tcs 3 0 noB B H r c fr fc) rfl rfl rfl rfl) rfl ⟨rfl, HZ6.out.fin _⟩
end
end Go.Proofs.YtdgnodijmbeajaaGreatDoor

/- The reference: named, walked: no book, words. -/
namespace Go.Proofs.YtdgnodijmbeajaaGreatDoor
open Go.RowKit
set_option maxRecDepth 100000
set_option linter.unusedVariables false
set_option linter.unusedSimpArgs false
section
variable {w : World} {n p q1 n1 q2 n2 : Nat} {S A1 A2 D Wd K B H : ByteArray} {r c : Int} {fr fc : Bool}
set_option maxHeartbeats 4000000 in
theorem nmP_word_no_end (hs : S.size = n)
    (hn : n ≤ 255)
    (h0 : 0 < S.size)
    (h91 : ((S[0].toNat : Int) == 91) = false)
    (hA1 : S.extract 0 n = S)
    (RN1 : ∀ u, Calls Tryz.prog 64 #[.string S] u fun e w' => e = .returned (.int .i64 (n1 : Nat)) ∧ w' = u)
    (hle : n1 ≤ n)
    (hlt : ¬ n1 < n)
    (hW : S.extract 0 n1 = Wd)
    (CE : ∀ u, Calls Tryz.prog 66 #[.string Wd] u fun e w' => e = .returned (.tuple #[refV B H r c fr fc, .bool false]) ∧ Below u.heap.size u w')
    (WD : ∀ u, Calls Tryz.prog 67 #[.string Wd, .bool false] u fun e w' => e = .returned (.bool false) ∧ Below u.heap.size u w') :
    Calls Tryz.prog 38 #[.string S] w fun e w' => e = .returned (.tuple #[.agg (tk0), .int .i64 0]) ∧ Below w.heap.size w w' := by
  have HZ0 : Hid (RZ w (w.alloc tkR)) := RZ.begin w
  have i0 : (n1 : Int) ≤ n := by omega
  have i1 : ¬ (n1 : Int) < n := by omega
  go_enter Tryz.func38, Tryz.ntmps38
  go_wp2_with (first
    | (go_at_call 64; refine (RN1 _).mono ?_; rintro e w' ⟨rfl, hw⟩; obtain rfl := hw.symm; clear hw RN1)
    | (go_at_call 66; refine (CE _).mono ?_; rintro e w5 ⟨rfl, hs5⟩; have HZ6 : Hid (RZ w (w5.alloc (refO B H r c fr fc))) := (HZ0.out.below hs5).alloc _; clear hs5 HZ0)
    | (go_at_call 67; refine (WD _).mono ?_; rintro e w7 ⟨rfl, hs7⟩; have HZ7 : Hid (RZ w w7) := HZ6.out.below hs7; have RR := HZ7.out.put 0 0 noB noB noB 0 0 false false; clear hs7 HZ6)
    | (refine wpList_store_run rfl 46 _ _ rfl _ _ _ rfl rfl RR.out ?_))
  exact bodyPost_ret (v := .tuple #[.agg (tk0), .int .i64 0]) (HZ7.out.ans (tk0) rfl rfl rfl rfl) rfl ⟨rfl, HZ7.out.fin _⟩
set_option maxHeartbeats 4000000 in
theorem nmP_word_no_sign (hs : S.size = n)
    (hn : n ≤ 255)
    (h0 : 0 < S.size)
    (h91 : ((S[0].toNat : Int) == 91) = false)
    (hA1 : S.extract 0 n = S)
    (RN1 : ∀ u, Calls Tryz.prog 64 #[.string S] u fun e w' => e = .returned (.int .i64 (n1 : Nat)) ∧ w' = u)
    (hle : n1 ≤ n)
    (hlt : n1 < S.size)
    (h33 : ((S[n1].toNat : Int) == 33) = false)
    (hW : S.extract 0 n1 = Wd)
    (CE : ∀ u, Calls Tryz.prog 66 #[.string Wd] u fun e w' => e = .returned (.tuple #[refV B H r c fr fc, .bool false]) ∧ Below u.heap.size u w')
    (WD : ∀ u, Calls Tryz.prog 67 #[.string Wd, .bool false] u fun e w' => e = .returned (.bool false) ∧ Below u.heap.size u w') :
    Calls Tryz.prog 38 #[.string S] w fun e w' => e = .returned (.tuple #[.agg (tk0), .int .i64 0]) ∧ Below w.heap.size w w' := by
  have HZ0 : Hid (RZ w (w.alloc tkR)) := RZ.begin w
  have i0 : (n1 : Int) ≤ n := by omega
  have i1 : (n1 : Int) < n := by omega
  go_enter Tryz.func38, Tryz.ntmps38
  go_wp2_with (first
    | (go_at_call 64; refine (RN1 _).mono ?_; rintro e w' ⟨rfl, hw⟩; obtain rfl := hw.symm; clear hw RN1)
    | (go_at_call 66; refine (CE _).mono ?_; rintro e w5 ⟨rfl, hs5⟩; have HZ6 : Hid (RZ w (w5.alloc (refO B H r c fr fc))) := (HZ0.out.below hs5).alloc _; clear hs5 HZ0)
    | (go_at_call 67; refine (WD _).mono ?_; rintro e w7 ⟨rfl, hs7⟩; have HZ7 : Hid (RZ w w7) := HZ6.out.below hs7; have RR := HZ7.out.put 0 0 noB noB noB 0 0 false false; clear hs7 HZ6)
    | (refine wpList_store_run rfl 46 _ _ rfl _ _ _ rfl rfl RR.out ?_))
  exact bodyPost_ret (v := .tuple #[.agg (tk0), .int .i64 0]) (HZ7.out.ans (tk0) rfl rfl rfl rfl) rfl ⟨rfl, HZ7.out.fin _⟩
set_option maxHeartbeats 4000000 in
theorem nmP_word_yes_end (hs : S.size = n)
    (hn : n ≤ 255)
    (h0 : 0 < S.size)
    (h91 : ((S[0].toNat : Int) == 91) = false)
    (hA1 : S.extract 0 n = S)
    (RN1 : ∀ u, Calls Tryz.prog 64 #[.string S] u fun e w' => e = .returned (.int .i64 (n1 : Nat)) ∧ w' = u)
    (hle : n1 ≤ n)
    (hlt : ¬ n1 < n)
    (hW : S.extract 0 n1 = Wd)
    (CE : ∀ u, Calls Tryz.prog 66 #[.string Wd] u fun e w' => e = .returned (.tuple #[refV B H r c fr fc, .bool false]) ∧ Below u.heap.size u w')
    (WD : ∀ u, Calls Tryz.prog 67 #[.string Wd, .bool false] u fun e w' => e = .returned (.bool true) ∧ Below u.heap.size u w') :
    Calls Tryz.prog 38 #[.string S] w fun e w' => e = .returned (.tuple #[.agg (tcs 4 0 Wd noB noB 0 0 false false), .int .i64 (n1 : Int)]) ∧ Below w.heap.size w w' := by
  have HZ0 : Hid (RZ w (w.alloc tkR)) := RZ.begin w
  have i0 : (n1 : Int) ≤ n := by omega
  have i1 : ¬ (n1 : Int) < n := by omega
  go_enter Tryz.func38, Tryz.ntmps38
  go_wp2_with (first
    | (go_at_call 64; refine (RN1 _).mono ?_; rintro e w' ⟨rfl, hw⟩; obtain rfl := hw.symm; clear hw RN1)
    | (go_at_call 66; refine (CE _).mono ?_; rintro e w5 ⟨rfl, hs5⟩; have HZ6 : Hid (RZ w (w5.alloc (refO B H r c fr fc))) := (HZ0.out.below hs5).alloc _; clear hs5 HZ0)
    | (go_at_call 67; refine (WD _).mono ?_; rintro e w7 ⟨rfl, hs7⟩; have HZ7 : Hid (RZ w w7) := HZ6.out.below hs7; have RR := HZ7.out.put 4 0 Wd noB noB 0 0 false false; clear hs7 HZ6)
    | (refine wpList_store_run rfl 46 _ _ rfl _ _ _ rfl rfl RR.out ?_))
  exact bodyPost_ret (v := .tuple #[.agg (tcs 4 0 Wd noB noB 0 0 false false), .int .i64 (n1 : Int)]) (HZ7.out.ans (tcs 4 0 Wd noB noB 0 0 false false) rfl rfl rfl rfl) rfl ⟨rfl, HZ7.out.fin _⟩
set_option maxHeartbeats 4000000 in
theorem nmP_word_yes_sign (hs : S.size = n)
    (hn : n ≤ 255)
    (h0 : 0 < S.size)
    (h91 : ((S[0].toNat : Int) == 91) = false)
    (hA1 : S.extract 0 n = S)
    (RN1 : ∀ u, Calls Tryz.prog 64 #[.string S] u fun e w' => e = .returned (.int .i64 (n1 : Nat)) ∧ w' = u)
    (hle : n1 ≤ n)
    (hlt : n1 < S.size)
    (h33 : ((S[n1].toNat : Int) == 33) = false)
    (hW : S.extract 0 n1 = Wd)
    (CE : ∀ u, Calls Tryz.prog 66 #[.string Wd] u fun e w' => e = .returned (.tuple #[refV B H r c fr fc, .bool false]) ∧ Below u.heap.size u w')
    (WD : ∀ u, Calls Tryz.prog 67 #[.string Wd, .bool false] u fun e w' => e = .returned (.bool true) ∧ Below u.heap.size u w') :
    Calls Tryz.prog 38 #[.string S] w fun e w' => e = .returned (.tuple #[.agg (tcs 4 0 Wd noB noB 0 0 false false), .int .i64 (n1 : Int)]) ∧ Below w.heap.size w w' := by
  have HZ0 : Hid (RZ w (w.alloc tkR)) := RZ.begin w
  have i0 : (n1 : Int) ≤ n := by omega
  have i1 : (n1 : Int) < n := by omega
  go_enter Tryz.func38, Tryz.ntmps38
  go_wp2_with (first
    | (go_at_call 64; refine (RN1 _).mono ?_; rintro e w' ⟨rfl, hw⟩; obtain rfl := hw.symm; clear hw RN1)
    | (go_at_call 66; refine (CE _).mono ?_; rintro e w5 ⟨rfl, hs5⟩; have HZ6 : Hid (RZ w (w5.alloc (refO B H r c fr fc))) := (HZ0.out.below hs5).alloc _; clear hs5 HZ0)
    | (go_at_call 67; refine (WD _).mono ?_; rintro e w7 ⟨rfl, hs7⟩; have HZ7 : Hid (RZ w w7) := HZ6.out.below hs7; have RR := HZ7.out.put 4 0 Wd noB noB 0 0 false false; clear hs7 HZ6)
    | (refine wpList_store_run rfl 46 _ _ rfl _ _ _ rfl rfl RR.out ?_))
  exact bodyPost_ret (v := .tuple #[.agg (tcs 4 0 Wd noB noB 0 0 false false), .int .i64 (n1 : Int)]) (HZ7.out.ans (tcs 4 0 Wd noB noB 0 0 false false) rfl rfl rfl rfl) rfl ⟨rfl, HZ7.out.fin _⟩
end
end Go.Proofs.YtdgnodijmbeajaaGreatDoor
