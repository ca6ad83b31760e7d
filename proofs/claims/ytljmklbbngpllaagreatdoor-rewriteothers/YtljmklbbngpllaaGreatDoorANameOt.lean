/- VTyped, VJoin, AName. -/
import Derived.Test.YtljmklbbngpllaaGreatDoorVMakeOt
set_option linter.unusedVariables false
set_option linter.unusedSimpArgs false
set_option maxHeartbeats 16000000
set_option maxRecDepth 100000
namespace Go.Proofs.YtljmklbbngpllaaGreatDoor
open Go.RowKit
def fltN (s : ByteArray) : Nat := if s = fnm 1 then 1 else if s = fnm 2 then 2 else if s = fnm 3 then 3 else if s = fnm 4 then 4 else if s = fnm 5 then 5 else if s = fnm 6 then 6 else if s = fnm 7 then 7 else if s = fnm 8 then 8 else 0
theorem flt_le (s : ByteArray) : fltN s ≤ 8 := by
 unfold fltN
 repeat' split
 all_goals omega
theorem flt_is (s : ByteArray) (h : fltN s ≠ 0) : s = fnm (fltN s) := by
 unfold fltN at h ⊢
 repeat' split
 all_goals first | assumption | (exfalso; simp_all)
theorem fnm_ne : ∀ i, i < 9 → ∀ j, j < 9 → i ≠ j → fnm i ≠ fnm j := by decide
theorem flt_not (s : ByteArray) (j : Nat) (h1 : 1 ≤ j) (h8 : j ≤ 8) (h : fltN s ≠ j) : fnm j ≠ s := by
 rintro rfl
 by_cases h0 : fltN (fnm j) = 0
 ·have hj : j = 1 ∨ j = 2 ∨ j = 3 ∨ j = 4 ∨ j = 5 ∨ j = 6 ∨ j = 7 ∨ j = 8 := by omega
  rcases hj with rfl | rfl | rfl | rfl | rfl | rfl | rfl | rfl <;> revert h0 <;> decide
 ·exact fnm_ne j (by omega) _ (by have := flt_le (fnm j); omega) (Ne.symm h) (flt_is _ h0)
theorem bytes_ne {a b : ByteArray} (h : a ≠ b) : (a.toList == b.toList) = false := by
 rw [beq_eq_false_iff_ne]
 intro e
 rw [ByteArray.toList_eq, ByteArray.toList_eq] at e
 exact h (Go.WideShapes.bytes_inj e)
theorem fnB_nat (j : Nat) (h1 : 1 ≤ j) (h8 : j ≤ 8) : fnB (j : Int) = fnm j := by
 have : knB (j : Int) = true := by simp [knB]; omega
 simp [fnB, this]
theorem kn_nat (j : Nat) (h1 : 1 ≤ j) (h8 : j ≤ 8) : knB (j : Int) = true := by simp [knB]; omega
theorem pfault_any (s : ByteArray) (w : World) (T : FTab w) : Calls Tryz.prog 226 #[.string s] w fun e w' => e = .returned (.tuple #[.int .i64 (fltN s : Nat), .bool (decide (fltN s ≠ 0))]) ∧ w' = w := by
 have hle := flt_le s
 have HI : Hid (fltN s ≠ 0 → s = fnm (fltN s)) := flt_is s
 have HN : Hid (∀ j : Nat, 1 ≤ j → j ≤ 8 → fltN s ≠ j → fnm j ≠ s) := fun j => flt_not s j
 generalize fltN s = m at *
 have KN := fun (j : Nat) (h1 : 1 ≤ j) (h8 : j ≤ 8) (u : World) => (known_any (j : Int) u)
 have FN := fun (j : Nat) (u : World) (hu : FTab u) => fname_any (j : Int) u hu
 go_enter Tryz.func226, Tryz.ntmps226
 go_wp2
 go_loop [4] (fun f => ∃ j : Nat, 1 ≤ j ∧ j ≤ 9 ∧ f = .int .i64 j ∧ (m = 0 ∨ j ≤ m)) (fun f => 9 - (intOf f).toNat)
 case atStart => exact ⟨1, by omega, by omega, rfl, by omega⟩
 case round =>
  obtain ⟨j, h1, h9, rfl, hm⟩ := hrel
  by_cases h8 : j ≤ 8
  ·have K := fun u => known_any (j : Int) u
   have F := fname_any (j : Int) w T
   rw [kn_nat j h1 h8] at K
   rw [fnB_nat j h1 h8] at F
   by_cases hj : m = j
   ·subst hj
    have hs := HI.out (by omega)
    have HD : Hid (decide (m ≠ 0) = true) := by show _ = _; simp; omega
    subst hs
    clear hm
    go_wp2_with (first | (go_at_call 191; refine (K _).mono ?_; rintro e w' ⟨rfl, hw⟩; obtain rfl := hw.symm; clear hw) | (go_at_call 167; refine F.mono ?_; rintro e w' ⟨rfl, hw⟩; obtain rfl := hw.symm; clear hw))
    go_ret2
    exact ⟨by rw [HD.out]; rfl, rfl⟩
   ·have hne := bytes_ne (HN.out j h1 h8 hj)
    go_wp2_with (first | (go_at_call 191; refine (K _).mono ?_; rintro e w' ⟨rfl, hw⟩; obtain rfl := hw.symm; clear hw) | (go_at_call 167; refine F.mono ?_; rintro e w' ⟨rfl, hw⟩; obtain rfl := hw.symm; clear hw))
    go_round
    case rel => exact ⟨j + 1, by omega, by omega, by go_num, by omega⟩
    case measure => simp [intOf]; omega
  ·have K := fun u => known_any (j : Int) u
   have hk : knB (j : Int) = false := by simp [knB]; omega
   rw [hk] at K
   have h0 : m = 0 := by omega
   subst h0
   go_wp2_with (first | (go_at_call 191; refine (K _).mono ?_; rintro e w' ⟨rfl, hw⟩; obtain rfl := hw.symm; clear hw))
   go_ret2
   exact ⟨rfl, rfl⟩
theorem typed_empty (s : ByteArray) (w : World) (h : s.toList = []) : Calls Tryz.prog 200 #[.string s] w fun e w' => e = .returned (.agg #[.int .i64 0, .int .i64 0, .string ⟨#[]⟩]) ∧ Below w.heap.size w w' := by
 go_enter Tryz.func200, Tryz.ntmps200
 go_wp2
 exact bodyPost_ret (v := .agg #[.int .i64 0, .int .i64 0, .string ⟨#[]⟩]) (by simp [results, Tryz.results200, go_sem]) rfl ⟨rfl, (Below.refl _ _).alloc (Nat.le_refl _) _⟩
theorem typed_quote (s : ByteArray) (w : World) (hne : ¬ s.toList = []) (R : ByteArray) (PF : ∀ u : World, Calls Tryz.prog 33 #[.string s, .string ⟨#[39]⟩] u fun e w' => e = .returned (.tuple #[.string R, .bool true]) ∧ w' = u) : Calls Tryz.prog 200 #[.string s] w fun e w' => e = .returned (.agg #[.int .i64 2, .int .i64 0, .string R]) ∧ Below w.heap.size w w' := by
 have hne2 : (s.toList == []) = false := by simpa using hne
 have HB0 : Hid (Below (w.alloc (.cells #[.int .i64 0, .int .i64 0, .string ⟨#[]⟩] 23)).heap.size (w.alloc (.cells #[.int .i64 0, .int .i64 0, .string ⟨#[]⟩] 23)) (w.alloc (.cells #[.int .i64 0, .int .i64 0, .string ⟨#[]⟩] 23))) := Below.refl _ _
 go_enter Tryz.func200, Tryz.ntmps200
 go_wp2_with (first | (go_at_call 33; refine (PF _).mono ?_; rintro e w' ⟨rfl, hw⟩; obtain rfl := hw.symm; clear hw) | (go_at_call 222; refine (words_any _ _).mono ?_; rintro e w1 ⟨rfl, hb⟩; have HB1 : Hid (Below (w.alloc (.cells #[.int .i64 0, .int .i64 0, .string ⟨#[]⟩] 23)).heap.size (w.alloc (.cells #[.int .i64 0, .int .i64 0, .string ⟨#[]⟩] 23)) w1) := bel_step HB0.out hb; obtain ⟨⟨c0, c1, c2⟩, f0, f1, f2⟩ := rescell HB1.out; clear hb))
 exact bodyPost_ret (v := .agg #[.int .i64 2, .int .i64 0, .string R]) (by simp [results, Tryz.results200, go_sem, c0, c1, c2]) rfl ⟨rfl, set3 (bel1 HB1.out)⟩
theorem typed_num (s : ByteArray) (w : World) (hne : ¬ s.toList = []) (R : ByteArray) (PF : ∀ u : World, Calls Tryz.prog 33 #[.string s, .string ⟨#[39]⟩] u fun e w' => e = .returned (.tuple #[.string R, .bool false]) ∧ w' = u) (v : Int) (PP : ∀ u : World, Calls Tryz.prog 145 #[.string s] u fun e w' => e = .returned (.tuple #[.int .i64 v, .bool true]) ∧ Below u.heap.size u w') (hg : gd v = true) : Calls Tryz.prog 200 #[.string s] w fun e w' => e = .returned (.agg #[.int .i64 1, .int .i64 v, .string ⟨#[]⟩]) ∧ Below w.heap.size w w' := by
 have hne2 : (s.toList == []) = false := by simpa using hne
 have HB0 : Hid (Below (w.alloc (.cells #[.int .i64 0, .int .i64 0, .string ⟨#[]⟩] 23)).heap.size (w.alloc (.cells #[.int .i64 0, .int .i64 0, .string ⟨#[]⟩] 23)) (w.alloc (.cells #[.int .i64 0, .int .i64 0, .string ⟨#[]⟩] 23))) := Below.refl _ _
 have OF := fun u => of_any v true u
 rw [show ofV v true = .agg #[.int .i64 1, .int .i64 v, .string ⟨#[]⟩] by simp [ofV, hg]] at OF
 go_enter Tryz.func200, Tryz.ntmps200
 go_wp2_with (first | (go_at_call 33; refine (PF _).mono ?_; rintro e w' ⟨rfl, hw⟩; obtain rfl := hw.symm; clear hw) | (go_at_call 145; refine (PP _).mono ?_; rintro e w1 ⟨rfl, hb⟩; have HB1 : Hid (Below (w.alloc (.cells #[.int .i64 0, .int .i64 0, .string ⟨#[]⟩] 23)).heap.size (w.alloc (.cells #[.int .i64 0, .int .i64 0, .string ⟨#[]⟩] 23)) w1) := bel_step HB0.out hb; obtain ⟨⟨c0, c1, c2⟩, f0, f1, f2⟩ := rescell HB1.out; clear hb) | (go_at_call 223; refine (OF _).mono ?_; rintro e w2 ⟨rfl, hb⟩; have HB2 : Hid (Below (w.alloc (.cells #[.int .i64 0, .int .i64 0, .string ⟨#[]⟩] 23)).heap.size (w.alloc (.cells #[.int .i64 0, .int .i64 0, .string ⟨#[]⟩] 23)) w2) := bel_step HB1.out hb; obtain ⟨⟨c0, c1, c2⟩, f0, f1, f2⟩ := rescell HB2.out; clear hb))
 exact bodyPost_ret (v := .agg #[.int .i64 1, .int .i64 v, .string ⟨#[]⟩]) (by simp [results, Tryz.results200, go_sem, c0, c1, c2]) rfl ⟨rfl, set3 (bel1 HB2.out)⟩
theorem typed_truth (s : ByteArray) (w : World) (hne : ¬ s.toList = []) (R : ByteArray) (PF : ∀ u : World, Calls Tryz.prog 33 #[.string s, .string ⟨#[39]⟩] u fun e w' => e = .returned (.tuple #[.string R, .bool false]) ∧ w' = u) (v : Int) (PP : ∀ u : World, Calls Tryz.prog 145 #[.string s] u fun e w' => e = .returned (.tuple #[.int .i64 v, .bool false]) ∧ Below u.heap.size u w') (b : Bool) (PT : ∀ u : World, Calls Tryz.prog 224 #[.string s] u fun e w' => e = .returned (.tuple #[.bool b, .bool true]) ∧ Below u.heap.size u w') : Calls Tryz.prog 200 #[.string s] w fun e w' => e = .returned (.agg #[.int .i64 3, .int .i64 (if b = true then 1 else 0), .string ⟨#[]⟩]) ∧ Below w.heap.size w w' := by
 have hne2 : (s.toList == []) = false := by simpa using hne
 have HB0 : Hid (Below (w.alloc (.cells #[.int .i64 0, .int .i64 0, .string ⟨#[]⟩] 23)).heap.size (w.alloc (.cells #[.int .i64 0, .int .i64 0, .string ⟨#[]⟩] 23)) (w.alloc (.cells #[.int .i64 0, .int .i64 0, .string ⟨#[]⟩] 23))) := Below.refl _ _
 have TV := fun u => tvalue_any b u
 generalize (if b = true then (1 : Int) else 0) = z at *
 go_enter Tryz.func200, Tryz.ntmps200
 go_wp2_with (first | (go_at_call 33; refine (PF _).mono ?_; rintro e w' ⟨rfl, hw⟩; obtain rfl := hw.symm; clear hw) | (go_at_call 145; refine (PP _).mono ?_; rintro e w1 ⟨rfl, hb⟩; have HB1 : Hid (Below (w.alloc (.cells #[.int .i64 0, .int .i64 0, .string ⟨#[]⟩] 23)).heap.size (w.alloc (.cells #[.int .i64 0, .int .i64 0, .string ⟨#[]⟩] 23)) w1) := bel_step HB0.out hb; obtain ⟨⟨c0, c1, c2⟩, f0, f1, f2⟩ := rescell HB1.out; clear hb) | (go_at_call 224; refine (PT _).mono ?_; rintro e w2 ⟨rfl, hb⟩; have HB2 : Hid (Below (w.alloc (.cells #[.int .i64 0, .int .i64 0, .string ⟨#[]⟩] 23)).heap.size (w.alloc (.cells #[.int .i64 0, .int .i64 0, .string ⟨#[]⟩] 23)) w2) := bel_step HB1.out hb; obtain ⟨⟨c0, c1, c2⟩, f0, f1, f2⟩ := rescell HB2.out; clear hb) | (go_at_call 225; refine (TV _).mono ?_; rintro e w3 ⟨rfl, hb⟩; have HB3 : Hid (Below (w.alloc (.cells #[.int .i64 0, .int .i64 0, .string ⟨#[]⟩] 23)).heap.size (w.alloc (.cells #[.int .i64 0, .int .i64 0, .string ⟨#[]⟩] 23)) w3) := bel_step HB2.out hb; obtain ⟨⟨c0, c1, c2⟩, f0, f1, f2⟩ := rescell HB3.out; clear hb))
 exact bodyPost_ret (v := .agg #[.int .i64 3, .int .i64 z, .string ⟨#[]⟩]) (by simp [results, Tryz.results200, go_sem, c0, c1, c2]) rfl ⟨rfl, set3 (bel1 HB3.out)⟩
theorem typed_fault (s : ByteArray) (w : World) (hne : ¬ s.toList = []) (R : ByteArray) (PF : ∀ u : World, Calls Tryz.prog 33 #[.string s, .string ⟨#[39]⟩] u fun e w' => e = .returned (.tuple #[.string R, .bool false]) ∧ w' = u) (v : Int) (PP : ∀ u : World, Calls Tryz.prog 145 #[.string s] u fun e w' => e = .returned (.tuple #[.int .i64 v, .bool false]) ∧ Below u.heap.size u w') (b : Bool) (PT : ∀ u : World, Calls Tryz.prog 224 #[.string s] u fun e w' => e = .returned (.tuple #[.bool b, .bool false]) ∧ Below u.heap.size u w') (f : Int) (PL : ∀ u : World, Below (w.alloc (.cells #[.int .i64 0, .int .i64 0, .string ⟨#[]⟩] 23)).heap.size (w.alloc (.cells #[.int .i64 0, .int .i64 0, .string ⟨#[]⟩] 23)) u → Calls Tryz.prog 226 #[.string s] u fun e w' => e = .returned (.tuple #[.int .i64 f, .bool true]) ∧ w' = u) (hk : knB f = true) : Calls Tryz.prog 200 #[.string s] w fun e w' => e = .returned (.agg #[.int .i64 4, .int .i64 f, .string ⟨#[]⟩]) ∧ Below w.heap.size w w' := by
 have hne2 : (s.toList == []) = false := by simpa using hne
 have HB0 : Hid (Below (w.alloc (.cells #[.int .i64 0, .int .i64 0, .string ⟨#[]⟩] 23)).heap.size (w.alloc (.cells #[.int .i64 0, .int .i64 0, .string ⟨#[]⟩] 23)) (w.alloc (.cells #[.int .i64 0, .int .i64 0, .string ⟨#[]⟩] 23))) := Below.refl _ _
 have BD := fun u => bad_any f u
 rw [show badN f = f by simp [badN, hk]] at BD
 go_enter Tryz.func200, Tryz.ntmps200
 go_wp2_with (first | (go_at_call 33; refine (PF _).mono ?_; rintro e w' ⟨rfl, hw⟩; obtain rfl := hw.symm; clear hw) | (go_at_call 145; refine (PP _).mono ?_; rintro e w1 ⟨rfl, hb⟩; have HB1 : Hid (Below (w.alloc (.cells #[.int .i64 0, .int .i64 0, .string ⟨#[]⟩] 23)).heap.size (w.alloc (.cells #[.int .i64 0, .int .i64 0, .string ⟨#[]⟩] 23)) w1) := bel_step HB0.out hb; obtain ⟨⟨c0, c1, c2⟩, f0, f1, f2⟩ := rescell HB1.out; clear hb) | (go_at_call 224; refine (PT _).mono ?_; rintro e w2 ⟨rfl, hb⟩; have HB2 : Hid (Below (w.alloc (.cells #[.int .i64 0, .int .i64 0, .string ⟨#[]⟩] 23)).heap.size (w.alloc (.cells #[.int .i64 0, .int .i64 0, .string ⟨#[]⟩] 23)) w2) := bel_step HB1.out hb; obtain ⟨⟨c0, c1, c2⟩, f0, f1, f2⟩ := rescell HB2.out; clear hb) | (go_at_call 226; refine (PL _ HB2.out).mono ?_; rintro e w' ⟨rfl, hw⟩; obtain rfl := hw.symm; clear hw) | (go_at_call 149; refine (BD _).mono ?_; rintro e w3 ⟨rfl, hb⟩; have HB3 : Hid (Below (w.alloc (.cells #[.int .i64 0, .int .i64 0, .string ⟨#[]⟩] 23)).heap.size (w.alloc (.cells #[.int .i64 0, .int .i64 0, .string ⟨#[]⟩] 23)) w3) := bel_step HB2.out hb; obtain ⟨⟨c0, c1, c2⟩, f0, f1, f2⟩ := rescell HB3.out; clear hb))
 exact bodyPost_ret (v := .agg #[.int .i64 4, .int .i64 f, .string ⟨#[]⟩]) (by simp [results, Tryz.results200, go_sem, c0, c1, c2]) rfl ⟨rfl, set3 (bel1 HB3.out)⟩
theorem typed_text (s : ByteArray) (w : World) (hne : ¬ s.toList = []) (R : ByteArray) (PF : ∀ u : World, Calls Tryz.prog 33 #[.string s, .string ⟨#[39]⟩] u fun e w' => e = .returned (.tuple #[.string R, .bool false]) ∧ w' = u) (v : Int) (PP : ∀ u : World, Calls Tryz.prog 145 #[.string s] u fun e w' => e = .returned (.tuple #[.int .i64 v, .bool false]) ∧ Below u.heap.size u w') (b : Bool) (PT : ∀ u : World, Calls Tryz.prog 224 #[.string s] u fun e w' => e = .returned (.tuple #[.bool b, .bool false]) ∧ Below u.heap.size u w') (f : Int) (PL : ∀ u : World, Below (w.alloc (.cells #[.int .i64 0, .int .i64 0, .string ⟨#[]⟩] 23)).heap.size (w.alloc (.cells #[.int .i64 0, .int .i64 0, .string ⟨#[]⟩] 23)) u → Calls Tryz.prog 226 #[.string s] u fun e w' => e = .returned (.tuple #[.int .i64 f, .bool false]) ∧ w' = u) : Calls Tryz.prog 200 #[.string s] w fun e w' => e = .returned (.agg #[.int .i64 2, .int .i64 0, .string s]) ∧ Below w.heap.size w w' := by
 have hne2 : (s.toList == []) = false := by simpa using hne
 have HB0 : Hid (Below (w.alloc (.cells #[.int .i64 0, .int .i64 0, .string ⟨#[]⟩] 23)).heap.size (w.alloc (.cells #[.int .i64 0, .int .i64 0, .string ⟨#[]⟩] 23)) (w.alloc (.cells #[.int .i64 0, .int .i64 0, .string ⟨#[]⟩] 23))) := Below.refl _ _
 go_enter Tryz.func200, Tryz.ntmps200
 go_wp2_with (first | (go_at_call 33; refine (PF _).mono ?_; rintro e w' ⟨rfl, hw⟩; obtain rfl := hw.symm; clear hw) | (go_at_call 145; refine (PP _).mono ?_; rintro e w1 ⟨rfl, hb⟩; have HB1 : Hid (Below (w.alloc (.cells #[.int .i64 0, .int .i64 0, .string ⟨#[]⟩] 23)).heap.size (w.alloc (.cells #[.int .i64 0, .int .i64 0, .string ⟨#[]⟩] 23)) w1) := bel_step HB0.out hb; obtain ⟨⟨c0, c1, c2⟩, f0, f1, f2⟩ := rescell HB1.out; clear hb) | (go_at_call 224; refine (PT _).mono ?_; rintro e w2 ⟨rfl, hb⟩; have HB2 : Hid (Below (w.alloc (.cells #[.int .i64 0, .int .i64 0, .string ⟨#[]⟩] 23)).heap.size (w.alloc (.cells #[.int .i64 0, .int .i64 0, .string ⟨#[]⟩] 23)) w2) := bel_step HB1.out hb; obtain ⟨⟨c0, c1, c2⟩, f0, f1, f2⟩ := rescell HB2.out; clear hb) | (go_at_call 226; refine (PL _ HB2.out).mono ?_; rintro e w' ⟨rfl, hw⟩; obtain rfl := hw.symm; clear hw) | (go_at_call 222; refine (words_any _ _).mono ?_; rintro e w3 ⟨rfl, hb⟩; have HB3 : Hid (Below (w.alloc (.cells #[.int .i64 0, .int .i64 0, .string ⟨#[]⟩] 23)).heap.size (w.alloc (.cells #[.int .i64 0, .int .i64 0, .string ⟨#[]⟩] 23)) w3) := bel_step HB2.out hb; obtain ⟨⟨c0, c1, c2⟩, f0, f1, f2⟩ := rescell HB3.out; clear hb))
 exact bodyPost_ret (v := .agg #[.int .i64 2, .int .i64 0, .string s]) (by simp [results, Tryz.results200, go_sem, c0, c1, c2]) rfl ⟨rfl, set3 (bel1 HB3.out)⟩
structure Tabs (w : World) : Prop where
 p : PTab w
 f : FTab w
theorem Tabs.below {w w' : World} (h : Tabs w) (hb : Below w.heap.size w w') : Tabs w' := ⟨h.p.below hb, h.f.below hb⟩
abbrev val (k n : Int) (s : ByteArray) : Value := .agg #[.int .i64 k, .int .i64 n, .string s]
theorem k_cases (k : Int) : k = 0 ∨ k = 1 ∨ k = 2 ∨ k = 3 ∨ k = 4 ∨ (¬ k = 0 ∧ ¬ k = 1 ∧ ¬ k = 2 ∧ ¬ k = 3 ∧ ¬ k = 4) := by omega
theorem beq_no {k c : Int} (h : ¬ k = c) : (k == c) = false := by simpa using h
theorem parse_s (s : ByteArray) (hs : s.size ≤ 9223372036854775807) (u : World) : Calls Tryz.prog 145 #[.string s] u fun e w' => e = .returned (.tuple #[.int .i64 (parseF s.data.toList).1, .bool (parseF s.data.toList).2]) ∧ Below u.heap.size u w' := by
 have := parse_any s.data.toList u (by rw [size_list]; exact hs)
 rw [mk_list] at this
 exact this
theorem parse_gd (l : List UInt8) : gd (parseF l).1 = true := by unfold parseF; split <;> first | exact ans_gd _ | rfl
def textF (k n : Int) (s : ByteArray) : ByteArray :=
 if k = 1 then ⟨(printF n).toArray⟩ else if k = 2 then s else if k = 3 then (if (n != 0) = true then ⟨#[84, 82, 85, 69]⟩ else ⟨#[70, 65, 76, 83, 69]⟩) else if k = 4 then fnB n else ⟨#[]⟩
def goodF (k n : Int) (s : ByteArray) : Bool :=
 if k = 0 then (n == 0) && emB s else if k = 1 then emB s && gd n else if k = 2 then (n == 0) && lenB s else if k = 3 then emB s && ((n == 0) || (n == 1)) else if k = 4 then emB s && knB n else false
def typedF (s : ByteArray) : Int × Int × ByteArray :=
 if s.toList = [] then (0, 0, ⟨#[]⟩) else if s.data.toList.head? = some 39 then (2, 0, ⟨(s.data.toList.drop 1).toArray⟩)
 else if (parseF s.data.toList).2 = true then (1, (parseF s.data.toList).1, ⟨#[]⟩)
 else if (truF s).2 = true then (3, if (truF s).1 = true then 1 else 0, ⟨#[]⟩)
 else if fltN s = 0 then (2, 0, s) else (4, (fltN s : Nat), ⟨#[]⟩)
theorem truth_ways (s : ByteArray) : ((truF s).2 = true ∧ (truF s).1 = true ∧ truN (szF 97 65 s.data.toList) = 1) ∨ ((truF s).2 = true ∧ (truF s).1 = false ∧ truN (szF 97 65 s.data.toList) = 0) ∨ ((truF s).2 = false ∧ truN (szF 97 65 s.data.toList) = -1) := by
 unfold truF
 rcases tru_cases (szF 97 65 s.data.toList) with ⟨_, h, g⟩ | ⟨_, h, g⟩ | ⟨_, _, h, g⟩ <;> simp [h, g]
theorem vtext_any (k n : Int) (s : ByteArray) (hn : In64 n) (w : World) (T : Tabs w) :
  Calls Tryz.prog 125 #[val k n s] w fun e w' => e = .returned (.string (textF k n s)) ∧ Below w.heap.size w w' := by
 rcases k_cases k with rfl | rfl | rfl | rfl | rfl | ⟨h0, h1, h2, h3, h4⟩
 ·exact vtext_blank n s w
 ·exact vtext_num n s w _ (fun u hu => print_any n hn u (T.below hu).p)
 ·exact vtext_str n s w
 ·exact vtext_bool n s w _ (fun u => kind_bool n s u)
 ·exact vtext_bad n s w _ (fun u hu => fname_any n u (T.below hu).f)
 ·have e : textF k n s = ⟨#[]⟩ := by simp [textF, h1, h2, h3, h4]
  rw [e]
  exact vtext_none k n s w (beq_no h0) (beq_no h1) (beq_no h2) (beq_no h3) (beq_no h4)
theorem cut39 (l : List UInt8) : Lib.hasPrefix l [39] = decide (l.head? = some 39) ∧ Lib.trimPrefix l [39] = if l.head? = some 39 then l.drop 1 else l := by
 cases l with
 | nil => exact ⟨rfl, rfl⟩
 | cons b l =>
  have h : Lib.hasPrefix (b :: l) [39] = decide ((b :: l).head? = some 39) := by
   unfold Lib.hasPrefix
   simp [List.isPrefixOf]
   exact BEq.comm
  refine ⟨h, ?_⟩
  unfold Lib.trimPrefix
  rw [h]
  by_cases e : (b :: l).head? = some 39
  ·rw [if_pos e, if_pos (by simpa using e)]; rfl
  ·rw [if_neg e, if_neg (by simpa using e)]
theorem cutp_s (s : ByteArray) (u : World) : Calls Tryz.prog 33 #[.string s, .string ⟨#[39]⟩] u fun e w' => e = .returned (.tuple #[.string ⟨(if s.data.toList.head? = some 39 then s.data.toList.drop 1 else s.data.toList).toArray⟩, .bool (decide (s.data.toList.head? = some 39))]) ∧ w' = u := by
 have h := Tryz.strings_CutPrefix s ⟨#[39]⟩ u
 rw [show (⟨#[39]⟩ : ByteArray).data.toList = [39] from rfl, (cut39 _).1, (cut39 _).2] at h
 exact h
theorem typed_any (s : ByteArray) (hs : s.size ≤ 9223372036854775807) (w : World) (T : Tabs w) :
  Calls Tryz.prog 200 #[.string s] w fun e w' => e = .returned (val (typedF s).1 (typedF s).2.1 (typedF s).2.2) ∧ Below w.heap.size w w' := by
 have PF := fun u => cutp_s s u
 have PP := fun u => parse_s s hs u
 have PT := fun u => ptruth_any s hs u
 have PL : ∀ u : World, Below (w.alloc (.cells #[.int .i64 0, .int .i64 0, .string ⟨#[]⟩] 23)).heap.size (w.alloc (.cells #[.int .i64 0, .int .i64 0, .string ⟨#[]⟩] 23)) u → _ := fun u hu => pfault_any s u (T.below (bel1 hu)).f
 unfold typedF
 by_cases h0 : s.toList = []
 ·rw [if_pos h0]; exact typed_empty s w h0
 ·rw [if_neg h0]
  by_cases h1 : s.data.toList.head? = some 39
  ·rw [if_pos h1]
   simp only [h1, if_true, decide_true] at PF
   exact typed_quote s w h0 _ PF
  ·rw [if_neg h1]
   simp only [h1, if_false, decide_false] at PF
   by_cases h2 : (parseF s.data.toList).2 = true
   ·rw [if_pos h2]
    rw [h2] at PP
    exact typed_num s w h0 _ PF _ PP (parse_gd _)
   ·rw [if_neg h2]
    rw [Bool.not_eq_true] at h2
    rw [h2] at PP
    by_cases h3 : (truF s).2 = true
    ·rw [if_pos h3]
     rw [h3] at PT
     exact typed_truth s w h0 _ PF _ PP _ PT
    ·rw [if_neg h3]
     rw [Bool.not_eq_true] at h3
     rw [h3] at PT
     by_cases h4 : fltN s = 0
     ·rw [if_pos h4]
      simp only [h4, ne_eq, not_true_eq_false, decide_false] at PL
      exact typed_text s w h0 _ PF _ PP _ PT _ PL
     ·rw [if_neg h4]
      simp only [h4, ne_eq, not_false_eq_true, decide_true] at PL
      have := flt_le s
      exact typed_fault s w h0 _ PF _ PP _ PT _ PL (kn_nat _ (by omega) (by omega))
def okC (c : UInt8) : Bool := Ad.isL c || Ad.isD c || (c == 95)
def headL (l : List UInt8) : Bool := match l with
 | [] => false
 | c :: _ => Ad.isL c
def spF (l : List UInt8) : Bool := decide (l.length ≤ 16) && headL l && l.all okC
def lcF (l : List UInt8) : Bool := (l.drop 1).all Ad.isD && decide (1 < l.length)
def gnF (l : List UInt8) : Bool := spF l && !lcF l && !(truF ⟨l.toArray⟩).2
theorem alls_at (p : UInt8 → Bool) (s : ByteArray) (k : Nat) (h : k < s.size) (hall : s.data.toList.all p = true) : p s[k] = true := by
 rw [byte_at s k h (by rw [size_list]; exact h)]
 exact List.all_eq_true.1 hall _ (List.getElem_mem _)
theorem alls_step (p : UInt8 → Bool) (s : ByteArray) (k : Nat) (h : k < s.size) (ha : (s.data.toList.take k).all p = true) (hb : p s[k] = true) : (s.data.toList.take (k + 1)).all p = true := by
 rw [take_snoc _ _ (by rw [size_list]; exact h), List.all_append, ha, ← byte_at s k h (by rw [size_list]; exact h)]
 simp [hb]
theorem head_list : ∀ (l : List UInt8) (h : 0 < l.length), headL l = Ad.isL l[0]
 | [], h => by simp at h
 | a :: r, h => rfl
theorem head_at (s : ByteArray) (h : 0 < s.size) : headL s.data.toList = Ad.isL s[0] := by
 rw [byte_at s 0 h (by rw [size_list]; exact h)]
 exact head_list _ _
theorem ch_facts (c d : UInt8) : (c = d ∧ ((c.toNat : Int) == (d.toNat : Int)) = true) ∨ (c ≠ d ∧ ((c.toNat : Int) == (d.toNat : Int)) = false) := by
 by_cases h : c = d
 ·subst h; left; exact ⟨rfl, by simp⟩
 ·right
  refine ⟨h, ?_⟩
  rw [beq_eq_false_iff_ne]
  intro e
  exact h (UInt8.toNat_inj.1 (by omega))
theorem spelled_any (s : ByteArray) (hs : s.size ≤ 9223372036854775807) (w : World) :
  Calls Tryz.prog 197 #[.string s] w fun e w' => e = .returned (.bool (spF s.data.toList)) ∧ Below w.heap.size w w' := by
 have hl := size_list s
 generalize hr : spF s.data.toList = r
 have HR : Hid (spF s.data.toList = r) := hr
 clear hr
 by_cases h0 : s.size = 0
 ·have h1 : (s.size : Int) < 1 := by omega
  have HE : Hid (r = false) := by
   show _ = _
   have : s.data.toList = [] := List.eq_nil_of_length_eq_zero (by omega)
   rw [← HR.out, this]
   rfl
  go_enter Tryz.func197, Tryz.ntmps197
  go_wp2
  go_ret
  exact ⟨by rw [HE.out]; rfl, Below.refl _ _⟩
 have h1 : ¬ (s.size : Int) < 1 := by omega
 by_cases h16 : 16 < s.size
 ·have h2 : (16 : Int) < s.size := by omega
  have HE : Hid (r = false) := by
   show _ = _
   rw [← HR.out]
   unfold spF
   rw [decide_eq_false (show ¬ s.data.toList.length ≤ 16 by omega)]
   rfl
  go_enter Tryz.func197, Tryz.ntmps197
  go_wp2
  go_ret
  exact ⟨by rw [HE.out]; rfl, Below.refl _ _⟩
 have h2 : ¬ (16 : Int) < s.size := by omega
 have hz : 0 < s.size := by omega
 have L0 := fun u => letter_any s[0] u
 have hh := head_at s hz
 cases hL : Ad.isL s[0]
 ·rw [hL] at L0 hh
  have HE : Hid (r = false) := by
   show _ = _
   rw [← HR.out]
   unfold spF
   rw [hh]
   simp
  go_enter Tryz.func197, Tryz.ntmps197
  go_wp2_with (go_at_call 193; refine (L0 _).mono ?_; rintro e w' ⟨rfl, hw⟩; obtain rfl := hw.symm; clear hw)
  go_ret
  exact ⟨by rw [HE.out]; rfl, Below.refl _ _⟩
 rw [hL] at L0 hh
 have HE : Hid (r = s.data.toList.all okC) := by
  show _ = _
  rw [← HR.out]
  unfold spF
  rw [hh, decide_eq_true (show s.data.toList.length ≤ 16 by omega)]
  rfl
 clear hh HR
 obtain ⟨c, wb, hrun, hcell, hbel⟩ := run_bytes_row w s
 have HB : Hid (Below w.heap.size w wb) := hbel
 have HC : Hid (∀ (k : Nat) (h : k < s.size), wb.cell? ⟨w.heap.size, k, none⟩ = some (.int .u8 (s[k].toNat : Int))) := hcell
 clear hbel hcell
 go_enter Tryz.func197, Tryz.ntmps197
 go_wp2_with (go_at_call 193; refine (L0 _).mono ?_; rintro e w' ⟨rfl, hw⟩; obtain rfl := hw.symm; clear hw)
 go_loop [4, 22] (fun _ i => ∃ k : Nat, k ≤ s.size ∧ i = .int .i64 k ∧ Hid ((s.data.toList.take k).all okC = true)) (fun _ i => s.size - (intOf i).toNat)
 case atStart => exact ⟨0, Nat.zero_le _, rfl, by simp [Hid]⟩
 case round =>
  obtain ⟨k, hk, rfl, ha⟩ := hrel
  clear L0
  by_cases hlt : k < s.size
  ·have hck := HC.out k hlt
   have Lk := fun u => letter_any s[k] u
   have Dk := fun u => digit_any s[k] u
   have HS : Hid (okC s[k] = true → (s.data.toList.take (k + 1)).all okC = true) := fun h => alls_step okC s k hlt ha.out h
   have HN : Hid (okC s[k] = false → r = false) := fun h => by
    rw [HE.out]
    cases hh : s.data.toList.all okC
    ·rfl
    ·rw [alls_at okC s k hlt hh] at h; cases h
   have HO : Hid (okC s[k] = (Ad.isL s[k] || Ad.isD s[k] || (s[k] == 95))) := rfl
   cases h1 : Ad.isL s[k]
   ·rw [h1] at Lk HO
    cases h2 : Ad.isD s[k]
    ·rw [h2] at Dk HO
     rcases ch_facts s[k] 95 with ⟨h3, h4⟩ | ⟨h3, h4⟩
     ·have HA : Hid ((s.data.toList.take (k + 1)).all okC = true) := HS.out (by rw [HO.out, h3]; rfl)
      have h5 : ((s[k].toNat : Int) != 95) = false := by rw [h3]; rfl
      clear h1 h2 h3 h4 HN HS
      go_wp2_with (first | (go_at_call 193; refine (Lk _).mono ?_; rintro e w' ⟨rfl, hw⟩; obtain rfl := hw.symm; clear hw) | (go_at_call 221; refine (Dk _).mono ?_; rintro e w' ⟨rfl, hw⟩; obtain rfl := hw.symm; clear hw))
      go_round
      case rel => exact ⟨k + 1, by omega, by go_num, HA.out⟩
      case measure => simp [intOf]; omega
     ·have HF : Hid (r = false) := HN.out (by rw [HO.out]; simpa using h3)
      have h5 : ((s[k].toNat : Int) != 95) = true := by rw [bne, show ((s[k].toNat : Int) == 95) = false from h4]; rfl
      clear h1 h2 h3 h4 HN HS
      go_wp2_with (first | (go_at_call 193; refine (Lk _).mono ?_; rintro e w' ⟨rfl, hw⟩; obtain rfl := hw.symm; clear hw) | (go_at_call 221; refine (Dk _).mono ?_; rintro e w' ⟨rfl, hw⟩; obtain rfl := hw.symm; clear hw))
      go_ret
      exact ⟨by rw [HF.out]; rfl, HB.out⟩
    ·rw [h2] at Dk HO
     have HA : Hid ((s.data.toList.take (k + 1)).all okC = true) := HS.out (by rw [HO.out]; rfl)
     clear h1 h2 HN HS
     go_wp2_with (first | (go_at_call 193; refine (Lk _).mono ?_; rintro e w' ⟨rfl, hw⟩; obtain rfl := hw.symm; clear hw) | (go_at_call 221; refine (Dk _).mono ?_; rintro e w' ⟨rfl, hw⟩; obtain rfl := hw.symm; clear hw))
     go_round
     case rel => exact ⟨k + 1, by omega, by go_num, HA.out⟩
     case measure => simp [intOf]; omega
   ·rw [h1] at Lk HO
    have HA : Hid ((s.data.toList.take (k + 1)).all okC = true) := HS.out (by rw [HO.out]; rfl)
    clear h1 HN HS
    go_wp2_with (first | (go_at_call 193; refine (Lk _).mono ?_; rintro e w' ⟨rfl, hw⟩; obtain rfl := hw.symm; clear hw))
    go_round
    case rel => exact ⟨k + 1, by omega, by go_num, HA.out⟩
    case measure => simp [intOf]; omega
  ·have HT : Hid (r = true) := by
    show _ = _
    have hh := ha.out
    rw [List.take_of_length_le (by omega)] at hh
    rw [HE.out, hh]
   go_wp2
   go_ret
   exact ⟨by rw [HT.out]; rfl, HB.out⟩
theorem tail_bytes (s : ByteArray) : (s.extract 1 s.size).data.toList = s.data.toList.drop 1 := by
 have := drop_mk s.data.toList
 rw [mk_list] at this
 rw [this]
theorem likecell_any (s : ByteArray) (hz : 0 < s.size) (hs : s.size ≤ 9223372036854775807) (w : World) :
  Calls Tryz.prog 198 #[.string s] w fun e w' => e = .returned (.bool (lcF s.data.toList)) ∧ Below w.heap.size w w' := by
 have hl := size_list s
 generalize hr : lcF s.data.toList = r
 have HR : Hid (lcF s.data.toList = r) := hr
 clear hr
 have hx := tail_bytes s
 have hxs : (s.extract 1 s.size).size = s.size - 1 := by simp
 have HE : Hid (r = ((s.extract 1 s.size).data.toList.all Ad.isD && decide (1 < s.size))) := by
  show _ = _
  rw [← HR.out]
  unfold lcF
  rw [hx, hl]
 obtain ⟨t, ht⟩ : ∃ t, s.extract 1 s.size = t := ⟨_, rfl⟩
 rw [ht] at hx hxs HE
 have hlt := size_list t
 clear HR hx
 obtain ⟨c, wb, hrun, hcell, hbel⟩ := run_bytes_row w t
 have HB : Hid (Below w.heap.size w wb) := hbel
 have HC : Hid (∀ (k : Nat) (h : k < t.size), wb.cell? ⟨w.heap.size, k, none⟩ = some (.int .u8 (t[k].toNat : Int))) := hcell
 clear hbel hcell
 rw [← ht] at hrun
 clear ht
 have c1 : (1 : Int) ≤ s.size := by omega
 go_enter Tryz.func198, Tryz.ntmps198
 go_wp2
 go_loop [4, 9] (fun _ i => ∃ k : Nat, k ≤ t.size ∧ i = .int .i64 k ∧ Hid ((t.data.toList.take k).all Ad.isD = true)) (fun _ i => t.size - (intOf i).toNat)
 case atStart => exact ⟨0, Nat.zero_le _, rfl, by simp [Hid]⟩
 case round =>
  obtain ⟨k, hk, rfl, ha⟩ := hrel
  by_cases hlt2 : k < t.size
  ·have hck := HC.out k hlt2
   have Dk := fun u => digit_any t[k] u
   cases h2 : Ad.isD t[k]
   ·rw [h2] at Dk
    have HF : Hid (r = false) := by
     show _ = _
     rw [HE.out]
     cases hh : t.data.toList.all Ad.isD
     ·rfl
     ·rw [alls_at Ad.isD t k hlt2 hh] at h2; cases h2
    clear h2
    go_wp2_with (go_at_call 221; refine (Dk _).mono ?_; rintro e w' ⟨rfl, hw⟩; obtain rfl := hw.symm; clear hw)
    go_ret
    exact ⟨by rw [HF.out]; rfl, HB.out⟩
   ·rw [h2] at Dk
    have HA : Hid ((t.data.toList.take (k + 1)).all Ad.isD = true) := alls_step Ad.isD t k hlt2 ha.out h2
    clear h2
    go_wp2_with (go_at_call 221; refine (Dk _).mono ?_; rintro e w' ⟨rfl, hw⟩; obtain rfl := hw.symm; clear hw)
    go_round
    case rel => exact ⟨k + 1, by omega, by go_num, HA.out⟩
    case measure => simp [intOf]; omega
  ·have HT : Hid (r = decide ((1 : Int) < s.size)) := by
    show _ = _
    have hh := ha.out
    rw [List.take_of_length_le (by omega)] at hh
    rw [HE.out, hh, Bool.true_and, decide_eq_decide]
    omega
   go_wp2
   go_ret
   exact ⟨by rw [HT.out]; rfl, HB.out⟩
end Go.Proofs.YtljmklbbngpllaaGreatDoor
