/- VTyped, VJoin, AName. -/
import Derived.Test.YtljmklbbngpllaaGreatDoorVMakeBk
set_option linter.unusedVariables false
set_option linter.unusedSimpArgs false
set_option maxHeartbeats 16000000
set_option maxRecDepth 100000
namespace Go.Proofs.YtljmklbbngpllaaGreatDoor
open Go.RowKit
def mI (s : ByteArray) : Nat := if s = fnm 1 then 1 else if s = fnm 2 then 2 else if s = fnm 3 then 3 else if s = fnm 4 then 4 else if s = fnm 5 then 5 else if s = fnm 6 then 6 else if s = fnm 7 then 7 else if s = fnm 8 then 8 else 0
theorem aA7 (s : ByteArray) : mI s ≤ 8 := by
 unfold mI
 repeat' split
 all_goals omega
theorem aFa (s : ByteArray) (h : mI s ≠ 0) : s = fnm (mI s) := by
 unfold mI at h ⊢
 repeat' split
 all_goals first | assumption | (exfalso; simp_all)
theorem aJu : ∀ i, i < 9 → ∀ j, j < 9 → i ≠ j → fnm i ≠ fnm j := by decide
theorem aHj (s : ByteArray) (j : Nat) (h1 : 1 ≤ j) (h8 : j ≤ 8) (h : mI s ≠ j) : fnm j ≠ s := by
 rintro rfl
 by_cases h0 : mI (fnm j) = 0
 ·have hj : j = 1 ∨ j = 2 ∨ j = 3 ∨ j = 4 ∨ j = 5 ∨ j = 6 ∨ j = 7 ∨ j = 8 := by omega
  rcases hj with rfl | rfl | rfl | rfl | rfl | rfl | rfl | rfl <;> revert h0 <;> decide
 ·exact aJu j (by omega) _ (by have := aA7 (fnm j); omega) (Ne.symm h) (aFa _ h0)
theorem aFb {a b : ByteArray} (h : a ≠ b) : (a.toList == b.toList) = false := by
 rw [beq_eq_false_iff_ne]
 intro e
 rw [ByteArray.toList_eq, ByteArray.toList_eq] at e
 exact h (Go.WideShapes.bytes_inj e)
theorem aCp (j : Nat) (h1 : 1 ≤ j) (h8 : j ≤ 8) : fnB (j : Int) = fnm j := by
 have : knB (j : Int) = true := by simp [knB]; omega
 simp [fnB, this]
theorem wH (j : Nat) (h1 : 1 ≤ j) (h8 : j ≤ 8) : knB (j : Int) = true := by simp [knB]; omega
theorem aA8 (s : ByteArray) (w : World) (T : rG w) : Calls Tryz.prog 226 #[.string s] w fun e w' => e = .returned (.tuple #[.int .i64 (mI s : Nat), .bool (decide (mI s ≠ 0))]) ∧ w' = w := by
 have hle := aA7 s
 have HI : Hid (mI s ≠ 0 → s = fnm (mI s)) := aFa s
 have HN : Hid (∀ j : Nat, 1 ≤ j → j ≤ 8 → mI s ≠ j → fnm j ≠ s) := fun j => aHj s j
 generalize mI s = m at *
 have KN := fun (j : Nat) (h1 : 1 ≤ j) (h8 : j ≤ 8) (u : World) => (gK (j : Int) u)
 have FN := fun (j : Nat) (u : World) (hu : rG u) => oO (j : Int) u hu
 go_enter Tryz.func226, Tryz.ntmps226
 go_wp2
 go_loop [4] (fun f => ∃ j : Nat, 1 ≤ j ∧ j ≤ 9 ∧ f = .int .i64 j ∧ (m = 0 ∨ j ≤ m)) (fun f => 9 - (intOf f).toNat)
 case atStart => exact ⟨1, by omega, by omega, rfl, by omega⟩
 case round =>
  obtain ⟨j, h1, h9, rfl, hm⟩ := hrel
  by_cases h8 : j ≤ 8
  ·have K := fun u => gK (j : Int) u
   have F := oO (j : Int) w T
   rw [wH j h1 h8] at K
   rw [aCp j h1 h8] at F
   by_cases hj : m = j
   ·subst hj
    have hs := HI.out (by omega)
    have HD : Hid (decide (m ≠ 0) = true) := by show _ = _; simp; omega
    subst hs
    clear hm
    go_wp2_with (first | (go_at_call 191; refine (K _).mono ?_; rintro e w' ⟨rfl, hw⟩; obtain rfl := hw.symm; clear hw) | (go_at_call 167; refine F.mono ?_; rintro e w' ⟨rfl, hw⟩; obtain rfl := hw.symm; clear hw))
    go_ret2
    exact ⟨by rw [HD.out]; rfl, rfl⟩
   ·have hne := aFb (HN.out j h1 h8 hj)
    go_wp2_with (first | (go_at_call 191; refine (K _).mono ?_; rintro e w' ⟨rfl, hw⟩; obtain rfl := hw.symm; clear hw) | (go_at_call 167; refine F.mono ?_; rintro e w' ⟨rfl, hw⟩; obtain rfl := hw.symm; clear hw))
    go_round
    case rel => exact ⟨j + 1, by omega, by omega, by go_num, by omega⟩
    case measure => simp [intOf]; omega
  ·have K := fun u => gK (j : Int) u
   have hk : knB (j : Int) = false := by simp [knB]; omega
   rw [hk] at K
   have h0 : m = 0 := by omega
   subst h0
   go_wp2_with (first | (go_at_call 191; refine (K _).mono ?_; rintro e w' ⟨rfl, hw⟩; obtain rfl := hw.symm; clear hw))
   go_ret2
   exact ⟨rfl, rfl⟩
theorem zK (s : ByteArray) (w : World) (h : s.toList = []) : Calls Tryz.prog 200 #[.string s] w fun e w' => e = .returned (.agg #[.int .i64 0, .int .i64 0, .string ⟨#[]⟩]) ∧ Below w.heap.size w w' := by
 go_enter Tryz.func200, Tryz.ntmps200
 go_wp2
 exact bodyPost_ret (v := .agg #[.int .i64 0, .int .i64 0, .string ⟨#[]⟩]) (by simp [results, Tryz.results200, go_sem]) rfl ⟨rfl, (Below.refl _ _).alloc (Nat.le_refl _) _⟩
theorem zL (s : ByteArray) (w : World) (hne : ¬ s.toList = []) (R : ByteArray) (PF : ∀ u : World, Calls Tryz.prog 33 #[.string s, .string ⟨#[39]⟩] u fun e w' => e = .returned (.tuple #[.string R, .bool true]) ∧ w' = u) : Calls Tryz.prog 200 #[.string s] w fun e w' => e = .returned (.agg #[.int .i64 2, .int .i64 0, .string R]) ∧ Below w.heap.size w w' := by
 have hne2 : (s.toList == []) = false := by simpa using hne
 have HB0 : Hid (Below (w.alloc (.cells #[.int .i64 0, .int .i64 0, .string ⟨#[]⟩] 23)).heap.size (w.alloc (.cells #[.int .i64 0, .int .i64 0, .string ⟨#[]⟩] 23)) (w.alloc (.cells #[.int .i64 0, .int .i64 0, .string ⟨#[]⟩] 23))) := Below.refl _ _
 go_enter Tryz.func200, Tryz.ntmps200
 go_wp2_with (first | (go_at_call 33; refine (PF _).mono ?_; rintro e w' ⟨rfl, hw⟩; obtain rfl := hw.symm; clear hw) | (go_at_call 222; refine (oP _ _).mono ?_; rintro e w1 ⟨rfl, hb⟩; have HB1 : Hid (Below (w.alloc (.cells #[.int .i64 0, .int .i64 0, .string ⟨#[]⟩] 23)).heap.size (w.alloc (.cells #[.int .i64 0, .int .i64 0, .string ⟨#[]⟩] 23)) w1) := aJ HB0.out hb; obtain ⟨⟨c0, c1, c2⟩, f0, f1, f2⟩ := dV HB1.out; clear hb))
 exact bodyPost_ret (v := .agg #[.int .i64 2, .int .i64 0, .string R]) (by simp [results, Tryz.results200, go_sem, c0, c1, c2]) rfl ⟨rfl, wG (aS HB1.out)⟩
theorem aDh (s : ByteArray) (w : World) (hne : ¬ s.toList = []) (R : ByteArray) (PF : ∀ u : World, Calls Tryz.prog 33 #[.string s, .string ⟨#[39]⟩] u fun e w' => e = .returned (.tuple #[.string R, .bool false]) ∧ w' = u) (v : Int) (PP : ∀ u : World, Calls Tryz.prog 145 #[.string s] u fun e w' => e = .returned (.tuple #[.int .i64 v, .bool true]) ∧ Below u.heap.size u w') (hg : gd v = true) : Calls Tryz.prog 200 #[.string s] w fun e w' => e = .returned (.agg #[.int .i64 1, .int .i64 v, .string ⟨#[]⟩]) ∧ Below w.heap.size w w' := by
 have hne2 : (s.toList == []) = false := by simpa using hne
 have HB0 : Hid (Below (w.alloc (.cells #[.int .i64 0, .int .i64 0, .string ⟨#[]⟩] 23)).heap.size (w.alloc (.cells #[.int .i64 0, .int .i64 0, .string ⟨#[]⟩] 23)) (w.alloc (.cells #[.int .i64 0, .int .i64 0, .string ⟨#[]⟩] 23))) := Below.refl _ _
 have OF := fun u => aE9 v true u
 rw [show ofV v true = .agg #[.int .i64 1, .int .i64 v, .string ⟨#[]⟩] by simp [ofV, hg]] at OF
 go_enter Tryz.func200, Tryz.ntmps200
 go_wp2_with (first | (go_at_call 33; refine (PF _).mono ?_; rintro e w' ⟨rfl, hw⟩; obtain rfl := hw.symm; clear hw) | (go_at_call 145; refine (PP _).mono ?_; rintro e w1 ⟨rfl, hb⟩; have HB1 : Hid (Below (w.alloc (.cells #[.int .i64 0, .int .i64 0, .string ⟨#[]⟩] 23)).heap.size (w.alloc (.cells #[.int .i64 0, .int .i64 0, .string ⟨#[]⟩] 23)) w1) := aJ HB0.out hb; obtain ⟨⟨c0, c1, c2⟩, f0, f1, f2⟩ := dV HB1.out; clear hb) | (go_at_call 223; refine (OF _).mono ?_; rintro e w2 ⟨rfl, hb⟩; have HB2 : Hid (Below (w.alloc (.cells #[.int .i64 0, .int .i64 0, .string ⟨#[]⟩] 23)).heap.size (w.alloc (.cells #[.int .i64 0, .int .i64 0, .string ⟨#[]⟩] 23)) w2) := aJ HB1.out hb; obtain ⟨⟨c0, c1, c2⟩, f0, f1, f2⟩ := dV HB2.out; clear hb))
 exact bodyPost_ret (v := .agg #[.int .i64 1, .int .i64 v, .string ⟨#[]⟩]) (by simp [results, Tryz.results200, go_sem, c0, c1, c2]) rfl ⟨rfl, wG (aS HB2.out)⟩
theorem zM (s : ByteArray) (w : World) (hne : ¬ s.toList = []) (R : ByteArray) (PF : ∀ u : World, Calls Tryz.prog 33 #[.string s, .string ⟨#[39]⟩] u fun e w' => e = .returned (.tuple #[.string R, .bool false]) ∧ w' = u) (v : Int) (PP : ∀ u : World, Calls Tryz.prog 145 #[.string s] u fun e w' => e = .returned (.tuple #[.int .i64 v, .bool false]) ∧ Below u.heap.size u w') (b : Bool) (PT : ∀ u : World, Calls Tryz.prog 224 #[.string s] u fun e w' => e = .returned (.tuple #[.bool b, .bool true]) ∧ Below u.heap.size u w') : Calls Tryz.prog 200 #[.string s] w fun e w' => e = .returned (.agg #[.int .i64 3, .int .i64 (if b = true then 1 else 0), .string ⟨#[]⟩]) ∧ Below w.heap.size w w' := by
 have hne2 : (s.toList == []) = false := by simpa using hne
 have HB0 : Hid (Below (w.alloc (.cells #[.int .i64 0, .int .i64 0, .string ⟨#[]⟩] 23)).heap.size (w.alloc (.cells #[.int .i64 0, .int .i64 0, .string ⟨#[]⟩] 23)) (w.alloc (.cells #[.int .i64 0, .int .i64 0, .string ⟨#[]⟩] 23))) := Below.refl _ _
 have TV := fun u => aA6 b u
 generalize (if b = true then (1 : Int) else 0) = z at *
 go_enter Tryz.func200, Tryz.ntmps200
 go_wp2_with (first | (go_at_call 33; refine (PF _).mono ?_; rintro e w' ⟨rfl, hw⟩; obtain rfl := hw.symm; clear hw) | (go_at_call 145; refine (PP _).mono ?_; rintro e w1 ⟨rfl, hb⟩; have HB1 : Hid (Below (w.alloc (.cells #[.int .i64 0, .int .i64 0, .string ⟨#[]⟩] 23)).heap.size (w.alloc (.cells #[.int .i64 0, .int .i64 0, .string ⟨#[]⟩] 23)) w1) := aJ HB0.out hb; obtain ⟨⟨c0, c1, c2⟩, f0, f1, f2⟩ := dV HB1.out; clear hb) | (go_at_call 224; refine (PT _).mono ?_; rintro e w2 ⟨rfl, hb⟩; have HB2 : Hid (Below (w.alloc (.cells #[.int .i64 0, .int .i64 0, .string ⟨#[]⟩] 23)).heap.size (w.alloc (.cells #[.int .i64 0, .int .i64 0, .string ⟨#[]⟩] 23)) w2) := aJ HB1.out hb; obtain ⟨⟨c0, c1, c2⟩, f0, f1, f2⟩ := dV HB2.out; clear hb) | (go_at_call 225; refine (TV _).mono ?_; rintro e w3 ⟨rfl, hb⟩; have HB3 : Hid (Below (w.alloc (.cells #[.int .i64 0, .int .i64 0, .string ⟨#[]⟩] 23)).heap.size (w.alloc (.cells #[.int .i64 0, .int .i64 0, .string ⟨#[]⟩] 23)) w3) := aJ HB2.out hb; obtain ⟨⟨c0, c1, c2⟩, f0, f1, f2⟩ := dV HB3.out; clear hb))
 exact bodyPost_ret (v := .agg #[.int .i64 3, .int .i64 z, .string ⟨#[]⟩]) (by simp [results, Tryz.results200, go_sem, c0, c1, c2]) rfl ⟨rfl, wG (aS HB3.out)⟩
theorem zN (s : ByteArray) (w : World) (hne : ¬ s.toList = []) (R : ByteArray) (PF : ∀ u : World, Calls Tryz.prog 33 #[.string s, .string ⟨#[39]⟩] u fun e w' => e = .returned (.tuple #[.string R, .bool false]) ∧ w' = u) (v : Int) (PP : ∀ u : World, Calls Tryz.prog 145 #[.string s] u fun e w' => e = .returned (.tuple #[.int .i64 v, .bool false]) ∧ Below u.heap.size u w') (b : Bool) (PT : ∀ u : World, Calls Tryz.prog 224 #[.string s] u fun e w' => e = .returned (.tuple #[.bool b, .bool false]) ∧ Below u.heap.size u w') (f : Int) (PL : ∀ u : World, Below (w.alloc (.cells #[.int .i64 0, .int .i64 0, .string ⟨#[]⟩] 23)).heap.size (w.alloc (.cells #[.int .i64 0, .int .i64 0, .string ⟨#[]⟩] 23)) u → Calls Tryz.prog 226 #[.string s] u fun e w' => e = .returned (.tuple #[.int .i64 f, .bool true]) ∧ w' = u) (hk : knB f = true) : Calls Tryz.prog 200 #[.string s] w fun e w' => e = .returned (.agg #[.int .i64 4, .int .i64 f, .string ⟨#[]⟩]) ∧ Below w.heap.size w w' := by
 have hne2 : (s.toList == []) = false := by simpa using hne
 have HB0 : Hid (Below (w.alloc (.cells #[.int .i64 0, .int .i64 0, .string ⟨#[]⟩] 23)).heap.size (w.alloc (.cells #[.int .i64 0, .int .i64 0, .string ⟨#[]⟩] 23)) (w.alloc (.cells #[.int .i64 0, .int .i64 0, .string ⟨#[]⟩] 23))) := Below.refl _ _
 have BD := fun u => nQ f u
 rw [show rJ f = f by simp [rJ, hk]] at BD
 go_enter Tryz.func200, Tryz.ntmps200
 go_wp2_with (first | (go_at_call 33; refine (PF _).mono ?_; rintro e w' ⟨rfl, hw⟩; obtain rfl := hw.symm; clear hw) | (go_at_call 145; refine (PP _).mono ?_; rintro e w1 ⟨rfl, hb⟩; have HB1 : Hid (Below (w.alloc (.cells #[.int .i64 0, .int .i64 0, .string ⟨#[]⟩] 23)).heap.size (w.alloc (.cells #[.int .i64 0, .int .i64 0, .string ⟨#[]⟩] 23)) w1) := aJ HB0.out hb; obtain ⟨⟨c0, c1, c2⟩, f0, f1, f2⟩ := dV HB1.out; clear hb) | (go_at_call 224; refine (PT _).mono ?_; rintro e w2 ⟨rfl, hb⟩; have HB2 : Hid (Below (w.alloc (.cells #[.int .i64 0, .int .i64 0, .string ⟨#[]⟩] 23)).heap.size (w.alloc (.cells #[.int .i64 0, .int .i64 0, .string ⟨#[]⟩] 23)) w2) := aJ HB1.out hb; obtain ⟨⟨c0, c1, c2⟩, f0, f1, f2⟩ := dV HB2.out; clear hb) | (go_at_call 226; refine (PL _ HB2.out).mono ?_; rintro e w' ⟨rfl, hw⟩; obtain rfl := hw.symm; clear hw) | (go_at_call 149; refine (BD _).mono ?_; rintro e w3 ⟨rfl, hb⟩; have HB3 : Hid (Below (w.alloc (.cells #[.int .i64 0, .int .i64 0, .string ⟨#[]⟩] 23)).heap.size (w.alloc (.cells #[.int .i64 0, .int .i64 0, .string ⟨#[]⟩] 23)) w3) := aJ HB2.out hb; obtain ⟨⟨c0, c1, c2⟩, f0, f1, f2⟩ := dV HB3.out; clear hb))
 exact bodyPost_ret (v := .agg #[.int .i64 4, .int .i64 f, .string ⟨#[]⟩]) (by simp [results, Tryz.results200, go_sem, c0, c1, c2]) rfl ⟨rfl, wG (aS HB3.out)⟩
theorem aA9 (s : ByteArray) (w : World) (hne : ¬ s.toList = []) (R : ByteArray) (PF : ∀ u : World, Calls Tryz.prog 33 #[.string s, .string ⟨#[39]⟩] u fun e w' => e = .returned (.tuple #[.string R, .bool false]) ∧ w' = u) (v : Int) (PP : ∀ u : World, Calls Tryz.prog 145 #[.string s] u fun e w' => e = .returned (.tuple #[.int .i64 v, .bool false]) ∧ Below u.heap.size u w') (b : Bool) (PT : ∀ u : World, Calls Tryz.prog 224 #[.string s] u fun e w' => e = .returned (.tuple #[.bool b, .bool false]) ∧ Below u.heap.size u w') (f : Int) (PL : ∀ u : World, Below (w.alloc (.cells #[.int .i64 0, .int .i64 0, .string ⟨#[]⟩] 23)).heap.size (w.alloc (.cells #[.int .i64 0, .int .i64 0, .string ⟨#[]⟩] 23)) u → Calls Tryz.prog 226 #[.string s] u fun e w' => e = .returned (.tuple #[.int .i64 f, .bool false]) ∧ w' = u) : Calls Tryz.prog 200 #[.string s] w fun e w' => e = .returned (.agg #[.int .i64 2, .int .i64 0, .string s]) ∧ Below w.heap.size w w' := by
 have hne2 : (s.toList == []) = false := by simpa using hne
 have HB0 : Hid (Below (w.alloc (.cells #[.int .i64 0, .int .i64 0, .string ⟨#[]⟩] 23)).heap.size (w.alloc (.cells #[.int .i64 0, .int .i64 0, .string ⟨#[]⟩] 23)) (w.alloc (.cells #[.int .i64 0, .int .i64 0, .string ⟨#[]⟩] 23))) := Below.refl _ _
 go_enter Tryz.func200, Tryz.ntmps200
 go_wp2_with (first | (go_at_call 33; refine (PF _).mono ?_; rintro e w' ⟨rfl, hw⟩; obtain rfl := hw.symm; clear hw) | (go_at_call 145; refine (PP _).mono ?_; rintro e w1 ⟨rfl, hb⟩; have HB1 : Hid (Below (w.alloc (.cells #[.int .i64 0, .int .i64 0, .string ⟨#[]⟩] 23)).heap.size (w.alloc (.cells #[.int .i64 0, .int .i64 0, .string ⟨#[]⟩] 23)) w1) := aJ HB0.out hb; obtain ⟨⟨c0, c1, c2⟩, f0, f1, f2⟩ := dV HB1.out; clear hb) | (go_at_call 224; refine (PT _).mono ?_; rintro e w2 ⟨rfl, hb⟩; have HB2 : Hid (Below (w.alloc (.cells #[.int .i64 0, .int .i64 0, .string ⟨#[]⟩] 23)).heap.size (w.alloc (.cells #[.int .i64 0, .int .i64 0, .string ⟨#[]⟩] 23)) w2) := aJ HB1.out hb; obtain ⟨⟨c0, c1, c2⟩, f0, f1, f2⟩ := dV HB2.out; clear hb) | (go_at_call 226; refine (PL _ HB2.out).mono ?_; rintro e w' ⟨rfl, hw⟩; obtain rfl := hw.symm; clear hw) | (go_at_call 222; refine (oP _ _).mono ?_; rintro e w3 ⟨rfl, hb⟩; have HB3 : Hid (Below (w.alloc (.cells #[.int .i64 0, .int .i64 0, .string ⟨#[]⟩] 23)).heap.size (w.alloc (.cells #[.int .i64 0, .int .i64 0, .string ⟨#[]⟩] 23)) w3) := aJ HB2.out hb; obtain ⟨⟨c0, c1, c2⟩, f0, f1, f2⟩ := dV HB3.out; clear hb))
 exact bodyPost_ret (v := .agg #[.int .i64 2, .int .i64 0, .string s]) (by simp [results, Tryz.results200, go_sem, c0, c1, c2]) rfl ⟨rfl, wG (aS HB3.out)⟩
structure eY (w : World) : Prop where
 p : mH w
 f : rG w
theorem eY.below {w w' : World} (h : eY w) (hb : Below w.heap.size w w') : eY w' := ⟨h.p.below hb, h.f.below hb⟩
abbrev val (k n : Int) (s : ByteArray) : Value := .agg #[.int .i64 k, .int .i64 n, .string s]
theorem wI (k : Int) : k = 0 ∨ k = 1 ∨ k = 2 ∨ k = 3 ∨ k = 4 ∨ (¬ k = 0 ∧ ¬ k = 1 ∧ ¬ k = 2 ∧ ¬ k = 3 ∧ ¬ k = 4) := by omega
theorem fJ {k c : Int} (h : ¬ k = c) : (k == c) = false := by simpa using h
theorem aCq (s : ByteArray) (hs : s.size ≤ 9223372036854775807) (u : World) : Calls Tryz.prog 145 #[.string s] u fun e w' => e = .returned (.tuple #[.int .i64 (dG s.data.toList).1, .bool (dG s.data.toList).2]) ∧ Below u.heap.size u w' := by
 have := aDa s.data.toList u (by rw [bY]; exact hs)
 rw [lH] at this
 exact this
theorem zO (l : List UInt8) : gd (dG l).1 = true := by unfold dG; split <;> first | exact aJs _ | rfl
def kT (k n : Int) (s : ByteArray) : ByteArray :=
 if k = 1 then ⟨(iX n).toArray⟩ else if k = 2 then s else if k = 3 then (if (n != 0) = true then ⟨#[84, 82, 85, 69]⟩ else ⟨#[70, 65, 76, 83, 69]⟩) else if k = 4 then fnB n else ⟨#[]⟩
def fQ (k n : Int) (s : ByteArray) : Bool :=
 if k = 0 then (n == 0) && emB s else if k = 1 then emB s && gd n else if k = 2 then (n == 0) && uF s else if k = 3 then emB s && ((n == 0) || (n == 1)) else if k = 4 then emB s && knB n else false
def bM (s : ByteArray) : Int × Int × ByteArray :=
 if s.toList = [] then (0, 0, ⟨#[]⟩) else if s.data.toList.head? = some 39 then (2, 0, ⟨(s.data.toList.drop 1).toArray⟩)
 else if (dG s.data.toList).2 = true then (1, (dG s.data.toList).1, ⟨#[]⟩)
 else if (gY s).2 = true then (3, if (gY s).1 = true then 1 else 0, ⟨#[]⟩)
 else if mI s = 0 then (2, 0, s) else (4, (mI s : Nat), ⟨#[]⟩)
theorem aBa (s : ByteArray) : ((gY s).2 = true ∧ (gY s).1 = true ∧ nP (szF 97 65 s.data.toList) = 1) ∨ ((gY s).2 = true ∧ (gY s).1 = false ∧ nP (szF 97 65 s.data.toList) = 0) ∨ ((gY s).2 = false ∧ nP (szF 97 65 s.data.toList) = -1) := by
 unfold gY
 rcases jE (szF 97 65 s.data.toList) with ⟨_, h, g⟩ | ⟨_, h, g⟩ | ⟨_, _, h, g⟩ <;> simp [h, g]
theorem vB (k n : Int) (s : ByteArray) (hn : In64 n) (w : World) (T : eY w) :
  Calls Tryz.prog 125 #[val k n s] w fun e w' => e = .returned (.string (kT k n s)) ∧ Below w.heap.size w w' := by
 rcases wI k with rfl | rfl | rfl | rfl | rfl | ⟨h0, h1, h2, h3, h4⟩
 ·exact zF n s w
 ·exact aDc n s w _ (fun u hu => uV n hn u (T.below hu).p)
 ·exact aDd n s w
 ·exact aA1 n s w _ (fun u => uW n s u)
 ·exact aDf n s w _ (fun u hu => oO n u (T.below hu).f)
 ·have e : kT k n s = ⟨#[]⟩ := by simp [kT, h1, h2, h3, h4]
  rw [e]
  exact aA2 k n s w (fJ h0) (fJ h1) (fJ h2) (fJ h3) (fJ h4)
theorem aI9 (l : List UInt8) : Lib.hasPrefix l [39] = decide (l.head? = some 39) ∧ Lib.trimPrefix l [39] = if l.head? = some 39 then l.drop 1 else l := by
 cases l with
 | nil => exact ⟨rfl, rfl⟩
 | cons b l =>
  have h : Lib.hasPrefix (b :: l) [39] = decide ((b :: l).head? = some 39) := by
   unfold Lib.hasPrefix
   simp [List.isPrefixOf]
   exact BEq.comm
  refine ⟨h, ?_⟩
  unfold Lib.trimPrefix
  rw [h]
  by_cases e : (b :: l).head? = some 39
  ·rw [if_pos e, if_pos (by simpa using e)]; rfl
  ·rw [if_neg e, if_neg (by simpa using e)]
theorem aJv (s : ByteArray) (u : World) : Calls Tryz.prog 33 #[.string s, .string ⟨#[39]⟩] u fun e w' => e = .returned (.tuple #[.string ⟨(if s.data.toList.head? = some 39 then s.data.toList.drop 1 else s.data.toList).toArray⟩, .bool (decide (s.data.toList.head? = some 39))]) ∧ w' = u := by
 have h := Tryz.strings_CutPrefix s ⟨#[39]⟩ u
 rw [show (⟨#[39]⟩ : ByteArray).data.toList = [39] from rfl, (aI9 _).1, (aI9 _).2] at h
 exact h
theorem lK (s : ByteArray) (hs : s.size ≤ 9223372036854775807) (w : World) (T : eY w) :
  Calls Tryz.prog 200 #[.string s] w fun e w' => e = .returned (val (bM s).1 (bM s).2.1 (bM s).2.2) ∧ Below w.heap.size w w' := by
 have PF := fun u => aJv s u
 have PP := fun u => aCq s hs u
 have PT := fun u => aA5 s hs u
 have PL : ∀ u : World, Below (w.alloc (.cells #[.int .i64 0, .int .i64 0, .string ⟨#[]⟩] 23)).heap.size (w.alloc (.cells #[.int .i64 0, .int .i64 0, .string ⟨#[]⟩] 23)) u → _ := fun u hu => aA8 s u (T.below (aS hu)).f
 unfold bM
 by_cases h0 : s.toList = []
 ·rw [if_pos h0]; exact zK s w h0
 ·rw [if_neg h0]
  by_cases h1 : s.data.toList.head? = some 39
  ·rw [if_pos h1]
   simp only [h1, if_true, decide_true] at PF
   exact zL s w h0 _ PF
  ·rw [if_neg h1]
   simp only [h1, if_false, decide_false] at PF
   by_cases h2 : (dG s.data.toList).2 = true
   ·rw [if_pos h2]
    rw [h2] at PP
    exact aDh s w h0 _ PF _ PP (zO _)
   ·rw [if_neg h2]
    rw [Bool.not_eq_true] at h2
    rw [h2] at PP
    by_cases h3 : (gY s).2 = true
    ·rw [if_pos h3]
     rw [h3] at PT
     exact zM s w h0 _ PF _ PP _ PT
    ·rw [if_neg h3]
     rw [Bool.not_eq_true] at h3
     rw [h3] at PT
     by_cases h4 : mI s = 0
     ·rw [if_pos h4]
      simp only [h4, ne_eq, not_true_eq_false, decide_false] at PL
      exact aA9 s w h0 _ PF _ PP _ PT _ PL
     ·rw [if_neg h4]
      simp only [h4, ne_eq, not_false_eq_true, decide_true] at PL
      have := aA7 s
      exact zN s w h0 _ PF _ PP _ PT _ PL (wH _ (by omega) (by omega))
def okC (c : UInt8) : Bool := Ad.isL c || Ad.isD c || (c == 95)
def kH (l : List UInt8) : Bool := match l with
 | [] => false
 | c :: _ => Ad.isL c
def spF (l : List UInt8) : Bool := decide (l.length ≤ 16) && kH l && l.all okC
def lcF (l : List UInt8) : Bool := (l.drop 1).all Ad.isD && decide (1 < l.length)
def gnF (l : List UInt8) : Bool := spF l && !lcF l && !(gY ⟨l.toArray⟩).2
theorem wJ (p : UInt8 → Bool) (s : ByteArray) (k : Nat) (h : k < s.size) (hall : s.data.toList.all p = true) : p s[k] = true := by
 rw [byte_at s k h (by rw [bY]; exact h)]
 exact List.all_eq_true.1 hall _ (List.getElem_mem _)
theorem lM (p : UInt8 → Bool) (s : ByteArray) (k : Nat) (h : k < s.size) (ha : (s.data.toList.take k).all p = true) (hb : p s[k] = true) : (s.data.toList.take (k + 1)).all p = true := by
 rw [oN _ _ (by rw [bY]; exact h), List.all_append, ha, ← byte_at s k h (by rw [bY]; exact h)]
 simp [hb]
theorem aDi : ∀ (l : List UInt8) (h : 0 < l.length), kH l = Ad.isL l[0]
 | [], h => by simp at h
 | a :: r, h => rfl
theorem aCr (s : ByteArray) (h : 0 < s.size) : kH s.data.toList = Ad.isL s[0] := by
 rw [byte_at s 0 h (by rw [bY]; exact h)]
 exact aDi _ _
theorem zP (c d : UInt8) : (c = d ∧ ((c.toNat : Int) == (d.toNat : Int)) = true) ∨ (c ≠ d ∧ ((c.toNat : Int) == (d.toNat : Int)) = false) := by
 by_cases h : c = d
 ·subst h; left; exact ⟨rfl, by simp⟩
 ·right
  refine ⟨h, ?_⟩
  rw [beq_eq_false_iff_ne]
  intro e
  exact h (UInt8.toNat_inj.1 (by omega))
theorem zQ (s : ByteArray) (hs : s.size ≤ 9223372036854775807) (w : World) :
  Calls Tryz.prog 197 #[.string s] w fun e w' => e = .returned (.bool (spF s.data.toList)) ∧ Below w.heap.size w w' := by
 have hl := bY s
 generalize hr : spF s.data.toList = r
 have HR : Hid (spF s.data.toList = r) := hr
 clear hr
 by_cases h0 : s.size = 0
 ·have h1 : (s.size : Int) < 1 := by omega
  have HE : Hid (r = false) := by
   show _ = _
   have : s.data.toList = [] := List.eq_nil_of_length_eq_zero (by omega)
   rw [← HR.out, this]
   rfl
  go_enter Tryz.func197, Tryz.ntmps197
  go_wp2
  go_ret
  exact ⟨by rw [HE.out]; rfl, Below.refl _ _⟩
 have h1 : ¬ (s.size : Int) < 1 := by omega
 by_cases h16 : 16 < s.size
 ·have h2 : (16 : Int) < s.size := by omega
  have HE : Hid (r = false) := by
   show _ = _
   rw [← HR.out]
   unfold spF
   rw [decide_eq_false (show ¬ s.data.toList.length ≤ 16 by omega)]
   rfl
  go_enter Tryz.func197, Tryz.ntmps197
  go_wp2
  go_ret
  exact ⟨by rw [HE.out]; rfl, Below.refl _ _⟩
 have h2 : ¬ (16 : Int) < s.size := by omega
 have hz : 0 < s.size := by omega
 have L0 := fun u => jL s[0] u
 have hh := aCr s hz
 cases hL : Ad.isL s[0]
 ·rw [hL] at L0 hh
  have HE : Hid (r = false) := by
   show _ = _
   rw [← HR.out]
   unfold spF
   rw [hh]
   simp
  go_enter Tryz.func197, Tryz.ntmps197
  go_wp2_with (go_at_call 193; refine (L0 _).mono ?_; rintro e w' ⟨rfl, hw⟩; obtain rfl := hw.symm; clear hw)
  go_ret
  exact ⟨by rw [HE.out]; rfl, Below.refl _ _⟩
 rw [hL] at L0 hh
 have HE : Hid (r = s.data.toList.all okC) := by
  show _ = _
  rw [← HR.out]
  unfold spF
  rw [hh, decide_eq_true (show s.data.toList.length ≤ 16 by omega)]
  rfl
 clear hh HR
 obtain ⟨c, wb, hrun, hcell, hbel⟩ := mK w s
 have HB : Hid (Below w.heap.size w wb) := hbel
 have HC : Hid (∀ (k : Nat) (h : k < s.size), wb.cell? ⟨w.heap.size, k, none⟩ = some (.int .u8 (s[k].toNat : Int))) := hcell
 clear hbel hcell
 go_enter Tryz.func197, Tryz.ntmps197
 go_wp2_with (go_at_call 193; refine (L0 _).mono ?_; rintro e w' ⟨rfl, hw⟩; obtain rfl := hw.symm; clear hw)
 go_loop [4, 22] (fun _ i => ∃ k : Nat, k ≤ s.size ∧ i = .int .i64 k ∧ Hid ((s.data.toList.take k).all okC = true)) (fun _ i => s.size - (intOf i).toNat)
 case atStart => exact ⟨0, Nat.zero_le _, rfl, by simp [Hid]⟩
 case round =>
  obtain ⟨k, hk, rfl, ha⟩ := hrel
  clear L0
  by_cases hlt : k < s.size
  ·have hck := HC.out k hlt
   have Lk := fun u => jL s[k] u
   have Dk := fun u => uP s[k] u
   have HS : Hid (okC s[k] = true → (s.data.toList.take (k + 1)).all okC = true) := fun h => lM okC s k hlt ha.out h
   have HN : Hid (okC s[k] = false → r = false) := fun h => by
    rw [HE.out]
    cases hh : s.data.toList.all okC
    ·rfl
    ·rw [wJ okC s k hlt hh] at h; cases h
   have HO : Hid (okC s[k] = (Ad.isL s[k] || Ad.isD s[k] || (s[k] == 95))) := rfl
   cases h1 : Ad.isL s[k]
   ·rw [h1] at Lk HO
    cases h2 : Ad.isD s[k]
    ·rw [h2] at Dk HO
     rcases zP s[k] 95 with ⟨h3, h4⟩ | ⟨h3, h4⟩
     ·have HA : Hid ((s.data.toList.take (k + 1)).all okC = true) := HS.out (by rw [HO.out, h3]; rfl)
      have h5 : ((s[k].toNat : Int) != 95) = false := by rw [h3]; rfl
      clear h1 h2 h3 h4 HN HS
      go_wp2_with (first | (go_at_call 193; refine (Lk _).mono ?_; rintro e w' ⟨rfl, hw⟩; obtain rfl := hw.symm; clear hw) | (go_at_call 221; refine (Dk _).mono ?_; rintro e w' ⟨rfl, hw⟩; obtain rfl := hw.symm; clear hw))
      go_round
      case rel => exact ⟨k + 1, by omega, by go_num, HA.out⟩
      case measure => simp [intOf]; omega
     ·have HF : Hid (r = false) := HN.out (by rw [HO.out]; simpa using h3)
      have h5 : ((s[k].toNat : Int) != 95) = true := by rw [bne, show ((s[k].toNat : Int) == 95) = false from h4]; rfl
      clear h1 h2 h3 h4 HN HS
      go_wp2_with (first | (go_at_call 193; refine (Lk _).mono ?_; rintro e w' ⟨rfl, hw⟩; obtain rfl := hw.symm; clear hw) | (go_at_call 221; refine (Dk _).mono ?_; rintro e w' ⟨rfl, hw⟩; obtain rfl := hw.symm; clear hw))
      go_ret
      exact ⟨by rw [HF.out]; rfl, HB.out⟩
    ·rw [h2] at Dk HO
     have HA : Hid ((s.data.toList.take (k + 1)).all okC = true) := HS.out (by rw [HO.out]; rfl)
     clear h1 h2 HN HS
     go_wp2_with (first | (go_at_call 193; refine (Lk _).mono ?_; rintro e w' ⟨rfl, hw⟩; obtain rfl := hw.symm; clear hw) | (go_at_call 221; refine (Dk _).mono ?_; rintro e w' ⟨rfl, hw⟩; obtain rfl := hw.symm; clear hw))
     go_round
     case rel => exact ⟨k + 1, by omega, by go_num, HA.out⟩
     case measure => simp [intOf]; omega
   ·rw [h1] at Lk HO
    have HA : Hid ((s.data.toList.take (k + 1)).all okC = true) := HS.out (by rw [HO.out]; rfl)
    clear h1 HN HS
    go_wp2_with (first | (go_at_call 193; refine (Lk _).mono ?_; rintro e w' ⟨rfl, hw⟩; obtain rfl := hw.symm; clear hw))
    go_round
    case rel => exact ⟨k + 1, by omega, by go_num, HA.out⟩
    case measure => simp [intOf]; omega
  ·have HT : Hid (r = true) := by
    show _ = _
    have hh := ha.out
    rw [List.take_of_length_le (by omega)] at hh
    rw [HE.out, hh]
   go_wp2
   go_ret
   exact ⟨by rw [HT.out]; rfl, HB.out⟩
theorem aBb (s : ByteArray) : (s.extract 1 s.size).data.toList = s.data.toList.drop 1 := by
 have := drop_mk s.data.toList
 rw [lH] at this
 rw [this]
theorem nR (s : ByteArray) (hz : 0 < s.size) (hs : s.size ≤ 9223372036854775807) (w : World) :
  Calls Tryz.prog 198 #[.string s] w fun e w' => e = .returned (.bool (lcF s.data.toList)) ∧ Below w.heap.size w w' := by
 have hl := bY s
 generalize hr : lcF s.data.toList = r
 have HR : Hid (lcF s.data.toList = r) := hr
 clear hr
 have hx := aBb s
 have hxs : (s.extract 1 s.size).size = s.size - 1 := by simp
 have HE : Hid (r = ((s.extract 1 s.size).data.toList.all Ad.isD && decide (1 < s.size))) := by
  show _ = _
  rw [← HR.out]
  unfold lcF
  rw [hx, hl]
 obtain ⟨t, ht⟩ : ∃ t, s.extract 1 s.size = t := ⟨_, rfl⟩
 rw [ht] at hx hxs HE
 have hlt := bY t
 clear HR hx
 obtain ⟨c, wb, hrun, hcell, hbel⟩ := mK w t
 have HB : Hid (Below w.heap.size w wb) := hbel
 have HC : Hid (∀ (k : Nat) (h : k < t.size), wb.cell? ⟨w.heap.size, k, none⟩ = some (.int .u8 (t[k].toNat : Int))) := hcell
 clear hbel hcell
 rw [← ht] at hrun
 clear ht
 have c1 : (1 : Int) ≤ s.size := by omega
 go_enter Tryz.func198, Tryz.ntmps198
 go_wp2
 go_loop [4, 9] (fun _ i => ∃ k : Nat, k ≤ t.size ∧ i = .int .i64 k ∧ Hid ((t.data.toList.take k).all Ad.isD = true)) (fun _ i => t.size - (intOf i).toNat)
 case atStart => exact ⟨0, Nat.zero_le _, rfl, by simp [Hid]⟩
 case round =>
  obtain ⟨k, hk, rfl, ha⟩ := hrel
  by_cases hlt2 : k < t.size
  ·have hck := HC.out k hlt2
   have Dk := fun u => uP t[k] u
   cases h2 : Ad.isD t[k]
   ·rw [h2] at Dk
    have HF : Hid (r = false) := by
     show _ = _
     rw [HE.out]
     cases hh : t.data.toList.all Ad.isD
     ·rfl
     ·rw [wJ Ad.isD t k hlt2 hh] at h2; cases h2
    clear h2
    go_wp2_with (go_at_call 221; refine (Dk _).mono ?_; rintro e w' ⟨rfl, hw⟩; obtain rfl := hw.symm; clear hw)
    go_ret
    exact ⟨by rw [HF.out]; rfl, HB.out⟩
   ·rw [h2] at Dk
    have HA : Hid ((t.data.toList.take (k + 1)).all Ad.isD = true) := lM Ad.isD t k hlt2 ha.out h2
    clear h2
    go_wp2_with (go_at_call 221; refine (Dk _).mono ?_; rintro e w' ⟨rfl, hw⟩; obtain rfl := hw.symm; clear hw)
    go_round
    case rel => exact ⟨k + 1, by omega, by go_num, HA.out⟩
    case measure => simp [intOf]; omega
  ·have HT : Hid (r = decide ((1 : Int) < s.size)) := by
    show _ = _
    have hh := ha.out
    rw [List.take_of_length_le (by omega)] at hh
    rw [HE.out, hh, Bool.true_and, decide_eq_decide]
    omega
   go_wp2
   go_ret
   exact ⟨by rw [HT.out]; rfl, HB.out⟩
end Go.Proofs.YtljmklbbngpllaaGreatDoor
