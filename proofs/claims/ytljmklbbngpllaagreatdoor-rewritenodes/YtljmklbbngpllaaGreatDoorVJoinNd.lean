/- VTyped, VJoin. -/
import Derived.Test.YtljmklbbngpllaaGreatDoorVMakeNd
set_option linter.unusedVariables false
set_option linter.unusedSimpArgs false
set_option maxHeartbeats 16000000
set_option maxRecDepth 100000
namespace Go.Proofs.YtljmklbbngpllaaGreatDoor
open Go.RowKit
def lH (s : ByteArray) : Nat := if s = fnm 1 then 1 else if s = fnm 2 then 2 else if s = fnm 3 then 3 else if s = fnm 4 then 4 else if s = fnm 5 then 5 else if s = fnm 6 then 6 else if s = fnm 7 then 7 else if s = fnm 8 then 8 else 0
theorem aAI (s : ByteArray) : lH s ≤ 8 := by
 unfold lH
 repeat' split
 all_goals omega
theorem aEE (s : ByteArray) (h : lH s ≠ 0) : s = fnm (lH s) := by
 unfold lH at h ⊢
 repeat' split
 all_goals first | assumption | (exfalso; simp_all)
theorem aIF : ∀ i, i < 9 → ∀ j, j < 9 → i ≠ j → fnm i ≠ fnm j := by decide
theorem aGG (s : ByteArray) (j : Nat) (h1 : 1 ≤ j) (h8 : j ≤ 8) (h : lH s ≠ j) : fnm j ≠ s := by
 rintro rfl
 by_cases h0 : lH (fnm j) = 0
 ·have hj : j = 1 ∨ j = 2 ∨ j = 3 ∨ j = 4 ∨ j = 5 ∨ j = 6 ∨ j = 7 ∨ j = 8 := by omega
  rcases hj with rfl | rfl | rfl | rfl | rfl | rfl | rfl | rfl <;> revert h0 <;> decide
 ·exact aIF j (by omega) _ (by have := aAI (fnm j); omega) (Ne.symm h) (aEE _ h0)
theorem aEF {a b : ByteArray} (h : a ≠ b) : (a.toList == b.toList) = false := by
 rw [beq_eq_false_iff_ne]
 intro e
 rw [ByteArray.toList_eq, ByteArray.toList_eq] at e
 exact h (Go.WideShapes.bytes_inj e)
theorem aBP (j : Nat) (h1 : 1 ≤ j) (h8 : j ≤ 8) : fnB (j : Int) = fnm j := by
 have : knB (j : Int) = true := by simp [knB]; omega
 simp [fnB, this]
theorem vL (j : Nat) (h1 : 1 ≤ j) (h8 : j ≤ 8) : knB (j : Int) = true := by simp [knB]; omega
theorem aAJ (s : ByteArray) (w : World) (T : qR w) : Calls Tryz.prog 226 #[.string s] w fun e w' => e = .returned (.tuple #[.int .i64 (lH s : Nat), .bool (decide (lH s ≠ 0))]) ∧ w' = w := by
 have hle := aAI s
 have HI : Hid (lH s ≠ 0 → s = fnm (lH s)) := aEE s
 have HN : Hid (∀ j : Nat, 1 ≤ j → j ≤ 8 → lH s ≠ j → fnm j ≠ s) := fun j => aGG s j
 generalize lH s = m at *
 have KN := fun (j : Nat) (h1 : 1 ≤ j) (h8 : j ≤ 8) (u : World) => (fQ (j : Int) u)
 have FN := fun (j : Nat) (u : World) (hu : qR u) => nX (j : Int) u hu
 go_enter Tryz.func226, Tryz.ntmps226
 go_wp2
 go_loop [4] (fun f => ∃ j : Nat, 1 ≤ j ∧ j ≤ 9 ∧ f = .int .i64 j ∧ (m = 0 ∨ j ≤ m)) (fun f => 9 - (intOf f).toNat)
 case atStart => exact ⟨1, by omega, by omega, rfl, by omega⟩
 case round =>
  obtain ⟨j, h1, h9, rfl, hm⟩ := hrel
  by_cases h8 : j ≤ 8
  ·have K := fun u => fQ (j : Int) u
   have F := nX (j : Int) w T
   rw [vL j h1 h8] at K
   rw [aBP j h1 h8] at F
   by_cases hj : m = j
   ·subst hj
    have hs := HI.out (by omega)
    have HD : Hid (decide (m ≠ 0) = true) := by show _ = _; simp; omega
    subst hs
    clear hm
    go_wp2_with (first | (go_at_call 191; refine (K _).mono ?_; rintro e w' ⟨rfl, hw⟩; obtain rfl := hw.symm; clear hw) | (go_at_call 167; refine F.mono ?_; rintro e w' ⟨rfl, hw⟩; obtain rfl := hw.symm; clear hw))
    go_ret2
    exact ⟨by rw [HD.out]; rfl, rfl⟩
   ·have hne := aEF (HN.out j h1 h8 hj)
    go_wp2_with (first | (go_at_call 191; refine (K _).mono ?_; rintro e w' ⟨rfl, hw⟩; obtain rfl := hw.symm; clear hw) | (go_at_call 167; refine F.mono ?_; rintro e w' ⟨rfl, hw⟩; obtain rfl := hw.symm; clear hw))
    go_round
    case rel => exact ⟨j + 1, by omega, by omega, by go_num, by omega⟩
    case measure => simp [intOf]; omega
  ·have K := fun u => fQ (j : Int) u
   have hk : knB (j : Int) = false := by simp [knB]; omega
   rw [hk] at K
   have h0 : m = 0 := by omega
   subst h0
   go_wp2_with (first | (go_at_call 191; refine (K _).mono ?_; rintro e w' ⟨rfl, hw⟩; obtain rfl := hw.symm; clear hw))
   go_ret2
   exact ⟨rfl, rfl⟩
theorem yI (s : ByteArray) (w : World) (h : s.toList = []) : Calls Tryz.prog 200 #[.string s] w fun e w' => e = .returned (.agg #[.int .i64 0, .int .i64 0, .string ⟨#[]⟩]) ∧ Below w.heap.size w w' := by
 go_enter Tryz.func200, Tryz.ntmps200
 go_wp2
 exact bodyPost_ret (v := .agg #[.int .i64 0, .int .i64 0, .string ⟨#[]⟩]) (by simp [results, Tryz.results200, go_sem]) rfl ⟨rfl, (Below.refl _ _).alloc (Nat.le_refl _) _⟩
theorem yJ (s : ByteArray) (w : World) (hne : ¬ s.toList = []) (R : ByteArray) (PF : ∀ u : World, Calls Tryz.prog 33 #[.string s, .string ⟨#[39]⟩] u fun e w' => e = .returned (.tuple #[.string R, .bool true]) ∧ w' = u) : Calls Tryz.prog 200 #[.string s] w fun e w' => e = .returned (.agg #[.int .i64 2, .int .i64 0, .string R]) ∧ Below w.heap.size w w' := by
 have hne2 : (s.toList == []) = false := by simpa using hne
 have HB0 : Hid (Below (w.alloc (.cells #[.int .i64 0, .int .i64 0, .string ⟨#[]⟩] 23)).heap.size (w.alloc (.cells #[.int .i64 0, .int .i64 0, .string ⟨#[]⟩] 23)) (w.alloc (.cells #[.int .i64 0, .int .i64 0, .string ⟨#[]⟩] 23))) := Below.refl _ _
 go_enter Tryz.func200, Tryz.ntmps200
 go_wp2_with (first | (go_at_call 33; refine (PF _).mono ?_; rintro e w' ⟨rfl, hw⟩; obtain rfl := hw.symm; clear hw) | (go_at_call 222; refine (oC _ _).mono ?_; rintro e w1 ⟨rfl, hb⟩; have HB1 : Hid (Below (w.alloc (.cells #[.int .i64 0, .int .i64 0, .string ⟨#[]⟩] 23)).heap.size (w.alloc (.cells #[.int .i64 0, .int .i64 0, .string ⟨#[]⟩] 23)) w1) := aG HB0.out hb; obtain ⟨⟨c0, c1, c2⟩, f0, f1, f2⟩ := dM HB1.out; clear hb))
 exact bodyPost_ret (v := .agg #[.int .i64 2, .int .i64 0, .string R]) (by simp [results, Tryz.results200, go_sem, c0, c1, c2]) rfl ⟨rfl, vK (aR HB1.out)⟩
theorem aCL (s : ByteArray) (w : World) (hne : ¬ s.toList = []) (R : ByteArray) (PF : ∀ u : World, Calls Tryz.prog 33 #[.string s, .string ⟨#[39]⟩] u fun e w' => e = .returned (.tuple #[.string R, .bool false]) ∧ w' = u) (v : Int) (PP : ∀ u : World, Calls Tryz.prog 145 #[.string s] u fun e w' => e = .returned (.tuple #[.int .i64 v, .bool true]) ∧ Below u.heap.size u w') (hg : gd v = true) : Calls Tryz.prog 200 #[.string s] w fun e w' => e = .returned (.agg #[.int .i64 1, .int .i64 v, .string ⟨#[]⟩]) ∧ Below w.heap.size w w' := by
 have hne2 : (s.toList == []) = false := by simpa using hne
 have HB0 : Hid (Below (w.alloc (.cells #[.int .i64 0, .int .i64 0, .string ⟨#[]⟩] 23)).heap.size (w.alloc (.cells #[.int .i64 0, .int .i64 0, .string ⟨#[]⟩] 23)) (w.alloc (.cells #[.int .i64 0, .int .i64 0, .string ⟨#[]⟩] 23))) := Below.refl _ _
 have OF := fun u => aED v true u
 rw [show ofV v true = .agg #[.int .i64 1, .int .i64 v, .string ⟨#[]⟩] by simp [ofV, hg]] at OF
 go_enter Tryz.func200, Tryz.ntmps200
 go_wp2_with (first | (go_at_call 33; refine (PF _).mono ?_; rintro e w' ⟨rfl, hw⟩; obtain rfl := hw.symm; clear hw) | (go_at_call 145; refine (PP _).mono ?_; rintro e w1 ⟨rfl, hb⟩; have HB1 : Hid (Below (w.alloc (.cells #[.int .i64 0, .int .i64 0, .string ⟨#[]⟩] 23)).heap.size (w.alloc (.cells #[.int .i64 0, .int .i64 0, .string ⟨#[]⟩] 23)) w1) := aG HB0.out hb; obtain ⟨⟨c0, c1, c2⟩, f0, f1, f2⟩ := dM HB1.out; clear hb) | (go_at_call 223; refine (OF _).mono ?_; rintro e w2 ⟨rfl, hb⟩; have HB2 : Hid (Below (w.alloc (.cells #[.int .i64 0, .int .i64 0, .string ⟨#[]⟩] 23)).heap.size (w.alloc (.cells #[.int .i64 0, .int .i64 0, .string ⟨#[]⟩] 23)) w2) := aG HB1.out hb; obtain ⟨⟨c0, c1, c2⟩, f0, f1, f2⟩ := dM HB2.out; clear hb))
 exact bodyPost_ret (v := .agg #[.int .i64 1, .int .i64 v, .string ⟨#[]⟩]) (by simp [results, Tryz.results200, go_sem, c0, c1, c2]) rfl ⟨rfl, vK (aR HB2.out)⟩
theorem yK (s : ByteArray) (w : World) (hne : ¬ s.toList = []) (R : ByteArray) (PF : ∀ u : World, Calls Tryz.prog 33 #[.string s, .string ⟨#[39]⟩] u fun e w' => e = .returned (.tuple #[.string R, .bool false]) ∧ w' = u) (v : Int) (PP : ∀ u : World, Calls Tryz.prog 145 #[.string s] u fun e w' => e = .returned (.tuple #[.int .i64 v, .bool false]) ∧ Below u.heap.size u w') (b : Bool) (PT : ∀ u : World, Calls Tryz.prog 224 #[.string s] u fun e w' => e = .returned (.tuple #[.bool b, .bool true]) ∧ Below u.heap.size u w') : Calls Tryz.prog 200 #[.string s] w fun e w' => e = .returned (.agg #[.int .i64 3, .int .i64 (if b = true then 1 else 0), .string ⟨#[]⟩]) ∧ Below w.heap.size w w' := by
 have hne2 : (s.toList == []) = false := by simpa using hne
 have HB0 : Hid (Below (w.alloc (.cells #[.int .i64 0, .int .i64 0, .string ⟨#[]⟩] 23)).heap.size (w.alloc (.cells #[.int .i64 0, .int .i64 0, .string ⟨#[]⟩] 23)) (w.alloc (.cells #[.int .i64 0, .int .i64 0, .string ⟨#[]⟩] 23))) := Below.refl _ _
 have TV := fun u => aAH b u
 generalize (if b = true then (1 : Int) else 0) = z at *
 go_enter Tryz.func200, Tryz.ntmps200
 go_wp2_with (first | (go_at_call 33; refine (PF _).mono ?_; rintro e w' ⟨rfl, hw⟩; obtain rfl := hw.symm; clear hw) | (go_at_call 145; refine (PP _).mono ?_; rintro e w1 ⟨rfl, hb⟩; have HB1 : Hid (Below (w.alloc (.cells #[.int .i64 0, .int .i64 0, .string ⟨#[]⟩] 23)).heap.size (w.alloc (.cells #[.int .i64 0, .int .i64 0, .string ⟨#[]⟩] 23)) w1) := aG HB0.out hb; obtain ⟨⟨c0, c1, c2⟩, f0, f1, f2⟩ := dM HB1.out; clear hb) | (go_at_call 224; refine (PT _).mono ?_; rintro e w2 ⟨rfl, hb⟩; have HB2 : Hid (Below (w.alloc (.cells #[.int .i64 0, .int .i64 0, .string ⟨#[]⟩] 23)).heap.size (w.alloc (.cells #[.int .i64 0, .int .i64 0, .string ⟨#[]⟩] 23)) w2) := aG HB1.out hb; obtain ⟨⟨c0, c1, c2⟩, f0, f1, f2⟩ := dM HB2.out; clear hb) | (go_at_call 225; refine (TV _).mono ?_; rintro e w3 ⟨rfl, hb⟩; have HB3 : Hid (Below (w.alloc (.cells #[.int .i64 0, .int .i64 0, .string ⟨#[]⟩] 23)).heap.size (w.alloc (.cells #[.int .i64 0, .int .i64 0, .string ⟨#[]⟩] 23)) w3) := aG HB2.out hb; obtain ⟨⟨c0, c1, c2⟩, f0, f1, f2⟩ := dM HB3.out; clear hb))
 exact bodyPost_ret (v := .agg #[.int .i64 3, .int .i64 z, .string ⟨#[]⟩]) (by simp [results, Tryz.results200, go_sem, c0, c1, c2]) rfl ⟨rfl, vK (aR HB3.out)⟩
theorem yL (s : ByteArray) (w : World) (hne : ¬ s.toList = []) (R : ByteArray) (PF : ∀ u : World, Calls Tryz.prog 33 #[.string s, .string ⟨#[39]⟩] u fun e w' => e = .returned (.tuple #[.string R, .bool false]) ∧ w' = u) (v : Int) (PP : ∀ u : World, Calls Tryz.prog 145 #[.string s] u fun e w' => e = .returned (.tuple #[.int .i64 v, .bool false]) ∧ Below u.heap.size u w') (b : Bool) (PT : ∀ u : World, Calls Tryz.prog 224 #[.string s] u fun e w' => e = .returned (.tuple #[.bool b, .bool false]) ∧ Below u.heap.size u w') (f : Int) (PL : ∀ u : World, Below (w.alloc (.cells #[.int .i64 0, .int .i64 0, .string ⟨#[]⟩] 23)).heap.size (w.alloc (.cells #[.int .i64 0, .int .i64 0, .string ⟨#[]⟩] 23)) u → Calls Tryz.prog 226 #[.string s] u fun e w' => e = .returned (.tuple #[.int .i64 f, .bool true]) ∧ w' = u) (hk : knB f = true) : Calls Tryz.prog 200 #[.string s] w fun e w' => e = .returned (.agg #[.int .i64 4, .int .i64 f, .string ⟨#[]⟩]) ∧ Below w.heap.size w w' := by
 have hne2 : (s.toList == []) = false := by simpa using hne
 have HB0 : Hid (Below (w.alloc (.cells #[.int .i64 0, .int .i64 0, .string ⟨#[]⟩] 23)).heap.size (w.alloc (.cells #[.int .i64 0, .int .i64 0, .string ⟨#[]⟩] 23)) (w.alloc (.cells #[.int .i64 0, .int .i64 0, .string ⟨#[]⟩] 23))) := Below.refl _ _
 have BD := fun u => mU f u
 rw [show qU f = f by simp [qU, hk]] at BD
 go_enter Tryz.func200, Tryz.ntmps200
 go_wp2_with (first | (go_at_call 33; refine (PF _).mono ?_; rintro e w' ⟨rfl, hw⟩; obtain rfl := hw.symm; clear hw) | (go_at_call 145; refine (PP _).mono ?_; rintro e w1 ⟨rfl, hb⟩; have HB1 : Hid (Below (w.alloc (.cells #[.int .i64 0, .int .i64 0, .string ⟨#[]⟩] 23)).heap.size (w.alloc (.cells #[.int .i64 0, .int .i64 0, .string ⟨#[]⟩] 23)) w1) := aG HB0.out hb; obtain ⟨⟨c0, c1, c2⟩, f0, f1, f2⟩ := dM HB1.out; clear hb) | (go_at_call 224; refine (PT _).mono ?_; rintro e w2 ⟨rfl, hb⟩; have HB2 : Hid (Below (w.alloc (.cells #[.int .i64 0, .int .i64 0, .string ⟨#[]⟩] 23)).heap.size (w.alloc (.cells #[.int .i64 0, .int .i64 0, .string ⟨#[]⟩] 23)) w2) := aG HB1.out hb; obtain ⟨⟨c0, c1, c2⟩, f0, f1, f2⟩ := dM HB2.out; clear hb) | (go_at_call 226; refine (PL _ HB2.out).mono ?_; rintro e w' ⟨rfl, hw⟩; obtain rfl := hw.symm; clear hw) | (go_at_call 149; refine (BD _).mono ?_; rintro e w3 ⟨rfl, hb⟩; have HB3 : Hid (Below (w.alloc (.cells #[.int .i64 0, .int .i64 0, .string ⟨#[]⟩] 23)).heap.size (w.alloc (.cells #[.int .i64 0, .int .i64 0, .string ⟨#[]⟩] 23)) w3) := aG HB2.out hb; obtain ⟨⟨c0, c1, c2⟩, f0, f1, f2⟩ := dM HB3.out; clear hb))
 exact bodyPost_ret (v := .agg #[.int .i64 4, .int .i64 f, .string ⟨#[]⟩]) (by simp [results, Tryz.results200, go_sem, c0, c1, c2]) rfl ⟨rfl, vK (aR HB3.out)⟩
theorem aAK (s : ByteArray) (w : World) (hne : ¬ s.toList = []) (R : ByteArray) (PF : ∀ u : World, Calls Tryz.prog 33 #[.string s, .string ⟨#[39]⟩] u fun e w' => e = .returned (.tuple #[.string R, .bool false]) ∧ w' = u) (v : Int) (PP : ∀ u : World, Calls Tryz.prog 145 #[.string s] u fun e w' => e = .returned (.tuple #[.int .i64 v, .bool false]) ∧ Below u.heap.size u w') (b : Bool) (PT : ∀ u : World, Calls Tryz.prog 224 #[.string s] u fun e w' => e = .returned (.tuple #[.bool b, .bool false]) ∧ Below u.heap.size u w') (f : Int) (PL : ∀ u : World, Below (w.alloc (.cells #[.int .i64 0, .int .i64 0, .string ⟨#[]⟩] 23)).heap.size (w.alloc (.cells #[.int .i64 0, .int .i64 0, .string ⟨#[]⟩] 23)) u → Calls Tryz.prog 226 #[.string s] u fun e w' => e = .returned (.tuple #[.int .i64 f, .bool false]) ∧ w' = u) : Calls Tryz.prog 200 #[.string s] w fun e w' => e = .returned (.agg #[.int .i64 2, .int .i64 0, .string s]) ∧ Below w.heap.size w w' := by
 have hne2 : (s.toList == []) = false := by simpa using hne
 have HB0 : Hid (Below (w.alloc (.cells #[.int .i64 0, .int .i64 0, .string ⟨#[]⟩] 23)).heap.size (w.alloc (.cells #[.int .i64 0, .int .i64 0, .string ⟨#[]⟩] 23)) (w.alloc (.cells #[.int .i64 0, .int .i64 0, .string ⟨#[]⟩] 23))) := Below.refl _ _
 go_enter Tryz.func200, Tryz.ntmps200
 go_wp2_with (first | (go_at_call 33; refine (PF _).mono ?_; rintro e w' ⟨rfl, hw⟩; obtain rfl := hw.symm; clear hw) | (go_at_call 145; refine (PP _).mono ?_; rintro e w1 ⟨rfl, hb⟩; have HB1 : Hid (Below (w.alloc (.cells #[.int .i64 0, .int .i64 0, .string ⟨#[]⟩] 23)).heap.size (w.alloc (.cells #[.int .i64 0, .int .i64 0, .string ⟨#[]⟩] 23)) w1) := aG HB0.out hb; obtain ⟨⟨c0, c1, c2⟩, f0, f1, f2⟩ := dM HB1.out; clear hb) | (go_at_call 224; refine (PT _).mono ?_; rintro e w2 ⟨rfl, hb⟩; have HB2 : Hid (Below (w.alloc (.cells #[.int .i64 0, .int .i64 0, .string ⟨#[]⟩] 23)).heap.size (w.alloc (.cells #[.int .i64 0, .int .i64 0, .string ⟨#[]⟩] 23)) w2) := aG HB1.out hb; obtain ⟨⟨c0, c1, c2⟩, f0, f1, f2⟩ := dM HB2.out; clear hb) | (go_at_call 226; refine (PL _ HB2.out).mono ?_; rintro e w' ⟨rfl, hw⟩; obtain rfl := hw.symm; clear hw) | (go_at_call 222; refine (oC _ _).mono ?_; rintro e w3 ⟨rfl, hb⟩; have HB3 : Hid (Below (w.alloc (.cells #[.int .i64 0, .int .i64 0, .string ⟨#[]⟩] 23)).heap.size (w.alloc (.cells #[.int .i64 0, .int .i64 0, .string ⟨#[]⟩] 23)) w3) := aG HB2.out hb; obtain ⟨⟨c0, c1, c2⟩, f0, f1, f2⟩ := dM HB3.out; clear hb))
 exact bodyPost_ret (v := .agg #[.int .i64 2, .int .i64 0, .string s]) (by simp [results, Tryz.results200, go_sem, c0, c1, c2]) rfl ⟨rfl, vK (aR HB3.out)⟩
structure eD (w : World) : Prop where
 p : lG w
 f : qR w
theorem eD.below {w w' : World} (h : eD w) (hb : Below w.heap.size w w') : eD w' := ⟨h.p.below hb, h.f.below hb⟩
abbrev val (k n : Int) (s : ByteArray) : Value := .agg #[.int .i64 k, .int .i64 n, .string s]
theorem aBQ (k : Int) : k = 0 ∨ k = 1 ∨ k = 2 ∨ k = 3 ∨ k = 4 ∨ (¬ k = 0 ∧ ¬ k = 1 ∧ ¬ k = 2 ∧ ¬ k = 3 ∧ ¬ k = 4) := by omega
theorem iF {k c : Int} (h : ¬ k = c) : (k == c) = false := by simpa using h
theorem aBR (s : ByteArray) (hs : s.size ≤ 9223372036854775807) (u : World) : Calls Tryz.prog 145 #[.string s] u fun e w' => e = .returned (.tuple #[.int .i64 (bZ s.data.toList).1, .bool (bZ s.data.toList).2]) ∧ Below u.heap.size u w' := by
 have := aCD s.data.toList u (by rw [cZ]; exact hs)
 rw [pY] at this
 exact this
theorem yM (l : List UInt8) : gd (bZ l).1 = true := by unfold bZ; split <;> first | exact aIB _ | rfl
def jW (k n : Int) (s : ByteArray) : ByteArray :=
 if k = 1 then ⟨(iE n).toArray⟩ else if k = 2 then s else if k = 3 then (if (n != 0) = true then ⟨#[84, 82, 85, 69]⟩ else ⟨#[70, 65, 76, 83, 69]⟩) else if k = 4 then fnB n else ⟨#[]⟩
def mV (k n : Int) (s : ByteArray) : Bool :=
 if k = 0 then (n == 0) && emB s else if k = 1 then emB s && gd n else if k = 2 then (n == 0) && vI s else if k = 3 then emB s && ((n == 0) || (n == 1)) else if k = 4 then emB s && knB n else false
def bO (s : ByteArray) : Int × Int × ByteArray :=
 if s.toList = [] then (0, 0, ⟨#[]⟩) else if s.data.toList.head? = some 39 then (2, 0, ⟨(s.data.toList.drop 1).toArray⟩)
 else if (bZ s.data.toList).2 = true then (1, (bZ s.data.toList).1, ⟨#[]⟩)
 else if (lS s).2 = true then (3, if (lS s).1 = true then 1 else 0, ⟨#[]⟩)
 else if lH s = 0 then (2, 0, s) else (4, (lH s : Nat), ⟨#[]⟩)
theorem tZ (k n : Int) (s : ByteArray) (hn : In64 n) (w : World) (T : eD w) :
  Calls Tryz.prog 125 #[val k n s] w fun e w' => e = .returned (.string (jW k n s)) ∧ Below w.heap.size w w' := by
 rcases aBQ k with rfl | rfl | rfl | rfl | rfl | ⟨h0, h1, h2, h3, h4⟩
 ·exact yE n s w
 ·exact aCF n s w _ (fun u hu => tT n hn u (T.below hu).p)
 ·exact aCG n s w
 ·exact aAD n s w _ (fun u => tV n s u)
 ·exact aCI n s w _ (fun u hu => nX n u (T.below hu).f)
 ·have e : jW k n s = ⟨#[]⟩ := by simp [jW, h1, h2, h3, h4]
  rw [e]
  exact aAE k n s w (iF h0) (iF h1) (iF h2) (iF h3) (iF h4)
theorem aIm (l : List UInt8) : Lib.hasPrefix l [39] = decide (l.head? = some 39) ∧ Lib.trimPrefix l [39] = if l.head? = some 39 then l.drop 1 else l := by
 cases l with
 | nil => exact ⟨rfl, rfl⟩
 | cons b l =>
  have h : Lib.hasPrefix (b :: l) [39] = decide ((b :: l).head? = some 39) := by
   unfold Lib.hasPrefix
   simp [List.isPrefixOf]
   exact BEq.comm
  refine ⟨h, ?_⟩
  unfold Lib.trimPrefix
  rw [h]
  by_cases e : (b :: l).head? = some 39
  ·rw [if_pos e, if_pos (by simpa using e)]; rfl
  ·rw [if_neg e, if_neg (by simpa using e)]
theorem aIG (s : ByteArray) (u : World) : Calls Tryz.prog 33 #[.string s, .string ⟨#[39]⟩] u fun e w' => e = .returned (.tuple #[.string ⟨(if s.data.toList.head? = some 39 then s.data.toList.drop 1 else s.data.toList).toArray⟩, .bool (decide (s.data.toList.head? = some 39))]) ∧ w' = u := by
 have h := Tryz.strings_CutPrefix s ⟨#[39]⟩ u
 rw [show (⟨#[39]⟩ : ByteArray).data.toList = [39] from rfl, (aIm _).1, (aIm _).2] at h
 exact h
theorem kP (s : ByteArray) (hs : s.size ≤ 9223372036854775807) (w : World) (T : eD w) :
  Calls Tryz.prog 200 #[.string s] w fun e w' => e = .returned (val (bO s).1 (bO s).2.1 (bO s).2.2) ∧ Below w.heap.size w w' := by
 have PF := fun u => aIG s u
 have PP := fun u => aBR s hs u
 have PT := fun u => aAG s hs u
 have PL : ∀ u : World, Below (w.alloc (.cells #[.int .i64 0, .int .i64 0, .string ⟨#[]⟩] 23)).heap.size (w.alloc (.cells #[.int .i64 0, .int .i64 0, .string ⟨#[]⟩] 23)) u → _ := fun u hu => aAJ s u (T.below (aR hu)).f
 unfold bO
 by_cases h0 : s.toList = []
 ·rw [if_pos h0]; exact yI s w h0
 ·rw [if_neg h0]
  by_cases h1 : s.data.toList.head? = some 39
  ·rw [if_pos h1]
   simp only [h1, if_true, decide_true] at PF
   exact yJ s w h0 _ PF
  ·rw [if_neg h1]
   simp only [h1, if_false, decide_false] at PF
   by_cases h2 : (bZ s.data.toList).2 = true
   ·rw [if_pos h2]
    rw [h2] at PP
    exact aCL s w h0 _ PF _ PP (yM _)
   ·rw [if_neg h2]
    rw [Bool.not_eq_true] at h2
    rw [h2] at PP
    by_cases h3 : (lS s).2 = true
    ·rw [if_pos h3]
     rw [h3] at PT
     exact yK s w h0 _ PF _ PP _ PT
    ·rw [if_neg h3]
     rw [Bool.not_eq_true] at h3
     rw [h3] at PT
     by_cases h4 : lH s = 0
     ·rw [if_pos h4]
      simp only [h4, ne_eq, not_true_eq_false, decide_false] at PL
      exact aAK s w h0 _ PF _ PP _ PT _ PL
     ·rw [if_neg h4]
      simp only [h4, ne_eq, not_false_eq_true, decide_true] at PL
      have := aAI s
      exact yL s w h0 _ PF _ PP _ PT _ PL (vL _ (by omega) (by omega))
end Go.Proofs.YtljmklbbngpllaaGreatDoor
