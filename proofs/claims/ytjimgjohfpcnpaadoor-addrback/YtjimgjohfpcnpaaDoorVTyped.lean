/- What a text is typed to, of the program. -/
import Derived.Test.YtjimgjohfpcnpaaDoorVTruth
import Derived.Test.YtjimgjohfpcnpaaDoorVMake
namespace Go.Proofs.YtjimgjohfpcnpaaDoor
open Go.RowKit
set_option maxRecDepth 100000
set_option linter.unusedVariables false
set_option linter.unusedSimpArgs false
/-- Which error's name a text is; 0: none. -/
def fltN (s : ByteArray) : Nat := if s = fnm 1 then 1 else if s = fnm 2 then 2 else if s = fnm 3 then 3 else if s = fnm 4 then 4 else if s = fnm 5 then 5 else if s = fnm 6 then 6 else if s = fnm 7 then 7 else if s = fnm 8 then 8 else 0
theorem flt_le (s : ByteArray) : fltN s ≤ 8 := by
  unfold fltN
  repeat' split
  all_goals omega
theorem flt_is (s : ByteArray) (h : fltN s ≠ 0) : s = fnm (fltN s) := by
  unfold fltN at h ⊢
  repeat' split
  all_goals first | assumption | (exfalso; simp_all)
theorem fnm_ne : ∀ i, i < 9 → ∀ j, j < 9 → i ≠ j → fnm i ≠ fnm j := by decide
theorem flt_not (s : ByteArray) (j : Nat) (h1 : 1 ≤ j) (h8 : j ≤ 8) (h : fltN s ≠ j) : fnm j ≠ s := by
  rintro rfl
  by_cases h0 : fltN (fnm j) = 0
  · have hj : j = 1 ∨ j = 2 ∨ j = 3 ∨ j = 4 ∨ j = 5 ∨ j = 6 ∨ j = 7 ∨ j = 8 := by omega
    rcases hj with rfl | rfl | rfl | rfl | rfl | rfl | rfl | rfl <;> revert h0 <;> decide
  · exact fnm_ne j (by omega) _ (by have := flt_le (fnm j); omega) (Ne.symm h) (flt_is _ h0)
theorem bytes_ne {a b : ByteArray} (h : a ≠ b) : (a.toList == b.toList) = false := by
  rw [beq_eq_false_iff_ne]
  intro e
  rw [ByteArray.toList_eq, ByteArray.toList_eq] at e
  exact h (Go.WideShapes.bytes_inj e)
theorem fnB_nat (j : Nat) (h1 : 1 ≤ j) (h8 : j ≤ 8) : fnB (j : Int) = fnm j := by
  have : knB (j : Int) = true := by simp [knB]; omega
  simp [fnB, this]
theorem kn_nat (j : Nat) (h1 : 1 ≤ j) (h8 : j ≤ 8) : knB (j : Int) = true := by simp [knB]; omega
set_option maxHeartbeats 2000000 in
theorem pfault_any (s : ByteArray) (w : World) (T : FTab w) : Calls Tryd.prog 74 #[.string s] w fun e w' => e = .returned (.tuple #[.int .i64 (fltN s : Nat), .bool (decide (fltN s ≠ 0))]) ∧ w' = w := by
  have hle := flt_le s
  have HI : Hid (fltN s ≠ 0 → s = fnm (fltN s)) := flt_is s
  have HN : Hid (∀ j : Nat, 1 ≤ j → j ≤ 8 → fltN s ≠ j → fnm j ≠ s) := fun j => flt_not s j
  generalize fltN s = m at *
  have KN := fun (j : Nat) (h1 : 1 ≤ j) (h8 : j ≤ 8) (u : World) => (known_any (j : Int) u)
  have FN := fun (j : Nat) (u : World) (hu : FTab u) => fname_any (j : Int) u hu
  go_enter Tryd.func74, Tryd.ntmps74
  go_wp2
  go_loop [4] (fun f => ∃ j : Nat, 1 ≤ j ∧ j ≤ 9 ∧ f = .int .i64 j ∧ (m = 0 ∨ j ≤ m)) (fun f => 9 - (intOf f).toNat)
  case atStart => exact ⟨1, by omega, by omega, rfl, by omega⟩
  case round =>
    obtain ⟨j, h1, h9, rfl, hm⟩ := hrel
    by_cases h8 : j ≤ 8
    · have K := fun u => known_any (j : Int) u
      have F := fname_any (j : Int) w T
      rw [kn_nat j h1 h8] at K
      rw [fnB_nat j h1 h8] at F
      by_cases hj : m = j
      · subst hj
        have hs := HI.out (by omega)
        have HD : Hid (decide (m ≠ 0) = true) := by show _ = _; simp; omega
        subst hs
        clear hm
        go_wp2_with (first | (go_at_call 92; refine (K _).mono ?_; rintro e w' ⟨rfl, hw⟩; obtain rfl := hw.symm; clear hw) | (go_at_call 93; refine F.mono ?_; rintro e w' ⟨rfl, hw⟩; obtain rfl := hw.symm; clear hw))
        go_ret2
        exact ⟨by rw [HD.out]; rfl, rfl⟩
      · have hne := bytes_ne (HN.out j h1 h8 hj)
        go_wp2_with (first | (go_at_call 92; refine (K _).mono ?_; rintro e w' ⟨rfl, hw⟩; obtain rfl := hw.symm; clear hw) | (go_at_call 93; refine F.mono ?_; rintro e w' ⟨rfl, hw⟩; obtain rfl := hw.symm; clear hw))
        go_round
        case rel => exact ⟨j + 1, by omega, by omega, by go_num, by omega⟩
        case measure => simp [intOf]; omega
    · have K := fun u => known_any (j : Int) u
      have hk : knB (j : Int) = false := by simp [knB]; omega
      rw [hk] at K
      have h0 : m = 0 := by omega
      subst h0
      go_wp2_with (first | (go_at_call 92; refine (K _).mono ?_; rintro e w' ⟨rfl, hw⟩; obtain rfl := hw.symm; clear hw))
      go_ret2
      exact ⟨rfl, rfl⟩

set_option maxHeartbeats 1000000 in
theorem typed_empty (s : ByteArray) (w : World) (h : s.toList = []) : Calls Tryd.prog 59 #[.string s] w fun e w' => e = .returned (.agg #[.int .i64 0, .int .i64 0, .string ⟨#[]⟩]) ∧ Below w.heap.size w w' := by
  go_enter Tryd.func59, Tryd.ntmps59
  go_wp2
  exact bodyPost_ret (v := .agg #[.int .i64 0, .int .i64 0, .string ⟨#[]⟩]) (by simp [results, Tryd.results59, go_sem]) rfl ⟨rfl, (Below.refl _ _).alloc (Nat.le_refl _) _⟩
set_option maxHeartbeats 2000000 in
theorem typed_quote (s : ByteArray) (w : World) (hne : ¬ s.toList = []) (R : ByteArray) (PF : ∀ u : World, Calls Tryd.prog 28 #[.string s, .string ⟨#[39]⟩] u fun e w' => e = .returned (.tuple #[.string R, .bool true]) ∧ w' = u) : Calls Tryd.prog 59 #[.string s] w fun e w' => e = .returned (.agg #[.int .i64 2, .int .i64 0, .string R]) ∧ Below w.heap.size w w' := by
  have hne2 : (s.toList == []) = false := by simpa using hne
  have HB0 : Hid (Below (w.alloc (.cells #[.int .i64 0, .int .i64 0, .string ⟨#[]⟩] 65)).heap.size (w.alloc (.cells #[.int .i64 0, .int .i64 0, .string ⟨#[]⟩] 65)) (w.alloc (.cells #[.int .i64 0, .int .i64 0, .string ⟨#[]⟩] 65))) := Below.refl _ _
  go_enter Tryd.func59, Tryd.ntmps59
  go_wp2_with (first | (go_at_call 28; refine (PF _).mono ?_; rintro e w' ⟨rfl, hw⟩; obtain rfl := hw.symm; clear hw) | (go_at_call 69; refine (words_any _ _).mono ?_; rintro e w1 ⟨rfl, hb⟩; have HB1 : Hid (Below (w.alloc (.cells #[.int .i64 0, .int .i64 0, .string ⟨#[]⟩] 65)).heap.size (w.alloc (.cells #[.int .i64 0, .int .i64 0, .string ⟨#[]⟩] 65)) w1) := bel_step HB0.out hb; obtain ⟨⟨c0, c1, c2⟩, f0, f1, f2⟩ := rescell HB1.out; clear hb))
  exact bodyPost_ret (v := .agg #[.int .i64 2, .int .i64 0, .string R]) (by simp [results, Tryd.results59, go_sem, c0, c1, c2]) rfl ⟨rfl, set3 (bel1 HB1.out)⟩
set_option maxHeartbeats 2000000 in
theorem typed_num (s : ByteArray) (w : World) (hne : ¬ s.toList = []) (R : ByteArray) (PF : ∀ u : World, Calls Tryd.prog 28 #[.string s, .string ⟨#[39]⟩] u fun e w' => e = .returned (.tuple #[.string R, .bool false]) ∧ w' = u) (v : Int) (PP : ∀ u : World, Calls Tryd.prog 70 #[.string s] u fun e w' => e = .returned (.tuple #[.int .i64 v, .bool true]) ∧ Below u.heap.size u w') (hg : gd v = true) : Calls Tryd.prog 59 #[.string s] w fun e w' => e = .returned (.agg #[.int .i64 1, .int .i64 v, .string ⟨#[]⟩]) ∧ Below w.heap.size w w' := by
  have hne2 : (s.toList == []) = false := by simpa using hne
  have HB0 : Hid (Below (w.alloc (.cells #[.int .i64 0, .int .i64 0, .string ⟨#[]⟩] 65)).heap.size (w.alloc (.cells #[.int .i64 0, .int .i64 0, .string ⟨#[]⟩] 65)) (w.alloc (.cells #[.int .i64 0, .int .i64 0, .string ⟨#[]⟩] 65))) := Below.refl _ _
  have OF := fun u => of_any v true u
  rw [show ofV v true = .agg #[.int .i64 1, .int .i64 v, .string ⟨#[]⟩] by simp [ofV, hg]] at OF
  go_enter Tryd.func59, Tryd.ntmps59
  go_wp2_with (first | (go_at_call 28; refine (PF _).mono ?_; rintro e w' ⟨rfl, hw⟩; obtain rfl := hw.symm; clear hw) | (go_at_call 70; refine (PP _).mono ?_; rintro e w1 ⟨rfl, hb⟩; have HB1 : Hid (Below (w.alloc (.cells #[.int .i64 0, .int .i64 0, .string ⟨#[]⟩] 65)).heap.size (w.alloc (.cells #[.int .i64 0, .int .i64 0, .string ⟨#[]⟩] 65)) w1) := bel_step HB0.out hb; obtain ⟨⟨c0, c1, c2⟩, f0, f1, f2⟩ := rescell HB1.out; clear hb) | (go_at_call 71; refine (OF _).mono ?_; rintro e w2 ⟨rfl, hb⟩; have HB2 : Hid (Below (w.alloc (.cells #[.int .i64 0, .int .i64 0, .string ⟨#[]⟩] 65)).heap.size (w.alloc (.cells #[.int .i64 0, .int .i64 0, .string ⟨#[]⟩] 65)) w2) := bel_step HB1.out hb; obtain ⟨⟨c0, c1, c2⟩, f0, f1, f2⟩ := rescell HB2.out; clear hb))
  exact bodyPost_ret (v := .agg #[.int .i64 1, .int .i64 v, .string ⟨#[]⟩]) (by simp [results, Tryd.results59, go_sem, c0, c1, c2]) rfl ⟨rfl, set3 (bel1 HB2.out)⟩
set_option maxHeartbeats 2000000 in
theorem typed_truth (s : ByteArray) (w : World) (hne : ¬ s.toList = []) (R : ByteArray) (PF : ∀ u : World, Calls Tryd.prog 28 #[.string s, .string ⟨#[39]⟩] u fun e w' => e = .returned (.tuple #[.string R, .bool false]) ∧ w' = u) (v : Int) (PP : ∀ u : World, Calls Tryd.prog 70 #[.string s] u fun e w' => e = .returned (.tuple #[.int .i64 v, .bool false]) ∧ Below u.heap.size u w') (b : Bool) (PT : ∀ u : World, Calls Tryd.prog 72 #[.string s] u fun e w' => e = .returned (.tuple #[.bool b, .bool true]) ∧ Below u.heap.size u w') : Calls Tryd.prog 59 #[.string s] w fun e w' => e = .returned (.agg #[.int .i64 3, .int .i64 (if b = true then 1 else 0), .string ⟨#[]⟩]) ∧ Below w.heap.size w w' := by
  have hne2 : (s.toList == []) = false := by simpa using hne
  have HB0 : Hid (Below (w.alloc (.cells #[.int .i64 0, .int .i64 0, .string ⟨#[]⟩] 65)).heap.size (w.alloc (.cells #[.int .i64 0, .int .i64 0, .string ⟨#[]⟩] 65)) (w.alloc (.cells #[.int .i64 0, .int .i64 0, .string ⟨#[]⟩] 65))) := Below.refl _ _
  have TV := fun u => tvalue_any b u
  generalize (if b = true then (1 : Int) else 0) = z at *
  go_enter Tryd.func59, Tryd.ntmps59
  go_wp2_with (first | (go_at_call 28; refine (PF _).mono ?_; rintro e w' ⟨rfl, hw⟩; obtain rfl := hw.symm; clear hw) | (go_at_call 70; refine (PP _).mono ?_; rintro e w1 ⟨rfl, hb⟩; have HB1 : Hid (Below (w.alloc (.cells #[.int .i64 0, .int .i64 0, .string ⟨#[]⟩] 65)).heap.size (w.alloc (.cells #[.int .i64 0, .int .i64 0, .string ⟨#[]⟩] 65)) w1) := bel_step HB0.out hb; obtain ⟨⟨c0, c1, c2⟩, f0, f1, f2⟩ := rescell HB1.out; clear hb) | (go_at_call 72; refine (PT _).mono ?_; rintro e w2 ⟨rfl, hb⟩; have HB2 : Hid (Below (w.alloc (.cells #[.int .i64 0, .int .i64 0, .string ⟨#[]⟩] 65)).heap.size (w.alloc (.cells #[.int .i64 0, .int .i64 0, .string ⟨#[]⟩] 65)) w2) := bel_step HB1.out hb; obtain ⟨⟨c0, c1, c2⟩, f0, f1, f2⟩ := rescell HB2.out; clear hb) | (go_at_call 73; refine (TV _).mono ?_; rintro e w3 ⟨rfl, hb⟩; have HB3 : Hid (Below (w.alloc (.cells #[.int .i64 0, .int .i64 0, .string ⟨#[]⟩] 65)).heap.size (w.alloc (.cells #[.int .i64 0, .int .i64 0, .string ⟨#[]⟩] 65)) w3) := bel_step HB2.out hb; obtain ⟨⟨c0, c1, c2⟩, f0, f1, f2⟩ := rescell HB3.out; clear hb))
  exact bodyPost_ret (v := .agg #[.int .i64 3, .int .i64 z, .string ⟨#[]⟩]) (by simp [results, Tryd.results59, go_sem, c0, c1, c2]) rfl ⟨rfl, set3 (bel1 HB3.out)⟩
set_option maxHeartbeats 2000000 in
theorem typed_fault (s : ByteArray) (w : World) (hne : ¬ s.toList = []) (R : ByteArray) (PF : ∀ u : World, Calls Tryd.prog 28 #[.string s, .string ⟨#[39]⟩] u fun e w' => e = .returned (.tuple #[.string R, .bool false]) ∧ w' = u) (v : Int) (PP : ∀ u : World, Calls Tryd.prog 70 #[.string s] u fun e w' => e = .returned (.tuple #[.int .i64 v, .bool false]) ∧ Below u.heap.size u w') (b : Bool) (PT : ∀ u : World, Calls Tryd.prog 72 #[.string s] u fun e w' => e = .returned (.tuple #[.bool b, .bool false]) ∧ Below u.heap.size u w') (f : Int) (PL : ∀ u : World, Below (w.alloc (.cells #[.int .i64 0, .int .i64 0, .string ⟨#[]⟩] 65)).heap.size (w.alloc (.cells #[.int .i64 0, .int .i64 0, .string ⟨#[]⟩] 65)) u → Calls Tryd.prog 74 #[.string s] u fun e w' => e = .returned (.tuple #[.int .i64 f, .bool true]) ∧ w' = u) (hk : knB f = true) : Calls Tryd.prog 59 #[.string s] w fun e w' => e = .returned (.agg #[.int .i64 4, .int .i64 f, .string ⟨#[]⟩]) ∧ Below w.heap.size w w' := by
  have hne2 : (s.toList == []) = false := by simpa using hne
  have HB0 : Hid (Below (w.alloc (.cells #[.int .i64 0, .int .i64 0, .string ⟨#[]⟩] 65)).heap.size (w.alloc (.cells #[.int .i64 0, .int .i64 0, .string ⟨#[]⟩] 65)) (w.alloc (.cells #[.int .i64 0, .int .i64 0, .string ⟨#[]⟩] 65))) := Below.refl _ _
  have BD := fun u => bad_any f u
  rw [show badN f = f by simp [badN, hk]] at BD
  go_enter Tryd.func59, Tryd.ntmps59
  go_wp2_with (first | (go_at_call 28; refine (PF _).mono ?_; rintro e w' ⟨rfl, hw⟩; obtain rfl := hw.symm; clear hw) | (go_at_call 70; refine (PP _).mono ?_; rintro e w1 ⟨rfl, hb⟩; have HB1 : Hid (Below (w.alloc (.cells #[.int .i64 0, .int .i64 0, .string ⟨#[]⟩] 65)).heap.size (w.alloc (.cells #[.int .i64 0, .int .i64 0, .string ⟨#[]⟩] 65)) w1) := bel_step HB0.out hb; obtain ⟨⟨c0, c1, c2⟩, f0, f1, f2⟩ := rescell HB1.out; clear hb) | (go_at_call 72; refine (PT _).mono ?_; rintro e w2 ⟨rfl, hb⟩; have HB2 : Hid (Below (w.alloc (.cells #[.int .i64 0, .int .i64 0, .string ⟨#[]⟩] 65)).heap.size (w.alloc (.cells #[.int .i64 0, .int .i64 0, .string ⟨#[]⟩] 65)) w2) := bel_step HB1.out hb; obtain ⟨⟨c0, c1, c2⟩, f0, f1, f2⟩ := rescell HB2.out; clear hb) | (go_at_call 74; refine (PL _ HB2.out).mono ?_; rintro e w' ⟨rfl, hw⟩; obtain rfl := hw.symm; clear hw) | (go_at_call 75; refine (BD _).mono ?_; rintro e w3 ⟨rfl, hb⟩; have HB3 : Hid (Below (w.alloc (.cells #[.int .i64 0, .int .i64 0, .string ⟨#[]⟩] 65)).heap.size (w.alloc (.cells #[.int .i64 0, .int .i64 0, .string ⟨#[]⟩] 65)) w3) := bel_step HB2.out hb; obtain ⟨⟨c0, c1, c2⟩, f0, f1, f2⟩ := rescell HB3.out; clear hb))
  exact bodyPost_ret (v := .agg #[.int .i64 4, .int .i64 f, .string ⟨#[]⟩]) (by simp [results, Tryd.results59, go_sem, c0, c1, c2]) rfl ⟨rfl, set3 (bel1 HB3.out)⟩
set_option maxHeartbeats 2000000 in
theorem typed_text (s : ByteArray) (w : World) (hne : ¬ s.toList = []) (R : ByteArray) (PF : ∀ u : World, Calls Tryd.prog 28 #[.string s, .string ⟨#[39]⟩] u fun e w' => e = .returned (.tuple #[.string R, .bool false]) ∧ w' = u) (v : Int) (PP : ∀ u : World, Calls Tryd.prog 70 #[.string s] u fun e w' => e = .returned (.tuple #[.int .i64 v, .bool false]) ∧ Below u.heap.size u w') (b : Bool) (PT : ∀ u : World, Calls Tryd.prog 72 #[.string s] u fun e w' => e = .returned (.tuple #[.bool b, .bool false]) ∧ Below u.heap.size u w') (f : Int) (PL : ∀ u : World, Below (w.alloc (.cells #[.int .i64 0, .int .i64 0, .string ⟨#[]⟩] 65)).heap.size (w.alloc (.cells #[.int .i64 0, .int .i64 0, .string ⟨#[]⟩] 65)) u → Calls Tryd.prog 74 #[.string s] u fun e w' => e = .returned (.tuple #[.int .i64 f, .bool false]) ∧ w' = u) : Calls Tryd.prog 59 #[.string s] w fun e w' => e = .returned (.agg #[.int .i64 2, .int .i64 0, .string s]) ∧ Below w.heap.size w w' := by
  have hne2 : (s.toList == []) = false := by simpa using hne
  have HB0 : Hid (Below (w.alloc (.cells #[.int .i64 0, .int .i64 0, .string ⟨#[]⟩] 65)).heap.size (w.alloc (.cells #[.int .i64 0, .int .i64 0, .string ⟨#[]⟩] 65)) (w.alloc (.cells #[.int .i64 0, .int .i64 0, .string ⟨#[]⟩] 65))) := Below.refl _ _
  go_enter Tryd.func59, Tryd.ntmps59
  go_wp2_with (first | (go_at_call 28; refine (PF _).mono ?_; rintro e w' ⟨rfl, hw⟩; obtain rfl := hw.symm; clear hw) | (go_at_call 70; refine (PP _).mono ?_; rintro e w1 ⟨rfl, hb⟩; have HB1 : Hid (Below (w.alloc (.cells #[.int .i64 0, .int .i64 0, .string ⟨#[]⟩] 65)).heap.size (w.alloc (.cells #[.int .i64 0, .int .i64 0, .string ⟨#[]⟩] 65)) w1) := bel_step HB0.out hb; obtain ⟨⟨c0, c1, c2⟩, f0, f1, f2⟩ := rescell HB1.out; clear hb) | (go_at_call 72; refine (PT _).mono ?_; rintro e w2 ⟨rfl, hb⟩; have HB2 : Hid (Below (w.alloc (.cells #[.int .i64 0, .int .i64 0, .string ⟨#[]⟩] 65)).heap.size (w.alloc (.cells #[.int .i64 0, .int .i64 0, .string ⟨#[]⟩] 65)) w2) := bel_step HB1.out hb; obtain ⟨⟨c0, c1, c2⟩, f0, f1, f2⟩ := rescell HB2.out; clear hb) | (go_at_call 74; refine (PL _ HB2.out).mono ?_; rintro e w' ⟨rfl, hw⟩; obtain rfl := hw.symm; clear hw) | (go_at_call 69; refine (words_any _ _).mono ?_; rintro e w3 ⟨rfl, hb⟩; have HB3 : Hid (Below (w.alloc (.cells #[.int .i64 0, .int .i64 0, .string ⟨#[]⟩] 65)).heap.size (w.alloc (.cells #[.int .i64 0, .int .i64 0, .string ⟨#[]⟩] 65)) w3) := bel_step HB2.out hb; obtain ⟨⟨c0, c1, c2⟩, f0, f1, f2⟩ := rescell HB3.out; clear hb))
  exact bodyPost_ret (v := .agg #[.int .i64 2, .int .i64 0, .string s]) (by simp [results, Tryd.results59, go_sem, c0, c1, c2]) rfl ⟨rfl, set3 (bel1 HB3.out)⟩
end Go.Proofs.YtjimgjohfpcnpaaDoor
