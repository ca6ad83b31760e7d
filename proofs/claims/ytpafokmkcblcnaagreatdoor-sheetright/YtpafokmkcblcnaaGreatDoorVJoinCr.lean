/- VMake, VTyped, VJoin. -/
import Derived.Test.YtpafokmkcblcnaaGreatDoorVTruthCr
import Derived.Test.YtpafokmkcblcnaaGreatDoorNLoopCr
set_option linter.unusedVariables false
set_option linter.unusedSimpArgs false
namespace Go.Proofs.YtpafokmkcblcnaaGreatDoor
open Go.RowKit
set_option maxRecDepth 100000
set_option maxHeartbeats 1000000 in
theorem words_any (s : ByteArray) (w : World) : Calls Tryz.prog 202 #[.string s] w fun e w' => e = .returned (.agg #[.int .i64 2, .int .i64 0, .string s]) ∧ Below w.heap.size w w' := by
  go_enter Tryz.func202, Tryz.ntmps202
  go_wp2
  exact bodyPost_ret (v := .agg #[.int .i64 2, .int .i64 0, .string s]) (by simp [results, Tryz.results202, go_sem]) rfl ⟨rfl, (Below.refl _ _).alloc (Nat.le_refl _) _⟩
set_option maxHeartbeats 1000000 in
theorem tvalue_any (b : Bool) (w : World) : Calls Tryz.prog 206 #[.bool b] w fun e w' => e = .returned (.agg #[.int .i64 3, .int .i64 (if b = true then 1 else 0), .string ⟨#[]⟩]) ∧ Below w.heap.size w w' := by
  cases b
  all_goals
    go_enter Tryz.func206, Tryz.ntmps206
    go_wp2_with (go_at_call 253; refine (tcount_any _ _).mono ?_; rintro e w' ⟨rfl, hw⟩; obtain rfl := hw.symm; clear hw)
  · exact bodyPost_ret (v := .agg #[.int .i64 3, .int .i64 0, .string ⟨#[]⟩]) (by simp [results, Tryz.results206, go_sem]) rfl ⟨rfl, (Below.refl _ _).alloc (Nat.le_refl _) _⟩
  · exact bodyPost_ret (v := .agg #[.int .i64 3, .int .i64 1, .string ⟨#[]⟩]) (by simp [results, Tryz.results206, go_sem]) rfl ⟨rfl, (Below.refl _ _).alloc (Nat.le_refl _) _⟩
def badN (n : Int) : Int := if knB n = true then n else 2
set_option maxHeartbeats 1000000 in
theorem bad_any (n : Int) (w : World) : Calls Tryz.prog 208 #[.int .i64 n] w fun e w' => e = .returned (.agg #[.int .i64 4, .int .i64 (badN n), .string ⟨#[]⟩]) ∧ Below w.heap.size w w' := by
  have K := fun u => known_any n u
  cases hk : knB n
  all_goals
    rw [hk] at K
  · have e : badN n = 2 := by simp [badN, hk]
    rw [e]
    go_enter Tryz.func208, Tryz.ntmps208
    go_wp2_with (go_at_call 254; refine (K _).mono ?_; rintro e w' ⟨rfl, hw⟩; obtain rfl := hw.symm; clear hw)
    exact bodyPost_ret (v := .agg #[.int .i64 4, .int .i64 2, .string ⟨#[]⟩]) (by simp [results, Tryz.results208, go_sem]) rfl ⟨rfl, (Below.refl _ _).alloc (Nat.le_refl _) _⟩
  · have e : badN n = n := by simp [badN, hk]
    rw [e]
    go_enter Tryz.func208, Tryz.ntmps208
    go_wp2_with (go_at_call 254; refine (K _).mono ?_; rintro e w' ⟨rfl, hw⟩; obtain rfl := hw.symm; clear hw)
    exact bodyPost_ret (v := .agg #[.int .i64 4, .int .i64 n, .string ⟨#[]⟩]) (by simp [results, Tryz.results208, go_sem]) rfl ⟨rfl, (Below.refl _ _).alloc (Nat.le_refl _) _⟩
theorem rescell {w w1 : World} {a b c : Value} (hb : Below (w.alloc (.cells #[a, b, c] 62)).heap.size (w.alloc (.cells #[a, b, c] 62)) w1) :
    (w1.cell? ⟨w.heap.size, 0, none⟩ = some a ∧ w1.cell? ⟨w.heap.size, 1, none⟩ = some b ∧ w1.cell? ⟨w.heap.size, 2, none⟩ = some c) ∧
    (w1.frozen? ⟨w.heap.size, 0, none⟩ = false ∧ w1.frozen? ⟨w.heap.size, 1, none⟩ = false ∧ w1.frozen? ⟨w.heap.size, 2, none⟩ = false) := by
  have h0 : w1.heap[w.heap.size]? = some (.cells #[a, b, c] 62 (0, 0)) := by
    rw [hb.block _ (by simp)]
    exact heap_alloc_new w _
  exact ⟨(boxcell hb).2, by simp [World.frozen?, h0]⟩
theorem set3 {w w1 : World} {a b c : Value} (h : Below w.heap.size w w1) : Below w.heap.size w (((w1.setCell ⟨w.heap.size, 0, none⟩ a).setCell ⟨w.heap.size, 1, none⟩ b).setCell ⟨w.heap.size, 2, none⟩ c) :=
  ((h.setCell (Nat.le_refl _) _).setCell (Nat.le_refl _) _).setCell (Nat.le_refl _) _
def ofV (n : Int) (ok : Bool) : Value := if (ok && gd n) = true then .agg #[.int .i64 1, .int .i64 n, .string ⟨#[]⟩] else .agg #[.int .i64 4, .int .i64 5, .string ⟨#[]⟩]
set_option maxHeartbeats 1000000 in
theorem of_any (n : Int) (ok : Bool) (w : World) : Calls Tryz.prog 204 #[.int .i64 n, .bool ok] w fun e w' => e = .returned (ofV n ok) ∧ Below w.heap.size w w' := by
  have G := fun u => good_any n u
  unfold ofV
  cases ok <;> cases hg : gd n
  all_goals
    rw [hg] at G
    simp only [Bool.and_true, Bool.and_false, Bool.false_eq_true, if_true, if_false]
    go_enter Tryz.func204, Tryz.ntmps204
    go_wp2_with (first | (go_at_call 252; refine (G _).mono ?_; rintro e w' ⟨rfl, hw⟩; obtain rfl := hw.symm; clear hw) | (go_at_call 208; refine (bad_any _ _).mono ?_; rintro e w1 ⟨rfl, hb⟩; have HB : Hid (Below w.heap.size w w1) := bel1 hb; obtain ⟨⟨c0, c1, c2⟩, f0, f1, f2⟩ := rescell hb; clear hb))
    first
    | exact bodyPost_ret (v := .agg #[.int .i64 4, .int .i64 5, .string ⟨#[]⟩]) (by simp [results, Tryz.results204, go_sem, c0, c1, c2]; rfl) rfl ⟨rfl, set3 HB.out⟩
    | exact bodyPost_ret (v := .agg #[.int .i64 1, .int .i64 n, .string ⟨#[]⟩]) (by simp [results, Tryz.results204, go_sem]) rfl ⟨rfl, (Below.refl _ _).alloc (Nat.le_refl _) _⟩
end Go.Proofs.YtpafokmkcblcnaaGreatDoor

namespace Go.Proofs.YtpafokmkcblcnaaGreatDoor
open Go.RowKit
set_option maxRecDepth 100000
def fltN (s : ByteArray) : Nat := if s = fnm 1 then 1 else if s = fnm 2 then 2 else if s = fnm 3 then 3 else if s = fnm 4 then 4 else if s = fnm 5 then 5 else if s = fnm 6 then 6 else if s = fnm 7 then 7 else if s = fnm 8 then 8 else 0
theorem flt_le (s : ByteArray) : fltN s ≤ 8 := by
  unfold fltN
  repeat' split
  all_goals omega
theorem flt_is (s : ByteArray) (h : fltN s ≠ 0) : s = fnm (fltN s) := by
  unfold fltN at h ⊢
  repeat' split
  all_goals first | assumption | (exfalso; simp_all)
theorem fnm_ne : ∀ i, i < 9 → ∀ j, j < 9 → i ≠ j → fnm i ≠ fnm j := by decide
theorem flt_not (s : ByteArray) (j : Nat) (h1 : 1 ≤ j) (h8 : j ≤ 8) (h : fltN s ≠ j) : fnm j ≠ s := by
  rintro rfl
  by_cases h0 : fltN (fnm j) = 0
  · have hj : j = 1 ∨ j = 2 ∨ j = 3 ∨ j = 4 ∨ j = 5 ∨ j = 6 ∨ j = 7 ∨ j = 8 := by omega
    rcases hj with rfl | rfl | rfl | rfl | rfl | rfl | rfl | rfl <;> revert h0 <;> decide
  · exact fnm_ne j (by omega) _ (by have := flt_le (fnm j); omega) (Ne.symm h) (flt_is _ h0)
theorem bytes_ne {a b : ByteArray} (h : a ≠ b) : (a.toList == b.toList) = false := by
  rw [beq_eq_false_iff_ne]
  intro e
  rw [ByteArray.toList_eq, ByteArray.toList_eq] at e
  exact h (Go.WideShapes.bytes_inj e)
theorem fnB_nat (j : Nat) (h1 : 1 ≤ j) (h8 : j ≤ 8) : fnB (j : Int) = fnm j := by
  have : knB (j : Int) = true := by simp [knB]; omega
  simp [fnB, this]
theorem kn_nat (j : Nat) (h1 : 1 ≤ j) (h8 : j ≤ 8) : knB (j : Int) = true := by simp [knB]; omega
set_option maxHeartbeats 2000000 in
theorem pfault_any (s : ByteArray) (w : World) (T : FTab w) : Calls Tryz.prog 207 #[.string s] w fun e w' => e = .returned (.tuple #[.int .i64 (fltN s : Nat), .bool (decide (fltN s ≠ 0))]) ∧ w' = w := by
  have hle := flt_le s
  have HI : Hid (fltN s ≠ 0 → s = fnm (fltN s)) := flt_is s
  have HN : Hid (∀ j : Nat, 1 ≤ j → j ≤ 8 → fltN s ≠ j → fnm j ≠ s) := fun j => flt_not s j
  generalize fltN s = m at *
  have KN := fun (j : Nat) (h1 : 1 ≤ j) (h8 : j ≤ 8) (u : World) => (known_any (j : Int) u)
  have FN := fun (j : Nat) (u : World) (hu : FTab u) => fname_any (j : Int) u hu
  go_enter Tryz.func207, Tryz.ntmps207
  go_wp2
  go_loop [4] (fun f => ∃ j : Nat, 1 ≤ j ∧ j ≤ 9 ∧ f = .int .i64 j ∧ (m = 0 ∨ j ≤ m)) (fun f => 9 - (intOf f).toNat)
  case atStart => exact ⟨1, by omega, by omega, rfl, by omega⟩
  case round =>
    obtain ⟨j, h1, h9, rfl, hm⟩ := hrel
    by_cases h8 : j ≤ 8
    · have K := fun u => known_any (j : Int) u
      have F := fname_any (j : Int) w T
      rw [kn_nat j h1 h8] at K
      rw [fnB_nat j h1 h8] at F
      by_cases hj : m = j
      · subst hj
        have hs := HI.out (by omega)
        have HD : Hid (decide (m ≠ 0) = true) := by show _ = _; simp; omega
        subst hs
        clear hm
        go_wp2_with (first | (go_at_call 254; refine (K _).mono ?_; rintro e w' ⟨rfl, hw⟩; obtain rfl := hw.symm; clear hw) | (go_at_call 218; refine F.mono ?_; rintro e w' ⟨rfl, hw⟩; obtain rfl := hw.symm; clear hw))
        go_ret2
        exact ⟨by rw [HD.out]; rfl, rfl⟩
      · have hne := bytes_ne (HN.out j h1 h8 hj)
        go_wp2_with (first | (go_at_call 254; refine (K _).mono ?_; rintro e w' ⟨rfl, hw⟩; obtain rfl := hw.symm; clear hw) | (go_at_call 218; refine F.mono ?_; rintro e w' ⟨rfl, hw⟩; obtain rfl := hw.symm; clear hw))
        go_round
        case rel => exact ⟨j + 1, by omega, by omega, by go_num, by omega⟩
        case measure => simp [intOf]; omega
    · have K := fun u => known_any (j : Int) u
      have hk : knB (j : Int) = false := by simp [knB]; omega
      rw [hk] at K
      have h0 : m = 0 := by omega
      subst h0
      go_wp2_with (first | (go_at_call 254; refine (K _).mono ?_; rintro e w' ⟨rfl, hw⟩; obtain rfl := hw.symm; clear hw))
      go_ret2
      exact ⟨rfl, rfl⟩

set_option maxHeartbeats 1000000 in
theorem typed_empty (s : ByteArray) (w : World) (h : s.toList = []) : Calls Tryz.prog 160 #[.string s] w fun e w' => e = .returned (.agg #[.int .i64 0, .int .i64 0, .string ⟨#[]⟩]) ∧ Below w.heap.size w w' := by
  go_enter Tryz.func160, Tryz.ntmps160
  go_wp2
  exact bodyPost_ret (v := .agg #[.int .i64 0, .int .i64 0, .string ⟨#[]⟩]) (by simp [results, Tryz.results160, go_sem]) rfl ⟨rfl, (Below.refl _ _).alloc (Nat.le_refl _) _⟩
set_option maxHeartbeats 2000000 in
theorem typed_quote (s : ByteArray) (w : World) (hne : ¬ s.toList = []) (R : ByteArray) (PF : ∀ u : World, Calls Tryz.prog 73 #[.string s, .string ⟨#[39]⟩] u fun e w' => e = .returned (.tuple #[.string R, .bool true]) ∧ w' = u) : Calls Tryz.prog 160 #[.string s] w fun e w' => e = .returned (.agg #[.int .i64 2, .int .i64 0, .string R]) ∧ Below w.heap.size w w' := by
  have hne2 : (s.toList == []) = false := by simpa using hne
  have HB0 : Hid (Below (w.alloc (.cells #[.int .i64 0, .int .i64 0, .string ⟨#[]⟩] 62)).heap.size (w.alloc (.cells #[.int .i64 0, .int .i64 0, .string ⟨#[]⟩] 62)) (w.alloc (.cells #[.int .i64 0, .int .i64 0, .string ⟨#[]⟩] 62))) := Below.refl _ _
  go_enter Tryz.func160, Tryz.ntmps160
  go_wp2_with (first | (go_at_call 73; refine (PF _).mono ?_; rintro e w' ⟨rfl, hw⟩; obtain rfl := hw.symm; clear hw) | (go_at_call 202; refine (words_any _ _).mono ?_; rintro e w1 ⟨rfl, hb⟩; have HB1 : Hid (Below (w.alloc (.cells #[.int .i64 0, .int .i64 0, .string ⟨#[]⟩] 62)).heap.size (w.alloc (.cells #[.int .i64 0, .int .i64 0, .string ⟨#[]⟩] 62)) w1) := bel_step HB0.out hb; obtain ⟨⟨c0, c1, c2⟩, f0, f1, f2⟩ := rescell HB1.out; clear hb))
  exact bodyPost_ret (v := .agg #[.int .i64 2, .int .i64 0, .string R]) (by simp [results, Tryz.results160, go_sem, c0, c1, c2]) rfl ⟨rfl, set3 (bel1 HB1.out)⟩
set_option maxHeartbeats 2000000 in
theorem typed_num (s : ByteArray) (w : World) (hne : ¬ s.toList = []) (R : ByteArray) (PF : ∀ u : World, Calls Tryz.prog 73 #[.string s, .string ⟨#[39]⟩] u fun e w' => e = .returned (.tuple #[.string R, .bool false]) ∧ w' = u) (v : Int) (PP : ∀ u : World, Calls Tryz.prog 203 #[.string s] u fun e w' => e = .returned (.tuple #[.int .i64 v, .bool true]) ∧ Below u.heap.size u w') (hg : gd v = true) : Calls Tryz.prog 160 #[.string s] w fun e w' => e = .returned (.agg #[.int .i64 1, .int .i64 v, .string ⟨#[]⟩]) ∧ Below w.heap.size w w' := by
  have hne2 : (s.toList == []) = false := by simpa using hne
  have HB0 : Hid (Below (w.alloc (.cells #[.int .i64 0, .int .i64 0, .string ⟨#[]⟩] 62)).heap.size (w.alloc (.cells #[.int .i64 0, .int .i64 0, .string ⟨#[]⟩] 62)) (w.alloc (.cells #[.int .i64 0, .int .i64 0, .string ⟨#[]⟩] 62))) := Below.refl _ _
  have OF := fun u => of_any v true u
  rw [show ofV v true = .agg #[.int .i64 1, .int .i64 v, .string ⟨#[]⟩] by simp [ofV, hg]] at OF
  go_enter Tryz.func160, Tryz.ntmps160
  go_wp2_with (first | (go_at_call 73; refine (PF _).mono ?_; rintro e w' ⟨rfl, hw⟩; obtain rfl := hw.symm; clear hw) | (go_at_call 203; refine (PP _).mono ?_; rintro e w1 ⟨rfl, hb⟩; have HB1 : Hid (Below (w.alloc (.cells #[.int .i64 0, .int .i64 0, .string ⟨#[]⟩] 62)).heap.size (w.alloc (.cells #[.int .i64 0, .int .i64 0, .string ⟨#[]⟩] 62)) w1) := bel_step HB0.out hb; obtain ⟨⟨c0, c1, c2⟩, f0, f1, f2⟩ := rescell HB1.out; clear hb) | (go_at_call 204; refine (OF _).mono ?_; rintro e w2 ⟨rfl, hb⟩; have HB2 : Hid (Below (w.alloc (.cells #[.int .i64 0, .int .i64 0, .string ⟨#[]⟩] 62)).heap.size (w.alloc (.cells #[.int .i64 0, .int .i64 0, .string ⟨#[]⟩] 62)) w2) := bel_step HB1.out hb; obtain ⟨⟨c0, c1, c2⟩, f0, f1, f2⟩ := rescell HB2.out; clear hb))
  exact bodyPost_ret (v := .agg #[.int .i64 1, .int .i64 v, .string ⟨#[]⟩]) (by simp [results, Tryz.results160, go_sem, c0, c1, c2]) rfl ⟨rfl, set3 (bel1 HB2.out)⟩
set_option maxHeartbeats 2000000 in
theorem typed_truth (s : ByteArray) (w : World) (hne : ¬ s.toList = []) (R : ByteArray) (PF : ∀ u : World, Calls Tryz.prog 73 #[.string s, .string ⟨#[39]⟩] u fun e w' => e = .returned (.tuple #[.string R, .bool false]) ∧ w' = u) (v : Int) (PP : ∀ u : World, Calls Tryz.prog 203 #[.string s] u fun e w' => e = .returned (.tuple #[.int .i64 v, .bool false]) ∧ Below u.heap.size u w') (b : Bool) (PT : ∀ u : World, Calls Tryz.prog 205 #[.string s] u fun e w' => e = .returned (.tuple #[.bool b, .bool true]) ∧ Below u.heap.size u w') : Calls Tryz.prog 160 #[.string s] w fun e w' => e = .returned (.agg #[.int .i64 3, .int .i64 (if b = true then 1 else 0), .string ⟨#[]⟩]) ∧ Below w.heap.size w w' := by
  have hne2 : (s.toList == []) = false := by simpa using hne
  have HB0 : Hid (Below (w.alloc (.cells #[.int .i64 0, .int .i64 0, .string ⟨#[]⟩] 62)).heap.size (w.alloc (.cells #[.int .i64 0, .int .i64 0, .string ⟨#[]⟩] 62)) (w.alloc (.cells #[.int .i64 0, .int .i64 0, .string ⟨#[]⟩] 62))) := Below.refl _ _
  have TV := fun u => tvalue_any b u
  generalize (if b = true then (1 : Int) else 0) = z at *
  go_enter Tryz.func160, Tryz.ntmps160
  go_wp2_with (first | (go_at_call 73; refine (PF _).mono ?_; rintro e w' ⟨rfl, hw⟩; obtain rfl := hw.symm; clear hw) | (go_at_call 203; refine (PP _).mono ?_; rintro e w1 ⟨rfl, hb⟩; have HB1 : Hid (Below (w.alloc (.cells #[.int .i64 0, .int .i64 0, .string ⟨#[]⟩] 62)).heap.size (w.alloc (.cells #[.int .i64 0, .int .i64 0, .string ⟨#[]⟩] 62)) w1) := bel_step HB0.out hb; obtain ⟨⟨c0, c1, c2⟩, f0, f1, f2⟩ := rescell HB1.out; clear hb) | (go_at_call 205; refine (PT _).mono ?_; rintro e w2 ⟨rfl, hb⟩; have HB2 : Hid (Below (w.alloc (.cells #[.int .i64 0, .int .i64 0, .string ⟨#[]⟩] 62)).heap.size (w.alloc (.cells #[.int .i64 0, .int .i64 0, .string ⟨#[]⟩] 62)) w2) := bel_step HB1.out hb; obtain ⟨⟨c0, c1, c2⟩, f0, f1, f2⟩ := rescell HB2.out; clear hb) | (go_at_call 206; refine (TV _).mono ?_; rintro e w3 ⟨rfl, hb⟩; have HB3 : Hid (Below (w.alloc (.cells #[.int .i64 0, .int .i64 0, .string ⟨#[]⟩] 62)).heap.size (w.alloc (.cells #[.int .i64 0, .int .i64 0, .string ⟨#[]⟩] 62)) w3) := bel_step HB2.out hb; obtain ⟨⟨c0, c1, c2⟩, f0, f1, f2⟩ := rescell HB3.out; clear hb))
  exact bodyPost_ret (v := .agg #[.int .i64 3, .int .i64 z, .string ⟨#[]⟩]) (by simp [results, Tryz.results160, go_sem, c0, c1, c2]) rfl ⟨rfl, set3 (bel1 HB3.out)⟩
set_option maxHeartbeats 2000000 in
theorem typed_fault (s : ByteArray) (w : World) (hne : ¬ s.toList = []) (R : ByteArray) (PF : ∀ u : World, Calls Tryz.prog 73 #[.string s, .string ⟨#[39]⟩] u fun e w' => e = .returned (.tuple #[.string R, .bool false]) ∧ w' = u) (v : Int) (PP : ∀ u : World, Calls Tryz.prog 203 #[.string s] u fun e w' => e = .returned (.tuple #[.int .i64 v, .bool false]) ∧ Below u.heap.size u w') (b : Bool) (PT : ∀ u : World, Calls Tryz.prog 205 #[.string s] u fun e w' => e = .returned (.tuple #[.bool b, .bool false]) ∧ Below u.heap.size u w') (f : Int) (PL : ∀ u : World, Below (w.alloc (.cells #[.int .i64 0, .int .i64 0, .string ⟨#[]⟩] 62)).heap.size (w.alloc (.cells #[.int .i64 0, .int .i64 0, .string ⟨#[]⟩] 62)) u → Calls Tryz.prog 207 #[.string s] u fun e w' => e = .returned (.tuple #[.int .i64 f, .bool true]) ∧ w' = u) (hk : knB f = true) : Calls Tryz.prog 160 #[.string s] w fun e w' => e = .returned (.agg #[.int .i64 4, .int .i64 f, .string ⟨#[]⟩]) ∧ Below w.heap.size w w' := by
  have hne2 : (s.toList == []) = false := by simpa using hne
  have HB0 : Hid (Below (w.alloc (.cells #[.int .i64 0, .int .i64 0, .string ⟨#[]⟩] 62)).heap.size (w.alloc (.cells #[.int .i64 0, .int .i64 0, .string ⟨#[]⟩] 62)) (w.alloc (.cells #[.int .i64 0, .int .i64 0, .string ⟨#[]⟩] 62))) := Below.refl _ _
  have BD := fun u => bad_any f u
  rw [show badN f = f by simp [badN, hk]] at BD
  go_enter Tryz.func160, Tryz.ntmps160
  go_wp2_with (first | (go_at_call 73; refine (PF _).mono ?_; rintro e w' ⟨rfl, hw⟩; obtain rfl := hw.symm; clear hw) | (go_at_call 203; refine (PP _).mono ?_; rintro e w1 ⟨rfl, hb⟩; have HB1 : Hid (Below (w.alloc (.cells #[.int .i64 0, .int .i64 0, .string ⟨#[]⟩] 62)).heap.size (w.alloc (.cells #[.int .i64 0, .int .i64 0, .string ⟨#[]⟩] 62)) w1) := bel_step HB0.out hb; obtain ⟨⟨c0, c1, c2⟩, f0, f1, f2⟩ := rescell HB1.out; clear hb) | (go_at_call 205; refine (PT _).mono ?_; rintro e w2 ⟨rfl, hb⟩; have HB2 : Hid (Below (w.alloc (.cells #[.int .i64 0, .int .i64 0, .string ⟨#[]⟩] 62)).heap.size (w.alloc (.cells #[.int .i64 0, .int .i64 0, .string ⟨#[]⟩] 62)) w2) := bel_step HB1.out hb; obtain ⟨⟨c0, c1, c2⟩, f0, f1, f2⟩ := rescell HB2.out; clear hb) | (go_at_call 207; refine (PL _ HB2.out).mono ?_; rintro e w' ⟨rfl, hw⟩; obtain rfl := hw.symm; clear hw) | (go_at_call 208; refine (BD _).mono ?_; rintro e w3 ⟨rfl, hb⟩; have HB3 : Hid (Below (w.alloc (.cells #[.int .i64 0, .int .i64 0, .string ⟨#[]⟩] 62)).heap.size (w.alloc (.cells #[.int .i64 0, .int .i64 0, .string ⟨#[]⟩] 62)) w3) := bel_step HB2.out hb; obtain ⟨⟨c0, c1, c2⟩, f0, f1, f2⟩ := rescell HB3.out; clear hb))
  exact bodyPost_ret (v := .agg #[.int .i64 4, .int .i64 f, .string ⟨#[]⟩]) (by simp [results, Tryz.results160, go_sem, c0, c1, c2]) rfl ⟨rfl, set3 (bel1 HB3.out)⟩
set_option maxHeartbeats 2000000 in
theorem typed_text (s : ByteArray) (w : World) (hne : ¬ s.toList = []) (R : ByteArray) (PF : ∀ u : World, Calls Tryz.prog 73 #[.string s, .string ⟨#[39]⟩] u fun e w' => e = .returned (.tuple #[.string R, .bool false]) ∧ w' = u) (v : Int) (PP : ∀ u : World, Calls Tryz.prog 203 #[.string s] u fun e w' => e = .returned (.tuple #[.int .i64 v, .bool false]) ∧ Below u.heap.size u w') (b : Bool) (PT : ∀ u : World, Calls Tryz.prog 205 #[.string s] u fun e w' => e = .returned (.tuple #[.bool b, .bool false]) ∧ Below u.heap.size u w') (f : Int) (PL : ∀ u : World, Below (w.alloc (.cells #[.int .i64 0, .int .i64 0, .string ⟨#[]⟩] 62)).heap.size (w.alloc (.cells #[.int .i64 0, .int .i64 0, .string ⟨#[]⟩] 62)) u → Calls Tryz.prog 207 #[.string s] u fun e w' => e = .returned (.tuple #[.int .i64 f, .bool false]) ∧ w' = u) : Calls Tryz.prog 160 #[.string s] w fun e w' => e = .returned (.agg #[.int .i64 2, .int .i64 0, .string s]) ∧ Below w.heap.size w w' := by
  have hne2 : (s.toList == []) = false := by simpa using hne
  have HB0 : Hid (Below (w.alloc (.cells #[.int .i64 0, .int .i64 0, .string ⟨#[]⟩] 62)).heap.size (w.alloc (.cells #[.int .i64 0, .int .i64 0, .string ⟨#[]⟩] 62)) (w.alloc (.cells #[.int .i64 0, .int .i64 0, .string ⟨#[]⟩] 62))) := Below.refl _ _
  go_enter Tryz.func160, Tryz.ntmps160
  go_wp2_with (first | (go_at_call 73; refine (PF _).mono ?_; rintro e w' ⟨rfl, hw⟩; obtain rfl := hw.symm; clear hw) | (go_at_call 203; refine (PP _).mono ?_; rintro e w1 ⟨rfl, hb⟩; have HB1 : Hid (Below (w.alloc (.cells #[.int .i64 0, .int .i64 0, .string ⟨#[]⟩] 62)).heap.size (w.alloc (.cells #[.int .i64 0, .int .i64 0, .string ⟨#[]⟩] 62)) w1) := bel_step HB0.out hb; obtain ⟨⟨c0, c1, c2⟩, f0, f1, f2⟩ := rescell HB1.out; clear hb) | (go_at_call 205; refine (PT _).mono ?_; rintro e w2 ⟨rfl, hb⟩; have HB2 : Hid (Below (w.alloc (.cells #[.int .i64 0, .int .i64 0, .string ⟨#[]⟩] 62)).heap.size (w.alloc (.cells #[.int .i64 0, .int .i64 0, .string ⟨#[]⟩] 62)) w2) := bel_step HB1.out hb; obtain ⟨⟨c0, c1, c2⟩, f0, f1, f2⟩ := rescell HB2.out; clear hb) | (go_at_call 207; refine (PL _ HB2.out).mono ?_; rintro e w' ⟨rfl, hw⟩; obtain rfl := hw.symm; clear hw) | (go_at_call 202; refine (words_any _ _).mono ?_; rintro e w3 ⟨rfl, hb⟩; have HB3 : Hid (Below (w.alloc (.cells #[.int .i64 0, .int .i64 0, .string ⟨#[]⟩] 62)).heap.size (w.alloc (.cells #[.int .i64 0, .int .i64 0, .string ⟨#[]⟩] 62)) w3) := bel_step HB2.out hb; obtain ⟨⟨c0, c1, c2⟩, f0, f1, f2⟩ := rescell HB3.out; clear hb))
  exact bodyPost_ret (v := .agg #[.int .i64 2, .int .i64 0, .string s]) (by simp [results, Tryz.results160, go_sem, c0, c1, c2]) rfl ⟨rfl, set3 (bel1 HB3.out)⟩
end Go.Proofs.YtpafokmkcblcnaaGreatDoor

namespace Go.Proofs.YtpafokmkcblcnaaGreatDoor
open Go.RowKit
set_option maxRecDepth 100000

structure Tabs (w : World) : Prop where
  p : PTab w
  f : FTab w
theorem Tabs.below {w w' : World} (h : Tabs w) (hb : Below w.heap.size w w') : Tabs w' := ⟨h.p.below hb, h.f.below hb⟩
abbrev val (k n : Int) (s : ByteArray) : Value := .agg #[.int .i64 k, .int .i64 n, .string s]
theorem k_cases (k : Int) : k = 0 ∨ k = 1 ∨ k = 2 ∨ k = 3 ∨ k = 4 ∨ (¬ k = 0 ∧ ¬ k = 1 ∧ ¬ k = 2 ∧ ¬ k = 3 ∧ ¬ k = 4) := by omega
theorem beq_no {k c : Int} (h : ¬ k = c) : (k == c) = false := by simpa using h
theorem parse_s (s : ByteArray) (hs : s.size ≤ 9223372036854775807) (u : World) : Calls Tryz.prog 203 #[.string s] u fun e w' => e = .returned (.tuple #[.int .i64 (parseF s.data.toList).1, .bool (parseF s.data.toList).2]) ∧ Below u.heap.size u w' := by
  have := parse_any s.data.toList u (by rw [size_list]; exact hs)
  rw [mk_list] at this
  exact this
theorem parse_gd (l : List UInt8) : gd (parseF l).1 = true := by unfold parseF; split <;> first | exact ans_gd _ | rfl

def textF (k n : Int) (s : ByteArray) : ByteArray :=
  if k = 1 then ⟨(printF n).toArray⟩ else if k = 2 then s else if k = 3 then (if (n != 0) = true then ⟨#[84, 82, 85, 69]⟩ else ⟨#[70, 65, 76, 83, 69]⟩) else if k = 4 then fnB n else ⟨#[]⟩
def typedF (s : ByteArray) : Int × Int × ByteArray :=
  if s.toList = [] then (0, 0, ⟨#[]⟩) else if s.data.toList.head? = some 39 then (2, 0, ⟨(s.data.toList.drop 1).toArray⟩)
  else if (parseF s.data.toList).2 = true then (1, (parseF s.data.toList).1, ⟨#[]⟩)
  else if (truF s).2 = true then (3, if (truF s).1 = true then 1 else 0, ⟨#[]⟩)
  else if fltN s = 0 then (2, 0, s) else (4, (fltN s : Nat), ⟨#[]⟩)

theorem vtext_any (k n : Int) (s : ByteArray) (hn : In64 n) (w : World) (T : Tabs w) :
    Calls Tryz.prog 174 #[val k n s] w fun e w' => e = .returned (.string (textF k n s)) ∧ Below w.heap.size w w' := by
  rcases k_cases k with rfl | rfl | rfl | rfl | rfl | ⟨h0, h1, h2, h3, h4⟩
  · exact vtext_blank n s w
  · exact vtext_num n s w _ (fun u hu => print_any n hn u (T.below hu).p)
  · exact vtext_str n s w
  · exact vtext_bool n s w _ (fun u => kind_bool n s u)
  · exact vtext_bad n s w _ (fun u hu => fname_any n u (T.below hu).f)
  · have e : textF k n s = ⟨#[]⟩ := by simp [textF, h1, h2, h3, h4]
    rw [e]
    exact vtext_none k n s w (beq_no h0) (beq_no h1) (beq_no h2) (beq_no h3) (beq_no h4)
theorem cut39 (l : List UInt8) : Lib.hasPrefix l [39] = decide (l.head? = some 39) ∧ Lib.trimPrefix l [39] = if l.head? = some 39 then l.drop 1 else l := by
  cases l with
  | nil => exact ⟨rfl, rfl⟩
  | cons b l =>
    have h : Lib.hasPrefix (b :: l) [39] = decide ((b :: l).head? = some 39) := by
      unfold Lib.hasPrefix
      simp [List.isPrefixOf]
      exact BEq.comm
    refine ⟨h, ?_⟩
    unfold Lib.trimPrefix
    rw [h]
    by_cases e : (b :: l).head? = some 39
    · rw [if_pos e, if_pos (by simpa using e)]; rfl
    · rw [if_neg e, if_neg (by simpa using e)]
theorem cutp_s (s : ByteArray) (u : World) : Calls Tryz.prog 73 #[.string s, .string ⟨#[39]⟩] u fun e w' => e = .returned (.tuple #[.string ⟨(if s.data.toList.head? = some 39 then s.data.toList.drop 1 else s.data.toList).toArray⟩, .bool (decide (s.data.toList.head? = some 39))]) ∧ w' = u := by
  have h := Tryz.strings_CutPrefix s ⟨#[39]⟩ u
  rw [show (⟨#[39]⟩ : ByteArray).data.toList = [39] from rfl, (cut39 _).1, (cut39 _).2] at h
  exact h
theorem typed_any (s : ByteArray) (hs : s.size ≤ 9223372036854775807) (w : World) (T : Tabs w) :
    Calls Tryz.prog 160 #[.string s] w fun e w' => e = .returned (val (typedF s).1 (typedF s).2.1 (typedF s).2.2) ∧ Below w.heap.size w w' := by
  have PF := fun u => cutp_s s u
  have PP := fun u => parse_s s hs u
  have PT := fun u => ptruth_any s hs u
  have PL : ∀ u : World, Below (w.alloc (.cells #[.int .i64 0, .int .i64 0, .string ⟨#[]⟩] 62)).heap.size (w.alloc (.cells #[.int .i64 0, .int .i64 0, .string ⟨#[]⟩] 62)) u → _ := fun u hu => pfault_any s u (T.below (bel1 hu)).f
  unfold typedF
  by_cases h0 : s.toList = []
  · rw [if_pos h0]; exact typed_empty s w h0
  · rw [if_neg h0]
    by_cases h1 : s.data.toList.head? = some 39
    · rw [if_pos h1]
      simp only [h1, if_true, decide_true] at PF
      exact typed_quote s w h0 _ PF
    · rw [if_neg h1]
      simp only [h1, if_false, decide_false] at PF
      by_cases h2 : (parseF s.data.toList).2 = true
      · rw [if_pos h2]
        rw [h2] at PP
        exact typed_num s w h0 _ PF _ PP (parse_gd _)
      · rw [if_neg h2]
        rw [Bool.not_eq_true] at h2
        rw [h2] at PP
        by_cases h3 : (truF s).2 = true
        · rw [if_pos h3]
          rw [h3] at PT
          exact typed_truth s w h0 _ PF _ PP _ PT
        · rw [if_neg h3]
          rw [Bool.not_eq_true] at h3
          rw [h3] at PT
          by_cases h4 : fltN s = 0
          · rw [if_pos h4]
            simp only [h4, ne_eq, not_true_eq_false, decide_false] at PL
            exact typed_text s w h0 _ PF _ PP _ PT _ PL
          · rw [if_neg h4]
            simp only [h4, ne_eq, not_false_eq_true, decide_true] at PL
            have := flt_le s
            exact typed_fault s w h0 _ PF _ PP _ PT _ PL (kn_nat _ (by omega) (by omega))
end Go.Proofs.YtpafokmkcblcnaaGreatDoor
