/- What a text is typed to, of the reference. -/
import Derived.Test.YtelpllilepkjmaaDoorVTyped
namespace Go.Proofs.YtelpllilepkjmaaDoor
open Go.RowKit
set_option maxRecDepth 100000
set_option linter.unusedVariables false
set_option linter.unusedSimpArgs false
set_option maxHeartbeats 1000000 in
theorem rtyped_empty (s : ByteArray) (w : World) (h : s.toList = []) : Calls Tryd.prog 20 #[.string s] w fun e w' => e = .returned (.agg #[.int .i64 0, .int .i64 0, .string ⟨#[]⟩]) ∧ Below w.heap.size w w' := by
  go_enter Tryd.func20, Tryd.ntmps20
  go_wp2
  exact bodyPost_ret (v := .agg #[.int .i64 0, .int .i64 0, .string ⟨#[]⟩]) (by simp [results, Tryd.results20, go_sem]) rfl ⟨rfl, (Below.refl _ _).alloc (Nat.le_refl _) _⟩
set_option maxHeartbeats 2000000 in
theorem rtyped_quote (s : ByteArray) (w : World) (hne : ¬ s.toList = []) (h0 : 0 < s.size) (hs : s.size ≤ 9223372036854775807) (hq : (s[0]'h0).toNat = 39) : Calls Tryd.prog 20 #[.string s] w fun e w' => e = .returned (.agg #[.int .i64 2, .int .i64 0, .string (s.extract 1 s.size)]) ∧ Below w.heap.size w w' := by
  have hne2 : (s.toList == []) = false := by simpa using hne
  have h0' : (0 : Int) < (s.size : Int) := by omega
  go_enter Tryd.func20, Tryd.ntmps20
  go_wp2
  exact bodyPost_ret (v := .agg #[.int .i64 2, .int .i64 0, .string (s.extract 1 s.size)]) (by simp [results, Tryd.results20, go_sem]) rfl ⟨rfl, (Below.refl _ _).alloc (Nat.le_refl _) _⟩
set_option maxHeartbeats 2000000 in
theorem rtyped_num (s : ByteArray) (w : World) (hne : ¬ s.toList = []) (h0 : 0 < s.size) (hs : s.size ≤ 9223372036854775807) (hq : (((s[0]'h0).toNat : Int) == 39) = false) (v : Int) (PP : ∀ u : World, Calls Tryd.prog 38 #[.string s] u fun e w' => e = .returned (.tuple #[.int .i64 v, .bool true]) ∧ Below u.heap.size u w') : Calls Tryd.prog 20 #[.string s] w fun e w' => e = .returned (.agg #[.int .i64 1, .int .i64 v, .string ⟨#[]⟩]) ∧ Below w.heap.size w w' := by
  have hne2 : (s.toList == []) = false := by simpa using hne
  have h0' : (0 : Int) < (s.size : Int) := by omega
  have HB0 : Hid (Below (w.alloc (.cells #[.int .i64 0, .int .i64 0, .string ⟨#[]⟩] 23)).heap.size (w.alloc (.cells #[.int .i64 0, .int .i64 0, .string ⟨#[]⟩] 23)) (w.alloc (.cells #[.int .i64 0, .int .i64 0, .string ⟨#[]⟩] 23))) := Below.refl _ _
  go_enter Tryd.func20, Tryd.ntmps20
  go_wp2_with (first | (go_at_call 38; refine (PP _).mono ?_; rintro e w1 ⟨rfl, hb⟩; have HB1 : Hid (Below (w.alloc (.cells #[.int .i64 0, .int .i64 0, .string ⟨#[]⟩] 23)).heap.size (w.alloc (.cells #[.int .i64 0, .int .i64 0, .string ⟨#[]⟩] 23)) w1) := bel_step HB0.out hb; obtain ⟨⟨c0, c1, c2⟩, f0, f1, f2⟩ := rescell HB1.out; clear hb))
  exact bodyPost_ret (v := .agg #[.int .i64 1, .int .i64 v, .string ⟨#[]⟩]) (by simp [results, Tryd.results20, go_sem, c0, c1, c2]) rfl ⟨rfl, set3 (bel1 HB1.out)⟩
set_option maxHeartbeats 2000000 in
theorem rtyped_truth (s : ByteArray) (w : World) (hne : ¬ s.toList = []) (h0 : 0 < s.size) (hs : s.size ≤ 9223372036854775807) (hq : (((s[0]'h0).toNat : Int) == 39) = false) (v : Int) (PP : ∀ u : World, Calls Tryd.prog 38 #[.string s] u fun e w' => e = .returned (.tuple #[.int .i64 v, .bool false]) ∧ Below u.heap.size u w') (t : Int) (PT : ∀ u : World, Calls Tryd.prog 40 #[.string s] u fun e w' => e = .returned (.int .i64 t) ∧ Below u.heap.size u w') (ht : 0 ≤ t) : Calls Tryd.prog 20 #[.string s] w fun e w' => e = .returned (.agg #[.int .i64 3, .int .i64 t, .string ⟨#[]⟩]) ∧ Below w.heap.size w w' := by
  have hne2 : (s.toList == []) = false := by simpa using hne
  have h0' : (0 : Int) < (s.size : Int) := by omega
  have HB0 : Hid (Below (w.alloc (.cells #[.int .i64 0, .int .i64 0, .string ⟨#[]⟩] 23)).heap.size (w.alloc (.cells #[.int .i64 0, .int .i64 0, .string ⟨#[]⟩] 23)) (w.alloc (.cells #[.int .i64 0, .int .i64 0, .string ⟨#[]⟩] 23))) := Below.refl _ _
  go_enter Tryd.func20, Tryd.ntmps20
  go_wp2_with (first | (go_at_call 38; refine (PP _).mono ?_; rintro e w1 ⟨rfl, hb⟩; have HB1 : Hid (Below (w.alloc (.cells #[.int .i64 0, .int .i64 0, .string ⟨#[]⟩] 23)).heap.size (w.alloc (.cells #[.int .i64 0, .int .i64 0, .string ⟨#[]⟩] 23)) w1) := bel_step HB0.out hb; obtain ⟨⟨c0, c1, c2⟩, f0, f1, f2⟩ := rescell HB1.out; clear hb) | (go_at_call 40; refine (PT _).mono ?_; rintro e w2 ⟨rfl, hb⟩; have HB2 : Hid (Below (w.alloc (.cells #[.int .i64 0, .int .i64 0, .string ⟨#[]⟩] 23)).heap.size (w.alloc (.cells #[.int .i64 0, .int .i64 0, .string ⟨#[]⟩] 23)) w2) := bel_step HB1.out hb; obtain ⟨⟨c0, c1, c2⟩, f0, f1, f2⟩ := rescell HB2.out; clear hb))
  exact bodyPost_ret (v := .agg #[.int .i64 3, .int .i64 t, .string ⟨#[]⟩]) (by simp [results, Tryd.results20, go_sem, c0, c1, c2]) rfl ⟨rfl, set3 (bel1 HB2.out)⟩
set_option maxHeartbeats 4000000 in
theorem rtyped_rest (s : ByteArray) (w : World) (hne : ¬ s.toList = []) (h0 : 0 < s.size) (hs : s.size ≤ 9223372036854775807) (hq : (((s[0]'h0).toNat : Int) == 39) = false) (v : Int) (PP : ∀ u : World, Calls Tryd.prog 38 #[.string s] u fun e w' => e = .returned (.tuple #[.int .i64 v, .bool false]) ∧ Below u.heap.size u w') (t : Int) (PT : ∀ u : World, Calls Tryd.prog 40 #[.string s] u fun e w' => e = .returned (.int .i64 t) ∧ Below u.heap.size u w') (ht : t < 0) : Calls Tryd.prog 20 #[.string s] w fun e w' => e = .returned (if fltN s = 0 then .agg #[.int .i64 2, .int .i64 0, .string s] else .agg #[.int .i64 4, .int .i64 (fltN s : Nat), .string ⟨#[]⟩]) ∧ Below w.heap.size w w' := by
  have hne2 : (s.toList == []) = false := by simpa using hne
  have h0' : (0 : Int) < (s.size : Int) := by omega
  have ht' : ¬ 0 ≤ t := by omega
  have hle := flt_le s
  have HI : Hid (fltN s ≠ 0 → s = fnm (fltN s)) := flt_is s
  have HN : Hid (∀ j : Nat, 1 ≤ j → j ≤ 8 → fltN s ≠ j → fnm j ≠ s) := fun j => flt_not s j
  generalize hX : (if fltN s = 0 then Value.agg #[.int .i64 2, .int .i64 0, .string s] else .agg #[.int .i64 4, .int .i64 (fltN s : Nat), .string ⟨#[]⟩]) = X
  have HX : Hid _ := hX
  clear hX
  generalize fltN s = m at *
  have HB0 : Hid (Below (w.alloc (.cells #[.int .i64 0, .int .i64 0, .string ⟨#[]⟩] 23)).heap.size (w.alloc (.cells #[.int .i64 0, .int .i64 0, .string ⟨#[]⟩] 23)) (w.alloc (.cells #[.int .i64 0, .int .i64 0, .string ⟨#[]⟩] 23))) := Below.refl _ _
  go_enter Tryd.func20, Tryd.ntmps20
  go_wp2_with (first | (go_at_call 38; refine (PP _).mono ?_; rintro e w1 ⟨rfl, hb⟩; have HB1 : Hid (Below (w.alloc (.cells #[.int .i64 0, .int .i64 0, .string ⟨#[]⟩] 23)).heap.size (w.alloc (.cells #[.int .i64 0, .int .i64 0, .string ⟨#[]⟩] 23)) w1) := bel_step HB0.out hb; obtain ⟨⟨c0, c1, c2⟩, f0, f1, f2⟩ := rescell HB1.out; clear hb) | (go_at_call 40; refine (PT _).mono ?_; rintro e w2 ⟨rfl, hb⟩; have HB2 : Hid (Below (w.alloc (.cells #[.int .i64 0, .int .i64 0, .string ⟨#[]⟩] 23)).heap.size (w.alloc (.cells #[.int .i64 0, .int .i64 0, .string ⟨#[]⟩] 23)) w2) := bel_step HB1.out hb; obtain ⟨⟨c0, c1, c2⟩, f0, f1, f2⟩ := rescell HB2.out; clear hb) | (go_at_call 48; refine (names_any _).mono ?_; rintro e w3 ⟨rfl, hb⟩; have HB3 : Hid (Below (w.alloc (.cells #[.int .i64 0, .int .i64 0, .string ⟨#[]⟩] 23)).heap.size (w.alloc (.cells #[.int .i64 0, .int .i64 0, .string ⟨#[]⟩] 23)) w3) := bel_step HB2.out hb; obtain ⟨⟨c0, c1, c2⟩, f0, f1, f2⟩ := rescell HB3.out; clear hb))
  go_loop [32] (fun i => ∃ j : Nat, j ≤ 9 ∧ i = .int .i64 j ∧ (m = 0 ∨ j ≤ m)) (fun i => 9 - (intOf i).toNat)
  case atStart => exact ⟨0, by omega, rfl, by omega⟩
  case round =>
    obtain ⟨j, h9, rfl, hm⟩ := hrel
    by_cases h8 : j < 9
    · have IX := index_names j h8
      by_cases h1 : 1 ≤ j
      · by_cases hj : m = j
        · subst hj
          have hs1 := HI.out (by omega)
          have hX := HX.out
          rw [if_neg (by omega)] at hX
          subst hX
          have IX2 : ∀ W : World, (Instr.index 61 (.agg namesV) (.int .i64 (m : Int))).run Tryd.prog W = .ok (.string s) W := fun W => by rw [IX W, ← hs1]
          clear hm hs1 IX
          go_wp2
          exact bodyPost_ret (v := .agg #[.int .i64 4, .int .i64 m, .string ⟨#[]⟩]) (by simp [results, Tryd.results20, go_sem, c0, c1, c2]) rfl ⟨rfl, set3 (bel1 HB3.out)⟩
        · have hne3 := bytes_ne (HN.out j h1 (by omega) hj)
          go_wp2
          go_round
          case rel => exact ⟨j + 1, by omega, by go_num, by omega⟩
          case measure => simp [intOf]; omega
      · have g : ¬ (0 : Int) < (j : Int) := by omega
        have hm2 : m = 0 ∨ j + 1 ≤ m := by omega
        go_wp2
        go_round
        case rel => exact ⟨j + 1, by omega, by go_num, hm2⟩
        case measure => simp [intOf]; omega
    · have h0 : m = 0 := by omega
      have hX := HX.out
      rw [if_pos h0] at hX
      subst hX
      go_wp2
      exact bodyPost_ret (v := .agg #[.int .i64 2, .int .i64 0, .string s]) (by simp [results, Tryd.results20, go_sem, c0, c1, c2]) rfl ⟨rfl, set3 (bel1 HB3.out)⟩
end Go.Proofs.YtelpllilepkjmaaDoor
