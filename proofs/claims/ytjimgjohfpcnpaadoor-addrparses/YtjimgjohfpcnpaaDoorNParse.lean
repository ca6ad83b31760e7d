/- The contract of Parse. -/
import Derived.Test.YtjimgjohfpcnpaaDoorNCut
namespace Go.Proofs.YtjimgjohfpcnpaaDoor
open Go.RowKit
set_option linter.unusedSimpArgs false
set_option linter.unusedVariables false
set_option maxRecDepth 100000

/-- A text, as a value. -/
def str (l : List UInt8) : Value := .string ⟨l.toArray⟩
theorem size_mk (l : List UInt8) : (⟨l.toArray⟩ : ByteArray).size = l.length := by
  show l.toArray.size = _
  simp
theorem prefix_str (l : List UInt8) (w : World) : Calls Tryd.prog 28 #[.string ⟨l.toArray⟩, .string ⟨#[45]⟩] w fun e w' => e = .returned (.tuple #[.string ⟨(body l).toArray⟩, .bool (dash l)]) ∧ w' = w := prefix_any ⟨l.toArray⟩ w
theorem cut_str (l : List UInt8) (w : World) (hl : l.length ≤ 9223372036854775807) : Calls Tryd.prog 37 #[.string ⟨l.toArray⟩, .string ⟨#[46]⟩] w fun e w' => e = .returned (.tuple #[.string ⟨(fstP l).toArray⟩, .string ⟨(sndP l).toArray⟩, .bool (hasP l)]) ∧ Below w.heap.size w w' :=
  cut_any ⟨l.toArray⟩ w (by rw [size_mk]; exact hl)
theorem count_str (l : List UInt8) (m : Nat) (hm : m ≤ 12) (w : World) (hl : l.length ≤ 9223372036854775807) : Calls Tryd.prog 86 #[.string ⟨l.toArray⟩, .int .i64 m] w fun e w' => e = .returned (two (countF l m)) ∧ Below w.heap.size w w' :=
  count_any ⟨l.toArray⟩ m hm w (by rw [size_mk]; exact hl)
theorem body_len (l : List UInt8) : (body l).length ≤ l.length := by unfold body; split <;> simp
theorem fst_len (l : List UInt8) : (fstP l).length ≤ l.length := by unfold fstP; exact (List.takeWhile_sublist _).length_le
theorem snd_len (l : List UInt8) : (sndP l).length ≤ l.length := by
  unfold sndP
  have := (List.dropWhile_sublist (l := l) (fun x => x != 46)).length_le
  simp; omega
theorem digs_iff (l : List UInt8) (a b : Nat) : digs l a b = true ↔ l.all isD = true ∧ a ≤ l.length ∧ l.length ≤ b := by
  unfold digs
  simp only [Bool.and_eq_true, decide_eq_true_eq]
  constructor
  · rintro ⟨⟨h1, h2⟩, h3⟩; exact ⟨h1, h2, h3⟩
  · rintro ⟨h1, h2, h3⟩; exact ⟨⟨h1, h2⟩, h3⟩
theorem count_yes {l : List UInt8} {m : Nat} (h : digs l 1 m = true) : countF l m = (((numD l : Nat) : Int), true) := if_pos h
theorem count_no {l : List UInt8} {m : Nat} (h : ¬ digs l 1 m = true) : countF l m = (0, false) := if_neg h

set_option maxHeartbeats 1000000 in
theorem parse_no1 {A0 A1 A2 A3 : ByteArray} {d p : Bool} {w : World}
    (PF : ∀ u : World, Calls Tryd.prog 28 #[.string A0, .string ⟨#[45]⟩] u fun e w' => e = .returned (.tuple #[.string A1, .bool d]) ∧ w' = u)
    (CU : ∀ u : World, Calls Tryd.prog 37 #[.string A1, .string ⟨#[46]⟩] u fun e w' => e = .returned (.tuple #[.string A2, .string A3, .bool p]) ∧ Below u.heap.size u w')
    (C1 : ∀ u : World, Calls Tryd.prog 86 #[.string A2, .int .i64 12] u fun e w' => e = .returned (.tuple #[.int .i64 0, .bool false]) ∧ Below u.heap.size u w')  :
    Calls Tryd.prog 70 #[.string A0] w fun e w' => e = .returned (two (0, false)) ∧ Below w.heap.size w w' := by
  go_enter Tryd.func70, Tryd.ntmps70
  go_wp2_with fail
  refine (PF _).mono ?_
  rintro e w' ⟨rfl, hw⟩
  obtain rfl := hw.symm
  clear hw
  go_wp2_with fail
  refine (CU _).mono ?_
  rintro e w1 ⟨rfl, hb1⟩
  go_wp2_with fail
  refine (C1 _).mono ?_
  rintro e w2 ⟨rfl, hb2⟩
  go_wp2
  go_ret2
  exact ⟨rfl, hb1.trans (hb2.mono hb1.size)⟩

set_option maxHeartbeats 1000000 in
theorem parse_whole {A0 A1 A2 A3 : ByteArray} {d : Bool} {W : Nat} {w : World}
    (PF : ∀ u : World, Calls Tryd.prog 28 #[.string A0, .string ⟨#[45]⟩] u fun e w' => e = .returned (.tuple #[.string A1, .bool d]) ∧ w' = u)
    (CU : ∀ u : World, Calls Tryd.prog 37 #[.string A1, .string ⟨#[46]⟩] u fun e w' => e = .returned (.tuple #[.string A2, .string A3, .bool false]) ∧ Below u.heap.size u w')
    (C1 : ∀ u : World, Calls Tryd.prog 86 #[.string A2, .int .i64 12] u fun e w' => e = .returned (.tuple #[.int .i64 (W : Nat), .bool true]) ∧ Below u.heap.size u w')
    (hW : W < 1000000000000) :
    Calls Tryd.prog 70 #[.string A0] w fun e w' => e = .returned (two (ans (sgnI ((W : Int) * 10000) d))) ∧ Below w.heap.size w w' := by
  go_enter Tryd.func70, Tryd.ntmps70
  go_wp2_with fail
  refine (PF _).mono ?_
  rintro e w' ⟨rfl, hw⟩
  obtain rfl := hw.symm
  clear hw
  go_wp2_with fail
  refine (CU _).mono ?_
  rintro e w1 ⟨rfl, hb1⟩
  go_wp2_with fail
  refine (C1 _).mono ?_
  rintro e w2 ⟨rfl, hb2⟩
  go_wp2_with fail
  refine (signed_any _ _ (by omega) (by omega) _).mono ?_
  rintro e w' ⟨rfl, hw⟩
  obtain rfl := hw.symm
  clear hw
  go_wp2_with fail
  refine (answer_any _ _).mono ?_
  rintro e w' ⟨rfl, hw⟩
  obtain rfl := hw.symm
  clear hw
  unfold two
  go_wp2
  go_ret2
  exact ⟨rfl, hb1.trans (hb2.mono hb1.size)⟩

set_option maxHeartbeats 1000000 in
theorem parse_no2 {A0 A1 A2 A3 : ByteArray} {d : Bool} {W : Nat} {w : World}
    (PF : ∀ u : World, Calls Tryd.prog 28 #[.string A0, .string ⟨#[45]⟩] u fun e w' => e = .returned (.tuple #[.string A1, .bool d]) ∧ w' = u)
    (CU : ∀ u : World, Calls Tryd.prog 37 #[.string A1, .string ⟨#[46]⟩] u fun e w' => e = .returned (.tuple #[.string A2, .string A3, .bool true]) ∧ Below u.heap.size u w')
    (C1 : ∀ u : World, Calls Tryd.prog 86 #[.string A2, .int .i64 12] u fun e w' => e = .returned (.tuple #[.int .i64 (W : Nat), .bool true]) ∧ Below u.heap.size u w')
    (C2 : ∀ u : World, Calls Tryd.prog 86 #[.string A3, .int .i64 4] u fun e w' => e = .returned (.tuple #[.int .i64 0, .bool false]) ∧ Below u.heap.size u w')  :
    Calls Tryd.prog 70 #[.string A0] w fun e w' => e = .returned (two (0, false)) ∧ Below w.heap.size w w' := by
  go_enter Tryd.func70, Tryd.ntmps70
  go_wp2_with fail
  refine (PF _).mono ?_
  rintro e w' ⟨rfl, hw⟩
  obtain rfl := hw.symm
  clear hw
  go_wp2_with fail
  refine (CU _).mono ?_
  rintro e w1 ⟨rfl, hb1⟩
  go_wp2_with fail
  refine (C1 _).mono ?_
  rintro e w2 ⟨rfl, hb2⟩
  go_wp2_with fail
  refine (C2 _).mono ?_
  rintro e w3 ⟨rfl, hb3⟩
  go_wp2
  go_ret2
  exact ⟨rfl, (hb1.trans (hb2.mono hb1.size)).trans (hb3.mono (Nat.le_trans hb1.size hb2.size))⟩

set_option maxHeartbeats 1000000 in
theorem parse_point {A0 A1 A2 A3 : ByteArray} {d : Bool} {W R : Nat} {T : Int} {w : World}
    (PF : ∀ u : World, Calls Tryd.prog 28 #[.string A0, .string ⟨#[45]⟩] u fun e w' => e = .returned (.tuple #[.string A1, .bool d]) ∧ w' = u)
    (CU : ∀ u : World, Calls Tryd.prog 37 #[.string A1, .string ⟨#[46]⟩] u fun e w' => e = .returned (.tuple #[.string A2, .string A3, .bool true]) ∧ Below u.heap.size u w')
    (C1 : ∀ u : World, Calls Tryd.prog 86 #[.string A2, .int .i64 12] u fun e w' => e = .returned (.tuple #[.int .i64 (W : Nat), .bool true]) ∧ Below u.heap.size u w')
    (C2 : ∀ u : World, Calls Tryd.prog 86 #[.string A3, .int .i64 4] u fun e w' => e = .returned (.tuple #[.int .i64 (R : Nat), .bool true]) ∧ Below u.heap.size u w')
    (hW : W < 1000000000000) (h4 : A3.size ≤ 4) (TN : ∀ u : World, Calls Tryd.prog 87 #[.int .i64 (4 - (A3.size : Int))] u fun e w' => e = .returned (.int .i64 T) ∧ w' = u)
    (hP : 0 ≤ (R : Int) * T ∧ (R : Int) * T ≤ 100000000) :
    Calls Tryd.prog 70 #[.string A0] w fun e w' => e = .returned (two (ans (sgnI ((W : Int) * 10000 + (R : Int) * T) d))) ∧ Below w.heap.size w w' := by
  go_enter Tryd.func70, Tryd.ntmps70
  go_wp2_with fail
  refine (PF _).mono ?_
  rintro e w' ⟨rfl, hw⟩
  obtain rfl := hw.symm
  clear hw
  go_wp2_with fail
  refine (CU _).mono ?_
  rintro e w1 ⟨rfl, hb1⟩
  go_wp2_with fail
  refine (C1 _).mono ?_
  rintro e w2 ⟨rfl, hb2⟩
  go_wp2_with fail
  refine (C2 _).mono ?_
  rintro e w3 ⟨rfl, hb3⟩
  go_wp2_with fail
  refine (TN _).mono ?_
  rintro e w' ⟨rfl, hw⟩
  obtain rfl := hw.symm
  clear hw
  go_wp2_with fail
  refine (signed_any _ _ (by omega) (by omega) _).mono ?_
  rintro e w' ⟨rfl, hw⟩
  obtain rfl := hw.symm
  clear hw
  go_wp2_with fail
  refine (answer_any _ _).mono ?_
  rintro e w' ⟨rfl, hw⟩
  obtain rfl := hw.symm
  clear hw
  unfold two
  go_wp2
  go_ret2
  exact ⟨rfl, (hb1.trans (hb2.mono hb1.size)).trans (hb3.mono (Nat.le_trans hb1.size hb2.size))⟩


theorem parse_any (l : List UInt8) (w : World) (hl : l.length ≤ 9223372036854775807) :
    Calls Tryd.prog 70 #[.string ⟨l.toArray⟩] w fun e w' => e = .returned (two (parseF l)) ∧ Below w.heap.size w w' := by
  have PF := fun u => prefix_str l u
  have CU := fun u => cut_str (body l) u (by have := body_len l; omega)
  have C1 := fun u => count_str (fstP (body l)) 12 (by decide) u (by have := body_len l; have := fst_len (body l); omega)
  have C2 := fun u => count_str (sndP (body l)) 4 (by decide) u (by have := body_len l; have := snd_len (body l); omega)
  have hsz := size_mk (sndP (body l))
  unfold parseF restN
  generalize dash l = d at *
  generalize body l = bl at *
  by_cases h1 : digs (fstP bl) 1 12 = true
  · have hd1 := (digs_iff _ _ _).1 h1
    have hW := num_bound _ 12 hd1.1 hd1.2.2
    rw [count_yes h1] at C1
    cases hp : hasP bl
    · rw [hp] at CU
      rw [if_pos ⟨h1, fun h => by cases h⟩, if_neg (by decide), Nat.add_zero]
      have := parse_whole PF CU C1 hW (w := w)
      rw [Int.natCast_mul]
      exact this
    · rw [hp] at CU
      by_cases h2 : digs (sndP bl) 1 4 = true
      · have hd2 := (digs_iff _ _ _).1 h2
        have hR := numD_lt _ hd2.1
        rw [count_yes h2] at C2
        rw [if_pos ⟨h1, fun _ => h2⟩, if_pos rfl]
        have hR2 : numD (sndP bl) < 10000 := by
          have : (10 : Nat) ^ (sndP bl).length ≤ 10 ^ 4 := Nat.pow_le_pow_right (by decide) hd2.2.2
          omega
        have hT2 : (10 : Int) ^ (4 - (sndP bl).length) ≤ 10000 := by
          have : ∀ j : Nat, j ≤ 4 → (10 : Int) ^ j ≤ 10000 := by decide
          exact this _ (by omega)
        have hT := ten_le (4 - (sndP bl).length) (by omega)
        have TN : ∀ u : World, Calls Tryd.prog 87 #[.int .i64 (4 - ((⟨(sndP bl).toArray⟩ : ByteArray).size : Int))] u fun e w' => e = .returned (.int .i64 (10 ^ (4 - (sndP bl).length))) ∧ w' = u := fun u => by
          have := tens_any (4 - (sndP bl).length) (by omega) u
          rw [show ((4 - (sndP bl).length : Nat) : Int) = 4 - ((⟨(sndP bl).toArray⟩ : ByteArray).size : Int) by omega] at this
          exact this
        have hP : 0 ≤ (numD (sndP bl) : Int) * 10 ^ (4 - (sndP bl).length) ∧ (numD (sndP bl) : Int) * 10 ^ (4 - (sndP bl).length) ≤ 100000000 :=
          ⟨Int.mul_nonneg (by omega) (by omega), Int.mul_le_mul (c := 10000) (d := 10000) (by omega) hT2 (by omega) (by omega)⟩
        have := parse_point PF CU C1 C2 hW (by omega) TN hP (w := w)
        rw [Int.natCast_add, Int.natCast_mul, Int.natCast_mul, Int.natCast_pow]
        exact this
      · rw [count_no h2] at C2
        rw [if_neg (fun h => h2 (h.2 rfl))]
        exact parse_no2 PF CU C1 C2
  · rw [count_no h1] at C1
    rw [if_neg (fun h => h1 h.1)]
    exact parse_no1 PF CU C1
end Go.Proofs.YtjimgjohfpcnpaaDoor
