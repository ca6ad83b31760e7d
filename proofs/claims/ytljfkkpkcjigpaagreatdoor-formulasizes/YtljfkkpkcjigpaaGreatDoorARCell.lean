import Derived.Test.YtljfkkpkcjigpaaGreatDoorARName
import Derived.Test.YtljfkkpkcjigpaaGreatDoorNPrint
set_option linter.unusedVariables false
set_option linter.unusedSimpArgs false
/- Good of both: may a ref be? -/
namespace Go.Proofs.YtljfkkpkcjigpaaGreatDoor
open Go.RowKit
set_option maxRecDepth 100000
set_option linter.unusedVariables false
set_option linter.unusedSimpArgs false
def goodB (b s : ByteArray) (r c : Int) : Bool := inB r c && (if s.toList = [] then decide (b.toList = []) else gnF s.data.toList && (decide (b.toList = []) || gnF b.data.toList))
theorem good_ways (b s : ByteArray) (r c : Int) : (inB r c = false ∧ goodB b s r c = false) ∨ (inB r c = true ∧ s.toList = [] ∧ b.toList = [] ∧ goodB b s r c = true) ∨
    (inB r c = true ∧ s.toList = [] ∧ (b.toList == []) = false ∧ goodB b s r c = false) ∨ (inB r c = true ∧ (s.toList == []) = false ∧ gnF s.data.toList = false ∧ goodB b s r c = false) ∨
    (inB r c = true ∧ (s.toList == []) = false ∧ gnF s.data.toList = true ∧ b.toList = [] ∧ goodB b s r c = true) ∨ (inB r c = true ∧ (s.toList == []) = false ∧ gnF s.data.toList = true ∧ (b.toList == []) = false ∧ goodB b s r c = gnF b.data.toList) := by
  unfold goodB
  cases h : inB r c
  · left; exact ⟨rfl, rfl⟩
  right
  by_cases hs : s.toList = []
  · by_cases hb : b.toList = []
    · left; simp [hs, hb]
    · right; left; simp [hs, hb]
  · right; right
    have hs2 : (s.toList == []) = false := by simpa using hs
    cases hg : gnF s.data.toList
    · left; simp [hs]
    · right
      by_cases hb : b.toList = []
      · left; simp [hs, hb]
      · right; simp [hs, hb]
set_option maxHeartbeats 4000000 in
theorem agood_any (b s : ByteArray) (r c : Int) (fr fc : Bool) (hb : b.size ≤ 9223372036854775807) (hs : s.size ≤ 9223372036854775807) (w : World) (T : Tabs w) :
    Calls Tryz.prog 92 #[refV b s r c fr fc] w fun e w' => e = .returned (.bool (goodB b s r c)) ∧ Below w.heap.size w w' := by
  have IN := fun u => in_any r c u
  have GS : RC (w.alloc (refO b s r c fr fc)) 94 #[.string s] _ := RC.of fun u hu => goodname_any s hs u (T.below (bel1 hu))
  have GB : RC (w.alloc (refO b s r c fr fc)) 94 #[.string b] _ := RC.of fun u hu => goodname_any b hb u (T.below (bel1 hu))
  have HB0 : Hid (Below (w.alloc (refO b s r c fr fc)).heap.size (w.alloc (refO b s r c fr fc)) (w.alloc (refO b s r c fr fc))) := Below.refl _ _
  rcases good_ways b s r c with ⟨h1, h2⟩ | ⟨h1, h3, h4, h2⟩ | ⟨h1, h3, h4, h2⟩ | ⟨h1, h3, h4, h2⟩ | ⟨h1, h3, h4, h5, h2⟩ | ⟨h1, h3, h4, h5, h2⟩
  · rw [h2]
    rw [h1] at IN
    go_enter Tryz.func92, Tryz.ntmps92
    go_wp2_with (go_at_call 136; refine (IN _).mono ?_; rintro e w' ⟨rfl, hw⟩; obtain rfl := hw.symm; clear hw)
    go_ret
    exact ⟨rfl, bel1 HB0.out⟩
  · rw [h2]
    rw [h1] at IN
    go_enter Tryz.func92, Tryz.ntmps92
    go_wp2_with (go_at_call 136; refine (IN _).mono ?_; rintro e w' ⟨rfl, hw⟩; obtain rfl := hw.symm; clear hw)
    go_ret
    exact ⟨rfl, bel1 HB0.out⟩
  · rw [h2]
    rw [h1] at IN
    go_enter Tryz.func92, Tryz.ntmps92
    go_wp2_with (go_at_call 136; refine (IN _).mono ?_; rintro e w' ⟨rfl, hw⟩; obtain rfl := hw.symm; clear hw)
    go_ret
    exact ⟨rfl, bel1 HB0.out⟩
  · rw [h2]
    rw [h1] at IN
    rw [h4] at GS
    clear GB
    go_enter Tryz.func92, Tryz.ntmps92
    go_wp2_with (first | (go_at_call 136; refine (IN _).mono ?_; rintro e w' ⟨rfl, hw⟩; obtain rfl := hw.symm; clear hw) | (go_at_call 94; refine (GS _ HB0.out).mono ?_; rintro e w1 ⟨rfl, hb⟩; have HB1 : Hid (Below (w.alloc (refO b s r c fr fc)).heap.size (w.alloc (refO b s r c fr fc)) w1) := hb; clear hb))
    go_ret
    exact ⟨rfl, bel1 HB1.out⟩
  · rw [h2]
    rw [h1] at IN
    rw [h4] at GS
    clear GB
    go_enter Tryz.func92, Tryz.ntmps92
    go_wp2_with (first | (go_at_call 136; refine (IN _).mono ?_; rintro e w' ⟨rfl, hw⟩; obtain rfl := hw.symm; clear hw) | (go_at_call 94; refine (GS _ HB0.out).mono ?_; rintro e w1 ⟨rfl, hb⟩; have HB1 : Hid (Below (w.alloc (refO b s r c fr fc)).heap.size (w.alloc (refO b s r c fr fc)) w1) := hb; clear hb; obtain ⟨c0, c1, c2, c3, c4, c5⟩ := r_cells (new1 HB1.out)))
    go_ret
    exact ⟨rfl, bel1 HB1.out⟩
  · rw [h2]
    rw [h1] at IN
    rw [h4] at GS
    generalize gnF b.data.toList = gb at *
    clear h2
    go_enter Tryz.func92, Tryz.ntmps92
    go_wp2_with (go_at_call 136; refine (IN _).mono ?_; rintro e w' ⟨rfl, hw⟩; obtain rfl := hw.symm; clear hw)
    refine (GS _ HB0.out).mono ?_
    rintro e w1 ⟨rfl, hb⟩
    have HB1 : Hid (Below (w.alloc (refO b s r c fr fc)).heap.size (w.alloc (refO b s r c fr fc)) w1) := hb
    clear hb GS
    obtain ⟨c0, c1, c2, c3, c4, c5⟩ := r_cells (new1 HB1.out)
    go_wp2_with fail
    refine (GB _ HB1.out).mono ?_
    rintro e w2 ⟨rfl, hb⟩
    have HB2 : Hid (Below (w.alloc (refO b s r c fr fc)).heap.size (w.alloc (refO b s r c fr fc)) w2) := hb
    clear hb
    go_wp2
    go_ret
    exact ⟨rfl, bel1 HB2.out⟩
set_option maxHeartbeats 4000000 in
theorem ragood_any (b s : ByteArray) (r c : Int) (fr fc : Bool) (hb : b.size ≤ 9223372036854775807) (hs : s.size ≤ 9223372036854775807) (w : World) :
    Calls Tryz.prog 99 #[refV b s r c fr fc] w fun e w' => e = .returned (.bool (goodB b s r c)) ∧ Below w.heap.size w w' := by
  have IN := fun u => rin_any r c u
  have GS : RC (w.alloc (refO b s r c fr fc)) 100 #[.string s] _ := RC.of fun u hu => rgoodname_any s hs u
  have GB : RC (w.alloc (refO b s r c fr fc)) 100 #[.string b] _ := RC.of fun u hu => rgoodname_any b hb u
  have HB0 : Hid (Below (w.alloc (refO b s r c fr fc)).heap.size (w.alloc (refO b s r c fr fc)) (w.alloc (refO b s r c fr fc))) := Below.refl _ _
  rcases good_ways b s r c with ⟨h1, h2⟩ | ⟨h1, h3, h4, h2⟩ | ⟨h1, h3, h4, h2⟩ | ⟨h1, h3, h4, h2⟩ | ⟨h1, h3, h4, h5, h2⟩ | ⟨h1, h3, h4, h5, h2⟩
  · rw [h2]
    rw [h1] at IN
    go_enter Tryz.func99, Tryz.ntmps99
    go_wp2_with (go_at_call 144; refine (IN _).mono ?_; rintro e w' ⟨rfl, hw⟩; obtain rfl := hw.symm; clear hw)
    go_ret
    exact ⟨rfl, bel1 HB0.out⟩
  · rw [h2]
    rw [h1] at IN
    go_enter Tryz.func99, Tryz.ntmps99
    go_wp2_with (go_at_call 144; refine (IN _).mono ?_; rintro e w' ⟨rfl, hw⟩; obtain rfl := hw.symm; clear hw)
    go_ret
    exact ⟨rfl, bel1 HB0.out⟩
  · rw [h2]
    rw [h1] at IN
    clear GS
    generalize gnF b.data.toList = gb at *
    go_enter Tryz.func99, Tryz.ntmps99
    go_wp2_with (first | (go_at_call 144; refine (IN _).mono ?_; rintro e w' ⟨rfl, hw⟩; obtain rfl := hw.symm; clear hw) | (go_at_call 100; refine (GB _ HB0.out).mono ?_; rintro e w1 ⟨rfl, hb⟩; have HB1 : Hid (Below (w.alloc (refO b s r c fr fc)).heap.size (w.alloc (refO b s r c fr fc)) w1) := hb; clear hb; obtain ⟨c0, c1, c2, c3, c4, c5⟩ := r_cells (new1 HB1.out)))
    all_goals (go_ret; exact ⟨rfl, bel1 HB1.out⟩)
  · rw [h2]
    rw [h1] at IN
    rw [h4] at GS
    clear GB
    go_enter Tryz.func99, Tryz.ntmps99
    go_wp2_with (first | (go_at_call 144; refine (IN _).mono ?_; rintro e w' ⟨rfl, hw⟩; obtain rfl := hw.symm; clear hw) | (go_at_call 100; refine (GS _ HB0.out).mono ?_; rintro e w1 ⟨rfl, hb⟩; have HB1 : Hid (Below (w.alloc (refO b s r c fr fc)).heap.size (w.alloc (refO b s r c fr fc)) w1) := hb; clear hb))
    go_ret
    exact ⟨rfl, bel1 HB1.out⟩
  · rw [h2]
    rw [h1] at IN
    rw [h4] at GS
    clear GB
    go_enter Tryz.func99, Tryz.ntmps99
    go_wp2_with (first | (go_at_call 144; refine (IN _).mono ?_; rintro e w' ⟨rfl, hw⟩; obtain rfl := hw.symm; clear hw) | (go_at_call 100; refine (GS _ HB0.out).mono ?_; rintro e w1 ⟨rfl, hb⟩; have HB1 : Hid (Below (w.alloc (refO b s r c fr fc)).heap.size (w.alloc (refO b s r c fr fc)) w1) := hb; clear hb; obtain ⟨c0, c1, c2, c3, c4, c5⟩ := r_cells (new1 HB1.out)))
    go_ret
    exact ⟨rfl, bel1 HB1.out⟩
  · rw [h2]
    rw [h1] at IN
    rw [h4] at GS
    generalize gnF b.data.toList = gb at *
    clear h2
    go_enter Tryz.func99, Tryz.ntmps99
    go_wp2_with (go_at_call 144; refine (IN _).mono ?_; rintro e w' ⟨rfl, hw⟩; obtain rfl := hw.symm; clear hw)
    refine (GS _ HB0.out).mono ?_
    rintro e w1 ⟨rfl, hb⟩
    have HB1 : Hid (Below (w.alloc (refO b s r c fr fc)).heap.size (w.alloc (refO b s r c fr fc)) w1) := hb
    clear hb GS
    obtain ⟨c0, c1, c2, c3, c4, c5⟩ := r_cells (new1 HB1.out)
    go_wp2_with fail
    refine (GB _ HB1.out).mono ?_
    rintro e w2 ⟨rfl, hb⟩
    have HB2 : Hid (Below (w.alloc (refO b s r c fr fc)).heap.size (w.alloc (refO b s r c fr fc)) w2) := hb
    clear hb
    obtain ⟨c0, c1, c2, c3, c4, c5⟩ := r_cells (new1 HB2.out)
    cases gb
    all_goals (go_wp2; go_ret; exact ⟨rfl, bel1 HB2.out⟩)
end Go.Proofs.YtljfkkpkcjigpaaGreatDoor

/- The text of a cell, of the program. -/
namespace Go.Proofs.YtljfkkpkcjigpaaGreatDoor
open Go.RowKit
set_option maxRecDepth 100000
set_option linter.unusedVariables false
set_option linter.unusedSimpArgs false
theorem rn1 : Utf8.encode (65 + ((1 : Nat) : Int) - 1) = ⟨#[Ad.colC 1]⟩ := by kernel_rfl
theorem rn2 : Utf8.encode (65 + ((2 : Nat) : Int) - 1) = ⟨#[Ad.colC 2]⟩ := by kernel_rfl
theorem rn3 : Utf8.encode (65 + ((3 : Nat) : Int) - 1) = ⟨#[Ad.colC 3]⟩ := by kernel_rfl
theorem rn4 : Utf8.encode (65 + ((4 : Nat) : Int) - 1) = ⟨#[Ad.colC 4]⟩ := by kernel_rfl
theorem rn5 : Utf8.encode (65 + ((5 : Nat) : Int) - 1) = ⟨#[Ad.colC 5]⟩ := by kernel_rfl
theorem rn6 : Utf8.encode (65 + ((6 : Nat) : Int) - 1) = ⟨#[Ad.colC 6]⟩ := by kernel_rfl
theorem rn7 : Utf8.encode (65 + ((7 : Nat) : Int) - 1) = ⟨#[Ad.colC 7]⟩ := by kernel_rfl
theorem rn8 : Utf8.encode (65 + ((8 : Nat) : Int) - 1) = ⟨#[Ad.colC 8]⟩ := by kernel_rfl
theorem rn9 : Utf8.encode (65 + ((9 : Nat) : Int) - 1) = ⟨#[Ad.colC 9]⟩ := by kernel_rfl
theorem rn10 : Utf8.encode (65 + ((10 : Nat) : Int) - 1) = ⟨#[Ad.colC 10]⟩ := by kernel_rfl
theorem rn11 : Utf8.encode (65 + ((11 : Nat) : Int) - 1) = ⟨#[Ad.colC 11]⟩ := by kernel_rfl
theorem rn12 : Utf8.encode (65 + ((12 : Nat) : Int) - 1) = ⟨#[Ad.colC 12]⟩ := by kernel_rfl
theorem rn13 : Utf8.encode (65 + ((13 : Nat) : Int) - 1) = ⟨#[Ad.colC 13]⟩ := by kernel_rfl
theorem rn14 : Utf8.encode (65 + ((14 : Nat) : Int) - 1) = ⟨#[Ad.colC 14]⟩ := by kernel_rfl
theorem rn15 : Utf8.encode (65 + ((15 : Nat) : Int) - 1) = ⟨#[Ad.colC 15]⟩ := by kernel_rfl
theorem rn16 : Utf8.encode (65 + ((16 : Nat) : Int) - 1) = ⟨#[Ad.colC 16]⟩ := by kernel_rfl
theorem rn17 : Utf8.encode (65 + ((17 : Nat) : Int) - 1) = ⟨#[Ad.colC 17]⟩ := by kernel_rfl
theorem rn18 : Utf8.encode (65 + ((18 : Nat) : Int) - 1) = ⟨#[Ad.colC 18]⟩ := by kernel_rfl
theorem rn19 : Utf8.encode (65 + ((19 : Nat) : Int) - 1) = ⟨#[Ad.colC 19]⟩ := by kernel_rfl
theorem rn20 : Utf8.encode (65 + ((20 : Nat) : Int) - 1) = ⟨#[Ad.colC 20]⟩ := by kernel_rfl
theorem rn21 : Utf8.encode (65 + ((21 : Nat) : Int) - 1) = ⟨#[Ad.colC 21]⟩ := by kernel_rfl
theorem rn22 : Utf8.encode (65 + ((22 : Nat) : Int) - 1) = ⟨#[Ad.colC 22]⟩ := by kernel_rfl
theorem rn23 : Utf8.encode (65 + ((23 : Nat) : Int) - 1) = ⟨#[Ad.colC 23]⟩ := by kernel_rfl
theorem rn24 : Utf8.encode (65 + ((24 : Nat) : Int) - 1) = ⟨#[Ad.colC 24]⟩ := by kernel_rfl
theorem rn25 : Utf8.encode (65 + ((25 : Nat) : Int) - 1) = ⟨#[Ad.colC 25]⟩ := by kernel_rfl
theorem rn26 : Utf8.encode (65 + ((26 : Nat) : Int) - 1) = ⟨#[Ad.colC 26]⟩ := by kernel_rfl
theorem run_rune (n : Nat) (h1 : 1 ≤ n) (h2 : n ≤ 26) : Utf8.encode (65 + (n : Int) - 1) = ⟨#[Ad.colC n]⟩ := by
  have h : n = 1 ∨ n = 2 ∨ n = 3 ∨ n = 4 ∨ n = 5 ∨ n = 6 ∨ n = 7 ∨ n = 8 ∨ n = 9 ∨ n = 10 ∨ n = 11 ∨ n = 12 ∨ n = 13 ∨ n = 14 ∨ n = 15 ∨ n = 16 ∨ n = 17 ∨ n = 18 ∨ n = 19 ∨ n = 20 ∨ n = 21 ∨ n = 22 ∨ n = 23 ∨ n = 24 ∨ n = 25 ∨ n = 26 := by omega
  rcases h with rfl | rfl | rfl | rfl | rfl | rfl | rfl | rfl | rfl | rfl | rfl | rfl | rfl | rfl | rfl | rfl | rfl | rfl | rfl | rfl | rfl | rfl | rfl | rfl | rfl | rfl
  · exact rn1
  · exact rn2
  · exact rn3
  · exact rn4
  · exact rn5
  · exact rn6
  · exact rn7
  · exact rn8
  · exact rn9
  · exact rn10
  · exact rn11
  · exact rn12
  · exact rn13
  · exact rn14
  · exact rn15
  · exact rn16
  · exact rn17
  · exact rn18
  · exact rn19
  · exact rn20
  · exact rn21
  · exact rn22
  · exact rn23
  · exact rn24
  · exact rn25
  · exact rn26
theorem wrap_i64 {n : Int} (h1 : -9223372036854775808 ≤ n) (h2 : n ≤ 9223372036854775807) : IntKind.i64.wrap n = n := by
  rw [IntKind.wrap_i64]; omega
theorem wrap_i32 {n : Int} (h1 : -2147483648 ≤ n) (h2 : n ≤ 2147483647) : IntKind.i32.wrap n = n := by
  rw [IntKind.wrap_i32]; omega
def dolB (f : Bool) : ByteArray := if f = true then ⟨#[36]⟩ else ⟨#[]⟩
theorem dol_size (f : Bool) : (dolB f).size ≤ 1 := by cases f <;> decide
theorem dec_short (n : Nat) (h : n ≤ 64) : (⟨(Lib.decDigits n).toArray⟩ : ByteArray).size ≤ 2 := by
  rw [size_mk]
  by_cases e : n < 10
  · rw [Lib.decDigits_one e]; simp
  · rw [Lib.decDigits, dif_neg e, Lib.decDigits_one (by omega)]; simp
/-- The text of a cell in a sheet. -/
def cellB (R C : Nat) (fr fc : Bool) : ByteArray := ⟨(Ad.cellW ⟨R, C, fr, fc⟩).toArray⟩
theorem cellB_eq (R C : Nat) (fr fc : Bool) : dolB fc ++ ⟨#[Ad.colC C]⟩ ++ dolB fr ++ ⟨(Lib.decDigits R).toArray⟩ = cellB R C fr fc := by
  unfold cellB Ad.cellW dolB
  apply ByteArray.ext
  cases fr <;> cases fc <;> simp
set_option maxHeartbeats 4000000 in
theorem pcell_any (b s : ByteArray) (R C : Nat) (fr fc : Bool) (hR1 : 1 ≤ R) (hR2 : R ≤ 64) (hC1 : 1 ≤ C) (hC2 : C ≤ 26) (w : World) (T : Tabs w) :
    Calls Tryz.prog 154 #[refV b s R C fr fc] w fun e w' => e = .returned (.string (cellB R C fr fc)) ∧ Below w.heap.size w w' := by
  have D1 : RC (w.alloc (refO b s R C fr fc)) 187 #[.bool fc] (.string (dolB fc)) := RC.same fun u hu => dollar_any fc u
  have D2 : RC (w.alloc (refO b s R C fr fc)) 187 #[.bool fr] (.string (dolB fr)) := RC.same fun u hu => dollar_any fr u
  have IT : RC (w.alloc (refO b s R C fr fc)) 150 #[.int .i64 R] (.string ⟨(Lib.decDigits R).toArray⟩) := RC.of fun u hu => itoa_any R (by omega) u (T.below (bel1 hu)).p
  have CV := run_rune C hC1 hC2
  obtain ⟨m1, e1⟩ : ∃ m1 : Int, 65 + (C : Int) = m1 := ⟨_, rfl⟩
  rw [e1] at CV
  obtain ⟨m2, e2⟩ : ∃ m2 : Int, m1 - 1 = m2 := ⟨_, rfl⟩
  rw [e2] at CV
  have k1 : IntKind.i64.wrap m1 = m1 := wrap_i64 (by omega) (by omega)
  have k2 : IntKind.i64.wrap m2 = m2 := wrap_i64 (by omega) (by omega)
  have k3 : IntKind.i32.wrap m2 = m2 := wrap_i32 (by omega) (by omega)
  have z1 := dol_size fc
  have z2 := dol_size fr
  have z3 := dec_short R hR2
  rw [← cellB_eq]
  generalize dolB fc = X1 at *
  generalize dolB fr = X2 at *
  generalize (⟨(Lib.decDigits R).toArray⟩ : ByteArray) = X3 at *
  have z4 : (⟨#[Ad.colC C]⟩ : ByteArray).size ≤ 1 := Nat.le_refl 1
  generalize (⟨#[Ad.colC C]⟩ : ByteArray) = X4 at *
  have z5 : ¬ 9223372036854775807 < X1.size + X4.size := by omega
  have z6 : ¬ 9223372036854775807 < X1.size + X4.size + X2.size := by omega
  have z7 : ¬ 9223372036854775807 < X1.size + X4.size + X2.size + X3.size := by omega
  have HC : Hid (∀ u : World, Below (w.alloc (refO b s R C fr fc)).heap.size (w.alloc (refO b s R C fr fc)) u → u.cell? ⟨w.heap.size, 2, none⟩ = some (.int .i64 R) ∧ u.cell? ⟨w.heap.size, 3, none⟩ = some (.int .i64 C) ∧ u.cell? ⟨w.heap.size, 4, none⟩ = some (.bool fr) ∧ u.cell? ⟨w.heap.size, 5, none⟩ = some (.bool fc)) :=
    fun u hu => (r_cells (new1 hu)).2.2
  have HB : Hid (Below (w.alloc (refO b s R C fr fc)).heap.size (w.alloc (refO b s R C fr fc)) (w.alloc (refO b s R C fr fc)).drew) := (Below.refl _ _).drew
  go_enter Tryz.func154, Tryz.ntmps154
  go_wp2
  go_region_held_law (fun u => u.cell? ⟨w.heap.size, 2, none⟩ = some (.int .i64 R) ∧ u.cell? ⟨w.heap.size, 3, none⟩ = some (.int .i64 C) ∧ u.cell? ⟨w.heap.size, 4, none⟩ = some (.bool fr) ∧ u.cell? ⟨w.heap.size, 5, none⟩ = some (.bool fc))
    (exact HC.out _ HB.out) (first
    | (go_at_call_of 187 fc; refine (D1 _ HB.out).mono ?_; rintro e w7 ⟨rfl, hb⟩; have HB : Hid (Below (w.alloc (refO b s R C fr fc)).heap.size (w.alloc (refO b s R C fr fc)) w7) := hb; clear hb)
    | (go_at_call_of 187 fr; refine (D2 _ HB.out).mono ?_; rintro e w7 ⟨rfl, hb⟩; have HB : Hid (Below (w.alloc (refO b s R C fr fc)).heap.size (w.alloc (refO b s R C fr fc)) w7) := hb; clear hb)
    | (go_at_call 150; refine (IT _ HB.out).mono ?_; rintro e w7 ⟨rfl, hb⟩; have HB : Hid (Below (w.alloc (refO b s R C fr fc)).heap.size (w.alloc (refO b s R C fr fc)) w7) := hb; clear hb))
  all_goals (go_wp2; go_ret; exact ⟨rfl, bel1 HB.out⟩)
end Go.Proofs.YtljfkkpkcjigpaaGreatDoor

/- The contracts of the reference's Digits, Itoa, pad and Print. -/
namespace Go.Proofs.YtljfkkpkcjigpaaGreatDoor.Dg
open Go.RowKit
set_option linter.unusedSimpArgs false
set_option linter.unusedVariables false
set_option maxRecDepth 100000

theorem conv90 (w : World) (z : Int) : (convert 90 9 (.slice (some ⟨w.heap.size, 0, none⟩) 1 1)).run Tryz.prog (w.alloc (.cells #[.int .u8 z] 5)) = .ok (.string ⟨#[UInt8.ofNat z.toNat]⟩) (w.alloc (.cells #[.int .u8 z] 5)) := by
  have hl : (loadCells ⟨w.heap.size, 0, none⟩ 1).run Tryz.prog (w.alloc (.cells #[.int .u8 z] 5)) = .ok (([z] : List Int).map (Value.int .u8)).toArray (w.alloc (.cells #[.int .u8 z] 5)) := by
    refine run_loadCells_list (P := Tryz.prog) _ ⟨w.heap.size, 0, none⟩ [.int .u8 z] fun j u hj => ?_
    match j, hj with
    | 0, hj =>
      cases hj
      simp only [World.cell?]
      rw [show ((⟨w.heap.size, 0, none⟩ : Addr).add 0) = ⟨w.heap.size, 0, none⟩ from rfl, heap_alloc_new]
      rfl
  rw [run_convert_bytes_string _ 90 9 5 _ 1 1 Tryz.underlying90 Tryz.underlying5 Tryz.underlying9, run_bytesToString _ _ 1 1 _ hl, foldl_push_bytes]
  rfl
theorem dec_two (m : Nat) (h : ¬ m / 10 = 0) : Lib.decDigits m = Lib.decDigits (m / 10) ++ [UInt8.ofNat (48 + m % 10)] := by
  rw [Lib.decDigits, dif_neg (by omega)]
set_option maxHeartbeats 1000000 in
theorem rDigits_any (n : Nat) (hn : n < 18446744073459551616) (w : World) :
    Calls Tryz.prog 155 #[.int .u64 n] w fun e w' => e = .returned (.string ⟨(Lib.decDigits n).toArray⟩) ∧ Below w.heap.size w w' := by
  have hlen := (dec_len 20 n (by decide) (by omega)).2
  generalize hr : (⟨(Lib.decDigits n).toArray⟩ : ByteArray) = r
  have HR : Hid ((⟨(Lib.decDigits n).toArray⟩ : ByteArray) = r) := hr
  clear hr
  go_enter Tryz.func155, Tryz.ntmps155
  go_wp2
  go_loopw [0, 3] (fun u0 u3 wr => ∃ (m : Nat) (t : ByteArray), u0 = .int .u64 m ∧ u3 = .string t ∧ m < 18446744073459551616 ∧ t.size ≤ 20 ∧ Hid (Below w.heap.size w wr ∧ ∃ L : List UInt8, t = ⟨L.toArray⟩ ∧ Lib.decDigits n = Lib.decDigits m ++ L)) (fun u0 _ _ => (intOf u0).toNat)
  case atStart => exact ⟨n, ⟨#[]⟩, rfl, rfl, hn, by decide, Below.refl _ _, [], rfl, by simp⟩
  case round =>
    obtain ⟨m, t, rfl, rfl, hm, ht, hH⟩ := hrel
    have hcv := conv90 wr (48 + (m : Int) % 10)
    have hne : Hid ((⟨#[UInt8.ofNat (48 + (m : Int) % 10).toNat]⟩ : ByteArray) ++ t = ⟨([UInt8.ofNat (48 + m % 10)] ++ (t.data.toList)).toArray⟩) := by
      show _ = _
      rw [show (48 + (m : Int) % 10).toNat = 48 + m % 10 by omega]
      exact app_mk [UInt8.ofNat (48 + m % 10)] t.data.toList
    generalize hX : (⟨#[UInt8.ofNat (48 + (m : Int) % 10).toNat]⟩ : ByteArray) = X at *
    have hXs : X.size = 1 := by rw [← hX]; rfl
    clear hX
    have hsz : (X ++ t).size ≤ 21 := by rw [ByteArray.size_append]; omega
    by_cases hz : m / 10 = 0
    · have hz' : (m : Int) / 10 = 0 := by omega
      have HE : Hid (r = X ++ t) := by
        obtain ⟨_, L, rfl, e⟩ := hH.out
        show _ = _
        rw [← HR.out, hne.out, e, Lib.decDigits_one (by omega)]
        rw [show m % 10 = m by omega]
      go_wp2
      go_ret
      exact ⟨by rw [HE.out]; rfl, hH.out.1.alloc (hH.out.1.size) _⟩
    · have hz' : ((m : Int) / 10 == 0) = false := by simp; omega
      have HL : Hid (∃ L : List UInt8, X ++ t = ⟨L.toArray⟩ ∧ Lib.decDigits n = Lib.decDigits (m / 10) ++ L) := by
        obtain ⟨_, L, rfl, e⟩ := hH.out
        refine ⟨_, hne.out, ?_⟩
        rw [e, dec_two m hz]
        simp
      have hs2 : (X ++ t).size ≤ 20 := by
        obtain ⟨L, e1, e2⟩ := HL.out
        rw [e1, size_mk]
        have := congrArg List.length e2
        simp at this
        have := (dec_len 20 (m / 10) (by decide) (by omega)).1
        omega
      go_wp2
      go_roundw
      case rel => exact ⟨m / 10, X ++ t, by go_num, rfl, by omega, hs2, hH.out.1.alloc (hH.out.1.size) _, HL.out⟩
      case measure => simp [intOf]; omega
set_option maxHeartbeats 1000000 in
theorem ritoa_any (n : Nat) (hn : n ≤ 100000) (w : World) : Calls Tryz.prog 188 #[.int .i64 n] w fun e w' => e = .returned (.string ⟨(Lib.decDigits n).toArray⟩) ∧ Below w.heap.size w w' := by
  have D := fun u => rDigits_any n (by omega) u
  generalize (⟨(Lib.decDigits n).toArray⟩ : ByteArray) = A at *
  go_enter Tryz.func188, Tryz.ntmps188
  go_wp2_with (go_at_call 155; refine (D _).mono ?_; rintro e w1 ⟨rfl, hb1⟩; have HB1 : Hid _ := hb1; clear hb1)
  go_ret
  exact ⟨rfl, HB1.out⟩
theorem all_at (s : ByteArray) (k : Nat) (h : k < s.size) (hall : s.data.toList.all isD = true) : isD s[k] = true := by
  rw [byte_at s k h (by rw [size_list]; exact h)]
  exact List.all_eq_true.1 hall _ (List.getElem_mem _)
theorem all_step (s : ByteArray) (k : Nat) (h : k < s.size) (ha : (s.data.toList.take k).all isD = true) (hb : isD s[k] = true) : (s.data.toList.take (k + 1)).all isD = true := by
  rw [take_snoc _ _ (by rw [size_list]; exact h), List.all_append, ha, ← byte_at s k h (by rw [size_list]; exact h)]
  simp [hb]
theorem conv_bytes (s : ByteArray) (w : World) : ∃ (c : Nat) (wb : World), (convert 9 90 (.string s)).run Tryz.prog w = .ok (.slice (some ⟨w.heap.size, 0, none⟩) s.size c) wb ∧
    (∀ (k : Nat) (h : k < s.size), wb.cell? ⟨w.heap.size, k, none⟩ = some (.int .u8 (s[k].toNat : Int))) ∧ Below w.heap.size w wb := by
  refine ⟨_, _, run_bytes_of_string w 9 90 5 s Tryz.underlying9 Tryz.underlying90 Tryz.underlying5, fun k h => ?_, ?_⟩
  · have h2 : k < s.data.size := h
    rw [show w.heap.size = w.drew.heap.size from rfl, World.cell?_alloc_mark, bytesRow_at _ _ _ h2]
    rfl
  · exact ((Below.refl w.heap.size w).drew).alloc (Nat.le_refl _) _

theorem mk_list (t : ByteArray) : (⟨t.data.toList.toArray⟩ : ByteArray) = t := by
  cases t
  simp

end Go.Proofs.YtljfkkpkcjigpaaGreatDoor.Dg

/- The text of a cell, of the reference. -/
namespace Go.Proofs.YtljfkkpkcjigpaaGreatDoor
open Go.RowKit
set_option maxRecDepth 100000
set_option linter.unusedVariables false
set_option linter.unusedSimpArgs false
theorem conv_one {u : World} {g : Nat} {z : Int} {m : Nat × Nat} (h : u.heap[g]? = some (.cells #[.int .u8 z] 5 m)) : (convert 90 9 (.slice (some ⟨g, 0, none⟩) 1 1)).run Tryz.prog u = .ok (.string ⟨#[UInt8.ofNat z.toNat]⟩) u := by
  have hl : (loadCells ⟨g, 0, none⟩ 1).run Tryz.prog u = .ok (([z] : List Int).map (Value.int .u8)).toArray u := by
    refine run_loadCells_list (P := Tryz.prog) _ ⟨g, 0, none⟩ [.int .u8 z] fun j v hj => ?_
    match j, hj with
    | 0, hj =>
      cases hj
      rw [show ((⟨g, 0, none⟩ : Addr).add 0) = ⟨g, 0, none⟩ from rfl, cell_of_row u _ _ _ 5 _ h]
      rfl
  rw [run_convert_bytes_string _ 90 9 5 _ 1 1 Tryz.underlying90 Tryz.underlying5 Tryz.underlying9, run_bytesToString _ _ 1 1 _ hl, foldl_push_bytes]
  rfl
theorem undrew {w x : World} (hb : Below w.drew.heap.size w.drew x) : Below w.heap.size w x := ⟨hb.os, hb.tape, hb.output, hb.size, hb.block⟩
theorem after_new {w w7 : World} {o : Obj} (hb : Below (w.alloc o).drew.heap.size (w.alloc o).drew w7) : Below w.heap.size w w7 ∧ w7.heap[w.heap.size]? = some o := by
  have h : Below (w.alloc o).heap.size (w.alloc o) w7 := ⟨hb.os, hb.tape, hb.output, hb.size, hb.block⟩
  exact ⟨bel1 h, new1 h⟩
def ctB (r c : Int) : ByteArray := if inB r c = true then cellB r.toNat c.toNat false false else ⟨#[]⟩
theorem in_yes {r c : Int} (h : inB r c = true) : ∃ R C : Nat, r = R ∧ c = C ∧ 1 ≤ R ∧ R ≤ 64 ∧ 1 ≤ C ∧ C ≤ 26 := by
  unfold inB at h
  simp only [Bool.and_eq_true, decide_eq_true_eq] at h
  exact ⟨r.toNat, c.toNat, by omega, by omega, by omega, by omega, by omega, by omega⟩
theorem ctB_eq (R C : Nat) : (⟨#[Ad.colC C]⟩ : ByteArray) ++ ⟨(Lib.decDigits R).toArray⟩ = cellB R C false false := by
  unfold cellB Ad.cellW
  apply ByteArray.ext
  simp
theorem wrap_u8 {n : Int} (h1 : 0 ≤ n) (h2 : n ≤ 255) : IntKind.u8.wrap n = n := by
  simp [IntKind.wrap, IntKind.bits, IntKind.signed]
  omega
set_option maxHeartbeats 4000000 in
theorem rct_yes (R C : Nat) (hi : inB R C = true) (hR1 : 1 ≤ R) (hR2 : R ≤ 64) (hC1 : 1 ≤ C) (hC2 : C ≤ 26) (w : World) :
    Calls Tryz.prog 156 #[.int .i64 R, .int .i64 C] w fun e w' => e = .returned (.string (cellB R C false false)) ∧ Below w.heap.size w w' := by
  have IN := fun u => rin_any R C u
  rw [hi] at IN
  clear hi
  have IT := fun u => Dg.ritoa_any R (by omega) u
  have z3 := dec_short R hR2
  rw [← ctB_eq]
  generalize (⟨(Lib.decDigits R).toArray⟩ : ByteArray) = X3 at *
  obtain ⟨m1, e1⟩ : ∃ m1 : Int, 65 + (C : Int) = m1 := ⟨_, rfl⟩
  obtain ⟨m2, e2⟩ : ∃ m2 : Int, m1 - 1 = m2 := ⟨_, rfl⟩
  have k1 : IntKind.i64.wrap m1 = m1 := wrap_i64 (by omega) (by omega)
  have k2 : IntKind.i64.wrap m2 = m2 := wrap_i64 (by omega) (by omega)
  have k3 : IntKind.u8.wrap m2 = m2 := wrap_u8 (by omega) (by omega)
  have e4 : (⟨#[UInt8.ofNat m2.toNat]⟩ : ByteArray) = ⟨#[Ad.colC C]⟩ := by
    unfold Ad.colC
    rw [show m2.toNat = 64 + C by omega]
  have z4 : (⟨#[Ad.colC C]⟩ : ByteArray).size ≤ 1 := Nat.le_refl 1
  have CV : Hid (∀ (u : World) (g : Nat) (m : Nat × Nat), u.heap[g]? = some (.cells #[.int .u8 m2] 5 m) → (convert 90 9 (.slice (some ⟨g, 0, none⟩) 1 1)).run Tryz.prog u = .ok (.string ⟨#[Ad.colC C]⟩) u) := fun u g m h => by rw [conv_one h, e4]
  clear e4
  generalize (⟨#[Ad.colC C]⟩ : ByteArray) = X4 at *
  have z5 : ¬ 9223372036854775807 < X4.size + X3.size := by omega
  have c1 : (convert 90 9 (.slice (some ⟨w.heap.size, 0, none⟩) 1 1)).run Tryz.prog (w.alloc (.cells #[.int .u8 m2] 5)).drew = .ok (.string X4) (w.alloc (.cells #[.int .u8 m2] 5)).drew := CV.out _ _ _ (heap_alloc_new w _)
  have ITa := IT (w.alloc (.cells #[.int .u8 m2] 5)).drew
  have ITb := IT w.drew
  go_enter Tryz.func156, Tryz.ntmps156
  go_wp2_with (go_at_call 144; refine (IN _).mono ?_; rintro e w' ⟨rfl, hw⟩; obtain rfl := hw.symm; clear hw)
  go_region_held_law (fun _ => True) (trivial) (first
    | (go_at_call 188; refine ITa.mono ?_; rintro e w7 ⟨rfl, hb⟩; have HB : Hid (Below w.heap.size w w7) := (after_new hb).1; have c2 := CV.out w7 w.heap.size (0, 0) (after_new hb).2; clear hb)
    | (go_at_call 188; refine ITb.mono ?_; rintro e w7 ⟨rfl, hb⟩; have HB : Hid (Below w.heap.size w w7) := undrew hb; have c2 := CV.out (w7.alloc (.cells #[.int .u8 m2] 5)) w7.heap.size (0, 0) (heap_alloc_new w7 _); clear hb))
  · go_wp2
    go_ret
    exact ⟨rfl, HB.out⟩
  · go_wp2
    go_ret
    exact ⟨rfl, HB.out⟩
  · go_wp2
    go_ret
    exact ⟨rfl, bel_alloc HB.out _⟩
end Go.Proofs.YtljfkkpkcjigpaaGreatDoor
