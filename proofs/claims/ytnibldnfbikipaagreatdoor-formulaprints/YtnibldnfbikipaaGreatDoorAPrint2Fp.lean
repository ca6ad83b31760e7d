/- AGoodR, APrint, ADig, ARCell, APrint2. -/
import Derived.Test.YtnibldnfbikipaaGreatDoorARNameFp
set_option linter.unusedVariables false
set_option linter.unusedSimpArgs false
set_option maxHeartbeats 16000000
set_option maxRecDepth 100000
namespace Go.Proofs.YtnibldnfbikipaaGreatDoor
open Go.RowKit
def goodB (b s : ByteArray) (r c : Int) : Bool := inB r c && (if s.toList = [] then decide (b.toList = []) else gnF s.data.toList && (decide (b.toList = []) || gnF b.data.toList))
theorem good_ways (b s : ByteArray) (r c : Int) : (inB r c = false ∧ goodB b s r c = false) ∨ (inB r c = true ∧ s.toList = [] ∧ b.toList = [] ∧ goodB b s r c = true) ∨
  (inB r c = true ∧ s.toList = [] ∧ (b.toList == []) = false ∧ goodB b s r c = false) ∨ (inB r c = true ∧ (s.toList == []) = false ∧ gnF s.data.toList = false ∧ goodB b s r c = false) ∨
  (inB r c = true ∧ (s.toList == []) = false ∧ gnF s.data.toList = true ∧ b.toList = [] ∧ goodB b s r c = true) ∨ (inB r c = true ∧ (s.toList == []) = false ∧ gnF s.data.toList = true ∧ (b.toList == []) = false ∧ goodB b s r c = gnF b.data.toList) := by
 unfold goodB
 cases h : inB r c
 ·left; exact ⟨rfl, rfl⟩
 right
 by_cases hs : s.toList = []
 ·by_cases hb : b.toList = []
  ·left; simp [hs, hb]
  ·right; left; simp [hs, hb]
 ·right; right
  have hs2 : (s.toList == []) = false := by simpa using hs
  cases hg : gnF s.data.toList
  ·left; simp [hs]
  ·right
   by_cases hb : b.toList = []
   ·left; simp [hs, hb]
   ·right; simp [hs, hb]
theorem agood_any (b s : ByteArray) (r c : Int) (fr fc : Bool) (hb : b.size ≤ 9223372036854775807) (hs : s.size ≤ 9223372036854775807) (w : World) (T : Tabs w) :
  Calls Tryz.prog 167 #[refV b s r c fr fc] w fun e w' => e = .returned (.bool (goodB b s r c)) ∧ Below w.heap.size w w' := by
 have IN := fun u => in_any r c u
 have GS : RC (w.alloc (refO b s r c fr fc)) 76 #[.string s] _ := RC.of fun u hu => goodname_any s hs u (T.below (bel1 hu))
 have GB : RC (w.alloc (refO b s r c fr fc)) 76 #[.string b] _ := RC.of fun u hu => goodname_any b hb u (T.below (bel1 hu))
 have HB0 : Hid (Below (w.alloc (refO b s r c fr fc)).heap.size (w.alloc (refO b s r c fr fc)) (w.alloc (refO b s r c fr fc))) := Below.refl _ _
 rcases good_ways b s r c with ⟨h1, h2⟩ | ⟨h1, h3, h4, h2⟩ | ⟨h1, h3, h4, h2⟩ | ⟨h1, h3, h4, h2⟩ | ⟨h1, h3, h4, h5, h2⟩ | ⟨h1, h3, h4, h5, h2⟩
 ·rw [h2]
  rw [h1] at IN
  go_enter Tryz.func167, Tryz.ntmps167
  go_wp2_with (go_at_call 212; refine (IN _).mono ?_; rintro e w' ⟨rfl, hw⟩; obtain rfl := hw.symm; clear hw)
  go_ret
  exact ⟨rfl, bel1 HB0.out⟩
 ·rw [h2]
  rw [h1] at IN
  go_enter Tryz.func167, Tryz.ntmps167
  go_wp2_with (go_at_call 212; refine (IN _).mono ?_; rintro e w' ⟨rfl, hw⟩; obtain rfl := hw.symm; clear hw)
  go_ret
  exact ⟨rfl, bel1 HB0.out⟩
 ·rw [h2]
  rw [h1] at IN
  go_enter Tryz.func167, Tryz.ntmps167
  go_wp2_with (go_at_call 212; refine (IN _).mono ?_; rintro e w' ⟨rfl, hw⟩; obtain rfl := hw.symm; clear hw)
  go_ret
  exact ⟨rfl, bel1 HB0.out⟩
 ·rw [h2]
  rw [h1] at IN
  rw [h4] at GS
  clear GB
  go_enter Tryz.func167, Tryz.ntmps167
  go_wp2_with (first | (go_at_call 212; refine (IN _).mono ?_; rintro e w' ⟨rfl, hw⟩; obtain rfl := hw.symm; clear hw) | (go_at_call 76; refine (GS _ HB0.out).mono ?_; rintro e w1 ⟨rfl, hb⟩; have HB1 : Hid (Below (w.alloc (refO b s r c fr fc)).heap.size (w.alloc (refO b s r c fr fc)) w1) := hb; clear hb))
  go_ret
  exact ⟨rfl, bel1 HB1.out⟩
 ·rw [h2]
  rw [h1] at IN
  rw [h4] at GS
  clear GB
  go_enter Tryz.func167, Tryz.ntmps167
  go_wp2_with (first | (go_at_call 212; refine (IN _).mono ?_; rintro e w' ⟨rfl, hw⟩; obtain rfl := hw.symm; clear hw) | (go_at_call 76; refine (GS _ HB0.out).mono ?_; rintro e w1 ⟨rfl, hb⟩; have HB1 : Hid (Below (w.alloc (refO b s r c fr fc)).heap.size (w.alloc (refO b s r c fr fc)) w1) := hb; clear hb; obtain ⟨c0, c1, c2, c3, c4, c5⟩ := r_cells (new1 HB1.out)))
  go_ret
  exact ⟨rfl, bel1 HB1.out⟩
 ·rw [h2]
  rw [h1] at IN
  rw [h4] at GS
  generalize gnF b.data.toList = gb at *
  clear h2
  go_enter Tryz.func167, Tryz.ntmps167
  go_wp2_with (go_at_call 212; refine (IN _).mono ?_; rintro e w' ⟨rfl, hw⟩; obtain rfl := hw.symm; clear hw)
  refine (GS _ HB0.out).mono ?_
  rintro e w1 ⟨rfl, hb⟩
  have HB1 : Hid (Below (w.alloc (refO b s r c fr fc)).heap.size (w.alloc (refO b s r c fr fc)) w1) := hb
  clear hb GS
  obtain ⟨c0, c1, c2, c3, c4, c5⟩ := r_cells (new1 HB1.out)
  go_wp2_with fail
  refine (GB _ HB1.out).mono ?_
  rintro e w2 ⟨rfl, hb⟩
  have HB2 : Hid (Below (w.alloc (refO b s r c fr fc)).heap.size (w.alloc (refO b s r c fr fc)) w2) := hb
  clear hb
  go_wp2
  go_ret
  exact ⟨rfl, bel1 HB2.out⟩
theorem ragood_any (b s : ByteArray) (r c : Int) (fr fc : Bool) (hb : b.size ≤ 9223372036854775807) (hs : s.size ≤ 9223372036854775807) (w : World) :
  Calls Tryz.prog 173 #[refV b s r c fr fc] w fun e w' => e = .returned (.bool (goodB b s r c)) ∧ Below w.heap.size w w' := by
 have IN := fun u => rin_any r c u
 have GS : RC (w.alloc (refO b s r c fr fc)) 48 #[.string s] _ := RC.of fun u hu => rgoodname_any s hs u
 have GB : RC (w.alloc (refO b s r c fr fc)) 48 #[.string b] _ := RC.of fun u hu => rgoodname_any b hb u
 have HB0 : Hid (Below (w.alloc (refO b s r c fr fc)).heap.size (w.alloc (refO b s r c fr fc)) (w.alloc (refO b s r c fr fc))) := Below.refl _ _
 rcases good_ways b s r c with ⟨h1, h2⟩ | ⟨h1, h3, h4, h2⟩ | ⟨h1, h3, h4, h2⟩ | ⟨h1, h3, h4, h2⟩ | ⟨h1, h3, h4, h5, h2⟩ | ⟨h1, h3, h4, h5, h2⟩
 ·rw [h2]
  rw [h1] at IN
  go_enter Tryz.func173, Tryz.ntmps173
  go_wp2_with (go_at_call 145; refine (IN _).mono ?_; rintro e w' ⟨rfl, hw⟩; obtain rfl := hw.symm; clear hw)
  go_ret
  exact ⟨rfl, bel1 HB0.out⟩
 ·rw [h2]
  rw [h1] at IN
  go_enter Tryz.func173, Tryz.ntmps173
  go_wp2_with (go_at_call 145; refine (IN _).mono ?_; rintro e w' ⟨rfl, hw⟩; obtain rfl := hw.symm; clear hw)
  go_ret
  exact ⟨rfl, bel1 HB0.out⟩
 ·rw [h2]
  rw [h1] at IN
  clear GS
  generalize gnF b.data.toList = gb at *
  go_enter Tryz.func173, Tryz.ntmps173
  go_wp2_with (first | (go_at_call 145; refine (IN _).mono ?_; rintro e w' ⟨rfl, hw⟩; obtain rfl := hw.symm; clear hw) | (go_at_call 48; refine (GB _ HB0.out).mono ?_; rintro e w1 ⟨rfl, hb⟩; have HB1 : Hid (Below (w.alloc (refO b s r c fr fc)).heap.size (w.alloc (refO b s r c fr fc)) w1) := hb; clear hb; obtain ⟨c0, c1, c2, c3, c4, c5⟩ := r_cells (new1 HB1.out)))
  all_goals (go_ret; exact ⟨rfl, bel1 HB1.out⟩)
 ·rw [h2]
  rw [h1] at IN
  rw [h4] at GS
  clear GB
  go_enter Tryz.func173, Tryz.ntmps173
  go_wp2_with (first | (go_at_call 145; refine (IN _).mono ?_; rintro e w' ⟨rfl, hw⟩; obtain rfl := hw.symm; clear hw) | (go_at_call 48; refine (GS _ HB0.out).mono ?_; rintro e w1 ⟨rfl, hb⟩; have HB1 : Hid (Below (w.alloc (refO b s r c fr fc)).heap.size (w.alloc (refO b s r c fr fc)) w1) := hb; clear hb))
  go_ret
  exact ⟨rfl, bel1 HB1.out⟩
 ·rw [h2]
  rw [h1] at IN
  rw [h4] at GS
  clear GB
  go_enter Tryz.func173, Tryz.ntmps173
  go_wp2_with (first | (go_at_call 145; refine (IN _).mono ?_; rintro e w' ⟨rfl, hw⟩; obtain rfl := hw.symm; clear hw) | (go_at_call 48; refine (GS _ HB0.out).mono ?_; rintro e w1 ⟨rfl, hb⟩; have HB1 : Hid (Below (w.alloc (refO b s r c fr fc)).heap.size (w.alloc (refO b s r c fr fc)) w1) := hb; clear hb; obtain ⟨c0, c1, c2, c3, c4, c5⟩ := r_cells (new1 HB1.out)))
  go_ret
  exact ⟨rfl, bel1 HB1.out⟩
 ·rw [h2]
  rw [h1] at IN
  rw [h4] at GS
  generalize gnF b.data.toList = gb at *
  clear h2
  go_enter Tryz.func173, Tryz.ntmps173
  go_wp2_with (go_at_call 145; refine (IN _).mono ?_; rintro e w' ⟨rfl, hw⟩; obtain rfl := hw.symm; clear hw)
  refine (GS _ HB0.out).mono ?_
  rintro e w1 ⟨rfl, hb⟩
  have HB1 : Hid (Below (w.alloc (refO b s r c fr fc)).heap.size (w.alloc (refO b s r c fr fc)) w1) := hb
  clear hb GS
  obtain ⟨c0, c1, c2, c3, c4, c5⟩ := r_cells (new1 HB1.out)
  go_wp2_with fail
  refine (GB _ HB1.out).mono ?_
  rintro e w2 ⟨rfl, hb⟩
  have HB2 : Hid (Below (w.alloc (refO b s r c fr fc)).heap.size (w.alloc (refO b s r c fr fc)) w2) := hb
  clear hb
  obtain ⟨c0, c1, c2, c3, c4, c5⟩ := r_cells (new1 HB2.out)
  cases gb
  all_goals (go_wp2; go_ret; exact ⟨rfl, bel1 HB2.out⟩)
theorem rn1 : Utf8.encode (65 + ((1 : Nat) : Int) - 1) = ⟨#[Ad.colC 1]⟩ := by kernel_rfl
theorem rn2 : Utf8.encode (65 + ((2 : Nat) : Int) - 1) = ⟨#[Ad.colC 2]⟩ := by kernel_rfl
theorem rn3 : Utf8.encode (65 + ((3 : Nat) : Int) - 1) = ⟨#[Ad.colC 3]⟩ := by kernel_rfl
theorem rn4 : Utf8.encode (65 + ((4 : Nat) : Int) - 1) = ⟨#[Ad.colC 4]⟩ := by kernel_rfl
theorem rn5 : Utf8.encode (65 + ((5 : Nat) : Int) - 1) = ⟨#[Ad.colC 5]⟩ := by kernel_rfl
theorem rn6 : Utf8.encode (65 + ((6 : Nat) : Int) - 1) = ⟨#[Ad.colC 6]⟩ := by kernel_rfl
theorem rn7 : Utf8.encode (65 + ((7 : Nat) : Int) - 1) = ⟨#[Ad.colC 7]⟩ := by kernel_rfl
theorem rn8 : Utf8.encode (65 + ((8 : Nat) : Int) - 1) = ⟨#[Ad.colC 8]⟩ := by kernel_rfl
theorem rn9 : Utf8.encode (65 + ((9 : Nat) : Int) - 1) = ⟨#[Ad.colC 9]⟩ := by kernel_rfl
theorem rn10 : Utf8.encode (65 + ((10 : Nat) : Int) - 1) = ⟨#[Ad.colC 10]⟩ := by kernel_rfl
theorem rn11 : Utf8.encode (65 + ((11 : Nat) : Int) - 1) = ⟨#[Ad.colC 11]⟩ := by kernel_rfl
theorem rn12 : Utf8.encode (65 + ((12 : Nat) : Int) - 1) = ⟨#[Ad.colC 12]⟩ := by kernel_rfl
theorem rn13 : Utf8.encode (65 + ((13 : Nat) : Int) - 1) = ⟨#[Ad.colC 13]⟩ := by kernel_rfl
theorem rn14 : Utf8.encode (65 + ((14 : Nat) : Int) - 1) = ⟨#[Ad.colC 14]⟩ := by kernel_rfl
theorem rn15 : Utf8.encode (65 + ((15 : Nat) : Int) - 1) = ⟨#[Ad.colC 15]⟩ := by kernel_rfl
theorem rn16 : Utf8.encode (65 + ((16 : Nat) : Int) - 1) = ⟨#[Ad.colC 16]⟩ := by kernel_rfl
theorem rn17 : Utf8.encode (65 + ((17 : Nat) : Int) - 1) = ⟨#[Ad.colC 17]⟩ := by kernel_rfl
theorem rn18 : Utf8.encode (65 + ((18 : Nat) : Int) - 1) = ⟨#[Ad.colC 18]⟩ := by kernel_rfl
theorem rn19 : Utf8.encode (65 + ((19 : Nat) : Int) - 1) = ⟨#[Ad.colC 19]⟩ := by kernel_rfl
theorem rn20 : Utf8.encode (65 + ((20 : Nat) : Int) - 1) = ⟨#[Ad.colC 20]⟩ := by kernel_rfl
theorem rn21 : Utf8.encode (65 + ((21 : Nat) : Int) - 1) = ⟨#[Ad.colC 21]⟩ := by kernel_rfl
theorem rn22 : Utf8.encode (65 + ((22 : Nat) : Int) - 1) = ⟨#[Ad.colC 22]⟩ := by kernel_rfl
theorem rn23 : Utf8.encode (65 + ((23 : Nat) : Int) - 1) = ⟨#[Ad.colC 23]⟩ := by kernel_rfl
theorem rn24 : Utf8.encode (65 + ((24 : Nat) : Int) - 1) = ⟨#[Ad.colC 24]⟩ := by kernel_rfl
theorem rn25 : Utf8.encode (65 + ((25 : Nat) : Int) - 1) = ⟨#[Ad.colC 25]⟩ := by kernel_rfl
theorem rn26 : Utf8.encode (65 + ((26 : Nat) : Int) - 1) = ⟨#[Ad.colC 26]⟩ := by kernel_rfl
theorem run_rune (n : Nat) (h1 : 1 ≤ n) (h2 : n ≤ 26) : Utf8.encode (65 + (n : Int) - 1) = ⟨#[Ad.colC n]⟩ := by
 have h : n = 1 ∨ n = 2 ∨ n = 3 ∨ n = 4 ∨ n = 5 ∨ n = 6 ∨ n = 7 ∨ n = 8 ∨ n = 9 ∨ n = 10 ∨ n = 11 ∨ n = 12 ∨ n = 13 ∨ n = 14 ∨ n = 15 ∨ n = 16 ∨ n = 17 ∨ n = 18 ∨ n = 19 ∨ n = 20 ∨ n = 21 ∨ n = 22 ∨ n = 23 ∨ n = 24 ∨ n = 25 ∨ n = 26 := by omega
 rcases h with rfl | rfl | rfl | rfl | rfl | rfl | rfl | rfl | rfl | rfl | rfl | rfl | rfl | rfl | rfl | rfl | rfl | rfl | rfl | rfl | rfl | rfl | rfl | rfl | rfl | rfl
 ·exact rn1
 ·exact rn2
 ·exact rn3
 ·exact rn4
 ·exact rn5
 ·exact rn6
 ·exact rn7
 ·exact rn8
 ·exact rn9
 ·exact rn10
 ·exact rn11
 ·exact rn12
 ·exact rn13
 ·exact rn14
 ·exact rn15
 ·exact rn16
 ·exact rn17
 ·exact rn18
 ·exact rn19
 ·exact rn20
 ·exact rn21
 ·exact rn22
 ·exact rn23
 ·exact rn24
 ·exact rn25
 ·exact rn26
theorem wrap_i64 {n : Int} (h1 : -9223372036854775808 ≤ n) (h2 : n ≤ 9223372036854775807) : IntKind.i64.wrap n = n := by
 rw [IntKind.wrap_i64]; omega
theorem wrap_i32 {n : Int} (h1 : -2147483648 ≤ n) (h2 : n ≤ 2147483647) : IntKind.i32.wrap n = n := by
 rw [IntKind.wrap_i32]; omega
def dolB (f : Bool) : ByteArray := if f = true then ⟨#[36]⟩ else ⟨#[]⟩
theorem dol_size (f : Bool) : (dolB f).size ≤ 1 := by cases f <;> decide
theorem dec_short (n : Nat) (h : n ≤ 64) : (⟨(Lib.decDigits n).toArray⟩ : ByteArray).size ≤ 2 := by
 rw [size_mk]
 by_cases e : n < 10
 ·rw [Lib.decDigits_one e]; simp
 ·rw [Lib.decDigits, dif_neg e, Lib.decDigits_one (by omega)]; simp
def cellB (R C : Nat) (fr fc : Bool) : ByteArray := ⟨(Ad.cellW ⟨R, C, fr, fc⟩).toArray⟩
theorem cellB_eq (R C : Nat) (fr fc : Bool) : dolB fc ++ ⟨#[Ad.colC C]⟩ ++ dolB fr ++ ⟨(Lib.decDigits R).toArray⟩ = cellB R C fr fc := by
 unfold cellB Ad.cellW dolB
 apply ByteArray.ext
 cases fr <;> cases fc <;> simp
theorem pcell_any (b s : ByteArray) (R C : Nat) (fr fc : Bool) (hR1 : 1 ≤ R) (hR2 : R ≤ 64) (hC1 : 1 ≤ C) (hC2 : C ≤ 26) (w : World) (T : Tabs w) :
  Calls Tryz.prog 225 #[refV b s R C fr fc] w fun e w' => e = .returned (.string (cellB R C fr fc)) ∧ Below w.heap.size w w' := by
 have D1 : RC (w.alloc (refO b s R C fr fc)) 265 #[.bool fc] (.string (dolB fc)) := RC.same fun u hu => dollar_any fc u
 have D2 : RC (w.alloc (refO b s R C fr fc)) 265 #[.bool fr] (.string (dolB fr)) := RC.same fun u hu => dollar_any fr u
 have IT : RC (w.alloc (refO b s R C fr fc)) 221 #[.int .i64 R] (.string ⟨(Lib.decDigits R).toArray⟩) := RC.of fun u hu => itoa_any R (by omega) u (T.below (bel1 hu)).p
 have CV := run_rune C hC1 hC2
 obtain ⟨m1, e1⟩ : ∃ m1 : Int, 65 + (C : Int) = m1 := ⟨_, rfl⟩
 rw [e1] at CV
 obtain ⟨m2, e2⟩ : ∃ m2 : Int, m1 - 1 = m2 := ⟨_, rfl⟩
 rw [e2] at CV
 have k1 : IntKind.i64.wrap m1 = m1 := wrap_i64 (by omega) (by omega)
 have k2 : IntKind.i64.wrap m2 = m2 := wrap_i64 (by omega) (by omega)
 have k3 : IntKind.i32.wrap m2 = m2 := wrap_i32 (by omega) (by omega)
 have z1 := dol_size fc
 have z2 := dol_size fr
 have z3 := dec_short R hR2
 rw [← cellB_eq]
 generalize dolB fc = X1 at *
 generalize dolB fr = X2 at *
 generalize (⟨(Lib.decDigits R).toArray⟩ : ByteArray) = X3 at *
 have z4 : (⟨#[Ad.colC C]⟩ : ByteArray).size ≤ 1 := Nat.le_refl 1
 generalize (⟨#[Ad.colC C]⟩ : ByteArray) = X4 at *
 have z5 : ¬ 9223372036854775807 < X1.size + X4.size := by omega
 have z6 : ¬ 9223372036854775807 < X1.size + X4.size + X2.size := by omega
 have z7 : ¬ 9223372036854775807 < X1.size + X4.size + X2.size + X3.size := by omega
 have HC : Hid (∀ u : World, Below (w.alloc (refO b s R C fr fc)).heap.size (w.alloc (refO b s R C fr fc)) u → u.cell? ⟨w.heap.size, 2, none⟩ = some (.int .i64 R) ∧ u.cell? ⟨w.heap.size, 3, none⟩ = some (.int .i64 C) ∧ u.cell? ⟨w.heap.size, 4, none⟩ = some (.bool fr) ∧ u.cell? ⟨w.heap.size, 5, none⟩ = some (.bool fc)) :=
  fun u hu => (r_cells (new1 hu)).2.2
 have HB : Hid (Below (w.alloc (refO b s R C fr fc)).heap.size (w.alloc (refO b s R C fr fc)) (w.alloc (refO b s R C fr fc)).drew) := (Below.refl _ _).drew
 go_enter Tryz.func225, Tryz.ntmps225
 go_wp2
 go_region_held_law (fun u => u.cell? ⟨w.heap.size, 2, none⟩ = some (.int .i64 R) ∧ u.cell? ⟨w.heap.size, 3, none⟩ = some (.int .i64 C) ∧ u.cell? ⟨w.heap.size, 4, none⟩ = some (.bool fr) ∧ u.cell? ⟨w.heap.size, 5, none⟩ = some (.bool fc))
  (exact HC.out _ HB.out) (first
  | (go_at_call_of 265 fc; refine (D1 _ HB.out).mono ?_; rintro e w7 ⟨rfl, hb⟩; have HB : Hid (Below (w.alloc (refO b s R C fr fc)).heap.size (w.alloc (refO b s R C fr fc)) w7) := hb; clear hb)
  | (go_at_call_of 265 fr; refine (D2 _ HB.out).mono ?_; rintro e w7 ⟨rfl, hb⟩; have HB : Hid (Below (w.alloc (refO b s R C fr fc)).heap.size (w.alloc (refO b s R C fr fc)) w7) := hb; clear hb)
  | (go_at_call 221; refine (IT _ HB.out).mono ?_; rintro e w7 ⟨rfl, hb⟩; have HB : Hid (Below (w.alloc (refO b s R C fr fc)).heap.size (w.alloc (refO b s R C fr fc)) w7) := hb; clear hb))
 all_goals (go_wp2; go_ret; exact ⟨rfl, bel1 HB.out⟩)
end Go.Proofs.YtnibldnfbikipaaGreatDoor
namespace Go.Proofs.YtnibldnfbikipaaGreatDoor.Dg
open Go.RowKit
theorem conv96 (w : World) (z : Int) : (convert 96 9 (.slice (some ⟨w.heap.size, 0, none⟩) 1 1)).run Tryz.prog (w.alloc (.cells #[.int .u8 z] 5)) = .ok (.string ⟨#[UInt8.ofNat z.toNat]⟩) (w.alloc (.cells #[.int .u8 z] 5)) := by
 have hl : (loadCells ⟨w.heap.size, 0, none⟩ 1).run Tryz.prog (w.alloc (.cells #[.int .u8 z] 5)) = .ok (([z] : List Int).map (Value.int .u8)).toArray (w.alloc (.cells #[.int .u8 z] 5)) := by
  refine run_loadCells_list (P := Tryz.prog) _ ⟨w.heap.size, 0, none⟩ [.int .u8 z] fun j u hj => ?_
  match j, hj with
  | 0, hj =>
   cases hj
   simp only [World.cell?]
   rw [show ((⟨w.heap.size, 0, none⟩ : Addr).add 0) = ⟨w.heap.size, 0, none⟩ from rfl, heap_alloc_new]
   rfl
 rw [run_convert_bytes_string _ 96 9 5 _ 1 1 Tryz.underlying96 Tryz.underlying5 Tryz.underlying9, run_bytesToString _ _ 1 1 _ hl, foldl_push_bytes]
 rfl
theorem dec_two (m : Nat) (h : ¬ m / 10 = 0) : Lib.decDigits m = Lib.decDigits (m / 10) ++ [UInt8.ofNat (48 + m % 10)] := by
 rw [Lib.decDigits, dif_neg (by omega)]
theorem rDigits_any (n : Nat) (hn : n < 18446744073459551616) (w : World) :
  Calls Tryz.prog 186 #[.int .u64 n] w fun e w' => e = .returned (.string ⟨(Lib.decDigits n).toArray⟩) ∧ Below w.heap.size w w' := by
 have hlen := (dec_len 20 n (by decide) (by omega)).2
 generalize hr : (⟨(Lib.decDigits n).toArray⟩ : ByteArray) = r
 have HR : Hid ((⟨(Lib.decDigits n).toArray⟩ : ByteArray) = r) := hr
 clear hr
 go_enter Tryz.func186, Tryz.ntmps186
 go_wp2
 go_loopw [0, 3] (fun u0 u3 wr => ∃ (m : Nat) (t : ByteArray), u0 = .int .u64 m ∧ u3 = .string t ∧ m < 18446744073459551616 ∧ t.size ≤ 20 ∧ Hid (Below w.heap.size w wr ∧ ∃ L : List UInt8, t = ⟨L.toArray⟩ ∧ Lib.decDigits n = Lib.decDigits m ++ L)) (fun u0 _ _ => (intOf u0).toNat)
 case atStart => exact ⟨n, ⟨#[]⟩, rfl, rfl, hn, by decide, Below.refl _ _, [], rfl, by simp⟩
 case round =>
  obtain ⟨m, t, rfl, rfl, hm, ht, hH⟩ := hrel
  have hcv := conv96 wr (48 + (m : Int) % 10)
  have hne : Hid ((⟨#[UInt8.ofNat (48 + (m : Int) % 10).toNat]⟩ : ByteArray) ++ t = ⟨([UInt8.ofNat (48 + m % 10)] ++ (t.data.toList)).toArray⟩) := by
   show _ = _
   rw [show (48 + (m : Int) % 10).toNat = 48 + m % 10 by omega]
   exact app_mk [UInt8.ofNat (48 + m % 10)] t.data.toList
  generalize hX : (⟨#[UInt8.ofNat (48 + (m : Int) % 10).toNat]⟩ : ByteArray) = X at *
  have hXs : X.size = 1 := by rw [← hX]; rfl
  clear hX
  have hsz : (X ++ t).size ≤ 21 := by rw [ByteArray.size_append]; omega
  by_cases hz : m / 10 = 0
  ·have hz' : (m : Int) / 10 = 0 := by omega
   have HE : Hid (r = X ++ t) := by
    obtain ⟨_, L, rfl, e⟩ := hH.out
    show _ = _
    rw [← HR.out, hne.out, e, Lib.decDigits_one (by omega)]
    rw [show m % 10 = m by omega]
   go_wp2
   go_ret
   exact ⟨by rw [HE.out]; rfl, hH.out.1.alloc (hH.out.1.size) _⟩
  ·have hz' : ((m : Int) / 10 == 0) = false := by simp; omega
   have HL : Hid (∃ L : List UInt8, X ++ t = ⟨L.toArray⟩ ∧ Lib.decDigits n = Lib.decDigits (m / 10) ++ L) := by
    obtain ⟨_, L, rfl, e⟩ := hH.out
    refine ⟨_, hne.out, ?_⟩
    rw [e, dec_two m hz]
    simp
   have hs2 : (X ++ t).size ≤ 20 := by
    obtain ⟨L, e1, e2⟩ := HL.out
    rw [e1, size_mk]
    have := congrArg List.length e2
    simp at this
    have := (dec_len 20 (m / 10) (by decide) (by omega)).1
    omega
   go_wp2
   go_roundw
   case rel => exact ⟨m / 10, X ++ t, by go_num, rfl, by omega, hs2, hH.out.1.alloc (hH.out.1.size) _, HL.out⟩
   case measure => simp [intOf]; omega
theorem ritoa_any (n : Nat) (hn : n ≤ 100000) (w : World) : Calls Tryz.prog 146 #[.int .i64 n] w fun e w' => e = .returned (.string ⟨(Lib.decDigits n).toArray⟩) ∧ Below w.heap.size w w' := by
 have D := fun u => rDigits_any n (by omega) u
 generalize (⟨(Lib.decDigits n).toArray⟩ : ByteArray) = A at *
 go_enter Tryz.func146, Tryz.ntmps146
 go_wp2_with (go_at_call 186; refine (D _).mono ?_; rintro e w1 ⟨rfl, hb1⟩; have HB1 : Hid _ := hb1; clear hb1)
 go_ret
 exact ⟨rfl, HB1.out⟩
theorem mk_list (t : ByteArray) : (⟨t.data.toList.toArray⟩ : ByteArray) = t := by
 cases t
 simp
end Go.Proofs.YtnibldnfbikipaaGreatDoor.Dg
namespace Go.Proofs.YtnibldnfbikipaaGreatDoor
open Go.RowKit
theorem conv_one {u : World} {g : Nat} {z : Int} {m : Nat × Nat} (h : u.heap[g]? = some (.cells #[.int .u8 z] 5 m)) : (convert 96 9 (.slice (some ⟨g, 0, none⟩) 1 1)).run Tryz.prog u = .ok (.string ⟨#[UInt8.ofNat z.toNat]⟩) u := by
 have hl : (loadCells ⟨g, 0, none⟩ 1).run Tryz.prog u = .ok (([z] : List Int).map (Value.int .u8)).toArray u := by
  refine run_loadCells_list (P := Tryz.prog) _ ⟨g, 0, none⟩ [.int .u8 z] fun j v hj => ?_
  match j, hj with
  | 0, hj =>
   cases hj
   rw [show ((⟨g, 0, none⟩ : Addr).add 0) = ⟨g, 0, none⟩ from rfl, cell_of_row u _ _ _ 5 _ h]
   rfl
 rw [run_convert_bytes_string _ 96 9 5 _ 1 1 Tryz.underlying96 Tryz.underlying5 Tryz.underlying9, run_bytesToString _ _ 1 1 _ hl, foldl_push_bytes]
 rfl
theorem undrew {w x : World} (hb : Below w.drew.heap.size w.drew x) : Below w.heap.size w x := ⟨hb.os, hb.tape, hb.output, hb.size, hb.block⟩
theorem after_new {w w7 : World} {o : Obj} (hb : Below (w.alloc o).drew.heap.size (w.alloc o).drew w7) : Below w.heap.size w w7 ∧ w7.heap[w.heap.size]? = some o := by
 have h : Below (w.alloc o).heap.size (w.alloc o) w7 := ⟨hb.os, hb.tape, hb.output, hb.size, hb.block⟩
 exact ⟨bel1 h, new1 h⟩
theorem in_yes {r c : Int} (h : inB r c = true) : ∃ R C : Nat, r = R ∧ c = C ∧ 1 ≤ R ∧ R ≤ 64 ∧ 1 ≤ C ∧ C ≤ 26 := by
 unfold inB at h
 simp only [Bool.and_eq_true, decide_eq_true_eq] at h
 exact ⟨r.toNat, c.toNat, by omega, by omega, by omega, by omega, by omega, by omega⟩
theorem ctB_eq (R C : Nat) : (⟨#[Ad.colC C]⟩ : ByteArray) ++ ⟨(Lib.decDigits R).toArray⟩ = cellB R C false false := by
 unfold cellB Ad.cellW
 apply ByteArray.ext
 simp
theorem wrap_u8 {n : Int} (h1 : 0 ≤ n) (h2 : n ≤ 255) : IntKind.u8.wrap n = n := by
 simp [IntKind.wrap, IntKind.bits, IntKind.signed]
 omega
theorem rct_yes (R C : Nat) (hi : inB R C = true) (hR1 : 1 ≤ R) (hR2 : R ≤ 64) (hC1 : 1 ≤ C) (hC2 : C ≤ 26) (w : World) :
  Calls Tryz.prog 97 #[.int .i64 R, .int .i64 C] w fun e w' => e = .returned (.string (cellB R C false false)) ∧ Below w.heap.size w w' := by
 have IN := fun u => rin_any R C u
 rw [hi] at IN
 clear hi
 have IT := fun u => Dg.ritoa_any R (by omega) u
 have z3 := dec_short R hR2
 rw [← ctB_eq]
 generalize (⟨(Lib.decDigits R).toArray⟩ : ByteArray) = X3 at *
 obtain ⟨m1, e1⟩ : ∃ m1 : Int, 65 + (C : Int) = m1 := ⟨_, rfl⟩
 obtain ⟨m2, e2⟩ : ∃ m2 : Int, m1 - 1 = m2 := ⟨_, rfl⟩
 have k1 : IntKind.i64.wrap m1 = m1 := wrap_i64 (by omega) (by omega)
 have k2 : IntKind.i64.wrap m2 = m2 := wrap_i64 (by omega) (by omega)
 have k3 : IntKind.u8.wrap m2 = m2 := wrap_u8 (by omega) (by omega)
 have e4 : (⟨#[UInt8.ofNat m2.toNat]⟩ : ByteArray) = ⟨#[Ad.colC C]⟩ := by
  unfold Ad.colC
  rw [show m2.toNat = 64 + C by omega]
 have z4 : (⟨#[Ad.colC C]⟩ : ByteArray).size ≤ 1 := Nat.le_refl 1
 have CV : Hid (∀ (u : World) (g : Nat) (m : Nat × Nat), u.heap[g]? = some (.cells #[.int .u8 m2] 5 m) → (convert 96 9 (.slice (some ⟨g, 0, none⟩) 1 1)).run Tryz.prog u = .ok (.string ⟨#[Ad.colC C]⟩) u) := fun u g m h => by rw [conv_one h, e4]
 clear e4
 generalize (⟨#[Ad.colC C]⟩ : ByteArray) = X4 at *
 have z5 : ¬ 9223372036854775807 < X4.size + X3.size := by omega
 have c1 : (convert 96 9 (.slice (some ⟨w.heap.size, 0, none⟩) 1 1)).run Tryz.prog (w.alloc (.cells #[.int .u8 m2] 5)).drew = .ok (.string X4) (w.alloc (.cells #[.int .u8 m2] 5)).drew := CV.out _ _ _ (heap_alloc_new w _)
 have ITa := IT (w.alloc (.cells #[.int .u8 m2] 5)).drew
 have ITb := IT w.drew
 go_enter Tryz.func97, Tryz.ntmps97
 go_wp2_with (go_at_call 145; refine (IN _).mono ?_; rintro e w' ⟨rfl, hw⟩; obtain rfl := hw.symm; clear hw)
 go_region_held_law (fun _ => True) (trivial) (first
  | (go_at_call 146; refine ITa.mono ?_; rintro e w7 ⟨rfl, hb⟩; have HB : Hid (Below w.heap.size w w7) := (after_new hb).1; have c2 := CV.out w7 w.heap.size (0, 0) (after_new hb).2; clear hb)
  | (go_at_call 146; refine ITb.mono ?_; rintro e w7 ⟨rfl, hb⟩; have HB : Hid (Below w.heap.size w w7) := undrew hb; have c2 := CV.out (w7.alloc (.cells #[.int .u8 m2] 5)) w7.heap.size (0, 0) (heap_alloc_new w7 _); clear hb))
 ·go_wp2
  go_ret
  exact ⟨rfl, HB.out⟩
 ·go_wp2
  go_ret
  exact ⟨rfl, HB.out⟩
 ·go_wp2
  go_ret
  exact ⟨rfl, bel_alloc HB.out _⟩
def refT (b s : ByteArray) (R C : Nat) (fr fc : Bool) : ByteArray := ⟨(Ad.refW ⟨b.data.toList, s.data.toList, ⟨R, C, fr, fc⟩⟩).toArray⟩
def prB (b s : ByteArray) (r c : Int) (fr fc : Bool) : ByteArray := if goodB b s r c = true then refT b s r.toNat c.toNat fr fc else ⟨#[]⟩
theorem gn_size {s : ByteArray} (h : gnF s.data.toList = true) : s.size ≤ 16 := by
 unfold gnF at h
 simp only [Bool.and_eq_true] at h
 rw [← size_list]
 exact (sp_parts h.1.1).1
theorem good_yes {b s : ByteArray} {r c : Int} (h : goodB b s r c = true) : ∃ R C : Nat, r = R ∧ c = C ∧ 1 ≤ R ∧ R ≤ 64 ∧ 1 ≤ C ∧ C ≤ 26 ∧
  ((s.toList = [] ∧ b.toList = []) ∨ ((s.toList == []) = false ∧ gnF s.data.toList = true ∧ b.toList = []) ∨ ((s.toList == []) = false ∧ gnF s.data.toList = true ∧ (b.toList == []) = false ∧ gnF b.data.toList = true)) := by
 rcases good_ways b s r c with ⟨_, h2⟩ | ⟨h1, h3, h4, _⟩ | ⟨_, _, _, h2⟩ | ⟨_, _, _, h2⟩ | ⟨h1, h3, h4, h5, h2⟩ | ⟨h1, h3, h4, h5, h2⟩
 ·rw [h] at h2; cases h2
 ·obtain ⟨R, C, e1, e2, q1, q2, q3, q4⟩ := in_yes h1
  exact ⟨R, C, e1, e2, q1, q2, q3, q4, .inl ⟨h3, h4⟩⟩
 ·rw [h] at h2; cases h2
 ·rw [h] at h2; cases h2
 ·obtain ⟨R, C, e1, e2, q1, q2, q3, q4⟩ := in_yes h1
  exact ⟨R, C, e1, e2, q1, q2, q3, q4, .inr (.inl ⟨h3, h4, h5⟩)⟩
 ·obtain ⟨R, C, e1, e2, q1, q2, q3, q4⟩ := in_yes h1
  exact ⟨R, C, e1, e2, q1, q2, q3, q4, .inr (.inr ⟨h3, h4, h5, h2.symm.trans h⟩)⟩
theorem nil_data {s : ByteArray} (h : s.toList = []) : s.data.toList = [] := by rw [← ByteArray.toList_eq]; exact h
theorem ne_data {s : ByteArray} (h : (s.toList == []) = false) : ¬ s.data.toList = [] := by
 rw [← ByteArray.toList_eq]
 simpa using h
theorem refT_ways {b s : ByteArray} {R C : Nat} {fr fc : Bool} (hw : (s.toList = [] ∧ b.toList = []) ∨ ((s.toList == []) = false ∧ gnF s.data.toList = true ∧ b.toList = []) ∨ ((s.toList == []) = false ∧ gnF s.data.toList = true ∧ (b.toList == []) = false ∧ gnF b.data.toList = true)) :
  (s.toList = [] ∧ b.toList = [] ∧ refT b s R C fr fc = cellB R C fr fc) ∨ ((s.toList == []) = false ∧ s.size ≤ 16 ∧ b.toList = [] ∧ refT b s R C fr fc = s ++ ⟨#[33]⟩ ++ cellB R C fr fc) ∨ ((s.toList == []) = false ∧ s.size ≤ 16 ∧ (b.toList == []) = false ∧ b.size ≤ 16 ∧ refT b s R C fr fc = (⟨#[91]⟩ : ByteArray) ++ b ++ ⟨#[93]⟩ ++ (s ++ ⟨#[33]⟩ ++ cellB R C fr fc)) := by
 unfold refT Ad.refW cellB
 rcases hw with ⟨h1, h2⟩ | ⟨h1, h3, h2⟩ | ⟨h1, h3, h2, h4⟩
 ·left
  refine ⟨h1, h2, ?_⟩
  simp only [nil_data h1, nil_data h2, if_true, List.nil_append]
 ·right; left
  refine ⟨h1, gn_size h3, h2, ?_⟩
  simp only [nil_data h2, if_true, List.nil_append, if_neg (ne_data h1)]
  apply ByteArray.ext
  simp
 ·right; right
  refine ⟨h1, gn_size h3, h2, gn_size h4, ?_⟩
  simp only [if_neg (ne_data h2), if_neg (ne_data h1)]
  apply ByteArray.ext
  simp
theorem cellB_size (R C : Nat) (fr fc : Bool) (h1 : 1 ≤ R) (h2 : R ≤ 64) : (cellB R C fr fc).size ≤ 5 := by
 rw [← cellB_eq]
 have z1 := dol_size fc
 have z2 := dol_size fr
 have z3 := dec_short R h2
 have z4 : (⟨#[Ad.colC C]⟩ : ByteArray).size = 1 := rfl
 simp only [ByteArray.size_append, z4]
 omega
theorem aprint_no {b s : ByteArray} {r c : Int} {fr fc : Bool} {w : World} (GD : RC (w.alloc (refO b s r c fr fc)) 167 #[refV b s r c fr fc] (.bool false)) :
  Calls Tryz.prog 180 #[refV b s r c fr fc] w fun e w' => e = .returned (.string ⟨#[]⟩) ∧ Below w.heap.size w w' := by
 have HB0 : Hid (Below (w.alloc (refO b s r c fr fc)).heap.size (w.alloc (refO b s r c fr fc)) (w.alloc (refO b s r c fr fc))) := Below.refl _ _
 go_enter Tryz.func180, Tryz.ntmps180
 go_wp2_with (go_at_call 167; refine (GD _ HB0.out).mono ?_; rintro e w1 ⟨rfl, hb⟩; have HB1 : Hid (Below (w.alloc (refO b s r c fr fc)).heap.size (w.alloc (refO b s r c fr fc)) w1) := hb; clear hb)
 go_ret
 exact ⟨rfl, bel1 HB1.out⟩
theorem aprint_core {b s X R : ByteArray} {r c : Int} {fr fc : Bool} {w : World} (GD : RC (w.alloc (refO b s r c fr fc)) 167 #[refV b s r c fr fc] (.bool true)) (CE : RC (w.alloc (refO b s r c fr fc)) 225 #[refV b s r c fr fc] (.string X)) (hX : X.size ≤ 5)
  (hw : (s.toList = [] ∧ b.toList = [] ∧ R = X) ∨ ((s.toList == []) = false ∧ s.size ≤ 16 ∧ b.toList = [] ∧ R = s ++ ⟨#[33]⟩ ++ X) ∨ ((s.toList == []) = false ∧ s.size ≤ 16 ∧ (b.toList == []) = false ∧ b.size ≤ 16 ∧ R = (⟨#[91]⟩ : ByteArray) ++ b ++ ⟨#[93]⟩ ++ (s ++ ⟨#[33]⟩ ++ X))) :
  Calls Tryz.prog 180 #[refV b s r c fr fc] w fun e w' => e = .returned (.string R) ∧ Below w.heap.size w w' := by
 have HB0 : Hid (Below (w.alloc (refO b s r c fr fc)).heap.size (w.alloc (refO b s r c fr fc)) (w.alloc (refO b s r c fr fc))) := Below.refl _ _
 have y1 : (⟨#[33]⟩ : ByteArray).size ≤ 1 := Nat.le_refl 1
 have y2 : (⟨#[91]⟩ : ByteArray).size ≤ 1 := Nat.le_refl 1
 have y3 : (⟨#[93]⟩ : ByteArray).size ≤ 1 := Nat.le_refl 1
 rcases hw with ⟨h1, h2, rfl⟩ | ⟨h1, h3, h2, rfl⟩ | ⟨h1, h3, h2, h4, rfl⟩
 all_goals
  go_enter Tryz.func180, Tryz.ntmps180
  go_wp2_with (first | (go_at_call 167; refine (GD _ HB0.out).mono ?_; rintro e w1 ⟨rfl, hb⟩; have HB1 : Hid (Below (w.alloc (refO b s r c fr fc)).heap.size (w.alloc (refO b s r c fr fc)) w1) := hb; clear hb; obtain ⟨c0, c1, c2, c3, c4, c5⟩ := r_cells (new1 HB1.out)) | (go_at_call 225; refine (CE _ HB1.out).mono ?_; rintro e w2 ⟨rfl, hb⟩; have HB2 : Hid (Below (w.alloc (refO b s r c fr fc)).heap.size (w.alloc (refO b s r c fr fc)) w2) := hb; clear hb; obtain ⟨d0, d1, d2, d3, d4, d5⟩ := r_cells (new1 HB2.out)))
  go_ret
  exact ⟨rfl, bel1 HB2.out⟩
theorem aprint_any (b s : ByteArray) (r c : Int) (fr fc : Bool) (hb : b.size ≤ 9223372036854775807) (hs : s.size ≤ 9223372036854775807) (w : World) (T : Tabs w) :
  Calls Tryz.prog 180 #[refV b s r c fr fc] w fun e w' => e = .returned (.string (prB b s r c fr fc)) ∧ Below w.heap.size w w' := by
 have GD : RC (w.alloc (refO b s r c fr fc)) 167 #[refV b s r c fr fc] _ := RC.of fun u hu => agood_any b s r c fr fc hb hs u (T.below (bel1 hu))
 unfold prB
 cases hg : goodB b s r c
 ·rw [hg] at GD
  exact aprint_no GD
 ·rw [hg] at GD
  obtain ⟨R, C, rfl, rfl, q1, q2, q3, q4, hw⟩ := good_yes hg
  have CE : RC (w.alloc (refO b s R C fr fc)) 225 #[refV b s R C fr fc] (.string (cellB R C fr fc)) := RC.of fun u hu => pcell_any b s R C fr fc q1 q2 q3 q4 u (T.below (bel1 hu))
  exact aprint_core GD CE (cellB_size R C fr fc q1 q2) (refT_ways hw)
end Go.Proofs.YtnibldnfbikipaaGreatDoor
