/- The text of a cell, of the program. -/
import Derived.Test.YtjimgjohfpcnpaaDoorAGoodR
namespace Go.Proofs.YtjimgjohfpcnpaaDoor
open Go.RowKit
set_option maxRecDepth 100000
set_option linter.unusedVariables false
set_option linter.unusedSimpArgs false
theorem rn1 : Utf8.encode (65 + ((1 : Nat) : Int) - 1) = ⟨#[Ad.colC 1]⟩ := by kernel_rfl
theorem rn2 : Utf8.encode (65 + ((2 : Nat) : Int) - 1) = ⟨#[Ad.colC 2]⟩ := by kernel_rfl
theorem rn3 : Utf8.encode (65 + ((3 : Nat) : Int) - 1) = ⟨#[Ad.colC 3]⟩ := by kernel_rfl
theorem rn4 : Utf8.encode (65 + ((4 : Nat) : Int) - 1) = ⟨#[Ad.colC 4]⟩ := by kernel_rfl
theorem rn5 : Utf8.encode (65 + ((5 : Nat) : Int) - 1) = ⟨#[Ad.colC 5]⟩ := by kernel_rfl
theorem rn6 : Utf8.encode (65 + ((6 : Nat) : Int) - 1) = ⟨#[Ad.colC 6]⟩ := by kernel_rfl
theorem rn7 : Utf8.encode (65 + ((7 : Nat) : Int) - 1) = ⟨#[Ad.colC 7]⟩ := by kernel_rfl
theorem rn8 : Utf8.encode (65 + ((8 : Nat) : Int) - 1) = ⟨#[Ad.colC 8]⟩ := by kernel_rfl
theorem rn9 : Utf8.encode (65 + ((9 : Nat) : Int) - 1) = ⟨#[Ad.colC 9]⟩ := by kernel_rfl
theorem rn10 : Utf8.encode (65 + ((10 : Nat) : Int) - 1) = ⟨#[Ad.colC 10]⟩ := by kernel_rfl
theorem rn11 : Utf8.encode (65 + ((11 : Nat) : Int) - 1) = ⟨#[Ad.colC 11]⟩ := by kernel_rfl
theorem rn12 : Utf8.encode (65 + ((12 : Nat) : Int) - 1) = ⟨#[Ad.colC 12]⟩ := by kernel_rfl
theorem rn13 : Utf8.encode (65 + ((13 : Nat) : Int) - 1) = ⟨#[Ad.colC 13]⟩ := by kernel_rfl
theorem rn14 : Utf8.encode (65 + ((14 : Nat) : Int) - 1) = ⟨#[Ad.colC 14]⟩ := by kernel_rfl
theorem rn15 : Utf8.encode (65 + ((15 : Nat) : Int) - 1) = ⟨#[Ad.colC 15]⟩ := by kernel_rfl
theorem rn16 : Utf8.encode (65 + ((16 : Nat) : Int) - 1) = ⟨#[Ad.colC 16]⟩ := by kernel_rfl
theorem rn17 : Utf8.encode (65 + ((17 : Nat) : Int) - 1) = ⟨#[Ad.colC 17]⟩ := by kernel_rfl
theorem rn18 : Utf8.encode (65 + ((18 : Nat) : Int) - 1) = ⟨#[Ad.colC 18]⟩ := by kernel_rfl
theorem rn19 : Utf8.encode (65 + ((19 : Nat) : Int) - 1) = ⟨#[Ad.colC 19]⟩ := by kernel_rfl
theorem rn20 : Utf8.encode (65 + ((20 : Nat) : Int) - 1) = ⟨#[Ad.colC 20]⟩ := by kernel_rfl
theorem rn21 : Utf8.encode (65 + ((21 : Nat) : Int) - 1) = ⟨#[Ad.colC 21]⟩ := by kernel_rfl
theorem rn22 : Utf8.encode (65 + ((22 : Nat) : Int) - 1) = ⟨#[Ad.colC 22]⟩ := by kernel_rfl
theorem rn23 : Utf8.encode (65 + ((23 : Nat) : Int) - 1) = ⟨#[Ad.colC 23]⟩ := by kernel_rfl
theorem rn24 : Utf8.encode (65 + ((24 : Nat) : Int) - 1) = ⟨#[Ad.colC 24]⟩ := by kernel_rfl
theorem rn25 : Utf8.encode (65 + ((25 : Nat) : Int) - 1) = ⟨#[Ad.colC 25]⟩ := by kernel_rfl
theorem rn26 : Utf8.encode (65 + ((26 : Nat) : Int) - 1) = ⟨#[Ad.colC 26]⟩ := by kernel_rfl
theorem run_rune (n : Nat) (h1 : 1 ≤ n) (h2 : n ≤ 26) : Utf8.encode (65 + (n : Int) - 1) = ⟨#[Ad.colC n]⟩ := by
  have h : n = 1 ∨ n = 2 ∨ n = 3 ∨ n = 4 ∨ n = 5 ∨ n = 6 ∨ n = 7 ∨ n = 8 ∨ n = 9 ∨ n = 10 ∨ n = 11 ∨ n = 12 ∨ n = 13 ∨ n = 14 ∨ n = 15 ∨ n = 16 ∨ n = 17 ∨ n = 18 ∨ n = 19 ∨ n = 20 ∨ n = 21 ∨ n = 22 ∨ n = 23 ∨ n = 24 ∨ n = 25 ∨ n = 26 := by omega
  rcases h with rfl | rfl | rfl | rfl | rfl | rfl | rfl | rfl | rfl | rfl | rfl | rfl | rfl | rfl | rfl | rfl | rfl | rfl | rfl | rfl | rfl | rfl | rfl | rfl | rfl | rfl
  · exact rn1
  · exact rn2
  · exact rn3
  · exact rn4
  · exact rn5
  · exact rn6
  · exact rn7
  · exact rn8
  · exact rn9
  · exact rn10
  · exact rn11
  · exact rn12
  · exact rn13
  · exact rn14
  · exact rn15
  · exact rn16
  · exact rn17
  · exact rn18
  · exact rn19
  · exact rn20
  · exact rn21
  · exact rn22
  · exact rn23
  · exact rn24
  · exact rn25
  · exact rn26
theorem wrap_i64 {n : Int} (h1 : -9223372036854775808 ≤ n) (h2 : n ≤ 9223372036854775807) : IntKind.i64.wrap n = n := by
  rw [IntKind.wrap_i64]; omega
theorem wrap_i32 {n : Int} (h1 : -2147483648 ≤ n) (h2 : n ≤ 2147483647) : IntKind.i32.wrap n = n := by
  rw [IntKind.wrap_i32]; omega
def dolB (f : Bool) : ByteArray := if f = true then ⟨#[36]⟩ else ⟨#[]⟩
theorem dol_size (f : Bool) : (dolB f).size ≤ 1 := by cases f <;> decide
theorem dec_short (n : Nat) (h : n ≤ 64) : (⟨(Lib.decDigits n).toArray⟩ : ByteArray).size ≤ 2 := by
  rw [size_mk]
  by_cases e : n < 10
  · rw [Lib.decDigits_one e]; simp
  · rw [Lib.decDigits, dif_neg e, Lib.decDigits_one (by omega)]; simp
/-- The text of a cell in a sheet. -/
def cellB (R C : Nat) (fr fc : Bool) : ByteArray := ⟨(Ad.cellW ⟨R, C, fr, fc⟩).toArray⟩
theorem cellB_eq (R C : Nat) (fr fc : Bool) : dolB fc ++ ⟨#[Ad.colC C]⟩ ++ dolB fr ++ ⟨(Lib.decDigits R).toArray⟩ = cellB R C fr fc := by
  unfold cellB Ad.cellW dolB
  apply ByteArray.ext
  cases fr <;> cases fc <;> simp
set_option maxHeartbeats 4000000 in
theorem pcell_any (b s : ByteArray) (R C : Nat) (fr fc : Bool) (hR1 : 1 ≤ R) (hR2 : R ≤ 64) (hC1 : 1 ≤ C) (hC2 : C ≤ 26) (w : World) (T : Tabs w) :
    Calls Tryd.prog 44 #[refV b s R C fr fc] w fun e w' => e = .returned (.string (cellB R C fr fc)) ∧ Below w.heap.size w w' := by
  have D1 : RC (w.alloc (refO b s R C fr fc)) 60 #[.bool fc] (.string (dolB fc)) := RC.same fun u hu => dollar_any fc u
  have D2 : RC (w.alloc (refO b s R C fr fc)) 60 #[.bool fr] (.string (dolB fr)) := RC.same fun u hu => dollar_any fr u
  have IT : RC (w.alloc (refO b s R C fr fc)) 56 #[.int .i64 R] (.string ⟨(Lib.decDigits R).toArray⟩) := RC.of fun u hu => itoa_any R (by omega) u (T.below (bel1 hu)).p
  have CV := run_rune C hC1 hC2
  obtain ⟨m1, e1⟩ : ∃ m1 : Int, 65 + (C : Int) = m1 := ⟨_, rfl⟩
  rw [e1] at CV
  obtain ⟨m2, e2⟩ : ∃ m2 : Int, m1 - 1 = m2 := ⟨_, rfl⟩
  rw [e2] at CV
  have k1 : IntKind.i64.wrap m1 = m1 := wrap_i64 (by omega) (by omega)
  have k2 : IntKind.i64.wrap m2 = m2 := wrap_i64 (by omega) (by omega)
  have k3 : IntKind.i32.wrap m2 = m2 := wrap_i32 (by omega) (by omega)
  have z1 := dol_size fc
  have z2 := dol_size fr
  have z3 := dec_short R hR2
  rw [← cellB_eq]
  generalize dolB fc = X1 at *
  generalize dolB fr = X2 at *
  generalize (⟨(Lib.decDigits R).toArray⟩ : ByteArray) = X3 at *
  have z4 : (⟨#[Ad.colC C]⟩ : ByteArray).size ≤ 1 := Nat.le_refl 1
  generalize (⟨#[Ad.colC C]⟩ : ByteArray) = X4 at *
  have z5 : ¬ 9223372036854775807 < X1.size + X4.size := by omega
  have z6 : ¬ 9223372036854775807 < X1.size + X4.size + X2.size := by omega
  have z7 : ¬ 9223372036854775807 < X1.size + X4.size + X2.size + X3.size := by omega
  have HC : Hid (∀ u : World, Below (w.alloc (refO b s R C fr fc)).heap.size (w.alloc (refO b s R C fr fc)) u → u.cell? ⟨w.heap.size, 2, none⟩ = some (.int .i64 R) ∧ u.cell? ⟨w.heap.size, 3, none⟩ = some (.int .i64 C) ∧ u.cell? ⟨w.heap.size, 4, none⟩ = some (.bool fr) ∧ u.cell? ⟨w.heap.size, 5, none⟩ = some (.bool fc)) :=
    fun u hu => (r_cells (new1 hu)).2.2
  have HB : Hid (Below (w.alloc (refO b s R C fr fc)).heap.size (w.alloc (refO b s R C fr fc)) (w.alloc (refO b s R C fr fc)).drew) := (Below.refl _ _).drew
  go_enter Tryd.func44, Tryd.ntmps44
  go_wp2
  go_region_held_law (fun u => u.cell? ⟨w.heap.size, 2, none⟩ = some (.int .i64 R) ∧ u.cell? ⟨w.heap.size, 3, none⟩ = some (.int .i64 C) ∧ u.cell? ⟨w.heap.size, 4, none⟩ = some (.bool fr) ∧ u.cell? ⟨w.heap.size, 5, none⟩ = some (.bool fc))
    (exact HC.out _ HB.out) (first
    | (go_at_call_of 60 fc; refine (D1 _ HB.out).mono ?_; rintro e w7 ⟨rfl, hb⟩; have HB : Hid (Below (w.alloc (refO b s R C fr fc)).heap.size (w.alloc (refO b s R C fr fc)) w7) := hb; clear hb)
    | (go_at_call_of 60 fr; refine (D2 _ HB.out).mono ?_; rintro e w7 ⟨rfl, hb⟩; have HB : Hid (Below (w.alloc (refO b s R C fr fc)).heap.size (w.alloc (refO b s R C fr fc)) w7) := hb; clear hb)
    | (go_at_call 56; refine (IT _ HB.out).mono ?_; rintro e w7 ⟨rfl, hb⟩; have HB : Hid (Below (w.alloc (refO b s R C fr fc)).heap.size (w.alloc (refO b s R C fr fc)) w7) := hb; clear hb))
  all_goals (go_wp2; go_ret; exact ⟨rfl, bel1 HB.out⟩)
end Go.Proofs.YtjimgjohfpcnpaaDoor
