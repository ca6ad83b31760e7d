/- ParseCell of the program, for every text. -/
import Derived.Test.YtjimgjohfpcnpaaDoorAParse
namespace Go.Proofs.YtjimgjohfpcnpaaDoor
open Go.RowKit
set_option maxRecDepth 100000
set_option linter.unusedVariables false
set_option linter.unusedSimpArgs false
theorem one_up (c : UInt8) (h : Ad.isL c = true) : 65 ≤ ((szB 97 65 c).toNat : Int) ∧ ((szB 97 65 c).toNat : Int) ≤ 90 ∧ ((szB 97 65 c).toNat : Int) - 65 + 1 = (Ad.colF c : Nat) := by
  unfold Ad.isL at h
  simp only [Bool.or_eq_true, Bool.and_eq_true, decide_eq_true_eq] at h
  unfold szB Ad.colF
  rcases h with h | h
  · rw [if_pos (by omega), if_pos (by omega), Ad.toNat_ofNat (by omega)]
    omega
  · rw [if_neg (by omega), if_neg (by omega)]
    omega
theorem up_one (c : UInt8) (u : World) : Calls Tryd.prog 30 #[.string ⟨#[c]⟩] u fun e w' => e = .returned (.string ⟨#[szB 97 65 c]⟩) ∧ Below u.heap.size u w' := up_any ⟨#[c]⟩ (by show 1 ≤ _; decide) u
theorem rup_one (c : UInt8) (u : World) : Calls Tryd.prog 34 #[.string ⟨#[c]⟩] u fun e w' => e = .returned (.string ⟨#[szB 97 65 c]⟩) ∧ Below u.heap.size u w' := rup_any ⟨#[c]⟩ (by show 1 ≤ _; decide) u
theorem cons_facts (c : UInt8) (r : List UInt8) : (⟨(c :: r).toArray⟩ : ByteArray).extract 0 1 = ⟨#[c]⟩ ∧ (⟨(c :: r).toArray⟩ : ByteArray).extract 1 (⟨(c :: r).toArray⟩ : ByteArray).size = ⟨r.toArray⟩ ∧ ((⟨(c :: r).toArray⟩ : ByteArray).toList == []) = false ∧ 0 < (⟨(c :: r).toArray⟩ : ByteArray).size := by
  refine ⟨?_, ?_, ?_, ?_⟩
  · apply ByteArray.ext
    simp
  · exact drop_mk (c :: r)
  · rw [ByteArray.toList_eq]; rfl
  · rw [size_mk]; simp
theorem inB_row (n : Int) (c : Nat) (h1 : 1 ≤ c) (h2 : c ≤ 26) : inB n c = true ↔ Ad.rowIn n := by
  unfold inB Ad.rowIn
  simp only [Bool.and_eq_true, decide_eq_true_eq]
  omega
theorem parsecell_any (l : List UInt8) (hl : l.length ≤ 140737488355328) (w : World) (T : Tab8 w) :
    Calls Tryd.prog 7 #[.string ⟨l.toArray⟩] w fun e w' => e = .returned (.tuple #[cellR (Ad.cellP l), .bool (Ad.cellP l).isSome]) ∧ Below w.heap.size w w' := by
  have CP := fun u => strip_any 36 l u
  have hlen := Ad.strip_len 36 l
  unfold Ad.cellP
  cases hs : (Ad.strip 36 l).2 with
  | nil =>
    rw [hs] at CP
    exact pc_empty CP (by rw [ByteArray.toList_eq])
  | cons c r =>
    rw [hs] at CP hlen
    obtain ⟨k1, k2, k3, k4⟩ := cons_facts c r
    simp only
    unfold Ad.restF
    cases hL : Ad.isL c
    · have LT := fun u => letter_any c u
      rw [hL] at LT
      rw [if_neg (by simp)]
      exact pc_other CP k3 k4 LT
    · have LT := fun u => letter_any c u
      rw [hL] at LT
      obtain ⟨b1, b2, _⟩ := Ad.colF_bd hL
      obtain ⟨y1, y2, y3⟩ := one_up c hL
      have hlr := Ad.strip_len 36 r
      have W : ∀ ok, inB (Ad.rowA (Ad.strip 36 r).2) (Ad.colF c : Nat) = ok → _ := fun ok hok => pc_letter (w := w) (ok := ok) CP k3 k4 LT k1 k2 (fun u => up_one c u) (show 0 < 1 by decide) y1 y2 y3 (fun u => strip_any 36 r u) (fun u hu => parserow_any (Ad.strip 36 r).2 (by simp only [List.length_cons] at hlen; omega) u (T.below hu)) (fun u => by have := in_any (Ad.rowA (Ad.strip 36 r).2) (Ad.colF c : Nat) u; rw [hok] at this; exact this)
      rcases Ad.row_ways (Ad.strip 36 r).2 with ⟨h1, h2⟩ | ⟨h1, h2⟩
      · have hx := W true ((inB_row _ _ b1 b2).2 h1)
        rw [h2] at hx h1
        unfold Ad.rowIn at h1
        rw [if_pos ⟨rfl, by omega, by omega⟩]
        exact hx
      · have hx := W false (by
          cases hb : inB (Ad.rowA (Ad.strip 36 r).2) (Ad.colF c : Nat)
          · rfl
          · exact absurd ((inB_row _ _ b1 b2).1 hb) h1)
        rw [if_neg (fun q => h2 q.2)]
        exact hx
end Go.Proofs.YtjimgjohfpcnpaaDoor
