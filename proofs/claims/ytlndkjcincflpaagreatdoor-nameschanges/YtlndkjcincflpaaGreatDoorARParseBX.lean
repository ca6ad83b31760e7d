/- AParse2, ARParse, ARParseB. -/
import Derived.Test.YtlndkjcincflpaaGreatDoorAParseX
set_option linter.unusedVariables false
set_option linter.unusedSimpArgs false
namespace Go.Proofs.YtlndkjcincflpaaGreatDoor
open Go.RowKit
set_option maxRecDepth 100000
theorem one_up (c : UInt8) (h : Ad.isL c = true) : 65 ≤ ((szB 97 65 c).toNat : Int) ∧ ((szB 97 65 c).toNat : Int) ≤ 90 ∧ ((szB 97 65 c).toNat : Int) - 65 + 1 = (Ad.colF c : Nat) := by
  unfold Ad.isL at h
  simp only [Bool.or_eq_true, Bool.and_eq_true, decide_eq_true_eq] at h
  unfold szB Ad.colF
  rcases h with h | h
  · rw [if_pos (by omega), if_pos (by omega), Ad.toNat_ofNat (by omega)]
    omega
  · rw [if_neg (by omega), if_neg (by omega)]
    omega
theorem up_one (c : UInt8) (u : World) : Calls Tryz.prog 141 #[.string ⟨#[c]⟩] u fun e w' => e = .returned (.string ⟨#[szB 97 65 c]⟩) ∧ Below u.heap.size u w' := up_any ⟨#[c]⟩ (by show 1 ≤ _; decide) u
theorem rup_one (c : UInt8) (u : World) : Calls Tryz.prog 107 #[.string ⟨#[c]⟩] u fun e w' => e = .returned (.string ⟨#[szB 97 65 c]⟩) ∧ Below u.heap.size u w' := rup_any ⟨#[c]⟩ (by show 1 ≤ _; decide) u
theorem cons_facts (c : UInt8) (r : List UInt8) : (⟨(c :: r).toArray⟩ : ByteArray).extract 0 1 = ⟨#[c]⟩ ∧ (⟨(c :: r).toArray⟩ : ByteArray).extract 1 (⟨(c :: r).toArray⟩ : ByteArray).size = ⟨r.toArray⟩ ∧ ((⟨(c :: r).toArray⟩ : ByteArray).toList == []) = false ∧ 0 < (⟨(c :: r).toArray⟩ : ByteArray).size := by
  refine ⟨?_, ?_, ?_, ?_⟩
  · apply ByteArray.ext
    simp
  · exact drop_mk (c :: r)
  · rw [ByteArray.toList_eq]; rfl
  · rw [size_mk]; simp
theorem inB_row (n : Int) (c : Nat) (h1 : 1 ≤ c) (h2 : c ≤ 26) : inB n c = true ↔ Ad.rowIn n := by
  unfold inB Ad.rowIn
  simp only [Bool.and_eq_true, decide_eq_true_eq]
  omega
theorem parsecell_any (l : List UInt8) (hl : l.length ≤ 140737488355328) (w : World) (T : Tab8 w) :
    Calls Tryz.prog 174 #[.string ⟨l.toArray⟩] w fun e w' => e = .returned (.tuple #[cellR (Ad.cellP l), .bool (Ad.cellP l).isSome]) ∧ Below w.heap.size w w' := by
  have CP := fun u => strip_any 36 l u
  have hlen := Ad.strip_len 36 l
  unfold Ad.cellP
  cases hs : (Ad.strip 36 l).2 with
  | nil =>
    rw [hs] at CP
    exact pc_empty CP (by rw [ByteArray.toList_eq])
  | cons c r =>
    rw [hs] at CP hlen
    obtain ⟨k1, k2, k3, k4⟩ := cons_facts c r
    simp only
    unfold Ad.restF
    cases hL : Ad.isL c
    · have LT := fun u => letter_any c u
      rw [hL] at LT
      rw [if_neg (by simp)]
      exact pc_other CP k3 k4 LT
    · have LT := fun u => letter_any c u
      rw [hL] at LT
      obtain ⟨b1, b2, _⟩ := Ad.colF_bd hL
      obtain ⟨y1, y2, y3⟩ := one_up c hL
      have hlr := Ad.strip_len 36 r
      have W : ∀ ok, inB (Ad.rowA (Ad.strip 36 r).2) (Ad.colF c : Nat) = ok → _ := fun ok hok => pc_letter (w := w) (ok := ok) CP k3 k4 LT k1 k2 (fun u => up_one c u) (show 0 < 1 by decide) y1 y2 y3 (fun u => strip_any 36 r u) (fun u hu => parserow_any (Ad.strip 36 r).2 (by simp only [List.length_cons] at hlen; omega) u (T.below hu)) (fun u => by have := in_any (Ad.rowA (Ad.strip 36 r).2) (Ad.colF c : Nat) u; rw [hok] at this; exact this)
      rcases Ad.row_ways (Ad.strip 36 r).2 with ⟨h1, h2⟩ | ⟨h1, h2⟩
      · have hx := W true ((inB_row _ _ b1 b2).2 h1)
        rw [h2] at hx h1
        unfold Ad.rowIn at h1
        rw [if_pos ⟨rfl, by omega, by omega⟩]
        exact hx
      · have hx := W false (by
          cases hb : inB (Ad.rowA (Ad.strip 36 r).2) (Ad.colF c : Nat)
          · rfl
          · exact absurd ((inB_row _ _ b1 b2).1 hb) h1)
        rw [if_neg (fun q => h2 q.2)]
        exact hx
end Go.Proofs.YtlndkjcincflpaaGreatDoor

namespace Go.Proofs.YtlndkjcincflpaaGreatDoor
open Go.RowKit
set_option maxRecDepth 100000
def Cut36 (f : Bool) (A A1 : ByteArray) (h : 0 < A.size) : Prop := (f = true ∧ ((A[0].toNat : Int) == 36) = true ∧ A.extract 1 A.size = A1) ∨ (f = false ∧ ((A[0].toNat : Int) == 36) = false ∧ A = A1)
set_option maxHeartbeats 2000000 in
theorem rp_nil {A : ByteArray} {w : World} (h0 : A.size = 0) :
    Calls Tryz.prog 204 #[.string A] w fun e w' => e = .returned (.tuple #[ref0, .bool false]) ∧ Below w.heap.size w w' := by
  have c1 : ¬ (0 : Int) < A.size := by omega
  have c2 : (A.size : Int) < 2 := by omega
  go_enter Tryz.func204, Tryz.ntmps204
  go_wp2
  refine bodyPost_ret (v := .tuple #[ref0, .bool false]) (by simp [results, Tryz.results204, go_sem]) rfl ?_
  refine ⟨rfl, ?_⟩
  repeat (first | exact Below.refl _ _ | refine Below.drew ?_ | refine bel_alloc ?_ _ | refine Below.setCell ?_ (by simp) _)
set_option maxHeartbeats 2000000 in
theorem rp_short {A A1 : ByteArray} {fc : Bool} {w : World} (hz : 0 < A.size) (hA : Cut36 fc A A1 hz) (h2 : A1.size < 2) :
    Calls Tryz.prog 204 #[.string A] w fun e w' => e = .returned (.tuple #[ref0, .bool false]) ∧ Below w.heap.size w w' := by
  have c1 : (0 : Int) < A.size := by omega
  have c3 : (1 : Int) ≤ A.size := by omega
  have c2 : (A1.size : Int) < 2 := by omega
  rcases hA with ⟨rfl, h3, h4⟩ | ⟨rfl, h3, rfl⟩
  all_goals
    go_enter Tryz.func204, Tryz.ntmps204
    go_wp2
    refine bodyPost_ret (v := .tuple #[ref0, .bool false]) (by simp [results, Tryz.results204, go_sem]) rfl ?_
    refine ⟨rfl, ?_⟩
    repeat (first | exact Below.refl _ _ | refine Below.drew ?_ | refine bel_alloc ?_ _ | refine Below.setCell ?_ (by simp) _)
set_option maxHeartbeats 2000000 in
theorem rp_other {A A1 : ByteArray} {fc : Bool} {w : World} (hz : 0 < A.size) (hA : Cut36 fc A A1 hz) (h2 : 2 ≤ A1.size) (h0 : 0 < A1.size)
    (LT : ∀ u, Calls Tryz.prog 88 #[.int .u8 (A1[0].toNat : Nat)] u fun e w' => e = .returned (.bool false) ∧ w' = u) :
    Calls Tryz.prog 204 #[.string A] w fun e w' => e = .returned (.tuple #[ref0, .bool false]) ∧ Below w.heap.size w w' := by
  have c1 : (0 : Int) < A.size := by omega
  have c3 : (1 : Int) ≤ A.size := by omega
  have c2 : ¬ (A1.size : Int) < 2 := by omega
  rcases hA with ⟨rfl, h3, h4⟩ | ⟨rfl, h3, rfl⟩
  all_goals
    go_enter Tryz.func204, Tryz.ntmps204
    go_wp2_with (go_at_call 88; refine (LT _).mono ?_; rintro e w' ⟨rfl, hw⟩; obtain rfl := hw.symm; clear hw)
    refine bodyPost_ret (v := .tuple #[ref0, .bool false]) (by simp [results, Tryz.results204, go_sem]) rfl ?_
    refine ⟨rfl, ?_⟩
    repeat (first | exact Below.refl _ _ | refine Below.drew ?_ | refine bel_alloc ?_ _ | refine Below.setCell ?_ (by simp) _)
end Go.Proofs.YtlndkjcincflpaaGreatDoor

namespace Go.Proofs.YtlndkjcincflpaaGreatDoor
open Go.RowKit
set_option maxRecDepth 100000
set_option maxHeartbeats 8000000 in
theorem rp_bad {A A1 U V Y A2 : ByteArray} {fc fr : Bool} {C : Int} {w : World} (hz : 0 < A.size) (hA : Cut36 fc A A1 hz) (h2 : 2 ≤ A1.size) (h0 : 0 < A1.size)
    (LT : ∀ u, Calls Tryz.prog 88 #[.int .u8 (A1[0].toNat : Nat)] u fun e w' => e = .returned (.bool true) ∧ w' = u) (hU : A1.extract 0 1 = U) (hV : A1.extract 1 A1.size = V)
    (UP : ∀ u, Calls Tryz.prog 107 #[.string U] u fun e w' => e = .returned (.string Y) ∧ Below u.heap.size u w') (hY : 0 < Y.size) (hy1 : 65 ≤ (Y[0].toNat : Int)) (hy2 : (Y[0].toNat : Int) ≤ 90) (hC : (Y[0].toNat : Int) - 65 + 1 = C)
    (hVz : 0 < V.size) (hW : Cut36 fr V A2 hVz) (hB : A2.size = 0 ∨ 2 < A2.size ∨ ∃ h : 0 < A2.size, A2.size ≤ 2 ∧ ((A2[0].toNat : Int) == 48) = true) :
    Calls Tryz.prog 204 #[.string A] w fun e w' => e = .returned (.tuple #[ref0, .bool false]) ∧ Below w.heap.size w w' := by
  have c1 : (0 : Int) < A.size := by omega
  have c3 : (1 : Int) ≤ A.size := by omega
  have c2 : ¬ (A1.size : Int) < 2 := by omega
  have c4 : (1 : Int) ≤ A1.size := by omega
  have c5 : (1 : Int) ≤ V.size := by omega
  have hB' : ((A2.size : Int) < 1) ∨ (¬ (A2.size : Int) < 1 ∧ (2 : Int) < A2.size) ∨ ∃ h : 0 < A2.size, ¬ (A2.size : Int) < 1 ∧ ¬ (2 : Int) < A2.size ∧ ((A2[0].toNat : Int) == 48) = true := by
    rcases hB with h | h | ⟨h, g, k⟩
    · exact .inl (by omega)
    · exact .inr (.inl ⟨by omega, by omega⟩)
    · exact .inr (.inr ⟨h, by omega, by omega, k⟩)
  clear hB
  rcases hA with ⟨rfl, h3, h4⟩ | ⟨rfl, h3, rfl⟩ <;> rcases hW with ⟨rfl, h5, h6⟩ | ⟨rfl, h5, rfl⟩
  all_goals
    go_enter Tryz.func204, Tryz.ntmps204
    go_wp2_with (go_at_call 88; refine (LT _).mono ?_; rintro e w' ⟨rfl, hw⟩; obtain rfl := hw.symm; clear hw)
    refine (UP _).mono ?_
    rintro e w1 ⟨rfl, hb⟩
    obtain ⟨z1, z2⟩ := new2 hb
    have HB1 : Hid (Below w.heap.size w w1) := bel2 hb
    have Z1 : Hid (w1.heap[w.heap.size]? = some ref0O) := z1
    have Z2 : Hid _ := z2
    obtain ⟨k0, k1, k2, k3, k4, k5⟩ := r_cells z2
    obtain ⟨f0, f1, f2, f3, f4, f5⟩ := r_free z2
    obtain ⟨d0, d1, d2, d3, d4, d5⟩ := r_cells z1
    obtain ⟨e0, e1, e2, e3, e4, e5⟩ := r_free z1
    clear hb z1 z2 UP LT
    rcases hB' with q1 | ⟨q1, q2⟩ | ⟨q0, q1, q2, q3⟩
    all_goals first
      | (exfalso; omega)
      | (go_wp2
         refine bodyPost_ret (res_ref rfl rfl (set6 (?hz : _ = some ref0O)) rfl) rfl ⟨rfl, bel_set6 ?hb (Nat.le_refl _)⟩
         case hz => repeat (first | exact Z1.out | refine (set_o (by omega)).trans ?_)
         case hb => repeat (first | exact HB1.out | refine Below.setCell ?_ (by simp) _))
end Go.Proofs.YtlndkjcincflpaaGreatDoor
