/- The walk of the law ShiftBack. -/
import Derived.Test.YteafldbmeekpbaaPlacesW
namespace Go.Proofs.Yteafldbmeekpbaa
open Go.RowKit
set_option maxRecDepth 100000
set_option linter.unusedVariables false
set_option linter.unusedSimpArgs false
/-- What the law asks, plainly. -/
theorem back_core {a n m p q : Int} (hg : goodB a n m = true) (h1 : 1 ≤ p) (h2 : p ≤ q) (h3 : q ≤ m) :
    (posB a n m p = true → posB a n m q = true → posF a n m p ≤ posF a n m q ∧ (posF a n m p = posF a n m q → p = q)) ∧
    (posB a n m p = true → bkA a n m = a ∧ bkN a n m = -n ∧ bkM a n m = m ∧ posB a (-n) m (posF a n m p) = true ∧ posF a (-n) m (posF a n m p) = p) ∧
    (posB a n m p = true → spB a n m p q = true ∧ spL a n m p q = posF a n m p) ∧ (posB a n m q = true → spB a n m p q = true ∧ spH a n m p q = posF a n m q) ∧
    (spB a n m p q = true → 1 ≤ spL a n m p q ∧ spL a n m p q ≤ spH a n m p q ∧ spH a n m p q ≤ m) := by
  have hb := good_bd hg
  have hg2 : goodB a (-n) m = true := goodB_iff.2 (by omega)
  have A := pos_ways hg h1 (by omega : p ≤ m)
  have B := pos_ways hg (by omega : 1 ≤ q) h3
  have bA : bkA a n m = a := by unfold bkA; rw [hg]; rfl
  have bN : bkN a n m = -n := by unfold bkN; rw [hg]; rfl
  have bM : bkM a n m = m := by unfold bkM; rw [hg]; rfl
  have hs := sp_in hg h1 h2 h3
  have st := fun h => sp_true (a := a) (n := n) (m := m) (lo := p) (hi := q) h
  have fl : loF a n p = if p < a then p else if n < 0 ∧ p < a - n then a else p + n := by
    unfold loF mvF nxF
    by_cases g1 : p < a
    · simp [g1]
    · by_cases g2 : n < 0
      · by_cases g3 : p < a - n <;> simp [g1, g2, g3]
      · simp [g1, g2]
  have fh : hiF a n m q = min (if q < a then q else if n < 0 ∧ q < a - n then a - 1 else q + n) m := by
    unfold hiF mvB mvF nxF
    by_cases g1 : q < a
    · simp [g1]
    · by_cases g2 : n < 0
      · by_cases g3 : q < a - n <;> simp [g1, g2, g3]
      · simp [g1, g2]
  refine ⟨?_, ?_, ?_, ?_, ?_⟩
  · intro e f
    rcases A with ⟨i1, d1, d2⟩ | ⟨i1, i2, i3, d1, d2⟩ | ⟨i1, i2, i3, i4, d1, d2⟩ | ⟨i1, i2, i3, d1, d2⟩ | ⟨i1, i2, i3, d1, d2⟩
    · rcases B with ⟨j1, c1, c2⟩ | ⟨j1, j2, j3, c1, c2⟩ | ⟨j1, j2, j3, j4, c1, c2⟩ | ⟨j1, j2, j3, c1, c2⟩ | ⟨j1, j2, j3, c1, c2⟩
      · rw [d2, c2]; exact ⟨h2, fun h => h⟩
      · rw [c1] at f; cases f
      · rw [d2, c2]; exact ⟨by omega, by omega⟩
      · rw [c1] at f; cases f
      · rw [d2, c2]; exact ⟨by omega, by omega⟩
    · rw [d1] at e; cases e
    · rcases B with ⟨j1, c1, c2⟩ | ⟨j1, j2, j3, c1, c2⟩ | ⟨j1, j2, j3, j4, c1, c2⟩ | ⟨j1, j2, j3, c1, c2⟩ | ⟨j1, j2, j3, c1, c2⟩
      · omega
      · rw [c1] at f; cases f
      · rw [d2, c2]; exact ⟨by omega, by omega⟩
      · rw [c1] at f; cases f
      · rw [d2, c2]; exact ⟨by omega, by omega⟩
    · rw [d1] at e; cases e
    · rcases B with ⟨j1, c1, c2⟩ | ⟨j1, j2, j3, c1, c2⟩ | ⟨j1, j2, j3, j4, c1, c2⟩ | ⟨j1, j2, j3, c1, c2⟩ | ⟨j1, j2, j3, c1, c2⟩
      · omega
      · rw [c1] at f; cases f
      · rw [d2, c2]; exact ⟨by omega, by omega⟩
      · rw [c1] at f; cases f
      · rw [d2, c2]; exact ⟨by omega, by omega⟩
  · intro e
    refine ⟨bA, bN, bM, ?_⟩
    rcases A with ⟨i1, d1, d2⟩ | ⟨i1, i2, i3, d1, d2⟩ | ⟨i1, i2, i3, i4, d1, d2⟩ | ⟨i1, i2, i3, d1, d2⟩ | ⟨i1, i2, i3, d1, d2⟩
    · rw [d2]
      rcases pos_ways hg2 h1 (by omega : p ≤ m) with ⟨k1, c1, c2⟩ | ⟨k1, k2, k3, c1, c2⟩ | ⟨k1, k2, k3, k4, c1, c2⟩ | ⟨k1, k2, k3, c1, c2⟩ | ⟨k1, k2, k3, c1, c2⟩
      · exact ⟨c1, c2⟩
      all_goals omega
    · rw [d1] at e; cases e
    · rw [d2]
      rcases pos_ways hg2 (by omega : 1 ≤ p + n) (by omega : p + n ≤ m) with ⟨k1, c1, c2⟩ | ⟨k1, k2, k3, c1, c2⟩ | ⟨k1, k2, k3, k4, c1, c2⟩ | ⟨k1, k2, k3, c1, c2⟩ | ⟨k1, k2, k3, c1, c2⟩
      · omega
      · omega
      · omega
      · omega
      · exact ⟨c1, by rw [c2]; omega⟩
    · rw [d1] at e; cases e
    · rw [d2]
      rcases pos_ways hg2 (by omega : 1 ≤ p + n) (by omega : p + n ≤ m) with ⟨k1, c1, c2⟩ | ⟨k1, k2, k3, c1, c2⟩ | ⟨k1, k2, k3, k4, c1, c2⟩ | ⟨k1, k2, k3, c1, c2⟩ | ⟨k1, k2, k3, c1, c2⟩
      · omega
      · omega
      · exact ⟨c1, by rw [c2]; omega⟩
      · omega
      · omega
  · intro e
    have s : spB a n m p q = true := by
      rw [hs, fl, fh]
      rcases A with ⟨i1, d1, d2⟩ | ⟨i1, i2, i3, d1, d2⟩ | ⟨i1, i2, i3, i4, d1, d2⟩ | ⟨i1, i2, i3, d1, d2⟩ | ⟨i1, i2, i3, d1, d2⟩
      · simp only [decide_eq_true_eq]; repeat' split
        all_goals omega
      · rw [d1] at e; cases e
      · simp only [decide_eq_true_eq]; repeat' split
        all_goals omega
      · rw [d1] at e; cases e
      · simp only [decide_eq_true_eq]; repeat' split
        all_goals omega
    refine ⟨s, ?_⟩
    rw [(st s).1, fl]
    rcases A with ⟨i1, d1, d2⟩ | ⟨i1, i2, i3, d1, d2⟩ | ⟨i1, i2, i3, i4, d1, d2⟩ | ⟨i1, i2, i3, d1, d2⟩ | ⟨i1, i2, i3, d1, d2⟩
    · rw [d2, if_pos i1]
    · rw [d1] at e; cases e
    · rw [d2, if_neg i1, if_neg (by omega)]
    · rw [d1] at e; cases e
    · rw [d2, if_neg i1, if_neg (by omega)]
  · intro e
    have s : spB a n m p q = true := by
      rw [hs, fl, fh]
      rcases B with ⟨i1, d1, d2⟩ | ⟨i1, i2, i3, d1, d2⟩ | ⟨i1, i2, i3, i4, d1, d2⟩ | ⟨i1, i2, i3, d1, d2⟩ | ⟨i1, i2, i3, d1, d2⟩
      · simp only [decide_eq_true_eq]; repeat' split
        all_goals omega
      · rw [d1] at e; cases e
      · simp only [decide_eq_true_eq]; repeat' split
        all_goals omega
      · rw [d1] at e; cases e
      · simp only [decide_eq_true_eq]; repeat' split
        all_goals omega
    refine ⟨s, ?_⟩
    rw [(st s).2, fh]
    rcases B with ⟨i1, d1, d2⟩ | ⟨i1, i2, i3, d1, d2⟩ | ⟨i1, i2, i3, i4, d1, d2⟩ | ⟨i1, i2, i3, d1, d2⟩ | ⟨i1, i2, i3, d1, d2⟩
    · rw [d2, if_pos i1]; omega
    · rw [d1] at e; cases e
    · rw [d2, if_neg i1, if_neg (by omega)]; omega
    · rw [d1] at e; cases e
    · rw [d2, if_neg i1, if_neg (by omega)]; omega
  · intro e
    have e2 := hs.symm.trans e
    rw [(st e).1, (st e).2]
    have e3 : loF a n p ≤ hiF a n m q := by simpa using e2
    refine ⟨?_, e3, ?_⟩
    · rw [fl]; repeat' split
      all_goals omega
    · rw [fh]; omega
end Go.Proofs.Yteafldbmeekpbaa
