/- A cell's name is read: the reference, behind its letter. -/
import Derived.Test.YtdgnodijmbeajaaGreatDoorARParse
namespace Go.Proofs.YtdgnodijmbeajaaGreatDoor
open Go.RowKit
set_option maxRecDepth 100000
set_option linter.unusedVariables false
set_option linter.unusedSimpArgs false
set_option maxHeartbeats 8000000 in
theorem rp_bad {A A1 U V Y A2 : ByteArray} {fc fr : Bool} {C : Int} {w : World} (hz : 0 < A.size) (hA : Cut36 fc A A1 hz) (h2 : 2 ≤ A1.size) (h0 : 0 < A1.size)
    (LT : ∀ u, Calls Tryz.prog 37 #[.int .u8 (A1[0].toNat : Nat)] u fun e w' => e = .returned (.bool true) ∧ w' = u) (hU : A1.extract 0 1 = U) (hV : A1.extract 1 A1.size = V)
    (UP : ∀ u, Calls Tryz.prog 100 #[.string U] u fun e w' => e = .returned (.string Y) ∧ Below u.heap.size u w') (hY : 0 < Y.size) (hy1 : 65 ≤ (Y[0].toNat : Int)) (hy2 : (Y[0].toNat : Int) ≤ 90) (hC : (Y[0].toNat : Int) - 65 + 1 = C)
    (hVz : 0 < V.size) (hW : Cut36 fr V A2 hVz) (hB : A2.size = 0 ∨ 2 < A2.size ∨ ∃ h : 0 < A2.size, A2.size ≤ 2 ∧ ((A2[0].toNat : Int) == 48) = true) :
    Calls Tryz.prog 66 #[.string A] w fun e w' => e = .returned (.tuple #[ref0, .bool false]) ∧ Below w.heap.size w w' := by
  have c1 : (0 : Int) < A.size := by omega
  have c3 : (1 : Int) ≤ A.size := by omega
  have c2 : ¬ (A1.size : Int) < 2 := by omega
  have c4 : (1 : Int) ≤ A1.size := by omega
  have c5 : (1 : Int) ≤ V.size := by omega
  have hB' : ((A2.size : Int) < 1) ∨ (¬ (A2.size : Int) < 1 ∧ (2 : Int) < A2.size) ∨ ∃ h : 0 < A2.size, ¬ (A2.size : Int) < 1 ∧ ¬ (2 : Int) < A2.size ∧ ((A2[0].toNat : Int) == 48) = true := by
    rcases hB with h | h | ⟨h, g, k⟩
    · exact .inl (by omega)
    · exact .inr (.inl ⟨by omega, by omega⟩)
    · exact .inr (.inr ⟨h, by omega, by omega, k⟩)
  clear hB
  rcases hA with ⟨rfl, h3, h4⟩ | ⟨rfl, h3, rfl⟩ <;> rcases hW with ⟨rfl, h5, h6⟩ | ⟨rfl, h5, rfl⟩
  all_goals
    go_enter Tryz.func66, Tryz.ntmps66
    go_wp2_with (go_at_call 37; refine (LT _).mono ?_; rintro e w' ⟨rfl, hw⟩; obtain rfl := hw.symm; clear hw)
    refine (UP _).mono ?_
    rintro e w1 ⟨rfl, hb⟩
    obtain ⟨z1, z2⟩ := new2 hb
    have HB1 : Hid (Below w.heap.size w w1) := bel2 hb
    have Z1 : Hid (w1.heap[w.heap.size]? = some ref0O) := z1
    have Z2 : Hid _ := z2
    obtain ⟨k0, k1, k2, k3, k4, k5⟩ := r_cells z2
    obtain ⟨f0, f1, f2, f3, f4, f5⟩ := r_free z2
    obtain ⟨d0, d1, d2, d3, d4, d5⟩ := r_cells z1
    obtain ⟨e0, e1, e2, e3, e4, e5⟩ := r_free z1
    clear hb z1 z2 UP LT
    rcases hB' with q1 | ⟨q1, q2⟩ | ⟨q0, q1, q2, q3⟩
    all_goals first
      | (exfalso; omega)
      | (go_wp2
         refine bodyPost_ret (res_ref rfl rfl (set6 (?hz : _ = some ref0O)) rfl) rfl ⟨rfl, bel_set6 ?hb (Nat.le_refl _)⟩
         case hz => repeat (first | exact Z1.out | refine (set_o (by omega)).trans ?_)
         case hb => repeat (first | exact HB1.out | refine Below.setCell ?_ (by simp) _))
end Go.Proofs.YtdgnodijmbeajaaGreatDoor
