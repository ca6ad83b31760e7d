/- A cell's name is read: the reference. -/
import Derived.Test.YtjimgjohfpcnpaaDoorAParse2
namespace Go.Proofs.YtjimgjohfpcnpaaDoor
open Go.RowKit
set_option maxRecDepth 100000
set_option linter.unusedVariables false
set_option linter.unusedSimpArgs false
/-- A sign that stands ahead, or not. -/
def Cut36 (f : Bool) (A A1 : ByteArray) (h : 0 < A.size) : Prop := (f = true ∧ ((A[0].toNat : Int) == 36) = true ∧ A.extract 1 A.size = A1) ∨ (f = false ∧ ((A[0].toNat : Int) == 36) = false ∧ A = A1)
set_option maxHeartbeats 2000000 in
theorem rp_nil {A : ByteArray} {w : World} (h0 : A.size = 0) :
    Calls Tryd.prog 8 #[.string A] w fun e w' => e = .returned (.tuple #[ref0, .bool false]) ∧ Below w.heap.size w w' := by
  have c1 : ¬ (0 : Int) < A.size := by omega
  have c2 : (A.size : Int) < 2 := by omega
  go_enter Tryd.func8, Tryd.ntmps8
  go_wp2
  refine bodyPost_ret (v := .tuple #[ref0, .bool false]) (by simp [results, Tryd.results8, go_sem]) rfl ?_
  refine ⟨rfl, ?_⟩
  repeat (first | exact Below.refl _ _ | refine Below.drew ?_ | refine bel_alloc ?_ _ | refine Below.setCell ?_ (by simp) _)
set_option maxHeartbeats 2000000 in
theorem rp_short {A A1 : ByteArray} {fc : Bool} {w : World} (hz : 0 < A.size) (hA : Cut36 fc A A1 hz) (h2 : A1.size < 2) :
    Calls Tryd.prog 8 #[.string A] w fun e w' => e = .returned (.tuple #[ref0, .bool false]) ∧ Below w.heap.size w w' := by
  have c1 : (0 : Int) < A.size := by omega
  have c3 : (1 : Int) ≤ A.size := by omega
  have c2 : (A1.size : Int) < 2 := by omega
  rcases hA with ⟨rfl, h3, h4⟩ | ⟨rfl, h3, rfl⟩
  all_goals
    go_enter Tryd.func8, Tryd.ntmps8
    go_wp2
    refine bodyPost_ret (v := .tuple #[ref0, .bool false]) (by simp [results, Tryd.results8, go_sem]) rfl ?_
    refine ⟨rfl, ?_⟩
    repeat (first | exact Below.refl _ _ | refine Below.drew ?_ | refine bel_alloc ?_ _ | refine Below.setCell ?_ (by simp) _)
set_option maxHeartbeats 2000000 in
theorem rp_other {A A1 : ByteArray} {fc : Bool} {w : World} (hz : 0 < A.size) (hA : Cut36 fc A A1 hz) (h2 : 2 ≤ A1.size) (h0 : 0 < A1.size)
    (LT : ∀ u, Calls Tryd.prog 33 #[.int .u8 (A1[0].toNat : Nat)] u fun e w' => e = .returned (.bool false) ∧ w' = u) :
    Calls Tryd.prog 8 #[.string A] w fun e w' => e = .returned (.tuple #[ref0, .bool false]) ∧ Below w.heap.size w w' := by
  have c1 : (0 : Int) < A.size := by omega
  have c3 : (1 : Int) ≤ A.size := by omega
  have c2 : ¬ (A1.size : Int) < 2 := by omega
  rcases hA with ⟨rfl, h3, h4⟩ | ⟨rfl, h3, rfl⟩
  all_goals
    go_enter Tryd.func8, Tryd.ntmps8
    go_wp2_with (go_at_call 33; refine (LT _).mono ?_; rintro e w' ⟨rfl, hw⟩; obtain rfl := hw.symm; clear hw)
    refine bodyPost_ret (v := .tuple #[ref0, .bool false]) (by simp [results, Tryd.results8, go_sem]) rfl ?_
    refine ⟨rfl, ?_⟩
    repeat (first | exact Below.refl _ _ | refine Below.drew ?_ | refine bel_alloc ?_ _ | refine Below.setCell ?_ (by simp) _)
end Go.Proofs.YtjimgjohfpcnpaaDoor
