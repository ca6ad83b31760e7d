/- Cmp of the program: which of two places comes first. -/
import Derived.Test.YtjimgjohfpcnpaaDoorACmpS
import Derived.Test.YtjimgjohfpcnpaaDoorAMem
namespace Go.Proofs.YtjimgjohfpcnpaaDoor
open Go.RowKit
set_option maxRecDepth 100000
set_option linter.unusedVariables false
set_option linter.unusedSimpArgs false
def cmpP (b1 s1 : ByteArray) (r1 c1 : Int) (b2 s2 : ByteArray) (r2 c2 : Int) : Int := orF (cmpL b1.toList b2.toList) (cmpL s1.toList s2.toList) (cmpN r1 r2) (cmpN c1 c2)
theorem or_new (u : World) (x y z v : Int) : Calls Tryd.prog 49 #[.slice (some ⟨u.heap.size, 0, none⟩) 4 4] (u.alloc (.cells #[.int .i64 x, .int .i64 y, .int .i64 z, .int .i64 v] 3)).drew fun e w' => e = .returned (.int .i64 (orF x y z v)) ∧ w' = (u.alloc (.cells #[.int .i64 x, .int .i64 y, .int .i64 z, .int .i64 v] 3)).drew := by
  have hz : (u.alloc (.cells #[.int .i64 x, .int .i64 y, .int .i64 z, .int .i64 v] 3)).drew.heap[u.heap.size]? = some (.cells #[.int .i64 x, .int .i64 y, .int .i64 z, .int .i64 v] 3 (0, 0)) := heap_alloc_new u _
  have c := fun j => cell_of_row _ u.heap.size j _ 3 _ hz
  exact or_any ((c 0).trans rfl) ((c 1).trans rfl) ((c 2).trans rfl) ((c 3).trans rfl)
set_option maxHeartbeats 4000000 in
theorem cmp_any (b1 s1 : ByteArray) (r1 c1 : Int) (b2 s2 : ByteArray) (r2 c2 : Int) (w : World) :
    Calls Tryd.prog 26 #[plcV b1 s1 r1 c1, plcV b2 s2 r2 c2] w fun e w' => e = .returned (.int .i64 (cmpP b1 s1 r1 c1 b2 s2 r2 c2)) ∧ Below w.heap.size w w' := by
  unfold cmpP
  have C1 := fun u => cmpS_any b1 b2 u
  have C2 := fun u => cmpS_any s1 s2 u
  have C3 := fun u => cmpN_any r1 r2 u
  have C4 := fun u => cmpN_any c1 c2 u
  generalize cmpL b1.toList b2.toList = x1 at *
  generalize cmpL s1.toList s2.toList = x2 at *
  generalize cmpN r1 r2 = x3 at *
  generalize cmpN c1 c2 = x4 at *
  generalize hR : orF x1 x2 x3 x4 = R
  have HR : Hid (orF x1 x2 x3 x4 = R) := hR
  clear hR
  have HC : Hid (∀ u : World, Below ((w.alloc (plcO b1 s1 r1 c1)).alloc (plcO b2 s2 r2 c2)).heap.size ((w.alloc (plcO b1 s1 r1 c1)).alloc (plcO b2 s2 r2 c2)) u → (u.cell? ⟨w.heap.size, 0, none⟩ = some (.string b1) ∧ u.cell? ⟨w.heap.size, 1, none⟩ = some (.string s1) ∧ u.cell? ⟨w.heap.size, 2, none⟩ = some (.int .i64 r1) ∧ u.cell? ⟨w.heap.size, 3, none⟩ = some (.int .i64 c1)) ∧ (u.cell? ⟨w.heap.size + 1, 0, none⟩ = some (.string b2) ∧ u.cell? ⟨w.heap.size + 1, 1, none⟩ = some (.string s2) ∧ u.cell? ⟨w.heap.size + 1, 2, none⟩ = some (.int .i64 r2) ∧ u.cell? ⟨w.heap.size + 1, 3, none⟩ = some (.int .i64 c2))) :=
    fun u hu => ⟨p_cells (new2 hu).1, p_cells (new2 hu).2⟩
  have HB : Hid (Below ((w.alloc (plcO b1 s1 r1 c1)).alloc (plcO b2 s2 r2 c2)).heap.size ((w.alloc (plcO b1 s1 r1 c1)).alloc (plcO b2 s2 r2 c2)) ((w.alloc (plcO b1 s1 r1 c1)).alloc (plcO b2 s2 r2 c2)).drew) := (Below.refl _ _).drew
  have HO : Hid (Below ((w.alloc (plcO b1 s1 r1 c1)).alloc (plcO b2 s2 r2 c2)).heap.size ((w.alloc (plcO b1 s1 r1 c1)).alloc (plcO b2 s2 r2 c2)) (((w.alloc (plcO b1 s1 r1 c1)).alloc (plcO b2 s2 r2 c2)).alloc (.cells #[.int .i64 x1, .int .i64 x2, .int .i64 x3, .int .i64 x4] 3)).drew) := (bel_alloc (Below.refl _ _) _).drew
  have OR := or_new ((w.alloc (plcO b1 s1 r1 c1)).alloc (plcO b2 s2 r2 c2)) x1 x2 x3 x4
  rw [show ((w.alloc (plcO b1 s1 r1 c1)).alloc (plcO b2 s2 r2 c2)).heap.size = w.heap.size + 2 by simp] at OR
  go_enter Tryd.func26, Tryd.ntmps26
  go_wp2
  go_region_held_law (fun u => (u.cell? ⟨w.heap.size, 0, none⟩ = some (.string b1) ∧ u.cell? ⟨w.heap.size, 1, none⟩ = some (.string s1) ∧ u.cell? ⟨w.heap.size, 2, none⟩ = some (.int .i64 r1) ∧ u.cell? ⟨w.heap.size, 3, none⟩ = some (.int .i64 c1)) ∧ (u.cell? ⟨w.heap.size + 1, 0, none⟩ = some (.string b2) ∧ u.cell? ⟨w.heap.size + 1, 1, none⟩ = some (.string s2) ∧ u.cell? ⟨w.heap.size + 1, 2, none⟩ = some (.int .i64 r2) ∧ u.cell? ⟨w.heap.size + 1, 3, none⟩ = some (.int .i64 c2)))
    (first | exact HC.out _ HB.out | exact HC.out _ HO.out) (first
    | (go_at_call_of 50 b1; refine (C1 _).mono ?_; rintro e w' ⟨rfl, hw⟩; obtain rfl := hw.symm; clear hw)
    | (go_at_call_of 50 s1; refine (C2 _).mono ?_; rintro e w' ⟨rfl, hw⟩; obtain rfl := hw.symm; clear hw)
    | (go_at_call_of 51 r1; refine (C3 _).mono ?_; rintro e w' ⟨rfl, hw⟩; obtain rfl := hw.symm; clear hw)
    | (go_at_call_of 51 c1; refine (C4 _).mono ?_; rintro e w' ⟨rfl, hw⟩; obtain rfl := hw.symm; clear hw)
    | (go_at_call 49; refine OR.mono ?_; rintro e w' ⟨rfl, hw⟩; obtain rfl := hw.symm; clear hw))
  go_wp2
  go_ret
  exact ⟨by rw [← HR.out]; rfl, bel2 HO.out⟩
end Go.Proofs.YtjimgjohfpcnpaaDoor
