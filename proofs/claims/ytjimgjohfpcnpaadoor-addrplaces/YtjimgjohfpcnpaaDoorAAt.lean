/- At of the program: the place that a ref means. -/
import Derived.Test.YtjimgjohfpcnpaaDoorACmpS
import Derived.Test.YtjimgjohfpcnpaaDoorAMem
namespace Go.Proofs.YtjimgjohfpcnpaaDoor
open Go.RowKit
set_option maxRecDepth 100000
set_option linter.unusedVariables false
set_option linter.unusedSimpArgs false
abbrev strO (x y : ByteArray) : Obj := .cells #[.string x, .string y] 9
theorem orS_in {u : World} {g : Nat} {x y : ByteArray} (h : u.heap[g]? = some (strO x y)) : Calls Tryd.prog 48 #[.slice (some ⟨g, 0, none⟩) 2 2] u fun e w' => e = .returned (.string (orS x y)) ∧ w' = u := by
  have c := fun j => cell_of_row _ g j _ 9 _ h
  exact orS_any ((c 0).trans rfl) ((c 1).trans rfl)
set_option maxHeartbeats 4000000 in
theorem at_any (b1 s1 : ByteArray) (r1 c1 : Int) (fr fc : Bool) (b2 s2 : ByteArray) (r2 c2 : Int) (w : World) :
    Calls Tryd.prog 24 #[refV b1 s1 r1 c1 fr fc, plcV b2 s2 r2 c2] w fun e w' => e = .returned (plcV (orS b1 b2) (orS s1 s2) r1 c1) ∧ Below w.heap.size w w' := by
  have HC : Hid (∀ u : World, Below ((w.alloc (refO b1 s1 r1 c1 fr fc)).alloc (plcO b2 s2 r2 c2)).heap.size ((w.alloc (refO b1 s1 r1 c1 fr fc)).alloc (plcO b2 s2 r2 c2)) u → (u.cell? ⟨w.heap.size, 0, none⟩ = some (.string b1) ∧ u.cell? ⟨w.heap.size, 1, none⟩ = some (.string s1) ∧ u.cell? ⟨w.heap.size, 2, none⟩ = some (.int .i64 r1) ∧ u.cell? ⟨w.heap.size, 3, none⟩ = some (.int .i64 c1)) ∧ (u.cell? ⟨w.heap.size + 1, 0, none⟩ = some (.string b2) ∧ u.cell? ⟨w.heap.size + 1, 1, none⟩ = some (.string s2))) :=
    fun u hu => ⟨⟨(r_cells (new2 hu).1).1, (r_cells (new2 hu).1).2.1, (r_cells (new2 hu).1).2.2.1, (r_cells (new2 hu).1).2.2.2.1⟩, (p_cells (new2 hu).2).1, (p_cells (new2 hu).2).2.1⟩
  have HR : Hid (Below ((w.alloc (refO b1 s1 r1 c1 fr fc)).alloc (plcO b2 s2 r2 c2)).heap.size ((w.alloc (refO b1 s1 r1 c1 fr fc)).alloc (plcO b2 s2 r2 c2)) ((w.alloc (refO b1 s1 r1 c1 fr fc)).alloc (plcO b2 s2 r2 c2))) := Below.refl _ _
  have e3 : (((w.alloc (refO b1 s1 r1 c1 fr fc)).alloc (plcO b2 s2 r2 c2)).alloc (plcO ⟨#[]⟩ ⟨#[]⟩ 0 0)).heap.size = w.heap.size + 3 := by simp
  have F1 : ((((w.alloc (refO b1 s1 r1 c1 fr fc)).alloc (plcO b2 s2 r2 c2)).alloc (plcO ⟨#[]⟩ ⟨#[]⟩ 0 0)).alloc (strO b1 b2)).drew.heap[w.heap.size + 3]? = some (strO b1 b2) := e3 ▸ heap_alloc_new _ _
  have F2 : (((((w.alloc (refO b1 s1 r1 c1 fr fc)).alloc (plcO b2 s2 r2 c2)).alloc (plcO ⟨#[]⟩ ⟨#[]⟩ 0 0)).alloc (strO b1 b2)).alloc (strO s1 s2)).drew.heap[w.heap.size + 3]? = some (strO b1 b2) := e3 ▸ (new2 (Below.refl _ _)).1
  have F3 : (((((w.alloc (refO b1 s1 r1 c1 fr fc)).alloc (plcO b2 s2 r2 c2)).alloc (plcO ⟨#[]⟩ ⟨#[]⟩ 0 0)).alloc (strO s1 s2)).alloc (strO b1 b2)).drew.heap[w.heap.size + 4]? = some (strO b1 b2) := by
    have := (new2 (w := (((w.alloc (refO b1 s1 r1 c1 fr fc)).alloc (plcO b2 s2 r2 c2)).alloc (plcO ⟨#[]⟩ ⟨#[]⟩ 0 0))) (a := (strO s1 s2)) (b := (strO b1 b2)) (Below.refl _ _)).2
    rw [e3] at this
    exact this
  have F4 : (((((w.alloc (refO b1 s1 r1 c1 fr fc)).alloc (plcO b2 s2 r2 c2)).alloc (plcO ⟨#[]⟩ ⟨#[]⟩ 0 0)).alloc (strO b1 b2)).alloc (strO s1 s2)).drew.heap[w.heap.size + 4]? = some (strO s1 s2) := by
    have := (new2 (w := (((w.alloc (refO b1 s1 r1 c1 fr fc)).alloc (plcO b2 s2 r2 c2)).alloc (plcO ⟨#[]⟩ ⟨#[]⟩ 0 0))) (a := (strO b1 b2)) (b := (strO s1 s2)) (Below.refl _ _)).2
    rw [e3] at this
    exact this
  have F5 : (((((w.alloc (refO b1 s1 r1 c1 fr fc)).alloc (plcO b2 s2 r2 c2)).alloc (plcO ⟨#[]⟩ ⟨#[]⟩ 0 0)).alloc (strO s1 s2)).alloc (strO b1 b2)).drew.heap[w.heap.size + 3]? = some (strO s1 s2) := e3 ▸ (new2 (Below.refl _ _)).1
  clear e3
  have Z1 : (((((w.alloc (refO b1 s1 r1 c1 fr fc)).alloc (plcO b2 s2 r2 c2)).alloc (plcO ⟨#[]⟩ ⟨#[]⟩ 0 0)).alloc (strO b1 b2)).alloc (strO s1 s2)).drew.heap[w.heap.size + 2]? = some (plcO ⟨#[]⟩ ⟨#[]⟩ 0 0) := (new3 (bel_alloc (bel_alloc (Below.refl _ _) _) _)).2.2
  have Z2 : (((((w.alloc (refO b1 s1 r1 c1 fr fc)).alloc (plcO b2 s2 r2 c2)).alloc (plcO ⟨#[]⟩ ⟨#[]⟩ 0 0)).alloc (strO s1 s2)).alloc (strO b1 b2)).drew.heap[w.heap.size + 2]? = some (plcO ⟨#[]⟩ ⟨#[]⟩ 0 0) := (new3 (bel_alloc (bel_alloc (Below.refl _ _) _) _)).2.2
  obtain ⟨k0, k1, k2, k3⟩ := p_cells Z1
  obtain ⟨k4, k5, k6, k7⟩ := p_free Z1
  obtain ⟨l0, l1, l2, l3⟩ := p_cells Z2
  obtain ⟨l4, l5, l6, l7⟩ := p_free Z2
  clear Z1 Z2
  obtain ⟨g3, q3⟩ : ∃ g, w.heap.size + 3 = g := ⟨_, rfl⟩
  obtain ⟨g4, q4⟩ : ∃ g, w.heap.size + 4 = g := ⟨_, rfl⟩
  have q5 : g3 + 1 = g4 := by omega
  have n1 : ¬ w.heap.size + 2 = g3 := by omega
  have n2 : ¬ w.heap.size + 2 = g4 := by omega
  have n3 : ¬ g3 = w.heap.size + 2 := by omega
  have n4 : ¬ g4 = w.heap.size + 2 := by omega
  have n5 : w.heap.size + 2 < g3 := by omega
  have n6 : w.heap.size + 2 < g4 := by omega
  rw [q3] at F1 F2 F5
  rw [q4] at F3 F4
  have A1 := fun u h => orS_in (u := u) (g := g3) (x := b1) (y := b2) h
  have A2 := fun u h => orS_in (u := u) (g := g4) (x := b1) (y := b2) h
  have B1 := fun u h => orS_in (u := u) (g := g3) (x := s1) (y := s2) h
  have B2 := fun u h => orS_in (u := u) (g := g4) (x := s1) (y := s2) h
  generalize orS b1 b2 = x1 at *
  generalize orS s1 s2 = x2 at *
  go_enter Tryd.func24, Tryd.ntmps24
  go_wp2
  go_region_held_law (fun u => (u.cell? ⟨w.heap.size, 0, none⟩ = some (.string b1) ∧ u.cell? ⟨w.heap.size, 1, none⟩ = some (.string s1) ∧ u.cell? ⟨w.heap.size, 2, none⟩ = some (.int .i64 r1) ∧ u.cell? ⟨w.heap.size, 3, none⟩ = some (.int .i64 c1)) ∧ (u.cell? ⟨w.heap.size + 1, 0, none⟩ = some (.string b2) ∧ u.cell? ⟨w.heap.size + 1, 1, none⟩ = some (.string s2)))
    ((refine HC.out _ ?_; repeat (first | exact HR.out | refine Below.drew ?_ | refine Below.setCell ?_ (by simp) _ | refine bel_alloc ?_ _))) (first
    | (go_at_call_of 48 g3; refine (A1 _ ?hh).mono ?_; (case hh => with_reducible assumption); rintro e w' ⟨rfl, hw⟩; obtain rfl := hw.symm; clear hw)
    | (go_at_call_of 48 g4; refine (A2 _ ?hh).mono ?_; (case hh => with_reducible assumption); rintro e w' ⟨rfl, hw⟩; obtain rfl := hw.symm; clear hw)
    | (go_at_call_of 48 g3; refine (B1 _ ?hh).mono ?_; (case hh => with_reducible assumption); rintro e w' ⟨rfl, hw⟩; obtain rfl := hw.symm; clear hw)
    | (go_at_call_of 48 g4; refine (B2 _ ?hh).mono ?_; (case hh => with_reducible assumption); rintro e w' ⟨rfl, hw⟩; obtain rfl := hw.symm; clear hw))
  all_goals
    go_wp2
    refine bodyPost_ret (v := plcV x1 x2 r1 c1) (by simp [results, Tryd.results24, go_sem, *]) rfl ?_
    refine ⟨rfl, ?_⟩
    repeat (first | exact Below.refl _ _ | refine Below.drew ?_ | refine bel_alloc ?_ _ | refine Below.setCell ?_ (by simp) _)
end Go.Proofs.YtjimgjohfpcnpaaDoor
