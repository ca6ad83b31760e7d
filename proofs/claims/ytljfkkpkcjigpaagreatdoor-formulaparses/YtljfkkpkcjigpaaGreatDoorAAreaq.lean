/- FAlike2, FSame, ARPrint, AArea. -/
import Derived.Test.YtljfkkpkcjigpaaGreatDoorFAlikeq
import Derived.Test.YtljfkkpkcjigpaaGreatDoorARParseBq
set_option linter.unusedVariables false
set_option linter.unusedSimpArgs false
namespace Go.Proofs.YtljfkkpkcjigpaaGreatDoor
open Go.RowKit Go.Fm
set_option maxRecDepth 100000
set_option maxHeartbeats 4000000 in
theorem alike_0 {a b : Lab} {sl sl' : Value} (hk : (a.k == b.k) = false) (w : World) : Calls Tryz.prog 28 #[.agg (lcs a sl), .agg (lcs b sl')] w fun e w' => e = .returned (.bool false) ∧ Below w.heap.size w w' := by
  obtain ⟨w2, hw2⟩ : ∃ w2, (w.alloc (.cells (lcs a sl) 28)).alloc (.cells (lcs b sl') 28) = w2 := ⟨_, rfl⟩
  have H0 : w2.heap[w.heap.size]? = some (.cells (lcs a sl) 28) := by rw [← hw2]; exact (Below.heap_alloc _ _ _ (by simp)).trans (heap_alloc_new w _)
  have H1 : w2.heap[w.heap.size + 1]? = some (.cells (lcs b sl') 28) := by
    rw [← hw2]
    have := heap_alloc_new (w.alloc (.cells (lcs a sl) 28)) (.cells (lcs b sl') 28)
    simpa using this
  have HB : Hid (Below w.heap.size w w2) := by show Below _ _ _; rw [← hw2]; exact bel_alloc (bel_alloc (Below.refl _ _) _) _
  obtain ⟨c0, c1, l2, l3, l4⟩ := box_all H0
  obtain ⟨d0, d1, m2, m3, m4⟩ := box_all H1
  have L2 : Hid _ := l2
  have L3 : Hid _ := l3
  have L4 : Hid _ := l4
  have M2 : Hid _ := m2
  have M3 : Hid _ := m3
  have M4 : Hid _ := m4
  have E2 := fun u => run_eql_val u a.vk a.vn a.vs b.vk b.vn b.vs
  have E3 := fun u => run_eql_refB u a.b1 a.h1 a.r1 a.c1 a.fr1 a.fc1 b.b1 b.h1 b.r1 b.c1 b.fr1 b.fc1
  have E4 := fun u => run_eql_refB u a.b2 a.h2 a.r2 a.c2 a.fr2 a.fc2 b.b2 b.h2 b.r2 b.c2 b.fr2 b.fc2
  have G2 := guard23
  have G3 := guard25
  clear H0 H1 l2 l3 l4 m2 m3 m4
  generalize lcs a sl = bx at *
  generalize lcs b sl' = bz at *
  obtain ⟨k, s, vk, vn, vs, b1, x1, r1, c1_, f1, g1, b2, x2, r2, c2, f2, g2⟩ := a
  obtain ⟨k', s', vk', vn', vs', b1', x1', r1', c1', f1', g1', b2', x2', r2', c2', f2', g2'⟩ := b
  dsimp only at *
  go_enter Tryz.func28, Tryz.ntmps28
  go_wp2_with (first
    | (refine wpList_load_g 23 _ rfl _ _ rfl L2.out (by go_simp) ?_)
    | (refine wpList_load_g 23 _ rfl _ _ rfl M2.out (by go_simp) ?_)
    | (refine wpList_load_g 25 _ rfl _ _ rfl L3.out (by go_simp) ?_)
    | (refine wpList_load_g 25 _ rfl _ _ rfl M3.out (by go_simp) ?_)
    | (refine wpList_load_g 25 _ rfl _ _ rfl L4.out (by go_simp) ?_)
    | (refine wpList_load_g 25 _ rfl _ _ rfl M4.out (by go_simp) ?_))
  go_ret
  exact ⟨by first | rfl | (simp; done), HB.out⟩
set_option maxHeartbeats 4000000 in
theorem alike_1 {a b : Lab} {sl sl' : Value} (hk : (a.k == b.k) = true) (hs : (a.s.toList == b.s.toList) = false) (w : World) : Calls Tryz.prog 28 #[.agg (lcs a sl), .agg (lcs b sl')] w fun e w' => e = .returned (.bool false) ∧ Below w.heap.size w w' := by
  obtain ⟨w2, hw2⟩ : ∃ w2, (w.alloc (.cells (lcs a sl) 28)).alloc (.cells (lcs b sl') 28) = w2 := ⟨_, rfl⟩
  have H0 : w2.heap[w.heap.size]? = some (.cells (lcs a sl) 28) := by rw [← hw2]; exact (Below.heap_alloc _ _ _ (by simp)).trans (heap_alloc_new w _)
  have H1 : w2.heap[w.heap.size + 1]? = some (.cells (lcs b sl') 28) := by
    rw [← hw2]
    have := heap_alloc_new (w.alloc (.cells (lcs a sl) 28)) (.cells (lcs b sl') 28)
    simpa using this
  have HB : Hid (Below w.heap.size w w2) := by show Below _ _ _; rw [← hw2]; exact bel_alloc (bel_alloc (Below.refl _ _) _) _
  obtain ⟨c0, c1, l2, l3, l4⟩ := box_all H0
  obtain ⟨d0, d1, m2, m3, m4⟩ := box_all H1
  have L2 : Hid _ := l2
  have L3 : Hid _ := l3
  have L4 : Hid _ := l4
  have M2 : Hid _ := m2
  have M3 : Hid _ := m3
  have M4 : Hid _ := m4
  have E2 := fun u => run_eql_val u a.vk a.vn a.vs b.vk b.vn b.vs
  have E3 := fun u => run_eql_refB u a.b1 a.h1 a.r1 a.c1 a.fr1 a.fc1 b.b1 b.h1 b.r1 b.c1 b.fr1 b.fc1
  have E4 := fun u => run_eql_refB u a.b2 a.h2 a.r2 a.c2 a.fr2 a.fc2 b.b2 b.h2 b.r2 b.c2 b.fr2 b.fc2
  have G2 := guard23
  have G3 := guard25
  clear H0 H1 l2 l3 l4 m2 m3 m4
  generalize lcs a sl = bx at *
  generalize lcs b sl' = bz at *
  obtain ⟨k, s, vk, vn, vs, b1, x1, r1, c1_, f1, g1, b2, x2, r2, c2, f2, g2⟩ := a
  obtain ⟨k', s', vk', vn', vs', b1', x1', r1', c1', f1', g1', b2', x2', r2', c2', f2', g2'⟩ := b
  dsimp only at *
  go_enter Tryz.func28, Tryz.ntmps28
  go_wp2_with (first
    | (refine wpList_load_g 23 _ rfl _ _ rfl L2.out (by go_simp) ?_)
    | (refine wpList_load_g 23 _ rfl _ _ rfl M2.out (by go_simp) ?_)
    | (refine wpList_load_g 25 _ rfl _ _ rfl L3.out (by go_simp) ?_)
    | (refine wpList_load_g 25 _ rfl _ _ rfl M3.out (by go_simp) ?_)
    | (refine wpList_load_g 25 _ rfl _ _ rfl L4.out (by go_simp) ?_)
    | (refine wpList_load_g 25 _ rfl _ _ rfl M4.out (by go_simp) ?_))
  go_ret
  exact ⟨by first | rfl | (simp; done), HB.out⟩
set_option maxHeartbeats 4000000 in
theorem alike_2 {a b : Lab} {sl sl' : Value} (hk : (a.k == b.k) = true) (hs : (a.s.toList == b.s.toList) = true) (hv : veB a.vk a.vn a.vs b.vk b.vn b.vs = false) (w : World) : Calls Tryz.prog 28 #[.agg (lcs a sl), .agg (lcs b sl')] w fun e w' => e = .returned (.bool false) ∧ Below w.heap.size w w' := by
  obtain ⟨w2, hw2⟩ : ∃ w2, (w.alloc (.cells (lcs a sl) 28)).alloc (.cells (lcs b sl') 28) = w2 := ⟨_, rfl⟩
  have H0 : w2.heap[w.heap.size]? = some (.cells (lcs a sl) 28) := by rw [← hw2]; exact (Below.heap_alloc _ _ _ (by simp)).trans (heap_alloc_new w _)
  have H1 : w2.heap[w.heap.size + 1]? = some (.cells (lcs b sl') 28) := by
    rw [← hw2]
    have := heap_alloc_new (w.alloc (.cells (lcs a sl) 28)) (.cells (lcs b sl') 28)
    simpa using this
  have HB : Hid (Below w.heap.size w w2) := by show Below _ _ _; rw [← hw2]; exact bel_alloc (bel_alloc (Below.refl _ _) _) _
  obtain ⟨c0, c1, l2, l3, l4⟩ := box_all H0
  obtain ⟨d0, d1, m2, m3, m4⟩ := box_all H1
  have L2 : Hid _ := l2
  have L3 : Hid _ := l3
  have L4 : Hid _ := l4
  have M2 : Hid _ := m2
  have M3 : Hid _ := m3
  have M4 : Hid _ := m4
  have E2 := fun u => run_eql_val u a.vk a.vn a.vs b.vk b.vn b.vs
  have E3 := fun u => run_eql_refB u a.b1 a.h1 a.r1 a.c1 a.fr1 a.fc1 b.b1 b.h1 b.r1 b.c1 b.fr1 b.fc1
  have E4 := fun u => run_eql_refB u a.b2 a.h2 a.r2 a.c2 a.fr2 a.fc2 b.b2 b.h2 b.r2 b.c2 b.fr2 b.fc2
  rw [hv] at E2
  have G2 := guard23
  have G3 := guard25
  clear H0 H1 l2 l3 l4 m2 m3 m4
  generalize lcs a sl = bx at *
  generalize lcs b sl' = bz at *
  obtain ⟨k, s, vk, vn, vs, b1, x1, r1, c1_, f1, g1, b2, x2, r2, c2, f2, g2⟩ := a
  obtain ⟨k', s', vk', vn', vs', b1', x1', r1', c1', f1', g1', b2', x2', r2', c2', f2', g2'⟩ := b
  dsimp only at *
  go_enter Tryz.func28, Tryz.ntmps28
  go_wp2_with (first
    | (refine wpList_load_g 23 _ rfl _ _ rfl L2.out (by go_simp) ?_)
    | (refine wpList_load_g 23 _ rfl _ _ rfl M2.out (by go_simp) ?_)
    | (refine wpList_load_g 25 _ rfl _ _ rfl L3.out (by go_simp) ?_)
    | (refine wpList_load_g 25 _ rfl _ _ rfl M3.out (by go_simp) ?_)
    | (refine wpList_load_g 25 _ rfl _ _ rfl L4.out (by go_simp) ?_)
    | (refine wpList_load_g 25 _ rfl _ _ rfl M4.out (by go_simp) ?_))
  go_ret
  exact ⟨by first | rfl | (simp; done), HB.out⟩
set_option maxHeartbeats 4000000 in
theorem alike_3 {a b : Lab} {sl sl' : Value} (hk : (a.k == b.k) = true) (hs : (a.s.toList == b.s.toList) = true) (hv : veB a.vk a.vn a.vs b.vk b.vn b.vs = true) (hr : reB a.b1 a.h1 a.r1 a.c1 a.fr1 a.fc1 b.b1 b.h1 b.r1 b.c1 b.fr1 b.fc1 = false) (w : World) : Calls Tryz.prog 28 #[.agg (lcs a sl), .agg (lcs b sl')] w fun e w' => e = .returned (.bool false) ∧ Below w.heap.size w w' := by
  obtain ⟨w2, hw2⟩ : ∃ w2, (w.alloc (.cells (lcs a sl) 28)).alloc (.cells (lcs b sl') 28) = w2 := ⟨_, rfl⟩
  have H0 : w2.heap[w.heap.size]? = some (.cells (lcs a sl) 28) := by rw [← hw2]; exact (Below.heap_alloc _ _ _ (by simp)).trans (heap_alloc_new w _)
  have H1 : w2.heap[w.heap.size + 1]? = some (.cells (lcs b sl') 28) := by
    rw [← hw2]
    have := heap_alloc_new (w.alloc (.cells (lcs a sl) 28)) (.cells (lcs b sl') 28)
    simpa using this
  have HB : Hid (Below w.heap.size w w2) := by show Below _ _ _; rw [← hw2]; exact bel_alloc (bel_alloc (Below.refl _ _) _) _
  obtain ⟨c0, c1, l2, l3, l4⟩ := box_all H0
  obtain ⟨d0, d1, m2, m3, m4⟩ := box_all H1
  have L2 : Hid _ := l2
  have L3 : Hid _ := l3
  have L4 : Hid _ := l4
  have M2 : Hid _ := m2
  have M3 : Hid _ := m3
  have M4 : Hid _ := m4
  have E2 := fun u => run_eql_val u a.vk a.vn a.vs b.vk b.vn b.vs
  have E3 := fun u => run_eql_refB u a.b1 a.h1 a.r1 a.c1 a.fr1 a.fc1 b.b1 b.h1 b.r1 b.c1 b.fr1 b.fc1
  have E4 := fun u => run_eql_refB u a.b2 a.h2 a.r2 a.c2 a.fr2 a.fc2 b.b2 b.h2 b.r2 b.c2 b.fr2 b.fc2
  rw [hv] at E2
  rw [hr] at E3
  have G2 := guard23
  have G3 := guard25
  clear H0 H1 l2 l3 l4 m2 m3 m4
  generalize lcs a sl = bx at *
  generalize lcs b sl' = bz at *
  obtain ⟨k, s, vk, vn, vs, b1, x1, r1, c1_, f1, g1, b2, x2, r2, c2, f2, g2⟩ := a
  obtain ⟨k', s', vk', vn', vs', b1', x1', r1', c1', f1', g1', b2', x2', r2', c2', f2', g2'⟩ := b
  dsimp only at *
  go_enter Tryz.func28, Tryz.ntmps28
  go_wp2_with (first
    | (refine wpList_load_g 23 _ rfl _ _ rfl L2.out (by go_simp) ?_)
    | (refine wpList_load_g 23 _ rfl _ _ rfl M2.out (by go_simp) ?_)
    | (refine wpList_load_g 25 _ rfl _ _ rfl L3.out (by go_simp) ?_)
    | (refine wpList_load_g 25 _ rfl _ _ rfl M3.out (by go_simp) ?_)
    | (refine wpList_load_g 25 _ rfl _ _ rfl L4.out (by go_simp) ?_)
    | (refine wpList_load_g 25 _ rfl _ _ rfl M4.out (by go_simp) ?_))
  go_ret
  exact ⟨by first | rfl | (simp; done), HB.out⟩
set_option maxHeartbeats 4000000 in
theorem alike_4 {a b : Lab} {sl sl' : Value} (hk : (a.k == b.k) = true) (hs : (a.s.toList == b.s.toList) = true) (hv : veB a.vk a.vn a.vs b.vk b.vn b.vs = true) (hr : reB a.b1 a.h1 a.r1 a.c1 a.fr1 a.fc1 b.b1 b.h1 b.r1 b.c1 b.fr1 b.fc1 = true) (ht : reB a.b2 a.h2 a.r2 a.c2 a.fr2 a.fc2 b.b2 b.h2 b.r2 b.c2 b.fr2 b.fc2 = false) (w : World) : Calls Tryz.prog 28 #[.agg (lcs a sl), .agg (lcs b sl')] w fun e w' => e = .returned (.bool false) ∧ Below w.heap.size w w' := by
  obtain ⟨w2, hw2⟩ : ∃ w2, (w.alloc (.cells (lcs a sl) 28)).alloc (.cells (lcs b sl') 28) = w2 := ⟨_, rfl⟩
  have H0 : w2.heap[w.heap.size]? = some (.cells (lcs a sl) 28) := by rw [← hw2]; exact (Below.heap_alloc _ _ _ (by simp)).trans (heap_alloc_new w _)
  have H1 : w2.heap[w.heap.size + 1]? = some (.cells (lcs b sl') 28) := by
    rw [← hw2]
    have := heap_alloc_new (w.alloc (.cells (lcs a sl) 28)) (.cells (lcs b sl') 28)
    simpa using this
  have HB : Hid (Below w.heap.size w w2) := by show Below _ _ _; rw [← hw2]; exact bel_alloc (bel_alloc (Below.refl _ _) _) _
  obtain ⟨c0, c1, l2, l3, l4⟩ := box_all H0
  obtain ⟨d0, d1, m2, m3, m4⟩ := box_all H1
  have L2 : Hid _ := l2
  have L3 : Hid _ := l3
  have L4 : Hid _ := l4
  have M2 : Hid _ := m2
  have M3 : Hid _ := m3
  have M4 : Hid _ := m4
  have E2 := fun u => run_eql_val u a.vk a.vn a.vs b.vk b.vn b.vs
  have E3 := fun u => run_eql_refB u a.b1 a.h1 a.r1 a.c1 a.fr1 a.fc1 b.b1 b.h1 b.r1 b.c1 b.fr1 b.fc1
  have E4 := fun u => run_eql_refB u a.b2 a.h2 a.r2 a.c2 a.fr2 a.fc2 b.b2 b.h2 b.r2 b.c2 b.fr2 b.fc2
  rw [hv] at E2
  rw [hr] at E3
  rw [ht] at E4
  have G2 := guard23
  have G3 := guard25
  clear H0 H1 l2 l3 l4 m2 m3 m4
  generalize lcs a sl = bx at *
  generalize lcs b sl' = bz at *
  obtain ⟨k, s, vk, vn, vs, b1, x1, r1, c1_, f1, g1, b2, x2, r2, c2, f2, g2⟩ := a
  obtain ⟨k', s', vk', vn', vs', b1', x1', r1', c1', f1', g1', b2', x2', r2', c2', f2', g2'⟩ := b
  dsimp only at *
  go_enter Tryz.func28, Tryz.ntmps28
  go_wp2_with (first
    | (refine wpList_load_g 23 _ rfl _ _ rfl L2.out (by go_simp) ?_)
    | (refine wpList_load_g 23 _ rfl _ _ rfl M2.out (by go_simp) ?_)
    | (refine wpList_load_g 25 _ rfl _ _ rfl L3.out (by go_simp) ?_)
    | (refine wpList_load_g 25 _ rfl _ _ rfl M3.out (by go_simp) ?_)
    | (refine wpList_load_g 25 _ rfl _ _ rfl L4.out (by go_simp) ?_)
    | (refine wpList_load_g 25 _ rfl _ _ rfl M4.out (by go_simp) ?_))
  go_ret
  exact ⟨by first | rfl | (simp; done), HB.out⟩
set_option maxHeartbeats 4000000 in
theorem alike_5 {a b : Lab} {sl sl' : Value} (hk : (a.k == b.k) = true) (hs : (a.s.toList == b.s.toList) = true) (hv : veB a.vk a.vn a.vs b.vk b.vn b.vs = true) (hr : reB a.b1 a.h1 a.r1 a.c1 a.fr1 a.fc1 b.b1 b.h1 b.r1 b.c1 b.fr1 b.fc1 = true) (ht : reB a.b2 a.h2 a.r2 a.c2 a.fr2 a.fc2 b.b2 b.h2 b.r2 b.c2 b.fr2 b.fc2 = true) (w : World) : Calls Tryz.prog 28 #[.agg (lcs a sl), .agg (lcs b sl')] w fun e w' => e = .returned (.bool true) ∧ Below w.heap.size w w' := by
  obtain ⟨w2, hw2⟩ : ∃ w2, (w.alloc (.cells (lcs a sl) 28)).alloc (.cells (lcs b sl') 28) = w2 := ⟨_, rfl⟩
  have H0 : w2.heap[w.heap.size]? = some (.cells (lcs a sl) 28) := by rw [← hw2]; exact (Below.heap_alloc _ _ _ (by simp)).trans (heap_alloc_new w _)
  have H1 : w2.heap[w.heap.size + 1]? = some (.cells (lcs b sl') 28) := by
    rw [← hw2]
    have := heap_alloc_new (w.alloc (.cells (lcs a sl) 28)) (.cells (lcs b sl') 28)
    simpa using this
  have HB : Hid (Below w.heap.size w w2) := by show Below _ _ _; rw [← hw2]; exact bel_alloc (bel_alloc (Below.refl _ _) _) _
  obtain ⟨c0, c1, l2, l3, l4⟩ := box_all H0
  obtain ⟨d0, d1, m2, m3, m4⟩ := box_all H1
  have L2 : Hid _ := l2
  have L3 : Hid _ := l3
  have L4 : Hid _ := l4
  have M2 : Hid _ := m2
  have M3 : Hid _ := m3
  have M4 : Hid _ := m4
  have E2 := fun u => run_eql_val u a.vk a.vn a.vs b.vk b.vn b.vs
  have E3 := fun u => run_eql_refB u a.b1 a.h1 a.r1 a.c1 a.fr1 a.fc1 b.b1 b.h1 b.r1 b.c1 b.fr1 b.fc1
  have E4 := fun u => run_eql_refB u a.b2 a.h2 a.r2 a.c2 a.fr2 a.fc2 b.b2 b.h2 b.r2 b.c2 b.fr2 b.fc2
  rw [hv] at E2
  rw [hr] at E3
  rw [ht] at E4
  have G2 := guard23
  have G3 := guard25
  clear H0 H1 l2 l3 l4 m2 m3 m4
  generalize lcs a sl = bx at *
  generalize lcs b sl' = bz at *
  obtain ⟨k, s, vk, vn, vs, b1, x1, r1, c1_, f1, g1, b2, x2, r2, c2, f2, g2⟩ := a
  obtain ⟨k', s', vk', vn', vs', b1', x1', r1', c1', f1', g1', b2', x2', r2', c2', f2', g2'⟩ := b
  dsimp only at *
  go_enter Tryz.func28, Tryz.ntmps28
  go_wp2_with (first
    | (refine wpList_load_g 23 _ rfl _ _ rfl L2.out (by go_simp) ?_)
    | (refine wpList_load_g 23 _ rfl _ _ rfl M2.out (by go_simp) ?_)
    | (refine wpList_load_g 25 _ rfl _ _ rfl L3.out (by go_simp) ?_)
    | (refine wpList_load_g 25 _ rfl _ _ rfl M3.out (by go_simp) ?_)
    | (refine wpList_load_g 25 _ rfl _ _ rfl L4.out (by go_simp) ?_)
    | (refine wpList_load_g 25 _ rfl _ _ rfl M4.out (by go_simp) ?_))
  go_ret
  exact ⟨by first | rfl | (simp; done), HB.out⟩
theorem alike_any {w : World} {a b : Lab} {sl sl' : Value} : Calls Tryz.prog 28 #[.agg (lcs a sl), .agg (lcs b sl')] w fun e w' => e = .returned (.bool (labB a b)) ∧ Below w.heap.size w w' := by
  unfold labB
  cases hk : (a.k == b.k)
  · exact alike_0 hk w
  cases hs : (a.s.toList == b.s.toList)
  · exact alike_1 hk hs w
  cases hv : veB a.vk a.vn a.vs b.vk b.vn b.vs
  · exact alike_2 hk hs hv w
  cases hr : reB a.b1 a.h1 a.r1 a.c1 a.fr1 a.fc1 b.b1 b.h1 b.r1 b.c1 b.fr1 b.fc1
  · exact alike_3 hk hs hv hr w
  cases ht : reB a.b2 a.h2 a.r2 a.c2 a.fr2 a.fc2 b.b2 b.h2 b.r2 b.c2 b.fr2 b.fc2
  · exact alike_4 hk hs hv hr ht w
  · exact alike_5 hk hs hv hr ht w
end Go.Proofs.YtljfkkpkcjigpaaGreatDoor

namespace Go.Proofs.YtljfkkpkcjigpaaGreatDoor
open Go.RowKit Go.Fm
set_option maxRecDepth 100000
def sF : F → F → Bool
  | .nil, .nil => true
  | .node _ _ a l r, .node _ _ a' l' r' => (labB a a' && sF l l') && sF r r'
  | _, _ => false
def sT (s t : T) : Bool := labB s.1 t.1 && sF s.2 t.2
theorem sF_iff : ∀ f g : F, sF f g = true ↔ same f g := by
  intro f
  induction f with
  | nil => intro g; cases g <;> simp [sF, same]
  | node b o a l r ihl ihr =>
    intro g
    cases g with
    | nil => simp [sF, same]
    | node b' o' a' l' r' =>
      simp only [sF, same, Bool.and_eq_true, ihl l', ihr r']
      constructor
      · rintro ⟨⟨h1, h2⟩, h3⟩; exact ⟨labB_eq h1, h2, h3⟩
      · rintro ⟨h1, h2, h3⟩; exact ⟨⟨by rw [h1]; exact labB_refl _, h2⟩, h3⟩
theorem sT_iff (s t : T) : sT s t = true ↔ sameT s t := by
  unfold sT sameT
  rw [Bool.and_eq_true, sF_iff]
  constructor
  · rintro ⟨h1, h2⟩; exact ⟨labB_eq h1, h2⟩
  · rintro ⟨h1, h2⟩; exact ⟨by rw [h1]; exact labB_refl _, h2⟩
theorem sF_kids (f g : F) : sF f g = true ↔ ((kids f).length = (kids g).length ∧ ∀ (i : Nat) (s t : T), (kids f)[i]? = some s → (kids g)[i]? = some t → sT s t = true) := by
  rw [sF_iff, same_kids]
  constructor
  · rintro ⟨h1, h2⟩
    refine ⟨h1, fun i s t hs ht => ?_⟩
    obtain ⟨l1, e1⟩ := List.getElem?_eq_some_iff.1 hs
    obtain ⟨l2, e2⟩ := List.getElem?_eq_some_iff.1 ht
    rw [sT_iff, ← e1, ← e2]
    exact h2 i l1 l2
  · rintro ⟨h1, h2⟩
    refine ⟨h1, fun i l1 l2 => ?_⟩
    rw [← sT_iff]
    exact h2 i _ _ (List.getElem?_eq_getElem l1) (List.getElem?_eq_getElem l2)
theorem kids_le (t : T) : (kids t.2).length < zT t := by
  have : (kids t.2).length ≤ size t.2 := by
    rw [← pre_len, pre_kids]
    have : ∀ l : List T, l.length ≤ (l.flatMap preT).length := by
      intro l
      induction l with
      | nil => exact Nat.zero_le _
      | cons a l ih => rw [List.flatMap_cons, List.length_append, List.length_cons, preT, List.length_cons]; omega
    exact this _
  unfold zT; omega
theorem nbox_at {w : World} {es : Array Value} {t : T} (h : NT w es t) : True ∧ ∀ {u : World} {g : Nat}, u.heap[g]? = some (.cells es 28) → (Instr.loadAt 28 (.pointer (some ⟨g, 0, none⟩))).run Tryz.prog u = .ok (.agg es) u := by
  obtain ⟨p, n, c, rfl, hs⟩ := h
  exact ⟨trivial, fun hu => lod (z := (0, 0)) hu rfl Tryz.underlying28 (by rw [lcs_size]; exact inf28)⟩
theorem e10 : ∀ args u, (callFunc 10 args).run Tryz.prog u = .ok (.enter 10 args) u := enters_of Tryz.func10 (by kernel_rfl) rfl
section
variable {w : World} {p p' : Option Addr} {n n' c c' : Nat} {f g : F}
set_option maxHeartbeats 2000000 in
theorem eqf_len (h : n ≠ n') : Calls Tryz.prog 29 #[.slice p n c, .slice p' n' c', .func (.func 10) #[] #[]] w fun e w' => e = .returned (.bool false) ∧ Below w.heap.size w w' := by
  have hn : ((n : Int) == (n' : Int)) = false := by simp; omega
  have hn2 : ((n : Int) != (n' : Int)) = true := by simp; omega
  clear h
  go_enter Tryz.func29, Tryz.ntmps29
  go_wp2
  go_ret
  exact ⟨rfl, Below.refl _ _⟩
set_option maxHeartbeats 4000000 in
theorem eqf_any (hf : SF w p n f) (hg : SF w p' n g) (hn : n ≤ 1000000)
    (IH : ∀ s ∈ kids f, ∀ (t : T) (w : World) (es es' : Array Value), NT w es s → NT w es' t → Calls Tryz.prog 10 #[.agg es, .agg es'] w fun e w' => e = .returned (.bool (sT s t)) ∧ Below w.heap.size w w') :
    Calls Tryz.prog 29 #[.slice p n c, .slice p' n c', .func (.func 10) #[] #[]] w fun e w' => e = .returned (.bool (sF f g)) ∧ Below w.heap.size w w' := by
  have HF : Hid (SF w p n f) := hf
  have HG : Hid (SF w p' n g) := hg
  have HI : Hid (∀ s ∈ kids f, ∀ (t : T) (w : World) (es es' : Array Value), NT w es s → NT w es' t → Calls Tryz.prog 10 #[.agg es, .agg es'] w fun e w' => e = .returned (.bool (sT s t)) ∧ Below w.heap.size w w') := IH
  have HL : Hid ((kids f).length = n ∧ (kids g).length = n) := ⟨hf.1.symm, hg.1.symm⟩
  have e10 := e10
  clear hf hg IH
  generalize hq : sF f g = q
  have HQ : Hid (sF f g = q) := hq
  clear hq
  go_enter Tryz.func29, Tryz.ntmps29
  go_wp2
  go_loopw [17] (fun i wr => ∃ k : Nat, k ≤ n ∧ i = .int .i64 (k : Nat) ∧ Hid (Below w.heap.size w wr) ∧ Hid (∀ j s t, j < k → (kids f)[j]? = some s → (kids g)[j]? = some t → sT s t = true)) (fun i _ => n - (intOf i).toNat)
  case atStart => exact ⟨0, Nat.zero_le _, rfl, Below.refl _ _, fun j s t hj => absurd hj (Nat.not_lt_zero _)⟩
  case round =>
    obtain ⟨k, hk, rfl, HB, HA⟩ := hrel
    by_cases hlt : k < n
    · have hki : (k : Int) < n := by omega
      obtain ⟨a1, es1, s, rfl, RL1, HI1, RS1, _, HN1, HM⟩ := HF.out.step HB.out hlt
      have HB1 : Hid (Below w.heap.size w (wr.alloc (.cells es1 28))) := bel_alloc HB.out _
      obtain ⟨a2, es2, t, rfl, RL2, HI2, RS2, RLB, HN2, _⟩ := HG.out.step HB1.out hlt
      have RLA : Hid _ := (nbox_at (HN1.out)).2 (u := (wr.alloc (.cells es1 28)).alloc (.cells es2 28)) ((Below.heap_alloc _ _ _ (by simp)).trans (heap_alloc_new wr _))
      have C := HI.out s HM.out t _ _ _ (HN1.out.below (bel_alloc (Below.refl _ _) (.cells es2 28))) HN2.out
      have hz1 : (wr.alloc (.cells es1 28)).heap.size = wr.heap.size + 1 := by simp
      rw [hz1] at RS2 RLB
      cases hq : sT s t
      · rw [hq] at C
        have HQ2 : Hid (q = false) := by
          show _ = _
          rw [← HQ.out]
          cases hsf : sF f g
          · rfl
          · exfalso
            have := ((sF_kids f g).1 hsf).2 k s t HI1.out HI2.out
            rw [hq] at this; cases this
        clear hq HI1 HI2 HN1 HN2 HM
        go_wp2_with (first
          | (refine wpList_load_run rfl 28 _ rfl _ _ rfl RL1.out ?_; clear RL1)
          | (refine wpList_store_run rfl 28 _ _ rfl _ _ _ rfl rfl RS1.out ?_; clear RS1)
          | (refine wpList_load_run rfl 28 _ rfl _ _ rfl RL2.out ?_; clear RL2)
          | (refine wpList_store_run rfl 28 _ _ rfl _ _ _ rfl rfl RS2.out ?_; clear RS2)
          | (refine wpList_load_run rfl 28 _ rfl _ _ rfl RLA.out ?_; clear RLA)
          | (refine wpList_load_run rfl 28 _ rfl _ _ rfl RLB.out ?_; clear RLB)
          | (go_at_fn 10; refine C.mono ?_; rintro e w2 ⟨rfl, hs⟩; have HU2 : Hid (Below w.heap.size w w2) := bel_step (bel_alloc HB1.out _) hs; clear hs))
        go_ret
        exact ⟨by rw [HQ2.out]; rfl, HU2.out⟩
      · rw [hq] at C
        have HA2 : Hid (∀ j s t, j < k + 1 → (kids f)[j]? = some s → (kids g)[j]? = some t → sT s t = true) := fun j s' t' hj hs ht => by
          by_cases hjk : j < k
          · exact HA.out j s' t' hjk hs ht
          · have : j = k := by omega
            subst this
            rw [HI1.out] at hs
            rw [HI2.out] at ht
            cases hs; cases ht; exact hq
        clear hq HI1 HI2 HN1 HN2 HM HA
        go_wp2_with (first
          | (refine wpList_load_run rfl 28 _ rfl _ _ rfl RL1.out ?_; clear RL1)
          | (refine wpList_store_run rfl 28 _ _ rfl _ _ _ rfl rfl RS1.out ?_; clear RS1)
          | (refine wpList_load_run rfl 28 _ rfl _ _ rfl RL2.out ?_; clear RL2)
          | (refine wpList_store_run rfl 28 _ _ rfl _ _ _ rfl rfl RS2.out ?_; clear RS2)
          | (refine wpList_load_run rfl 28 _ rfl _ _ rfl RLA.out ?_; clear RLA)
          | (refine wpList_load_run rfl 28 _ rfl _ _ rfl RLB.out ?_; clear RLB)
          | (go_at_fn 10; refine C.mono ?_; rintro e w2 ⟨rfl, hs⟩; have HU2 : Hid (Below w.heap.size w w2) := bel_step (bel_alloc HB1.out _) hs; clear hs))
        go_roundw
        case rel => exact ⟨k + 1, by omega, by go_num, HU2, HA2⟩
        case measure => simp [intOf]; omega
    · have hki : ¬ (k : Int) < n := by omega
      have HQ2 : Hid (q = true) := by
        show _ = _
        rw [← HQ.out, sF_kids]
        refine ⟨HL.out.1.trans HL.out.2.symm, fun i s t hs ht => HA.out i s t ?_ hs ht⟩
        have := (List.getElem?_eq_some_iff.1 hs).1
        have := HL.out.1
        omega
      clear HA
      go_wp2
      go_ret
      exact ⟨by rw [HQ2.out]; rfl, HB.out⟩
end
set_option maxHeartbeats 4000000 in
theorem same_no {a b : Lab} {p p' : Option Addr} {n n' c c' : Nat} {w : World} (h : labB a b = false) : Calls Tryz.prog 10 #[.agg (lcs a (.slice p n c)), .agg (lcs b (.slice p' n' c'))] w fun e w' => e = .returned (.bool false) ∧ Below w.heap.size w w' := by
  obtain ⟨w2, hw2⟩ : ∃ w2, (w.alloc (.cells (lcs a (.slice p n c)) 28)).alloc (.cells (lcs b (.slice p' n' c')) 28) = w2 := ⟨_, rfl⟩
  have H0 : w2.heap[w.heap.size]? = some (.cells (lcs a (.slice p n c)) 28) := by rw [← hw2]; exact (Below.heap_alloc _ _ _ (by simp)).trans (heap_alloc_new w _)
  have H1 : w2.heap[w.heap.size + 1]? = some (.cells (lcs b (.slice p' n' c')) 28) := by
    rw [← hw2]
    have := heap_alloc_new (w.alloc (.cells (lcs a (.slice p n c)) 28)) (.cells (lcs b (.slice p' n' c')) 28)
    simpa using this
  have HB : Hid (Below w.heap.size w w2) := by show Below _ _ _; rw [← hw2]; exact bel_alloc (bel_alloc (Below.refl _ _) _) _
  have RL : Hid _ := lod (z := (0, 0)) H0 rfl Tryz.underlying28 (by rw [lcs_size]; exact inf28)
  have RM : Hid _ := lod (z := (0, 0)) H1 rfl Tryz.underlying28 (by rw [lcs_size]; exact inf28)
  have AL := alike_any (w := w2) (a := a) (b := b) (sl := .slice p n c) (sl' := .slice p' n' c')
  rw [h] at AL
  clear H0 H1 h
  generalize lcs a (.slice p n c) = bx at *
  generalize lcs b (.slice p' n' c') = bz at *
  go_enter Tryz.func10, Tryz.ntmps10
  go_wp2_with (first
    | (refine wpList_load_run rfl 28 _ rfl _ _ rfl RL.out ?_; clear RL)
    | (refine wpList_load_run rfl 28 _ rfl _ _ rfl RM.out ?_; clear RM)
    | (go_at_call 28; refine AL.mono ?_; rintro e w3 ⟨rfl, hs⟩; have HU : Hid (Below w.heap.size w w3) := bel_step HB.out hs; clear hs))
  go_ret
  exact ⟨rfl, HU.out⟩
set_option maxHeartbeats 4000000 in
theorem same_yes {a b : Lab} {p p' : Option Addr} {n n' c c' : Nat} {w : World} {q : Bool} (h : labB a b = true) (EQ : ∀ u, Below w.heap.size w u → Calls Tryz.prog 29 #[.slice p n c, .slice p' n' c', .func (.func 10) #[] #[]] u fun e w' => e = .returned (.bool q) ∧ Below u.heap.size u w') :
    Calls Tryz.prog 10 #[.agg (lcs a (.slice p n c)), .agg (lcs b (.slice p' n' c'))] w fun e w' => e = .returned (.bool q) ∧ Below w.heap.size w w' := by
  obtain ⟨w2, hw2⟩ : ∃ w2, (w.alloc (.cells (lcs a (.slice p n c)) 28)).alloc (.cells (lcs b (.slice p' n' c')) 28) = w2 := ⟨_, rfl⟩
  have H0 : w2.heap[w.heap.size]? = some (.cells (lcs a (.slice p n c)) 28) := by rw [← hw2]; exact (Below.heap_alloc _ _ _ (by simp)).trans (heap_alloc_new w _)
  have H1 : w2.heap[w.heap.size + 1]? = some (.cells (lcs b (.slice p' n' c')) 28) := by
    rw [← hw2]
    have := heap_alloc_new (w.alloc (.cells (lcs a (.slice p n c)) 28)) (.cells (lcs b (.slice p' n' c')) 28)
    simpa using this
  have HB : Hid (Below w.heap.size w w2) := by show Below _ _ _; rw [← hw2]; exact bel_alloc (bel_alloc (Below.refl _ _) _) _
  have RL : Hid _ := lod (z := (0, 0)) H0 rfl Tryz.underlying28 (by rw [lcs_size]; exact inf28)
  have RM : Hid _ := lod (z := (0, 0)) H1 rfl Tryz.underlying28 (by rw [lcs_size]; exact inf28)
  have AL := alike_any (w := w2) (a := a) (b := b) (sl := .slice p n c) (sl' := .slice p' n' c')
  rw [h] at AL
  have AL2 : Calls Tryz.prog 28 #[.agg (lcs a (.slice p n c)), .agg (lcs b (.slice p' n' c'))] w2 fun e w3 => e = .returned (.bool true) ∧ w3.cell? ⟨w.heap.size, 17, none⟩ = some (.slice p n c) ∧ w3.cell? ⟨w.heap.size + 1, 17, none⟩ = some (.slice p' n' c') ∧ Hid (Below w.heap.size w w3) := AL.mono (by
    rintro e w3 ⟨rfl, hs⟩
    exact ⟨rfl, cell17 ((hs.block _ (lt_of H0)).trans H0), cell17 ((hs.block _ (lt_of H1)).trans H1), bel_step HB.out hs⟩)
  clear H0 H1 h AL
  generalize lcs a (.slice p n c) = bx at *
  generalize lcs b (.slice p' n' c') = bz at *
  go_enter Tryz.func10, Tryz.ntmps10
  go_wp2_with (first
    | (refine wpList_load_run rfl 28 _ rfl _ _ rfl RL.out ?_; clear RL)
    | (refine wpList_load_run rfl 28 _ rfl _ _ rfl RM.out ?_; clear RM)
    | (go_at_call 28; refine AL2.mono ?_; rintro e w3 ⟨rfl, c3, d3, HU⟩)
    | (go_at_call 29; refine (EQ _ HU.out).mono ?_; rintro e w4 ⟨rfl, hs⟩; have HU4 : Hid (Below w.heap.size w w4) := bel_step HU.out hs; clear hs))
  all_goals (go_ret; exact ⟨by first | rfl | (simp; done), HU4.out⟩)
theorem same_any : ∀ s : T, zT s ≤ 1000000 → ∀ (t : T) (w : World) (es es' : Array Value), NT w es s → NT w es' t → Calls Tryz.prog 10 #[.agg es, .agg es'] w fun e w' => e = .returned (.bool (sT s t)) ∧ Below w.heap.size w w' := by
  refine ind ?_
  intro s ih hz t w es es' h1 h2
  obtain ⟨p, n, c, rfl, k1⟩ := h1
  obtain ⟨p', n', c', rfl, k2⟩ := h2
  unfold sT
  cases hl : labB s.1 t.1
  · exact same_no hl
  · refine same_yes hl (fun u hu => ?_)
    have j1 := k1.below hu
    have j2 := k2.below hu
    by_cases hn : n = n'
    · subst hn
      have hkl := kids_le s
      have := eqf_any (c := c) (c' := c') j1 j2 (by have := k1.1; omega) (fun s' hs' t' u' e1 e2 m1 m2 => ih s' hs' (by have := zT_kid hs'; omega) t' u' e1 e2 m1 m2)
      simpa using this
    · have hne : sF s.2 t.2 = false := by
        cases hsf : sF s.2 t.2
        · rfl
        · exfalso
          have := ((sF_kids _ _).1 hsf).1
          exact hn (k1.1.trans (this.trans k2.1.symm))
      rw [hne]
      exact eqf_len hn
end Go.Proofs.YtljfkkpkcjigpaaGreatDoor

namespace Go.Proofs.YtljfkkpkcjigpaaGreatDoor
open Go.RowKit
set_option maxRecDepth 100000
end Go.Proofs.YtljfkkpkcjigpaaGreatDoor

namespace Go.Proofs.YtljfkkpkcjigpaaGreatDoor
open Go.RowKit
set_option maxRecDepth 100000
set_option maxHeartbeats 2000000 in
theorem cellof_any (b s : ByteArray) (r c : Int) (fr fc : Bool) (w : World) :
    Calls Tryz.prog 137 #[refV b s r c fr fc] w fun e w' => e = .returned (refV ⟨#[]⟩ ⟨#[]⟩ r c fr fc) ∧ Below w.heap.size w w' := by
  go_enter Tryz.func137, Tryz.ntmps137
  go_wp2
  refine bodyPost_ret (v := refV ⟨#[]⟩ ⟨#[]⟩ r c fr fc) (by simp [results, Tryz.results137, go_sem]) rfl ?_
  refine ⟨rfl, ?_⟩
  repeat (first | exact Below.refl _ _ | refine Below.drew ?_ | refine bel_alloc ?_ _ | refine Below.setCell ?_ (by simp) _)
def paB (b1 s1 : ByteArray) (r1 c1 : Int) (fr1 fc1 : Bool) (b2 s2 : ByteArray) (r2 c2 : Int) (fr2 fc2 : Bool) : ByteArray :=
  if goodB b1 s1 r1 c1 = true ∧ goodB b2 s2 r2 c2 = true ∧ s2.toList = [] then refT b1 s1 r1.toNat c1.toNat fr1 fc1 ++ ⟨#[58]⟩ ++ cellB r2.toNat c2.toNat fr2 fc2 else ⟨#[]⟩
section
variable {b1 s1 b2 s2 X Y : ByteArray} {r1 c1 r2 c2 : Int} {fr1 fc1 fr2 fc2 : Bool} {w W : World}
set_option maxHeartbeats 4000000 in
theorem area_core (hW : W = (w.alloc (refO b1 s1 r1 c1 fr1 fc1)).alloc (refO b2 s2 r2 c2 fr2 fc2)) (P1 : RC W 109 #[.agg #[.string b1, .string s1, .int .i64 r1, .int .i64 c1, .bool fr1, .bool fc1]] (.string X)) (P2 : RC W 109 #[.agg #[.string b2, .string s2, .int .i64 r2, .int .i64 c2, .bool fr2, .bool fc2]] (.string Y))
    (CO : RC W 137 #[.agg #[.string b2, .string s2, .int .i64 r2, .int .i64 c2, .bool fr2, .bool fc2]] (.agg #[.string ⟨#[]⟩, .string ⟨#[]⟩, .int .i64 r2, .int .i64 c2, .bool fr2, .bool fc2])) (hX : (X.toList == []) = false) (hY : (Y.toList == []) = false) (zX : X.size ≤ 50) (zY : Y.size ≤ 50) {o : Bool}
    (NE : ∀ V, (binOp .neq 25 (.agg #[.string b2, .string s2, .int .i64 r2, .int .i64 c2, .bool fr2, .bool fc2]) (.agg #[.string ⟨#[]⟩, .string ⟨#[]⟩, .int .i64 r2, .int .i64 c2, .bool fr2, .bool fc2])).run Tryz.prog V = .ok (.bool o) V) :
    Calls Tryz.prog 93 #[.agg #[.string b1, .string s1, .int .i64 r1, .int .i64 c1, .bool fr1, .bool fc1], .agg #[.string b2, .string s2, .int .i64 r2, .int .i64 c2, .bool fr2, .bool fc2]] w fun e w' => e = .returned (.string (if o = true then ⟨#[]⟩ else X ++ ⟨#[58]⟩ ++ Y)) ∧ Below w.heap.size w w' := by
  have GU := guard25
  have HC : Hid (∀ u : World, Below W.heap.size W u → (u.cell? ⟨w.heap.size, 0, none⟩ = some (.string b1) ∧ u.cell? ⟨w.heap.size, 1, none⟩ = some (.string s1) ∧ u.cell? ⟨w.heap.size, 2, none⟩ = some (.int .i64 r1) ∧ u.cell? ⟨w.heap.size, 3, none⟩ = some (.int .i64 c1) ∧ u.cell? ⟨w.heap.size, 4, none⟩ = some (.bool fr1) ∧ u.cell? ⟨w.heap.size, 5, none⟩ = some (.bool fc1)) ∧ (u.cell? ⟨w.heap.size + 1, 0, none⟩ = some (.string b2) ∧ u.cell? ⟨w.heap.size + 1, 1, none⟩ = some (.string s2) ∧ u.cell? ⟨w.heap.size + 1, 2, none⟩ = some (.int .i64 r2) ∧ u.cell? ⟨w.heap.size + 1, 3, none⟩ = some (.int .i64 c2) ∧ u.cell? ⟨w.heap.size + 1, 4, none⟩ = some (.bool fr2) ∧ u.cell? ⟨w.heap.size + 1, 5, none⟩ = some (.bool fc2))) := by
    subst hW
    exact fun u hu => ⟨r_cells (new2 hu).1, r_cells (new2 hu).2⟩
  have HB : Hid (Below W.heap.size W W.drew) := (Below.refl _ _).drew
  have HF : Hid (∀ u, Below W.heap.size W u → Below w.heap.size w u) := by
    subst hW
    exact fun u hu => bel2 hu
  have z5 : ¬ 9223372036854775807 < X.size + 1 := by omega
  have z6 : ¬ 9223372036854775807 < X.size + 1 + Y.size := by omega
  have hW2 := hW.symm
  clear hW
  go_enter Tryz.func93, Tryz.ntmps93
  go_wp2_with fail
  try rw [hW2]
  go_region_held_law (fun u => (u.cell? ⟨w.heap.size, 0, none⟩ = some (.string b1) ∧ u.cell? ⟨w.heap.size, 1, none⟩ = some (.string s1) ∧ u.cell? ⟨w.heap.size, 2, none⟩ = some (.int .i64 r1) ∧ u.cell? ⟨w.heap.size, 3, none⟩ = some (.int .i64 c1) ∧ u.cell? ⟨w.heap.size, 4, none⟩ = some (.bool fr1) ∧ u.cell? ⟨w.heap.size, 5, none⟩ = some (.bool fc1)) ∧ (u.cell? ⟨w.heap.size + 1, 0, none⟩ = some (.string b2) ∧ u.cell? ⟨w.heap.size + 1, 1, none⟩ = some (.string s2) ∧ u.cell? ⟨w.heap.size + 1, 2, none⟩ = some (.int .i64 r2) ∧ u.cell? ⟨w.heap.size + 1, 3, none⟩ = some (.int .i64 c2) ∧ u.cell? ⟨w.heap.size + 1, 4, none⟩ = some (.bool fr2) ∧ u.cell? ⟨w.heap.size + 1, 5, none⟩ = some (.bool fc2)))
    (exact HC.out _ HB.out) (first
    | (go_at_call_of 109 b1; refine (P1 _ HB.out).mono ?_; rintro e w7 ⟨rfl, hb⟩; have HB : Hid (Below W.heap.size W w7) := hb; clear hb)
    | (go_at_call_of 109 b2; refine (P2 _ HB.out).mono ?_; rintro e w7 ⟨rfl, hb⟩; have HB : Hid (Below W.heap.size W w7) := hb; clear hb))
  go_wp2_with fail
  have HB : Hid (Below W.heap.size W (World.drew _)) := HB.out.drew
  go_region_held_law (fun u => (u.cell? ⟨w.heap.size, 0, none⟩ = some (.string b1) ∧ u.cell? ⟨w.heap.size, 1, none⟩ = some (.string s1) ∧ u.cell? ⟨w.heap.size, 2, none⟩ = some (.int .i64 r1) ∧ u.cell? ⟨w.heap.size, 3, none⟩ = some (.int .i64 c1) ∧ u.cell? ⟨w.heap.size, 4, none⟩ = some (.bool fr1) ∧ u.cell? ⟨w.heap.size, 5, none⟩ = some (.bool fc1)) ∧ (u.cell? ⟨w.heap.size + 1, 0, none⟩ = some (.string b2) ∧ u.cell? ⟨w.heap.size + 1, 1, none⟩ = some (.string s2) ∧ u.cell? ⟨w.heap.size + 1, 2, none⟩ = some (.int .i64 r2) ∧ u.cell? ⟨w.heap.size + 1, 3, none⟩ = some (.int .i64 c2) ∧ u.cell? ⟨w.heap.size + 1, 4, none⟩ = some (.bool fr2) ∧ u.cell? ⟨w.heap.size + 1, 5, none⟩ = some (.bool fc2)))
    (exact HC.out _ HB.out) (first
    | (go_at_call 137; refine (CO _ HB.out).mono ?_; rintro e w9 ⟨rfl, hb⟩; have HB : Hid (Below W.heap.size W w9) := hb; clear hb))
  cases o
  · go_wp2
    go_ret
    exact ⟨rfl, HF.out _ HB.out⟩
  · go_wp2
    go_ret
    exact ⟨rfl, HF.out _ HB.out⟩
end
end Go.Proofs.YtljfkkpkcjigpaaGreatDoor
