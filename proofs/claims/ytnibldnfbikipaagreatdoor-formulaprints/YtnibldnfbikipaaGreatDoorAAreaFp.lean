/- FAlike2, FSame, ARPrint, AArea. -/
import Derived.Test.YtnibldnfbikipaaGreatDoorFAlikeFp
set_option linter.unusedVariables false
set_option linter.unusedSimpArgs false
set_option maxHeartbeats 16000000
set_option maxRecDepth 100000
namespace Go.Proofs.YtnibldnfbikipaaGreatDoor
open Go.RowKit Go.Fm
theorem alike_0 {a b : Lab} {sl sl' : Value} (hk : (a.k == b.k) = false) (w : World) : Calls Tryz.prog 165 #[.agg (lcs a sl), .agg (lcs b sl')] w fun e w' => e = .returned (.bool false) ∧ Below w.heap.size w w' := by
 obtain ⟨w2, hw2⟩ : ∃ w2, (w.alloc (.cells (lcs a sl) 67)).alloc (.cells (lcs b sl') 67) = w2 := ⟨_, rfl⟩
 have H0 : w2.heap[w.heap.size]? = some (.cells (lcs a sl) 67) := by rw [← hw2]; exact (Below.heap_alloc _ _ _ (by simp)).trans (heap_alloc_new w _)
 have H1 : w2.heap[w.heap.size + 1]? = some (.cells (lcs b sl') 67) := by
  rw [← hw2]
  have := heap_alloc_new (w.alloc (.cells (lcs a sl) 67)) (.cells (lcs b sl') 67)
  simpa using this
 have HB : Hid (Below w.heap.size w w2) := by show Below _ _ _; rw [← hw2]; exact bel_alloc (bel_alloc (Below.refl _ _) _) _
 obtain ⟨c0, c1, l2, l3, l4⟩ := box_all H0
 obtain ⟨d0, d1, m2, m3, m4⟩ := box_all H1
 have L2 : Hid _ := l2
 have L3 : Hid _ := l3
 have L4 : Hid _ := l4
 have M2 : Hid _ := m2
 have M3 : Hid _ := m3
 have M4 : Hid _ := m4
 have E2 := fun u => run_eql_val u a.vk a.vn a.vs b.vk b.vn b.vs
 have E3 := fun u => run_eql_refB u a.b1 a.h1 a.r1 a.c1 a.fr1 a.fc1 b.b1 b.h1 b.r1 b.c1 b.fr1 b.fc1
 have E4 := fun u => run_eql_refB u a.b2 a.h2 a.r2 a.c2 a.fr2 a.fc2 b.b2 b.h2 b.r2 b.c2 b.fr2 b.fc2
 have G2 := guard23
 have G3 := guard25
 clear H0 H1 l2 l3 l4 m2 m3 m4
 generalize lcs a sl = bx at *
 generalize lcs b sl' = bz at *
 obtain ⟨k, s, vk, vn, vs, b1, x1, r1, c1_, f1, g1, b2, x2, r2, c2, f2, g2⟩ := a
 obtain ⟨k', s', vk', vn', vs', b1', x1', r1', c1', f1', g1', b2', x2', r2', c2', f2', g2'⟩ := b
 dsimp only at *
 go_enter Tryz.func165, Tryz.ntmps165
 go_wp2_with (first
  | (refine wpList_load_g 62 _ rfl _ _ rfl L2.out (by go_simp) ?_)
  | (refine wpList_load_g 62 _ rfl _ _ rfl M2.out (by go_simp) ?_)
  | (refine wpList_load_g 64 _ rfl _ _ rfl L3.out (by go_simp) ?_)
  | (refine wpList_load_g 64 _ rfl _ _ rfl M3.out (by go_simp) ?_)
  | (refine wpList_load_g 64 _ rfl _ _ rfl L4.out (by go_simp) ?_)
  | (refine wpList_load_g 64 _ rfl _ _ rfl M4.out (by go_simp) ?_))
 go_ret
 exact ⟨by first | rfl | (simp; done), HB.out⟩
theorem alike_1 {a b : Lab} {sl sl' : Value} (hk : (a.k == b.k) = true) (hs : (a.s.toList == b.s.toList) = false) (w : World) : Calls Tryz.prog 165 #[.agg (lcs a sl), .agg (lcs b sl')] w fun e w' => e = .returned (.bool false) ∧ Below w.heap.size w w' := by
 obtain ⟨w2, hw2⟩ : ∃ w2, (w.alloc (.cells (lcs a sl) 67)).alloc (.cells (lcs b sl') 67) = w2 := ⟨_, rfl⟩
 have H0 : w2.heap[w.heap.size]? = some (.cells (lcs a sl) 67) := by rw [← hw2]; exact (Below.heap_alloc _ _ _ (by simp)).trans (heap_alloc_new w _)
 have H1 : w2.heap[w.heap.size + 1]? = some (.cells (lcs b sl') 67) := by
  rw [← hw2]
  have := heap_alloc_new (w.alloc (.cells (lcs a sl) 67)) (.cells (lcs b sl') 67)
  simpa using this
 have HB : Hid (Below w.heap.size w w2) := by show Below _ _ _; rw [← hw2]; exact bel_alloc (bel_alloc (Below.refl _ _) _) _
 obtain ⟨c0, c1, l2, l3, l4⟩ := box_all H0
 obtain ⟨d0, d1, m2, m3, m4⟩ := box_all H1
 have L2 : Hid _ := l2
 have L3 : Hid _ := l3
 have L4 : Hid _ := l4
 have M2 : Hid _ := m2
 have M3 : Hid _ := m3
 have M4 : Hid _ := m4
 have E2 := fun u => run_eql_val u a.vk a.vn a.vs b.vk b.vn b.vs
 have E3 := fun u => run_eql_refB u a.b1 a.h1 a.r1 a.c1 a.fr1 a.fc1 b.b1 b.h1 b.r1 b.c1 b.fr1 b.fc1
 have E4 := fun u => run_eql_refB u a.b2 a.h2 a.r2 a.c2 a.fr2 a.fc2 b.b2 b.h2 b.r2 b.c2 b.fr2 b.fc2
 have G2 := guard23
 have G3 := guard25
 clear H0 H1 l2 l3 l4 m2 m3 m4
 generalize lcs a sl = bx at *
 generalize lcs b sl' = bz at *
 obtain ⟨k, s, vk, vn, vs, b1, x1, r1, c1_, f1, g1, b2, x2, r2, c2, f2, g2⟩ := a
 obtain ⟨k', s', vk', vn', vs', b1', x1', r1', c1', f1', g1', b2', x2', r2', c2', f2', g2'⟩ := b
 dsimp only at *
 go_enter Tryz.func165, Tryz.ntmps165
 go_wp2_with (first
  | (refine wpList_load_g 62 _ rfl _ _ rfl L2.out (by go_simp) ?_)
  | (refine wpList_load_g 62 _ rfl _ _ rfl M2.out (by go_simp) ?_)
  | (refine wpList_load_g 64 _ rfl _ _ rfl L3.out (by go_simp) ?_)
  | (refine wpList_load_g 64 _ rfl _ _ rfl M3.out (by go_simp) ?_)
  | (refine wpList_load_g 64 _ rfl _ _ rfl L4.out (by go_simp) ?_)
  | (refine wpList_load_g 64 _ rfl _ _ rfl M4.out (by go_simp) ?_))
 go_ret
 exact ⟨by first | rfl | (simp; done), HB.out⟩
theorem alike_2 {a b : Lab} {sl sl' : Value} (hk : (a.k == b.k) = true) (hs : (a.s.toList == b.s.toList) = true) (hv : veB a.vk a.vn a.vs b.vk b.vn b.vs = false) (w : World) : Calls Tryz.prog 165 #[.agg (lcs a sl), .agg (lcs b sl')] w fun e w' => e = .returned (.bool false) ∧ Below w.heap.size w w' := by
 obtain ⟨w2, hw2⟩ : ∃ w2, (w.alloc (.cells (lcs a sl) 67)).alloc (.cells (lcs b sl') 67) = w2 := ⟨_, rfl⟩
 have H0 : w2.heap[w.heap.size]? = some (.cells (lcs a sl) 67) := by rw [← hw2]; exact (Below.heap_alloc _ _ _ (by simp)).trans (heap_alloc_new w _)
 have H1 : w2.heap[w.heap.size + 1]? = some (.cells (lcs b sl') 67) := by
  rw [← hw2]
  have := heap_alloc_new (w.alloc (.cells (lcs a sl) 67)) (.cells (lcs b sl') 67)
  simpa using this
 have HB : Hid (Below w.heap.size w w2) := by show Below _ _ _; rw [← hw2]; exact bel_alloc (bel_alloc (Below.refl _ _) _) _
 obtain ⟨c0, c1, l2, l3, l4⟩ := box_all H0
 obtain ⟨d0, d1, m2, m3, m4⟩ := box_all H1
 have L2 : Hid _ := l2
 have L3 : Hid _ := l3
 have L4 : Hid _ := l4
 have M2 : Hid _ := m2
 have M3 : Hid _ := m3
 have M4 : Hid _ := m4
 have E2 := fun u => run_eql_val u a.vk a.vn a.vs b.vk b.vn b.vs
 have E3 := fun u => run_eql_refB u a.b1 a.h1 a.r1 a.c1 a.fr1 a.fc1 b.b1 b.h1 b.r1 b.c1 b.fr1 b.fc1
 have E4 := fun u => run_eql_refB u a.b2 a.h2 a.r2 a.c2 a.fr2 a.fc2 b.b2 b.h2 b.r2 b.c2 b.fr2 b.fc2
 rw [hv] at E2
 have G2 := guard23
 have G3 := guard25
 clear H0 H1 l2 l3 l4 m2 m3 m4
 generalize lcs a sl = bx at *
 generalize lcs b sl' = bz at *
 obtain ⟨k, s, vk, vn, vs, b1, x1, r1, c1_, f1, g1, b2, x2, r2, c2, f2, g2⟩ := a
 obtain ⟨k', s', vk', vn', vs', b1', x1', r1', c1', f1', g1', b2', x2', r2', c2', f2', g2'⟩ := b
 dsimp only at *
 go_enter Tryz.func165, Tryz.ntmps165
 go_wp2_with (first
  | (refine wpList_load_g 62 _ rfl _ _ rfl L2.out (by go_simp) ?_)
  | (refine wpList_load_g 62 _ rfl _ _ rfl M2.out (by go_simp) ?_)
  | (refine wpList_load_g 64 _ rfl _ _ rfl L3.out (by go_simp) ?_)
  | (refine wpList_load_g 64 _ rfl _ _ rfl M3.out (by go_simp) ?_)
  | (refine wpList_load_g 64 _ rfl _ _ rfl L4.out (by go_simp) ?_)
  | (refine wpList_load_g 64 _ rfl _ _ rfl M4.out (by go_simp) ?_))
 go_ret
 exact ⟨by first | rfl | (simp; done), HB.out⟩
theorem alike_3 {a b : Lab} {sl sl' : Value} (hk : (a.k == b.k) = true) (hs : (a.s.toList == b.s.toList) = true) (hv : veB a.vk a.vn a.vs b.vk b.vn b.vs = true) (hr : reB a.b1 a.h1 a.r1 a.c1 a.fr1 a.fc1 b.b1 b.h1 b.r1 b.c1 b.fr1 b.fc1 = false) (w : World) : Calls Tryz.prog 165 #[.agg (lcs a sl), .agg (lcs b sl')] w fun e w' => e = .returned (.bool false) ∧ Below w.heap.size w w' := by
 obtain ⟨w2, hw2⟩ : ∃ w2, (w.alloc (.cells (lcs a sl) 67)).alloc (.cells (lcs b sl') 67) = w2 := ⟨_, rfl⟩
 have H0 : w2.heap[w.heap.size]? = some (.cells (lcs a sl) 67) := by rw [← hw2]; exact (Below.heap_alloc _ _ _ (by simp)).trans (heap_alloc_new w _)
 have H1 : w2.heap[w.heap.size + 1]? = some (.cells (lcs b sl') 67) := by
  rw [← hw2]
  have := heap_alloc_new (w.alloc (.cells (lcs a sl) 67)) (.cells (lcs b sl') 67)
  simpa using this
 have HB : Hid (Below w.heap.size w w2) := by show Below _ _ _; rw [← hw2]; exact bel_alloc (bel_alloc (Below.refl _ _) _) _
 obtain ⟨c0, c1, l2, l3, l4⟩ := box_all H0
 obtain ⟨d0, d1, m2, m3, m4⟩ := box_all H1
 have L2 : Hid _ := l2
 have L3 : Hid _ := l3
 have L4 : Hid _ := l4
 have M2 : Hid _ := m2
 have M3 : Hid _ := m3
 have M4 : Hid _ := m4
 have E2 := fun u => run_eql_val u a.vk a.vn a.vs b.vk b.vn b.vs
 have E3 := fun u => run_eql_refB u a.b1 a.h1 a.r1 a.c1 a.fr1 a.fc1 b.b1 b.h1 b.r1 b.c1 b.fr1 b.fc1
 have E4 := fun u => run_eql_refB u a.b2 a.h2 a.r2 a.c2 a.fr2 a.fc2 b.b2 b.h2 b.r2 b.c2 b.fr2 b.fc2
 rw [hv] at E2
 rw [hr] at E3
 have G2 := guard23
 have G3 := guard25
 clear H0 H1 l2 l3 l4 m2 m3 m4
 generalize lcs a sl = bx at *
 generalize lcs b sl' = bz at *
 obtain ⟨k, s, vk, vn, vs, b1, x1, r1, c1_, f1, g1, b2, x2, r2, c2, f2, g2⟩ := a
 obtain ⟨k', s', vk', vn', vs', b1', x1', r1', c1', f1', g1', b2', x2', r2', c2', f2', g2'⟩ := b
 dsimp only at *
 go_enter Tryz.func165, Tryz.ntmps165
 go_wp2_with (first
  | (refine wpList_load_g 62 _ rfl _ _ rfl L2.out (by go_simp) ?_)
  | (refine wpList_load_g 62 _ rfl _ _ rfl M2.out (by go_simp) ?_)
  | (refine wpList_load_g 64 _ rfl _ _ rfl L3.out (by go_simp) ?_)
  | (refine wpList_load_g 64 _ rfl _ _ rfl M3.out (by go_simp) ?_)
  | (refine wpList_load_g 64 _ rfl _ _ rfl L4.out (by go_simp) ?_)
  | (refine wpList_load_g 64 _ rfl _ _ rfl M4.out (by go_simp) ?_))
 go_ret
 exact ⟨by first | rfl | (simp; done), HB.out⟩
theorem alike_4 {a b : Lab} {sl sl' : Value} (hk : (a.k == b.k) = true) (hs : (a.s.toList == b.s.toList) = true) (hv : veB a.vk a.vn a.vs b.vk b.vn b.vs = true) (hr : reB a.b1 a.h1 a.r1 a.c1 a.fr1 a.fc1 b.b1 b.h1 b.r1 b.c1 b.fr1 b.fc1 = true) (ht : reB a.b2 a.h2 a.r2 a.c2 a.fr2 a.fc2 b.b2 b.h2 b.r2 b.c2 b.fr2 b.fc2 = false) (w : World) : Calls Tryz.prog 165 #[.agg (lcs a sl), .agg (lcs b sl')] w fun e w' => e = .returned (.bool false) ∧ Below w.heap.size w w' := by
 obtain ⟨w2, hw2⟩ : ∃ w2, (w.alloc (.cells (lcs a sl) 67)).alloc (.cells (lcs b sl') 67) = w2 := ⟨_, rfl⟩
 have H0 : w2.heap[w.heap.size]? = some (.cells (lcs a sl) 67) := by rw [← hw2]; exact (Below.heap_alloc _ _ _ (by simp)).trans (heap_alloc_new w _)
 have H1 : w2.heap[w.heap.size + 1]? = some (.cells (lcs b sl') 67) := by
  rw [← hw2]
  have := heap_alloc_new (w.alloc (.cells (lcs a sl) 67)) (.cells (lcs b sl') 67)
  simpa using this
 have HB : Hid (Below w.heap.size w w2) := by show Below _ _ _; rw [← hw2]; exact bel_alloc (bel_alloc (Below.refl _ _) _) _
 obtain ⟨c0, c1, l2, l3, l4⟩ := box_all H0
 obtain ⟨d0, d1, m2, m3, m4⟩ := box_all H1
 have L2 : Hid _ := l2
 have L3 : Hid _ := l3
 have L4 : Hid _ := l4
 have M2 : Hid _ := m2
 have M3 : Hid _ := m3
 have M4 : Hid _ := m4
 have E2 := fun u => run_eql_val u a.vk a.vn a.vs b.vk b.vn b.vs
 have E3 := fun u => run_eql_refB u a.b1 a.h1 a.r1 a.c1 a.fr1 a.fc1 b.b1 b.h1 b.r1 b.c1 b.fr1 b.fc1
 have E4 := fun u => run_eql_refB u a.b2 a.h2 a.r2 a.c2 a.fr2 a.fc2 b.b2 b.h2 b.r2 b.c2 b.fr2 b.fc2
 rw [hv] at E2
 rw [hr] at E3
 rw [ht] at E4
 have G2 := guard23
 have G3 := guard25
 clear H0 H1 l2 l3 l4 m2 m3 m4
 generalize lcs a sl = bx at *
 generalize lcs b sl' = bz at *
 obtain ⟨k, s, vk, vn, vs, b1, x1, r1, c1_, f1, g1, b2, x2, r2, c2, f2, g2⟩ := a
 obtain ⟨k', s', vk', vn', vs', b1', x1', r1', c1', f1', g1', b2', x2', r2', c2', f2', g2'⟩ := b
 dsimp only at *
 go_enter Tryz.func165, Tryz.ntmps165
 go_wp2_with (first
  | (refine wpList_load_g 62 _ rfl _ _ rfl L2.out (by go_simp) ?_)
  | (refine wpList_load_g 62 _ rfl _ _ rfl M2.out (by go_simp) ?_)
  | (refine wpList_load_g 64 _ rfl _ _ rfl L3.out (by go_simp) ?_)
  | (refine wpList_load_g 64 _ rfl _ _ rfl M3.out (by go_simp) ?_)
  | (refine wpList_load_g 64 _ rfl _ _ rfl L4.out (by go_simp) ?_)
  | (refine wpList_load_g 64 _ rfl _ _ rfl M4.out (by go_simp) ?_))
 go_ret
 exact ⟨by first | rfl | (simp; done), HB.out⟩
theorem alike_5 {a b : Lab} {sl sl' : Value} (hk : (a.k == b.k) = true) (hs : (a.s.toList == b.s.toList) = true) (hv : veB a.vk a.vn a.vs b.vk b.vn b.vs = true) (hr : reB a.b1 a.h1 a.r1 a.c1 a.fr1 a.fc1 b.b1 b.h1 b.r1 b.c1 b.fr1 b.fc1 = true) (ht : reB a.b2 a.h2 a.r2 a.c2 a.fr2 a.fc2 b.b2 b.h2 b.r2 b.c2 b.fr2 b.fc2 = true) (w : World) : Calls Tryz.prog 165 #[.agg (lcs a sl), .agg (lcs b sl')] w fun e w' => e = .returned (.bool true) ∧ Below w.heap.size w w' := by
 obtain ⟨w2, hw2⟩ : ∃ w2, (w.alloc (.cells (lcs a sl) 67)).alloc (.cells (lcs b sl') 67) = w2 := ⟨_, rfl⟩
 have H0 : w2.heap[w.heap.size]? = some (.cells (lcs a sl) 67) := by rw [← hw2]; exact (Below.heap_alloc _ _ _ (by simp)).trans (heap_alloc_new w _)
 have H1 : w2.heap[w.heap.size + 1]? = some (.cells (lcs b sl') 67) := by
  rw [← hw2]
  have := heap_alloc_new (w.alloc (.cells (lcs a sl) 67)) (.cells (lcs b sl') 67)
  simpa using this
 have HB : Hid (Below w.heap.size w w2) := by show Below _ _ _; rw [← hw2]; exact bel_alloc (bel_alloc (Below.refl _ _) _) _
 obtain ⟨c0, c1, l2, l3, l4⟩ := box_all H0
 obtain ⟨d0, d1, m2, m3, m4⟩ := box_all H1
 have L2 : Hid _ := l2
 have L3 : Hid _ := l3
 have L4 : Hid _ := l4
 have M2 : Hid _ := m2
 have M3 : Hid _ := m3
 have M4 : Hid _ := m4
 have E2 := fun u => run_eql_val u a.vk a.vn a.vs b.vk b.vn b.vs
 have E3 := fun u => run_eql_refB u a.b1 a.h1 a.r1 a.c1 a.fr1 a.fc1 b.b1 b.h1 b.r1 b.c1 b.fr1 b.fc1
 have E4 := fun u => run_eql_refB u a.b2 a.h2 a.r2 a.c2 a.fr2 a.fc2 b.b2 b.h2 b.r2 b.c2 b.fr2 b.fc2
 rw [hv] at E2
 rw [hr] at E3
 rw [ht] at E4
 have G2 := guard23
 have G3 := guard25
 clear H0 H1 l2 l3 l4 m2 m3 m4
 generalize lcs a sl = bx at *
 generalize lcs b sl' = bz at *
 obtain ⟨k, s, vk, vn, vs, b1, x1, r1, c1_, f1, g1, b2, x2, r2, c2, f2, g2⟩ := a
 obtain ⟨k', s', vk', vn', vs', b1', x1', r1', c1', f1', g1', b2', x2', r2', c2', f2', g2'⟩ := b
 dsimp only at *
 go_enter Tryz.func165, Tryz.ntmps165
 go_wp2_with (first
  | (refine wpList_load_g 62 _ rfl _ _ rfl L2.out (by go_simp) ?_)
  | (refine wpList_load_g 62 _ rfl _ _ rfl M2.out (by go_simp) ?_)
  | (refine wpList_load_g 64 _ rfl _ _ rfl L3.out (by go_simp) ?_)
  | (refine wpList_load_g 64 _ rfl _ _ rfl M3.out (by go_simp) ?_)
  | (refine wpList_load_g 64 _ rfl _ _ rfl L4.out (by go_simp) ?_)
  | (refine wpList_load_g 64 _ rfl _ _ rfl M4.out (by go_simp) ?_))
 go_ret
 exact ⟨by first | rfl | (simp; done), HB.out⟩
theorem alike_any {w : World} {a b : Lab} {sl sl' : Value} : Calls Tryz.prog 165 #[.agg (lcs a sl), .agg (lcs b sl')] w fun e w' => e = .returned (.bool (labB a b)) ∧ Below w.heap.size w w' := by
 unfold labB
 cases hk : (a.k == b.k)
 ·exact alike_0 hk w
 cases hs : (a.s.toList == b.s.toList)
 ·exact alike_1 hk hs w
 cases hv : veB a.vk a.vn a.vs b.vk b.vn b.vs
 ·exact alike_2 hk hs hv w
 cases hr : reB a.b1 a.h1 a.r1 a.c1 a.fr1 a.fc1 b.b1 b.h1 b.r1 b.c1 b.fr1 b.fc1
 ·exact alike_3 hk hs hv hr w
 cases ht : reB a.b2 a.h2 a.r2 a.c2 a.fr2 a.fc2 b.b2 b.h2 b.r2 b.c2 b.fr2 b.fc2
 ·exact alike_4 hk hs hv hr ht w
 ·exact alike_5 hk hs hv hr ht w
def sF : F → F → Bool
 | .nil, .nil => true
 | .node _ _ a l r, .node _ _ a' l' r' => (labB a a' && sF l l') && sF r r'
 | _, _ => false
def sT (s t : T) : Bool := labB s.1 t.1 && sF s.2 t.2
theorem sF_iff : ∀ f g : F, sF f g = true ↔ same f g := by
 intro f
 induction f with
 | nil => intro g; cases g <;> simp [sF, same]
 | node b o a l r ihl ihr =>
  intro g
  cases g with
  | nil => simp [sF, same]
  | node b' o' a' l' r' =>
   simp only [sF, same, Bool.and_eq_true, ihl l', ihr r']
   constructor
   ·rintro ⟨⟨h1, h2⟩, h3⟩; exact ⟨labB_eq h1, h2, h3⟩
   ·rintro ⟨h1, h2, h3⟩; exact ⟨⟨by rw [h1]; exact labB_refl _, h2⟩, h3⟩
theorem sT_iff (s t : T) : sT s t = true ↔ sameT s t := by
 unfold sT sameT
 rw [Bool.and_eq_true, sF_iff]
 constructor
 ·rintro ⟨h1, h2⟩; exact ⟨labB_eq h1, h2⟩
 ·rintro ⟨h1, h2⟩; exact ⟨by rw [h1]; exact labB_refl _, h2⟩
theorem sF_kids (f g : F) : sF f g = true ↔ ((kids f).length = (kids g).length ∧ ∀ (i : Nat) (s t : T), (kids f)[i]? = some s → (kids g)[i]? = some t → sT s t = true) := by
 rw [sF_iff, same_kids]
 constructor
 ·rintro ⟨h1, h2⟩
  refine ⟨h1, fun i s t hs ht => ?_⟩
  obtain ⟨l1, e1⟩ := List.getElem?_eq_some_iff.1 hs
  obtain ⟨l2, e2⟩ := List.getElem?_eq_some_iff.1 ht
  rw [sT_iff, ← e1, ← e2]
  exact h2 i l1 l2
 ·rintro ⟨h1, h2⟩
  refine ⟨h1, fun i l1 l2 => ?_⟩
  rw [← sT_iff]
  exact h2 i _ _ (List.getElem?_eq_getElem l1) (List.getElem?_eq_getElem l2)
theorem kids_le (t : T) : (kids t.2).length < zT t := by
 have : (kids t.2).length ≤ size t.2 := by
  rw [← pre_len, pre_kids]
  have : ∀ l : List T, l.length ≤ (l.flatMap preT).length := by
   intro l
   induction l with
   | nil => exact Nat.zero_le _
   | cons a l ih => rw [List.flatMap_cons, List.length_append, List.length_cons, preT, List.length_cons]; omega
  exact this _
 unfold zT; omega
theorem nbox_at {w : World} {es : Array Value} {t : T} (h : NT w es t) : True ∧ ∀ {u : World} {g : Nat}, u.heap[g]? = some (.cells es 67) → (Instr.loadAt 67 (.pointer (some ⟨g, 0, none⟩))).run Tryz.prog u = .ok (.agg es) u := by
 obtain ⟨p, n, c, rfl, hs⟩ := h
 exact ⟨trivial, fun hu => lod (z := (0, 0)) hu rfl Tryz.underlying67 (by rw [lcs_size]; exact inf67)⟩
end Go.Proofs.YtnibldnfbikipaaGreatDoor
namespace Go.Proofs.YtnibldnfbikipaaGreatDoor
open Go.RowKit
theorem in_mk {R C : Nat} (h1 : 1 ≤ R) (h2 : R ≤ 64) (h3 : 1 ≤ C) (h4 : C ≤ 26) : inB R C = true := by
 unfold inB
 simp only [Bool.and_eq_true, decide_eq_true_eq]
 omega
theorem ret_str {a b : ByteArray} (h : a = b) : (Ending.returned (.string a)) = .returned (.string b) := by rw [h]
theorem cut_one (a : ByteArray) (x : UInt8) : ((⟨#[x]⟩ : ByteArray) ++ a).extract 0 1 = ⟨#[x]⟩ ∧ ((⟨#[x]⟩ : ByteArray) ++ a).extract 1 ((⟨#[x]⟩ : ByteArray) ++ a).size = a := by
 constructor
 ·apply ByteArray.ext
  simp
 ·apply ByteArray.ext
  simp
  right
  show a.size ≤ 1 + a.size - 1
  omega
theorem rcell_core {b s A X D R : ByteArray} {r c : Int} {fr fc : Bool} {w : World} (CT : RC (w.alloc (refO b s r c fr fc)) 97 #[.int .i64 r, .int .i64 c] (.string A)) (hA : 1 ≤ A.size ∧ A.size ≤ 5) (h0 : A.extract 0 1 = X) (h1 : A.extract 1 A.size = D) (hX : X.size ≤ 1) (hD : D.size ≤ 4)
  (hR : R = (if fc = true then (⟨#[36]⟩ : ByteArray) ++ X else X) ++ (if fr = true then ⟨#[36]⟩ else ⟨#[]⟩) ++ D) :
  Calls Tryz.prog 184 #[refV b s r c fr fc] w fun e w' => e = .returned (.string R) ∧ Below w.heap.size w w' := by
 have HB0 : Hid (Below (w.alloc (refO b s r c fr fc)).heap.size (w.alloc (refO b s r c fr fc)) (w.alloc (refO b s r c fr fc))) := Below.refl _ _
 have y1 : (⟨#[36]⟩ : ByteArray).size ≤ 1 := Nat.le_refl 1
 have HR : Hid (R = (if fc = true then (⟨#[36]⟩ : ByteArray) ++ X else X) ++ (if fr = true then ⟨#[36]⟩ else ⟨#[]⟩) ++ D) := hR
 clear hR
 cases fr <;> cases fc
 all_goals
  go_enter Tryz.func184, Tryz.ntmps184
  go_wp2_with (go_at_call 97; refine (CT _ HB0.out).mono ?_; rintro e w1 ⟨rfl, hb⟩; have HB1 : Hid (Below (w.alloc (refO b s r c _ _)).heap.size (w.alloc (refO b s r c _ _)) w1) := hb; clear hb; obtain ⟨c0, c1, c2, c3, c4, c5⟩ := r_cells (new1 HB1.out))
  go_ret
  refine ⟨ret_str ?_, bel1 HB1.out⟩
  rw [HR.out]
  apply ByteArray.ext
  simp
theorem rcell_any (b s : ByteArray) (R C : Nat) (fr fc : Bool) (hi : inB R C = true) (hR1 : 1 ≤ R) (hR2 : R ≤ 64) (hC1 : 1 ≤ C) (hC2 : C ≤ 26) (w : World) :
  Calls Tryz.prog 184 #[refV b s R C fr fc] w fun e w' => e = .returned (.string (cellB R C fr fc)) ∧ Below w.heap.size w w' := by
 have CT : RC (w.alloc (refO b s R C fr fc)) 97 #[.int .i64 R, .int .i64 C] (.string (cellB R C false false)) := RC.of fun u hu => rct_yes R C hi hR1 hR2 hC1 hC2 u
 rw [← ctB_eq] at CT
 obtain ⟨e1, e2⟩ := cut_one ⟨(Lib.decDigits R).toArray⟩ (Ad.colC C)
 have hz := cellB_size R C false false hR1 hR2
 rw [← ctB_eq] at hz
 refine rcell_core CT ⟨by rw [ByteArray.size_append]; exact Nat.le_add_right 1 _, hz⟩ e1 e2 (Nat.le_refl 1) (Nat.le_trans (dec_short R hR2) (by decide)) ?_
 rw [← cellB_eq]
 unfold dolB
 apply ByteArray.ext
 cases fr <;> cases fc <;> simp
theorem rprint_no {b s : ByteArray} {r c : Int} {fr fc : Bool} {w : World} (GD : RC (w.alloc (refO b s r c fr fc)) 173 #[refV b s r c fr fc] (.bool false)) :
  Calls Tryz.prog 138 #[refV b s r c fr fc] w fun e w' => e = .returned (.string ⟨#[]⟩) ∧ Below w.heap.size w w' := by
 have HB0 : Hid (Below (w.alloc (refO b s r c fr fc)).heap.size (w.alloc (refO b s r c fr fc)) (w.alloc (refO b s r c fr fc))) := Below.refl _ _
 go_enter Tryz.func138, Tryz.ntmps138
 go_wp2_with (go_at_call 173; refine (GD _ HB0.out).mono ?_; rintro e w1 ⟨rfl, hb⟩; have HB1 : Hid (Below (w.alloc (refO b s r c fr fc)).heap.size (w.alloc (refO b s r c fr fc)) w1) := hb; clear hb)
 go_ret
 exact ⟨rfl, bel1 HB1.out⟩
theorem rprint_core {b s X R : ByteArray} {r c : Int} {fr fc : Bool} {w : World} (GD : RC (w.alloc (refO b s r c fr fc)) 173 #[refV b s r c fr fc] (.bool true)) (CE : RC (w.alloc (refO b s r c fr fc)) 184 #[refV b s r c fr fc] (.string X)) (hX : X.size ≤ 5)
  (hw : (s.toList = [] ∧ b.toList = [] ∧ R = X) ∨ ((s.toList == []) = false ∧ s.size ≤ 16 ∧ b.toList = [] ∧ R = s ++ ⟨#[33]⟩ ++ X) ∨ ((s.toList == []) = false ∧ s.size ≤ 16 ∧ (b.toList == []) = false ∧ b.size ≤ 16 ∧ R = (⟨#[91]⟩ : ByteArray) ++ b ++ ⟨#[93]⟩ ++ (s ++ ⟨#[33]⟩ ++ X))) :
  Calls Tryz.prog 138 #[refV b s r c fr fc] w fun e w' => e = .returned (.string R) ∧ Below w.heap.size w w' := by
 have HB0 : Hid (Below (w.alloc (refO b s r c fr fc)).heap.size (w.alloc (refO b s r c fr fc)) (w.alloc (refO b s r c fr fc))) := Below.refl _ _
 have y1 : (⟨#[33]⟩ : ByteArray).size ≤ 1 := Nat.le_refl 1
 have y2 : (⟨#[91]⟩ : ByteArray).size ≤ 1 := Nat.le_refl 1
 have y3 : (⟨#[93]⟩ : ByteArray).size ≤ 1 := Nat.le_refl 1
 rcases hw with ⟨h1, h2, rfl⟩ | ⟨h1, h3, h2, rfl⟩ | ⟨h1, h3, h2, h4, rfl⟩
 all_goals
  go_enter Tryz.func138, Tryz.ntmps138
  go_wp2_with (first | (go_at_call 173; refine (GD _ HB0.out).mono ?_; rintro e w1 ⟨rfl, hb⟩; have HB1 : Hid (Below (w.alloc (refO b s r c fr fc)).heap.size (w.alloc (refO b s r c fr fc)) w1) := hb; clear hb; obtain ⟨c0, c1, c2, c3, c4, c5⟩ := r_cells (new1 HB1.out)) | (go_at_call 184; refine (CE _ HB1.out).mono ?_; rintro e w2 ⟨rfl, hb⟩; have HB2 : Hid (Below (w.alloc (refO b s r c fr fc)).heap.size (w.alloc (refO b s r c fr fc)) w2) := hb; clear hb; obtain ⟨d0, d1, d2, d3, d4, d5⟩ := r_cells (new1 HB2.out)))
  go_ret
  exact ⟨rfl, bel1 HB2.out⟩
theorem raprint_any (b s : ByteArray) (r c : Int) (fr fc : Bool) (hb : b.size ≤ 9223372036854775807) (hs : s.size ≤ 9223372036854775807) (w : World) :
  Calls Tryz.prog 138 #[refV b s r c fr fc] w fun e w' => e = .returned (.string (prB b s r c fr fc)) ∧ Below w.heap.size w w' := by
 have GD : RC (w.alloc (refO b s r c fr fc)) 173 #[refV b s r c fr fc] _ := RC.of fun u hu => ragood_any b s r c fr fc hb hs u
 unfold prB
 cases hg : goodB b s r c
 ·rw [hg] at GD
  exact rprint_no GD
 ·rw [hg] at GD
  obtain ⟨R, C, rfl, rfl, q1, q2, q3, q4, hw⟩ := good_yes hg
  have CE : RC (w.alloc (refO b s R C fr fc)) 184 #[refV b s R C fr fc] (.string (cellB R C fr fc)) := RC.of fun u hu => rcell_any b s R C fr fc (in_mk q1 q2 q3 q4) q1 q2 q3 q4 u
  exact rprint_core GD CE (cellB_size R C fr fc q1 q2) (refT_ways hw)
theorem cellof_any (b s : ByteArray) (r c : Int) (fr fc : Bool) (w : World) :
  Calls Tryz.prog 213 #[refV b s r c fr fc] w fun e w' => e = .returned (refV ⟨#[]⟩ ⟨#[]⟩ r c fr fc) ∧ Below w.heap.size w w' := by
 go_enter Tryz.func213, Tryz.ntmps213
 go_wp2
 refine bodyPost_ret (v := refV ⟨#[]⟩ ⟨#[]⟩ r c fr fc) (by simp [results, Tryz.results213, go_sem]) rfl ?_
 refine ⟨rfl, ?_⟩
 repeat (first | exact Below.refl _ _ | refine Below.drew ?_ | refine bel_alloc ?_ _ | refine Below.setCell ?_ (by simp) _)
def paB (b1 s1 : ByteArray) (r1 c1 : Int) (fr1 fc1 : Bool) (b2 s2 : ByteArray) (r2 c2 : Int) (fr2 fc2 : Bool) : ByteArray :=
 if goodB b1 s1 r1 c1 = true ∧ goodB b2 s2 r2 c2 = true ∧ s2.toList = [] then refT b1 s1 r1.toNat c1.toNat fr1 fc1 ++ ⟨#[58]⟩ ++ cellB r2.toNat c2.toNat fr2 fc2 else ⟨#[]⟩
section
variable {b1 s1 b2 s2 X Y : ByteArray} {r1 c1 r2 c2 : Int} {fr1 fc1 fr2 fc2 : Bool} {w W : World}
theorem area_core (hW : W = (w.alloc (refO b1 s1 r1 c1 fr1 fc1)).alloc (refO b2 s2 r2 c2 fr2 fc2)) (P1 : RC W 180 #[.agg #[.string b1, .string s1, .int .i64 r1, .int .i64 c1, .bool fr1, .bool fc1]] (.string X)) (P2 : RC W 180 #[.agg #[.string b2, .string s2, .int .i64 r2, .int .i64 c2, .bool fr2, .bool fc2]] (.string Y))
  (CO : RC W 213 #[.agg #[.string b2, .string s2, .int .i64 r2, .int .i64 c2, .bool fr2, .bool fc2]] (.agg #[.string ⟨#[]⟩, .string ⟨#[]⟩, .int .i64 r2, .int .i64 c2, .bool fr2, .bool fc2])) (hX : (X.toList == []) = false) (hY : (Y.toList == []) = false) (zX : X.size ≤ 50) (zY : Y.size ≤ 50) {o : Bool}
  (NE : ∀ V, (binOp .neq 64 (.agg #[.string b2, .string s2, .int .i64 r2, .int .i64 c2, .bool fr2, .bool fc2]) (.agg #[.string ⟨#[]⟩, .string ⟨#[]⟩, .int .i64 r2, .int .i64 c2, .bool fr2, .bool fc2])).run Tryz.prog V = .ok (.bool o) V) :
  Calls Tryz.prog 168 #[.agg #[.string b1, .string s1, .int .i64 r1, .int .i64 c1, .bool fr1, .bool fc1], .agg #[.string b2, .string s2, .int .i64 r2, .int .i64 c2, .bool fr2, .bool fc2]] w fun e w' => e = .returned (.string (if o = true then ⟨#[]⟩ else X ++ ⟨#[58]⟩ ++ Y)) ∧ Below w.heap.size w w' := by
 have GU := guard25
 have HC : Hid (∀ u : World, Below W.heap.size W u → (u.cell? ⟨w.heap.size, 0, none⟩ = some (.string b1) ∧ u.cell? ⟨w.heap.size, 1, none⟩ = some (.string s1) ∧ u.cell? ⟨w.heap.size, 2, none⟩ = some (.int .i64 r1) ∧ u.cell? ⟨w.heap.size, 3, none⟩ = some (.int .i64 c1) ∧ u.cell? ⟨w.heap.size, 4, none⟩ = some (.bool fr1) ∧ u.cell? ⟨w.heap.size, 5, none⟩ = some (.bool fc1)) ∧ (u.cell? ⟨w.heap.size + 1, 0, none⟩ = some (.string b2) ∧ u.cell? ⟨w.heap.size + 1, 1, none⟩ = some (.string s2) ∧ u.cell? ⟨w.heap.size + 1, 2, none⟩ = some (.int .i64 r2) ∧ u.cell? ⟨w.heap.size + 1, 3, none⟩ = some (.int .i64 c2) ∧ u.cell? ⟨w.heap.size + 1, 4, none⟩ = some (.bool fr2) ∧ u.cell? ⟨w.heap.size + 1, 5, none⟩ = some (.bool fc2))) := by
  subst hW
  exact fun u hu => ⟨r_cells (new2 hu).1, r_cells (new2 hu).2⟩
 have HB : Hid (Below W.heap.size W W.drew) := (Below.refl _ _).drew
 have HF : Hid (∀ u, Below W.heap.size W u → Below w.heap.size w u) := by
  subst hW
  exact fun u hu => bel2 hu
 have z5 : ¬ 9223372036854775807 < X.size + 1 := by omega
 have z6 : ¬ 9223372036854775807 < X.size + 1 + Y.size := by omega
 have hW2 := hW.symm
 clear hW
 go_enter Tryz.func168, Tryz.ntmps168
 go_wp2_with fail
 try rw [hW2]
 go_region_held_law (fun u => (u.cell? ⟨w.heap.size, 0, none⟩ = some (.string b1) ∧ u.cell? ⟨w.heap.size, 1, none⟩ = some (.string s1) ∧ u.cell? ⟨w.heap.size, 2, none⟩ = some (.int .i64 r1) ∧ u.cell? ⟨w.heap.size, 3, none⟩ = some (.int .i64 c1) ∧ u.cell? ⟨w.heap.size, 4, none⟩ = some (.bool fr1) ∧ u.cell? ⟨w.heap.size, 5, none⟩ = some (.bool fc1)) ∧ (u.cell? ⟨w.heap.size + 1, 0, none⟩ = some (.string b2) ∧ u.cell? ⟨w.heap.size + 1, 1, none⟩ = some (.string s2) ∧ u.cell? ⟨w.heap.size + 1, 2, none⟩ = some (.int .i64 r2) ∧ u.cell? ⟨w.heap.size + 1, 3, none⟩ = some (.int .i64 c2) ∧ u.cell? ⟨w.heap.size + 1, 4, none⟩ = some (.bool fr2) ∧ u.cell? ⟨w.heap.size + 1, 5, none⟩ = some (.bool fc2)))
  (exact HC.out _ HB.out) (first
  | (go_at_call_of 180 b1; refine (P1 _ HB.out).mono ?_; rintro e w7 ⟨rfl, hb⟩; have HB : Hid (Below W.heap.size W w7) := hb; clear hb)
  | (go_at_call_of 180 b2; refine (P2 _ HB.out).mono ?_; rintro e w7 ⟨rfl, hb⟩; have HB : Hid (Below W.heap.size W w7) := hb; clear hb))
 go_wp2_with fail
 have HB : Hid (Below W.heap.size W (World.drew _)) := HB.out.drew
 go_region_held_law (fun u => (u.cell? ⟨w.heap.size, 0, none⟩ = some (.string b1) ∧ u.cell? ⟨w.heap.size, 1, none⟩ = some (.string s1) ∧ u.cell? ⟨w.heap.size, 2, none⟩ = some (.int .i64 r1) ∧ u.cell? ⟨w.heap.size, 3, none⟩ = some (.int .i64 c1) ∧ u.cell? ⟨w.heap.size, 4, none⟩ = some (.bool fr1) ∧ u.cell? ⟨w.heap.size, 5, none⟩ = some (.bool fc1)) ∧ (u.cell? ⟨w.heap.size + 1, 0, none⟩ = some (.string b2) ∧ u.cell? ⟨w.heap.size + 1, 1, none⟩ = some (.string s2) ∧ u.cell? ⟨w.heap.size + 1, 2, none⟩ = some (.int .i64 r2) ∧ u.cell? ⟨w.heap.size + 1, 3, none⟩ = some (.int .i64 c2) ∧ u.cell? ⟨w.heap.size + 1, 4, none⟩ = some (.bool fr2) ∧ u.cell? ⟨w.heap.size + 1, 5, none⟩ = some (.bool fc2)))
  (exact HC.out _ HB.out) (first
  | (go_at_call 213; refine (CO _ HB.out).mono ?_; rintro e w9 ⟨rfl, hb⟩; have HB : Hid (Below W.heap.size W w9) := hb; clear hb))
 cases o
 ·go_wp2
  go_ret
  exact ⟨rfl, HF.out _ HB.out⟩
 ·go_wp2
  go_ret
  exact ⟨rfl, HF.out _ HB.out⟩
end
end Go.Proofs.YtnibldnfbikipaaGreatDoor
