/- FAlike2, FSame, AArea. -/
import Derived.Test.YtljmklbbngpllaaGreatDoorFAlikeNd
set_option linter.unusedVariables false
set_option linter.unusedSimpArgs false
set_option maxHeartbeats 16000000
set_option maxRecDepth 100000
namespace Go.Proofs.YtljmklbbngpllaaGreatDoor
open Go.RowKit Go.Fm
theorem aHw {a b : Lab} {sl sl' : Value} (hk : (a.k == b.k) = false) (w : World) : Calls Tryz.prog 160 #[.agg (lcs a sl), .agg (lcs b sl')] w fun e w' => e = .returned (.bool false) ∧ Below w.heap.size w w' := by
 obtain ⟨w2, hw2⟩ : ∃ w2, (w.alloc (.cells (lcs a sl) 28)).alloc (.cells (lcs b sl') 28) = w2 := ⟨_, rfl⟩
 have H0 : w2.heap[w.heap.size]? = some (.cells (lcs a sl) 28) := by rw [← hw2]; exact (Below.heap_alloc _ _ _ (by simp)).trans (heap_alloc_new w _)
 have H1 : w2.heap[w.heap.size + 1]? = some (.cells (lcs b sl') 28) := by
  rw [← hw2]
  have := heap_alloc_new (w.alloc (.cells (lcs a sl) 28)) (.cells (lcs b sl') 28)
  simpa using this
 have HB : Hid (Below w.heap.size w w2) := by show Below _ _ _; rw [← hw2]; exact aA (aA (Below.refl _ _) _) _
 obtain ⟨c0, c1, l2, l3, l4⟩ := aN H0
 obtain ⟨d0, d1, m2, m3, m4⟩ := aN H1
 have L2 : Hid _ := l2
 have L3 : Hid _ := l3
 have L4 : Hid _ := l4
 have M2 : Hid _ := m2
 have M3 : Hid _ := m3
 have M4 : Hid _ := m4
 have E2 := fun u => dY u a.vk a.vn a.vs b.vk b.vn b.vs
 have E3 := fun u => bI u a.b1 a.h1 a.r1 a.c1 a.fr1 a.fc1 b.b1 b.h1 b.r1 b.c1 b.fr1 b.fc1
 have E4 := fun u => bI u a.b2 a.h2 a.r2 a.c2 a.fr2 a.fc2 b.b2 b.h2 b.r2 b.c2 b.fr2 b.fc2
 have G2 := eG
 have G3 := dH
 clear H0 H1 l2 l3 l4 m2 m3 m4
 generalize lcs a sl = bx at *
 generalize lcs b sl' = bz at *
 obtain ⟨k, s, vk, vn, vs, b1, x1, r1, c1_, f1, g1, b2, x2, r2, c2, f2, g2⟩ := a
 obtain ⟨k', s', vk', vn', vs', b1', x1', r1', c1', f1', g1', b2', x2', r2', c2', f2', g2'⟩ := b
 dsimp only at *
 go_enter Tryz.func160, Tryz.ntmps160
 go_wp2_with (first
  | (refine aF 23 _ rfl _ _ rfl L2.out (by go_simp) ?_)
  | (refine aF 23 _ rfl _ _ rfl M2.out (by go_simp) ?_)
  | (refine aF 25 _ rfl _ _ rfl L3.out (by go_simp) ?_)
  | (refine aF 25 _ rfl _ _ rfl M3.out (by go_simp) ?_)
  | (refine aF 25 _ rfl _ _ rfl L4.out (by go_simp) ?_)
  | (refine aF 25 _ rfl _ _ rfl M4.out (by go_simp) ?_))
 go_ret
 exact ⟨by first | rfl | (simp; done), HB.out⟩
theorem aHx {a b : Lab} {sl sl' : Value} (hk : (a.k == b.k) = true) (hs : (a.s.toList == b.s.toList) = false) (w : World) : Calls Tryz.prog 160 #[.agg (lcs a sl), .agg (lcs b sl')] w fun e w' => e = .returned (.bool false) ∧ Below w.heap.size w w' := by
 obtain ⟨w2, hw2⟩ : ∃ w2, (w.alloc (.cells (lcs a sl) 28)).alloc (.cells (lcs b sl') 28) = w2 := ⟨_, rfl⟩
 have H0 : w2.heap[w.heap.size]? = some (.cells (lcs a sl) 28) := by rw [← hw2]; exact (Below.heap_alloc _ _ _ (by simp)).trans (heap_alloc_new w _)
 have H1 : w2.heap[w.heap.size + 1]? = some (.cells (lcs b sl') 28) := by
  rw [← hw2]
  have := heap_alloc_new (w.alloc (.cells (lcs a sl) 28)) (.cells (lcs b sl') 28)
  simpa using this
 have HB : Hid (Below w.heap.size w w2) := by show Below _ _ _; rw [← hw2]; exact aA (aA (Below.refl _ _) _) _
 obtain ⟨c0, c1, l2, l3, l4⟩ := aN H0
 obtain ⟨d0, d1, m2, m3, m4⟩ := aN H1
 have L2 : Hid _ := l2
 have L3 : Hid _ := l3
 have L4 : Hid _ := l4
 have M2 : Hid _ := m2
 have M3 : Hid _ := m3
 have M4 : Hid _ := m4
 have E2 := fun u => dY u a.vk a.vn a.vs b.vk b.vn b.vs
 have E3 := fun u => bI u a.b1 a.h1 a.r1 a.c1 a.fr1 a.fc1 b.b1 b.h1 b.r1 b.c1 b.fr1 b.fc1
 have E4 := fun u => bI u a.b2 a.h2 a.r2 a.c2 a.fr2 a.fc2 b.b2 b.h2 b.r2 b.c2 b.fr2 b.fc2
 have G2 := eG
 have G3 := dH
 clear H0 H1 l2 l3 l4 m2 m3 m4
 generalize lcs a sl = bx at *
 generalize lcs b sl' = bz at *
 obtain ⟨k, s, vk, vn, vs, b1, x1, r1, c1_, f1, g1, b2, x2, r2, c2, f2, g2⟩ := a
 obtain ⟨k', s', vk', vn', vs', b1', x1', r1', c1', f1', g1', b2', x2', r2', c2', f2', g2'⟩ := b
 dsimp only at *
 go_enter Tryz.func160, Tryz.ntmps160
 go_wp2_with (first
  | (refine aF 23 _ rfl _ _ rfl L2.out (by go_simp) ?_)
  | (refine aF 23 _ rfl _ _ rfl M2.out (by go_simp) ?_)
  | (refine aF 25 _ rfl _ _ rfl L3.out (by go_simp) ?_)
  | (refine aF 25 _ rfl _ _ rfl M3.out (by go_simp) ?_)
  | (refine aF 25 _ rfl _ _ rfl L4.out (by go_simp) ?_)
  | (refine aF 25 _ rfl _ _ rfl M4.out (by go_simp) ?_))
 go_ret
 exact ⟨by first | rfl | (simp; done), HB.out⟩
theorem aHy {a b : Lab} {sl sl' : Value} (hk : (a.k == b.k) = true) (hs : (a.s.toList == b.s.toList) = true) (hv : veB a.vk a.vn a.vs b.vk b.vn b.vs = false) (w : World) : Calls Tryz.prog 160 #[.agg (lcs a sl), .agg (lcs b sl')] w fun e w' => e = .returned (.bool false) ∧ Below w.heap.size w w' := by
 obtain ⟨w2, hw2⟩ : ∃ w2, (w.alloc (.cells (lcs a sl) 28)).alloc (.cells (lcs b sl') 28) = w2 := ⟨_, rfl⟩
 have H0 : w2.heap[w.heap.size]? = some (.cells (lcs a sl) 28) := by rw [← hw2]; exact (Below.heap_alloc _ _ _ (by simp)).trans (heap_alloc_new w _)
 have H1 : w2.heap[w.heap.size + 1]? = some (.cells (lcs b sl') 28) := by
  rw [← hw2]
  have := heap_alloc_new (w.alloc (.cells (lcs a sl) 28)) (.cells (lcs b sl') 28)
  simpa using this
 have HB : Hid (Below w.heap.size w w2) := by show Below _ _ _; rw [← hw2]; exact aA (aA (Below.refl _ _) _) _
 obtain ⟨c0, c1, l2, l3, l4⟩ := aN H0
 obtain ⟨d0, d1, m2, m3, m4⟩ := aN H1
 have L2 : Hid _ := l2
 have L3 : Hid _ := l3
 have L4 : Hid _ := l4
 have M2 : Hid _ := m2
 have M3 : Hid _ := m3
 have M4 : Hid _ := m4
 have E2 := fun u => dY u a.vk a.vn a.vs b.vk b.vn b.vs
 have E3 := fun u => bI u a.b1 a.h1 a.r1 a.c1 a.fr1 a.fc1 b.b1 b.h1 b.r1 b.c1 b.fr1 b.fc1
 have E4 := fun u => bI u a.b2 a.h2 a.r2 a.c2 a.fr2 a.fc2 b.b2 b.h2 b.r2 b.c2 b.fr2 b.fc2
 rw [hv] at E2
 have G2 := eG
 have G3 := dH
 clear H0 H1 l2 l3 l4 m2 m3 m4
 generalize lcs a sl = bx at *
 generalize lcs b sl' = bz at *
 obtain ⟨k, s, vk, vn, vs, b1, x1, r1, c1_, f1, g1, b2, x2, r2, c2, f2, g2⟩ := a
 obtain ⟨k', s', vk', vn', vs', b1', x1', r1', c1', f1', g1', b2', x2', r2', c2', f2', g2'⟩ := b
 dsimp only at *
 go_enter Tryz.func160, Tryz.ntmps160
 go_wp2_with (first
  | (refine aF 23 _ rfl _ _ rfl L2.out (by go_simp) ?_)
  | (refine aF 23 _ rfl _ _ rfl M2.out (by go_simp) ?_)
  | (refine aF 25 _ rfl _ _ rfl L3.out (by go_simp) ?_)
  | (refine aF 25 _ rfl _ _ rfl M3.out (by go_simp) ?_)
  | (refine aF 25 _ rfl _ _ rfl L4.out (by go_simp) ?_)
  | (refine aF 25 _ rfl _ _ rfl M4.out (by go_simp) ?_))
 go_ret
 exact ⟨by first | rfl | (simp; done), HB.out⟩
theorem aHz {a b : Lab} {sl sl' : Value} (hk : (a.k == b.k) = true) (hs : (a.s.toList == b.s.toList) = true) (hv : veB a.vk a.vn a.vs b.vk b.vn b.vs = true) (hr : reB a.b1 a.h1 a.r1 a.c1 a.fr1 a.fc1 b.b1 b.h1 b.r1 b.c1 b.fr1 b.fc1 = false) (w : World) : Calls Tryz.prog 160 #[.agg (lcs a sl), .agg (lcs b sl')] w fun e w' => e = .returned (.bool false) ∧ Below w.heap.size w w' := by
 obtain ⟨w2, hw2⟩ : ∃ w2, (w.alloc (.cells (lcs a sl) 28)).alloc (.cells (lcs b sl') 28) = w2 := ⟨_, rfl⟩
 have H0 : w2.heap[w.heap.size]? = some (.cells (lcs a sl) 28) := by rw [← hw2]; exact (Below.heap_alloc _ _ _ (by simp)).trans (heap_alloc_new w _)
 have H1 : w2.heap[w.heap.size + 1]? = some (.cells (lcs b sl') 28) := by
  rw [← hw2]
  have := heap_alloc_new (w.alloc (.cells (lcs a sl) 28)) (.cells (lcs b sl') 28)
  simpa using this
 have HB : Hid (Below w.heap.size w w2) := by show Below _ _ _; rw [← hw2]; exact aA (aA (Below.refl _ _) _) _
 obtain ⟨c0, c1, l2, l3, l4⟩ := aN H0
 obtain ⟨d0, d1, m2, m3, m4⟩ := aN H1
 have L2 : Hid _ := l2
 have L3 : Hid _ := l3
 have L4 : Hid _ := l4
 have M2 : Hid _ := m2
 have M3 : Hid _ := m3
 have M4 : Hid _ := m4
 have E2 := fun u => dY u a.vk a.vn a.vs b.vk b.vn b.vs
 have E3 := fun u => bI u a.b1 a.h1 a.r1 a.c1 a.fr1 a.fc1 b.b1 b.h1 b.r1 b.c1 b.fr1 b.fc1
 have E4 := fun u => bI u a.b2 a.h2 a.r2 a.c2 a.fr2 a.fc2 b.b2 b.h2 b.r2 b.c2 b.fr2 b.fc2
 rw [hv] at E2
 rw [hr] at E3
 have G2 := eG
 have G3 := dH
 clear H0 H1 l2 l3 l4 m2 m3 m4
 generalize lcs a sl = bx at *
 generalize lcs b sl' = bz at *
 obtain ⟨k, s, vk, vn, vs, b1, x1, r1, c1_, f1, g1, b2, x2, r2, c2, f2, g2⟩ := a
 obtain ⟨k', s', vk', vn', vs', b1', x1', r1', c1', f1', g1', b2', x2', r2', c2', f2', g2'⟩ := b
 dsimp only at *
 go_enter Tryz.func160, Tryz.ntmps160
 go_wp2_with (first
  | (refine aF 23 _ rfl _ _ rfl L2.out (by go_simp) ?_)
  | (refine aF 23 _ rfl _ _ rfl M2.out (by go_simp) ?_)
  | (refine aF 25 _ rfl _ _ rfl L3.out (by go_simp) ?_)
  | (refine aF 25 _ rfl _ _ rfl M3.out (by go_simp) ?_)
  | (refine aF 25 _ rfl _ _ rfl L4.out (by go_simp) ?_)
  | (refine aF 25 _ rfl _ _ rfl M4.out (by go_simp) ?_))
 go_ret
 exact ⟨by first | rfl | (simp; done), HB.out⟩
theorem aHA {a b : Lab} {sl sl' : Value} (hk : (a.k == b.k) = true) (hs : (a.s.toList == b.s.toList) = true) (hv : veB a.vk a.vn a.vs b.vk b.vn b.vs = true) (hr : reB a.b1 a.h1 a.r1 a.c1 a.fr1 a.fc1 b.b1 b.h1 b.r1 b.c1 b.fr1 b.fc1 = true) (ht : reB a.b2 a.h2 a.r2 a.c2 a.fr2 a.fc2 b.b2 b.h2 b.r2 b.c2 b.fr2 b.fc2 = false) (w : World) : Calls Tryz.prog 160 #[.agg (lcs a sl), .agg (lcs b sl')] w fun e w' => e = .returned (.bool false) ∧ Below w.heap.size w w' := by
 obtain ⟨w2, hw2⟩ : ∃ w2, (w.alloc (.cells (lcs a sl) 28)).alloc (.cells (lcs b sl') 28) = w2 := ⟨_, rfl⟩
 have H0 : w2.heap[w.heap.size]? = some (.cells (lcs a sl) 28) := by rw [← hw2]; exact (Below.heap_alloc _ _ _ (by simp)).trans (heap_alloc_new w _)
 have H1 : w2.heap[w.heap.size + 1]? = some (.cells (lcs b sl') 28) := by
  rw [← hw2]
  have := heap_alloc_new (w.alloc (.cells (lcs a sl) 28)) (.cells (lcs b sl') 28)
  simpa using this
 have HB : Hid (Below w.heap.size w w2) := by show Below _ _ _; rw [← hw2]; exact aA (aA (Below.refl _ _) _) _
 obtain ⟨c0, c1, l2, l3, l4⟩ := aN H0
 obtain ⟨d0, d1, m2, m3, m4⟩ := aN H1
 have L2 : Hid _ := l2
 have L3 : Hid _ := l3
 have L4 : Hid _ := l4
 have M2 : Hid _ := m2
 have M3 : Hid _ := m3
 have M4 : Hid _ := m4
 have E2 := fun u => dY u a.vk a.vn a.vs b.vk b.vn b.vs
 have E3 := fun u => bI u a.b1 a.h1 a.r1 a.c1 a.fr1 a.fc1 b.b1 b.h1 b.r1 b.c1 b.fr1 b.fc1
 have E4 := fun u => bI u a.b2 a.h2 a.r2 a.c2 a.fr2 a.fc2 b.b2 b.h2 b.r2 b.c2 b.fr2 b.fc2
 rw [hv] at E2
 rw [hr] at E3
 rw [ht] at E4
 have G2 := eG
 have G3 := dH
 clear H0 H1 l2 l3 l4 m2 m3 m4
 generalize lcs a sl = bx at *
 generalize lcs b sl' = bz at *
 obtain ⟨k, s, vk, vn, vs, b1, x1, r1, c1_, f1, g1, b2, x2, r2, c2, f2, g2⟩ := a
 obtain ⟨k', s', vk', vn', vs', b1', x1', r1', c1', f1', g1', b2', x2', r2', c2', f2', g2'⟩ := b
 dsimp only at *
 go_enter Tryz.func160, Tryz.ntmps160
 go_wp2_with (first
  | (refine aF 23 _ rfl _ _ rfl L2.out (by go_simp) ?_)
  | (refine aF 23 _ rfl _ _ rfl M2.out (by go_simp) ?_)
  | (refine aF 25 _ rfl _ _ rfl L3.out (by go_simp) ?_)
  | (refine aF 25 _ rfl _ _ rfl M3.out (by go_simp) ?_)
  | (refine aF 25 _ rfl _ _ rfl L4.out (by go_simp) ?_)
  | (refine aF 25 _ rfl _ _ rfl M4.out (by go_simp) ?_))
 go_ret
 exact ⟨by first | rfl | (simp; done), HB.out⟩
theorem aHB {a b : Lab} {sl sl' : Value} (hk : (a.k == b.k) = true) (hs : (a.s.toList == b.s.toList) = true) (hv : veB a.vk a.vn a.vs b.vk b.vn b.vs = true) (hr : reB a.b1 a.h1 a.r1 a.c1 a.fr1 a.fc1 b.b1 b.h1 b.r1 b.c1 b.fr1 b.fc1 = true) (ht : reB a.b2 a.h2 a.r2 a.c2 a.fr2 a.fc2 b.b2 b.h2 b.r2 b.c2 b.fr2 b.fc2 = true) (w : World) : Calls Tryz.prog 160 #[.agg (lcs a sl), .agg (lcs b sl')] w fun e w' => e = .returned (.bool true) ∧ Below w.heap.size w w' := by
 obtain ⟨w2, hw2⟩ : ∃ w2, (w.alloc (.cells (lcs a sl) 28)).alloc (.cells (lcs b sl') 28) = w2 := ⟨_, rfl⟩
 have H0 : w2.heap[w.heap.size]? = some (.cells (lcs a sl) 28) := by rw [← hw2]; exact (Below.heap_alloc _ _ _ (by simp)).trans (heap_alloc_new w _)
 have H1 : w2.heap[w.heap.size + 1]? = some (.cells (lcs b sl') 28) := by
  rw [← hw2]
  have := heap_alloc_new (w.alloc (.cells (lcs a sl) 28)) (.cells (lcs b sl') 28)
  simpa using this
 have HB : Hid (Below w.heap.size w w2) := by show Below _ _ _; rw [← hw2]; exact aA (aA (Below.refl _ _) _) _
 obtain ⟨c0, c1, l2, l3, l4⟩ := aN H0
 obtain ⟨d0, d1, m2, m3, m4⟩ := aN H1
 have L2 : Hid _ := l2
 have L3 : Hid _ := l3
 have L4 : Hid _ := l4
 have M2 : Hid _ := m2
 have M3 : Hid _ := m3
 have M4 : Hid _ := m4
 have E2 := fun u => dY u a.vk a.vn a.vs b.vk b.vn b.vs
 have E3 := fun u => bI u a.b1 a.h1 a.r1 a.c1 a.fr1 a.fc1 b.b1 b.h1 b.r1 b.c1 b.fr1 b.fc1
 have E4 := fun u => bI u a.b2 a.h2 a.r2 a.c2 a.fr2 a.fc2 b.b2 b.h2 b.r2 b.c2 b.fr2 b.fc2
 rw [hv] at E2
 rw [hr] at E3
 rw [ht] at E4
 have G2 := eG
 have G3 := dH
 clear H0 H1 l2 l3 l4 m2 m3 m4
 generalize lcs a sl = bx at *
 generalize lcs b sl' = bz at *
 obtain ⟨k, s, vk, vn, vs, b1, x1, r1, c1_, f1, g1, b2, x2, r2, c2, f2, g2⟩ := a
 obtain ⟨k', s', vk', vn', vs', b1', x1', r1', c1', f1', g1', b2', x2', r2', c2', f2', g2'⟩ := b
 dsimp only at *
 go_enter Tryz.func160, Tryz.ntmps160
 go_wp2_with (first
  | (refine aF 23 _ rfl _ _ rfl L2.out (by go_simp) ?_)
  | (refine aF 23 _ rfl _ _ rfl M2.out (by go_simp) ?_)
  | (refine aF 25 _ rfl _ _ rfl L3.out (by go_simp) ?_)
  | (refine aF 25 _ rfl _ _ rfl M3.out (by go_simp) ?_)
  | (refine aF 25 _ rfl _ _ rfl L4.out (by go_simp) ?_)
  | (refine aF 25 _ rfl _ _ rfl M4.out (by go_simp) ?_))
 go_ret
 exact ⟨by first | rfl | (simp; done), HB.out⟩
theorem aDn {w : World} {a b : Lab} {sl sl' : Value} : Calls Tryz.prog 160 #[.agg (lcs a sl), .agg (lcs b sl')] w fun e w' => e = .returned (.bool (rY a b)) ∧ Below w.heap.size w w' := by
 unfold rY
 cases hk : (a.k == b.k)
 ·exact aHw hk w
 cases hs : (a.s.toList == b.s.toList)
 ·exact aHx hk hs w
 cases hv : veB a.vk a.vn a.vs b.vk b.vn b.vs
 ·exact aHy hk hs hv w
 cases hr : reB a.b1 a.h1 a.r1 a.c1 a.fr1 a.fc1 b.b1 b.h1 b.r1 b.c1 b.fr1 b.fc1
 ·exact aHz hk hs hv hr w
 cases ht : reB a.b2 a.h2 a.r2 a.c2 a.fr2 a.fc2 b.b2 b.h2 b.r2 b.c2 b.fr2 b.fc2
 ·exact aHA hk hs hv hr ht w
 ·exact aHB hk hs hv hr ht w
def sF : F → F → Bool
 | .nil, .nil => true
 | .node _ _ a l r, .node _ _ a' l' r' => (rY a a' && sF l l') && sF r r'
 | _, _ => false
def sT (s t : T) : Bool := rY s.1 t.1 && sF s.2 t.2
theorem wI : ∀ f g : F, sF f g = true ↔ same f g := by
 intro f
 induction f with
 | nil => intro g; cases g <;> simp [sF, same]
 | node b o a l r ihl ihr =>
  intro g
  cases g with
  | nil => simp [sF, same]
  | node b' o' a' l' r' =>
   simp only [sF, same, Bool.and_eq_true, ihl l', ihr r']
   constructor
   ·rintro ⟨⟨h1, h2⟩, h3⟩; exact ⟨aCf h1, h2, h3⟩
   ·rintro ⟨h1, h2, h3⟩; exact ⟨⟨by rw [h1]; exact uP _, h2⟩, h3⟩
theorem aBf (s t : T) : sT s t = true ↔ aEX s t := by
 unfold sT aEX
 rw [Bool.and_eq_true, wI]
 constructor
 ·rintro ⟨h1, h2⟩; exact ⟨aCf h1, h2⟩
 ·rintro ⟨h1, h2⟩; exact ⟨by rw [h1]; exact uP _, h2⟩
theorem wJ (f g : F) : sF f g = true ↔ ((kids f).length = (kids g).length ∧ ∀ (i : Nat) (s t : T), (kids f)[i]? = some s → (kids g)[i]? = some t → sT s t = true) := by
 rw [wI, aCZ]
 constructor
 ·rintro ⟨h1, h2⟩
  refine ⟨h1, fun i s t hs ht => ?_⟩
  obtain ⟨l1, e1⟩ := List.getElem?_eq_some_iff.1 hs
  obtain ⟨l2, e2⟩ := List.getElem?_eq_some_iff.1 ht
  rw [aBf, ← e1, ← e2]
  exact h2 i l1 l2
 ·rintro ⟨h1, h2⟩
  refine ⟨h1, fun i l1 l2 => ?_⟩
  rw [← aBf]
  exact h2 i _ _ (List.getElem?_eq_getElem l1) (List.getElem?_eq_getElem l2)
theorem jF (t : T) : (kids t.2).length < zT t := by
 have : (kids t.2).length ≤ size t.2 := by
  rw [← vW, gW]
  have : ∀ l : List T, l.length ≤ (l.flatMap dQ).length := by
   intro l
   induction l with
   | nil => exact Nat.zero_le _
   | cons a l ih => rw [List.flatMap_cons, List.length_append, List.length_cons, dQ, List.length_cons]; omega
  exact this _
 unfold zT; omega
theorem jG {w : World} {es : Array Value} {t : T} (h : NT w es t) : True ∧ ∀ {u : World} {g : Nat}, u.heap[g]? = some (.cells es 28) → (Instr.loadAt 28 (.pointer (some ⟨g, 0, none⟩))).run Tryz.prog u = .ok (.agg es) u := by
 obtain ⟨p, n, c, rfl, hs⟩ := h
 exact ⟨trivial, fun hu => lod (z := (0, 0)) hu rfl Tryz.underlying28 (by rw [aV]; exact bS)⟩
end Go.Proofs.YtljmklbbngpllaaGreatDoor
namespace Go.Proofs.YtljmklbbngpllaaGreatDoor
open Go.RowKit
theorem aBg (b s : ByteArray) (r c : Int) (fr fc : Bool) (w : World) :
  Calls Tryz.prog 203 #[bC b s r c fr fc] w fun e w' => e = .returned (bC ⟨#[]⟩ ⟨#[]⟩ r c fr fc) ∧ Below w.heap.size w w' := by
 go_enter Tryz.func203, Tryz.ntmps203
 go_wp2
 refine bodyPost_ret (v := bC ⟨#[]⟩ ⟨#[]⟩ r c fr fc) (by simp [results, Tryz.results203, go_sem]) rfl ?_
 refine ⟨rfl, ?_⟩
 repeat (first | exact Below.refl _ _ | refine Below.drew ?_ | refine aA ?_ _ | refine Below.setCell ?_ (by simp) _)
def paB (b1 s1 : ByteArray) (r1 c1 : Int) (fr1 fc1 : Bool) (b2 s2 : ByteArray) (r2 c2 : Int) (fr2 fc2 : Bool) : ByteArray :=
 if bB b1 s1 r1 c1 = true ∧ bB b2 s2 r2 c2 = true ∧ s2.toList = [] then qW b1 s1 r1.toNat c1.toNat fr1 fc1 ++ ⟨#[58]⟩ ++ jN r2.toNat c2.toNat fr2 fc2 else ⟨#[]⟩
section
variable {b1 s1 b2 s2 X Y : ByteArray} {r1 c1 r2 c2 : Int} {fr1 fc1 fr2 fc2 : Bool} {w W : World}
theorem uQ (hW : W = (w.alloc (aU b1 s1 r1 c1 fr1 fc1)).alloc (aU b2 s2 r2 c2 fr2 fc2)) (P1 : RC W 132 #[.agg #[.string b1, .string s1, .int .i64 r1, .int .i64 c1, .bool fr1, .bool fc1]] (.string X)) (P2 : RC W 132 #[.agg #[.string b2, .string s2, .int .i64 r2, .int .i64 c2, .bool fr2, .bool fc2]] (.string Y))
  (CO : RC W 203 #[.agg #[.string b2, .string s2, .int .i64 r2, .int .i64 c2, .bool fr2, .bool fc2]] (.agg #[.string ⟨#[]⟩, .string ⟨#[]⟩, .int .i64 r2, .int .i64 c2, .bool fr2, .bool fc2])) (hX : (X.toList == []) = false) (hY : (Y.toList == []) = false) (zX : X.size ≤ 50) (zY : Y.size ≤ 50) {o : Bool}
  (NE : ∀ V, (binOp .neq 25 (.agg #[.string b2, .string s2, .int .i64 r2, .int .i64 c2, .bool fr2, .bool fc2]) (.agg #[.string ⟨#[]⟩, .string ⟨#[]⟩, .int .i64 r2, .int .i64 c2, .bool fr2, .bool fc2])).run Tryz.prog V = .ok (.bool o) V) :
  Calls Tryz.prog 163 #[.agg #[.string b1, .string s1, .int .i64 r1, .int .i64 c1, .bool fr1, .bool fc1], .agg #[.string b2, .string s2, .int .i64 r2, .int .i64 c2, .bool fr2, .bool fc2]] w fun e w' => e = .returned (.string (if o = true then ⟨#[]⟩ else X ++ ⟨#[58]⟩ ++ Y)) ∧ Below w.heap.size w w' := by
 have GU := dH
 have HC : Hid (∀ u : World, Below W.heap.size W u → (u.cell? ⟨w.heap.size, 0, none⟩ = some (.string b1) ∧ u.cell? ⟨w.heap.size, 1, none⟩ = some (.string s1) ∧ u.cell? ⟨w.heap.size, 2, none⟩ = some (.int .i64 r1) ∧ u.cell? ⟨w.heap.size, 3, none⟩ = some (.int .i64 c1) ∧ u.cell? ⟨w.heap.size, 4, none⟩ = some (.bool fr1) ∧ u.cell? ⟨w.heap.size, 5, none⟩ = some (.bool fc1)) ∧ (u.cell? ⟨w.heap.size + 1, 0, none⟩ = some (.string b2) ∧ u.cell? ⟨w.heap.size + 1, 1, none⟩ = some (.string s2) ∧ u.cell? ⟨w.heap.size + 1, 2, none⟩ = some (.int .i64 r2) ∧ u.cell? ⟨w.heap.size + 1, 3, none⟩ = some (.int .i64 c2) ∧ u.cell? ⟨w.heap.size + 1, 4, none⟩ = some (.bool fr2) ∧ u.cell? ⟨w.heap.size + 1, 5, none⟩ = some (.bool fc2))) := by
  subst hW
  exact fun u hu => ⟨aP (new2 hu).1, aP (new2 hu).2⟩
 have HB : Hid (Below W.heap.size W W.drew) := (Below.refl _ _).drew
 have HF : Hid (∀ u, Below W.heap.size W u → Below w.heap.size w u) := by
  subst hW
  exact fun u hu => aCw hu
 have z5 : ¬ 9223372036854775807 < X.size + 1 := by omega
 have z6 : ¬ 9223372036854775807 < X.size + 1 + Y.size := by omega
 have hW2 := hW.symm
 clear hW
 go_enter Tryz.func163, Tryz.ntmps163
 go_wp2_with fail
 try rw [hW2]
 go_region_held_law (fun u => (u.cell? ⟨w.heap.size, 0, none⟩ = some (.string b1) ∧ u.cell? ⟨w.heap.size, 1, none⟩ = some (.string s1) ∧ u.cell? ⟨w.heap.size, 2, none⟩ = some (.int .i64 r1) ∧ u.cell? ⟨w.heap.size, 3, none⟩ = some (.int .i64 c1) ∧ u.cell? ⟨w.heap.size, 4, none⟩ = some (.bool fr1) ∧ u.cell? ⟨w.heap.size, 5, none⟩ = some (.bool fc1)) ∧ (u.cell? ⟨w.heap.size + 1, 0, none⟩ = some (.string b2) ∧ u.cell? ⟨w.heap.size + 1, 1, none⟩ = some (.string s2) ∧ u.cell? ⟨w.heap.size + 1, 2, none⟩ = some (.int .i64 r2) ∧ u.cell? ⟨w.heap.size + 1, 3, none⟩ = some (.int .i64 c2) ∧ u.cell? ⟨w.heap.size + 1, 4, none⟩ = some (.bool fr2) ∧ u.cell? ⟨w.heap.size + 1, 5, none⟩ = some (.bool fc2)))
  (exact HC.out _ HB.out) (first
  | (go_at_call_of 132 b1; refine (P1 _ HB.out).mono ?_; rintro e w7 ⟨rfl, hb⟩; have HB : Hid (Below W.heap.size W w7) := hb; clear hb)
  | (go_at_call_of 132 b2; refine (P2 _ HB.out).mono ?_; rintro e w7 ⟨rfl, hb⟩; have HB : Hid (Below W.heap.size W w7) := hb; clear hb))
 go_wp2_with fail
 have HB : Hid (Below W.heap.size W (World.drew _)) := HB.out.drew
 go_region_held_law (fun u => (u.cell? ⟨w.heap.size, 0, none⟩ = some (.string b1) ∧ u.cell? ⟨w.heap.size, 1, none⟩ = some (.string s1) ∧ u.cell? ⟨w.heap.size, 2, none⟩ = some (.int .i64 r1) ∧ u.cell? ⟨w.heap.size, 3, none⟩ = some (.int .i64 c1) ∧ u.cell? ⟨w.heap.size, 4, none⟩ = some (.bool fr1) ∧ u.cell? ⟨w.heap.size, 5, none⟩ = some (.bool fc1)) ∧ (u.cell? ⟨w.heap.size + 1, 0, none⟩ = some (.string b2) ∧ u.cell? ⟨w.heap.size + 1, 1, none⟩ = some (.string s2) ∧ u.cell? ⟨w.heap.size + 1, 2, none⟩ = some (.int .i64 r2) ∧ u.cell? ⟨w.heap.size + 1, 3, none⟩ = some (.int .i64 c2) ∧ u.cell? ⟨w.heap.size + 1, 4, none⟩ = some (.bool fr2) ∧ u.cell? ⟨w.heap.size + 1, 5, none⟩ = some (.bool fc2)))
  (exact HC.out _ HB.out) (first
  | (go_at_call 203; refine (CO _ HB.out).mono ?_; rintro e w9 ⟨rfl, hb⟩; have HB : Hid (Below W.heap.size W w9) := hb; clear hb))
 cases o
 ·go_wp2
  go_ret
  exact ⟨rfl, HF.out _ HB.out⟩
 ·go_wp2
  go_ret
  exact ⟨rfl, HF.out _ HB.out⟩
end
end Go.Proofs.YtljmklbbngpllaaGreatDoor
