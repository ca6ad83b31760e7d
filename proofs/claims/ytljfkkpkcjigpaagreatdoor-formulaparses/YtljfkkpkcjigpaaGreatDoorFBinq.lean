/- RSameY, RSame1, RSame2, RSame3, RSame4, RSame, FBin. -/
import Derived.Test.YtljfkkpkcjigpaaGreatDoorAAreaq
import Derived.Test.YtljfkkpkcjigpaaGreatDoorTNextq
import Derived.Test.YtljfkkpkcjigpaaGreatDoorFUnq
set_option linter.unusedVariables false
set_option linter.unusedSimpArgs false
namespace Go.Proofs.YtljfkkpkcjigpaaGreatDoor
open Go.RowKit Go.Fm
set_option maxRecDepth 100000
theorem bne_of {x : Bool} {α : Type} [BEq α] {a b : α} (h : (a == b) = x) : (a != b) = !x := by rw [bne, h]
section
variable {a b : Lab} {p p' : Option Addr} {n n' c c' : Nat}
set_option maxHeartbeats 4000000 in
theorem rsame_0 (hk : (a.k == b.k) = false) (w : World) : Calls Tryz.prog 11 #[.agg (lcs a (.slice p n c)), .agg (lcs b (.slice p' n' c'))] w fun e w' => e = .returned (.bool false) ∧ Below w.heap.size w w' := by
  obtain ⟨w2, hw2⟩ : ∃ w2, (w.alloc (.cells (lcs a (.slice p n c)) 28)).alloc (.cells (lcs b (.slice p' n' c')) 28) = w2 := ⟨_, rfl⟩
  have H0 : w2.heap[w.heap.size]? = some (.cells (lcs a (.slice p n c)) 28) := by rw [← hw2]; exact (Below.heap_alloc _ _ _ (by simp)).trans (heap_alloc_new w _)
  have H1 : w2.heap[w.heap.size + 1]? = some (.cells (lcs b (.slice p' n' c')) 28) := by
    rw [← hw2]
    have := heap_alloc_new (w.alloc (.cells (lcs a (.slice p n c)) 28)) (.cells (lcs b (.slice p' n' c')) 28)
    simpa using this
  have HB : Hid (Below w.heap.size w w2) := by show Below _ _ _; rw [← hw2]; exact bel_alloc (bel_alloc (Below.refl _ _) _) _
  obtain ⟨c0, c1, l2, l3, l4⟩ := box_all H0
  obtain ⟨d0, d1, m2, m3, m4⟩ := box_all H1
  have c17 := cell17 H0
  have d17 := cell17 H1
  have L2 : Hid _ := l2
  have L3 : Hid _ := l3
  have L4 : Hid _ := l4
  have M2 : Hid _ := m2
  have M3 : Hid _ := m3
  have M4 : Hid _ := m4
  have E2 := fun u => run_neq_val u a.vk a.vn a.vs b.vk b.vn b.vs
  have E3 := fun u => run_neq_refB u a.b1 a.h1 a.r1 a.c1 a.fr1 a.fc1 b.b1 b.h1 b.r1 b.c1 b.fr1 b.fc1
  have E4 := fun u => run_neq_refB u a.b2 a.h2 a.r2 a.c2 a.fr2 a.fc2 b.b2 b.h2 b.r2 b.c2 b.fr2 b.fc2
  have hkn := bne_of hk
  have G2 := guard23
  have G3 := guard25
  clear H0 H1 l2 l3 l4 m2 m3 m4
  generalize lcs a (.slice p n c) = bx at *
  generalize lcs b (.slice p' n' c') = bz at *
  obtain ⟨k, s, vk, vn, vs, b1, x1, r1, c1_, f1, g1, b2, x2, r2, c2, f2, g2⟩ := a
  obtain ⟨k', s', vk', vn', vs', b1', x1', r1', c1', f1', g1', b2', x2', r2', c2', f2', g2'⟩ := b
  dsimp only at *
  go_enter Tryz.func11, Tryz.ntmps11
  go_wp2_with (first
    | (refine wpList_load_g 23 _ rfl _ _ rfl L2.out (by go_simp) ?_)
    | (refine wpList_load_g 23 _ rfl _ _ rfl M2.out (by go_simp) ?_)
    | (refine wpList_load_g 25 _ rfl _ _ rfl L3.out (by go_simp) ?_)
    | (refine wpList_load_g 25 _ rfl _ _ rfl M3.out (by go_simp) ?_)
    | (refine wpList_load_g 25 _ rfl _ _ rfl L4.out (by go_simp) ?_)
    | (refine wpList_load_g 25 _ rfl _ _ rfl M4.out (by go_simp) ?_))
  go_ret
  exact ⟨by first | rfl | (simp; done), HB.out⟩
set_option maxHeartbeats 4000000 in
theorem rsame_5 (hk : (a.k == b.k) = true) (hs : (a.s.toList == b.s.toList) = true) (hv : veB a.vk a.vn a.vs b.vk b.vn b.vs = true) (hr : reB a.b1 a.h1 a.r1 a.c1 a.fr1 a.fc1 b.b1 b.h1 b.r1 b.c1 b.fr1 b.fc1 = true) (ht : reB a.b2 a.h2 a.r2 a.c2 a.fr2 a.fc2 b.b2 b.h2 b.r2 b.c2 b.fr2 b.fc2 = true) (hl : ((n : Int) == (n' : Int)) = false) (w : World) : Calls Tryz.prog 11 #[.agg (lcs a (.slice p n c)), .agg (lcs b (.slice p' n' c'))] w fun e w' => e = .returned (.bool false) ∧ Below w.heap.size w w' := by
  obtain ⟨w2, hw2⟩ : ∃ w2, (w.alloc (.cells (lcs a (.slice p n c)) 28)).alloc (.cells (lcs b (.slice p' n' c')) 28) = w2 := ⟨_, rfl⟩
  have H0 : w2.heap[w.heap.size]? = some (.cells (lcs a (.slice p n c)) 28) := by rw [← hw2]; exact (Below.heap_alloc _ _ _ (by simp)).trans (heap_alloc_new w _)
  have H1 : w2.heap[w.heap.size + 1]? = some (.cells (lcs b (.slice p' n' c')) 28) := by
    rw [← hw2]
    have := heap_alloc_new (w.alloc (.cells (lcs a (.slice p n c)) 28)) (.cells (lcs b (.slice p' n' c')) 28)
    simpa using this
  have HB : Hid (Below w.heap.size w w2) := by show Below _ _ _; rw [← hw2]; exact bel_alloc (bel_alloc (Below.refl _ _) _) _
  obtain ⟨c0, c1, l2, l3, l4⟩ := box_all H0
  obtain ⟨d0, d1, m2, m3, m4⟩ := box_all H1
  have c17 := cell17 H0
  have d17 := cell17 H1
  have L2 : Hid _ := l2
  have L3 : Hid _ := l3
  have L4 : Hid _ := l4
  have M2 : Hid _ := m2
  have M3 : Hid _ := m3
  have M4 : Hid _ := m4
  have E2 := fun u => run_neq_val u a.vk a.vn a.vs b.vk b.vn b.vs
  have E3 := fun u => run_neq_refB u a.b1 a.h1 a.r1 a.c1 a.fr1 a.fc1 b.b1 b.h1 b.r1 b.c1 b.fr1 b.fc1
  have E4 := fun u => run_neq_refB u a.b2 a.h2 a.r2 a.c2 a.fr2 a.fc2 b.b2 b.h2 b.r2 b.c2 b.fr2 b.fc2
  rw [hv] at E2
  rw [hr] at E3
  rw [ht] at E4
  have hkn := bne_of hk
  have hsn := bne_of hs
  have hln := bne_of hl
  have G2 := guard23
  have G3 := guard25
  clear H0 H1 l2 l3 l4 m2 m3 m4
  generalize lcs a (.slice p n c) = bx at *
  generalize lcs b (.slice p' n' c') = bz at *
  obtain ⟨k, s, vk, vn, vs, b1, x1, r1, c1_, f1, g1, b2, x2, r2, c2, f2, g2⟩ := a
  obtain ⟨k', s', vk', vn', vs', b1', x1', r1', c1', f1', g1', b2', x2', r2', c2', f2', g2'⟩ := b
  dsimp only at *
  go_enter Tryz.func11, Tryz.ntmps11
  go_wp2_with (first
    | (refine wpList_load_g 23 _ rfl _ _ rfl L2.out (by go_simp) ?_)
    | (refine wpList_load_g 23 _ rfl _ _ rfl M2.out (by go_simp) ?_)
    | (refine wpList_load_g 25 _ rfl _ _ rfl L3.out (by go_simp) ?_)
    | (refine wpList_load_g 25 _ rfl _ _ rfl M3.out (by go_simp) ?_)
    | (refine wpList_load_g 25 _ rfl _ _ rfl L4.out (by go_simp) ?_)
    | (refine wpList_load_g 25 _ rfl _ _ rfl M4.out (by go_simp) ?_))
  go_ret
  exact ⟨by first | rfl | (simp; done), HB.out⟩
end
section
variable {a b : Lab} {p p' : Option Addr} {n c c' : Nat} {f g : F}
set_option maxHeartbeats 8000000 in
theorem rsame_yes (hk : (a.k == b.k) = true) (hs : (a.s.toList == b.s.toList) = true) (hv : veB a.vk a.vn a.vs b.vk b.vn b.vs = true) (hr : reB a.b1 a.h1 a.r1 a.c1 a.fr1 a.fc1 b.b1 b.h1 b.r1 b.c1 b.fr1 b.fc1 = true) (ht : reB a.b2 a.h2 a.r2 a.c2 a.fr2 a.fc2 b.b2 b.h2 b.r2 b.c2 b.fr2 b.fc2 = true) {w : World} (hf : SF w p n f) (hg : SF w p' n g) (hn : n ≤ 1000000)
    (IH : ∀ s ∈ kids f, ∀ (t : T) (w : World) (es es' : Array Value), NT w es s → NT w es' t → Calls Tryz.prog 11 #[.agg es, .agg es'] w fun e w' => e = .returned (.bool (sT s t)) ∧ Below w.heap.size w w') :
    Calls Tryz.prog 11 #[.agg (lcs a (.slice p n c)), .agg (lcs b (.slice p' n c'))] w fun e w' => e = .returned (.bool (sF f g)) ∧ Below w.heap.size w w' := by
  obtain ⟨w2, hw2⟩ : ∃ w2, (w.alloc (.cells (lcs a (.slice p n c)) 28)).alloc (.cells (lcs b (.slice p' n c')) 28) = w2 := ⟨_, rfl⟩
  have H0 : w2.heap[w.heap.size]? = some (.cells (lcs a (.slice p n c)) 28) := by rw [← hw2]; exact (Below.heap_alloc _ _ _ (by simp)).trans (heap_alloc_new w _)
  have H1 : w2.heap[w.heap.size + 1]? = some (.cells (lcs b (.slice p' n c')) 28) := by
    rw [← hw2]
    have := heap_alloc_new (w.alloc (.cells (lcs a (.slice p n c)) 28)) (.cells (lcs b (.slice p' n c')) 28)
    simpa using this
  have HB : Hid (Below w.heap.size w w2) := by show Below _ _ _; rw [← hw2]; exact bel_alloc (bel_alloc (Below.refl _ _) _) _
  obtain ⟨c0, c1, l2, l3, l4⟩ := box_all H0
  obtain ⟨d0, d1, m2, m3, m4⟩ := box_all H1
  have c17 := cell17 H0
  have d17 := cell17 H1
  have L2 : Hid _ := l2
  have L3 : Hid _ := l3
  have L4 : Hid _ := l4
  have M2 : Hid _ := m2
  have M3 : Hid _ := m3
  have M4 : Hid _ := m4
  have E2 := fun u => run_neq_val u a.vk a.vn a.vs b.vk b.vn b.vs
  have E3 := fun u => run_neq_refB u a.b1 a.h1 a.r1 a.c1 a.fr1 a.fc1 b.b1 b.h1 b.r1 b.c1 b.fr1 b.fc1
  have E4 := fun u => run_neq_refB u a.b2 a.h2 a.r2 a.c2 a.fr2 a.fc2 b.b2 b.h2 b.r2 b.c2 b.fr2 b.fc2
  rw [hv] at E2
  rw [hr] at E3
  rw [ht] at E4
  have hkn := bne_of hk
  have hsn := bne_of hs
  have HF : Hid (SF w2 p n f) := by
    have : Below w.heap.size w w2 := HB.out
    exact hf.below this
  have HG : Hid (SF w2 p' n g) := by
    have : Below w.heap.size w w2 := HB.out
    exact hg.below this
  have HI : Hid (∀ s ∈ kids f, ∀ (t : T) (w : World) (es es' : Array Value), NT w es s → NT w es' t → Calls Tryz.prog 11 #[.agg es, .agg es'] w fun e w' => e = .returned (.bool (sT s t)) ∧ Below w.heap.size w w') := IH
  have HL : Hid ((kids f).length = n ∧ (kids g).length = n) := ⟨hf.1.symm, hg.1.symm⟩
  have HC : Hid (∀ u, Below w2.heap.size w2 u → u.cell? ⟨w.heap.size, 17, none⟩ = some (.slice p n c) ∧ u.cell? ⟨w.heap.size + 1, 17, none⟩ = some (.slice p' n c')) := fun u hu => ⟨cell_bel hu c17, cell_bel hu d17⟩
  have hln : ((n : Int) != (n : Int)) = false := by simp
  clear hf hg IH
  generalize hq : sF f g = q
  have HQ : Hid (sF f g = q) := hq
  clear hq
  have G2 := guard23
  have G3 := guard25
  clear H0 H1 l2 l3 l4 m2 m3 m4
  generalize lcs a (.slice p n c) = bx at *
  generalize lcs b (.slice p' n c') = bz at *
  obtain ⟨k, s, vk, vn, vs, b1, x1, r1, c1_, f1, g1, b2, x2, r2, c2, f2, g2⟩ := a
  obtain ⟨k', s', vk', vn', vs', b1', x1', r1', c1', f1', g1', b2', x2', r2', c2', f2', g2'⟩ := b
  dsimp only at *
  go_enter Tryz.func11, Tryz.ntmps11
  go_wp2_with (first
    | (refine wpList_load_g 23 _ rfl _ _ rfl L2.out (by go_simp) ?_)
    | (refine wpList_load_g 23 _ rfl _ _ rfl M2.out (by go_simp) ?_)
    | (refine wpList_load_g 25 _ rfl _ _ rfl L3.out (by go_simp) ?_)
    | (refine wpList_load_g 25 _ rfl _ _ rfl M3.out (by go_simp) ?_)
    | (refine wpList_load_g 25 _ rfl _ _ rfl L4.out (by go_simp) ?_)
    | (refine wpList_load_g 25 _ rfl _ _ rfl M4.out (by go_simp) ?_))
  clear L2 L3 L4 M2 M3 M4 E2 E3 E4
  go_loopw [51] (fun i wr => ∃ k : Nat, k ≤ n ∧ i = .int .i64 (k : Nat) ∧ Hid (Below w2.heap.size w2 wr) ∧ Hid (∀ j s t, j < k → (kids f)[j]? = some s → (kids g)[j]? = some t → sT s t = true)) (fun i _ => n - (intOf i).toNat)
  case atStart => exact ⟨0, Nat.zero_le _, rfl, Below.refl _ _, fun j s t hj => absurd hj (Nat.not_lt_zero _)⟩
  case round =>
    obtain ⟨i, hi, rfl, HW, HA⟩ := hrel
    clear c17 d17
    by_cases hlt : i < n
    · have hki : (i : Int) < n := by omega
      obtain ⟨a1, es1, s1, rfl, RU1, hks1, hN1⟩ := HF.out.kid i hlt
      obtain ⟨a2, es2, t1, rfl, RU2, hks2, hN2⟩ := HG.out.kid i hlt
      have HI1 : Hid ((kids f)[i]? = some s1) := hks1
      have HI2 : Hid ((kids g)[i]? = some t1) := hks2
      have SS : Hid (∀ u, Below w2.heap.size w2 u → (u.cell? ⟨w.heap.size, 17, none⟩ = some (.slice (some a1) n c) ∧ u.cell? ⟨w.heap.size + 1, 17, none⟩ = some (.slice (some a2) n c')) ∧ (Instr.loadAt 28 (.pointer (some (a1.add (i * 18))))).run Tryz.prog u = .ok (.agg es1) u ∧ (Instr.loadAt 28 (.pointer (some (a2.add (i * 18))))).run Tryz.prog u = .ok (.agg es2) u) := fun u hu => ⟨HC.out u hu, (RU1 u hu).out, (RU2 u hu).out⟩
      have HWd : Hid (Below w2.heap.size w2 wr.drew) := HW.out.drew
      have C := HI.out s1 (List.mem_of_getElem? hks1) t1 wr.drew es1 es2 (hN1.below HWd.out) (hN2.below HWd.out)
      have HQF : Hid (sT s1 t1 = false → q = false) := fun hh => by
        rw [← HQ.out]
        cases hsf : sF f g
        · rfl
        · exfalso
          have := ((sF_kids f g).1 hsf).2 i s1 t1 HI1.out HI2.out
          rw [hh] at this; cases this
      have HA2 : Hid (sT s1 t1 = true → ∀ j s t, j < i + 1 → (kids f)[j]? = some s → (kids g)[j]? = some t → sT s t = true) := fun hh j s' t' hj hs ht => by
        by_cases hjk : j < i
        · exact HA.out j s' t' hjk hs ht
        · have : j = i := by omega
          subst this
          rw [HI1.out] at hs
          rw [HI2.out] at ht
          cases hs; cases ht; exact hh
      clear hks1 hks2 hN1 hN2 RU1 RU2 HA HI1 HI2
      generalize hqq : sT s1 t1 = qq at *
      clear hqq
      go_wp2
      refine wp_region_d (fun u => (u.cell? ⟨w.heap.size, 17, none⟩ = some (.slice (some a1) n c) ∧ u.cell? ⟨w.heap.size + 1, 17, none⟩ = some (.slice (some a2) n c')) ∧ (Instr.loadAt 28 (.pointer (some (a1.add (i * 18))))).run Tryz.prog u = .ok (.agg es1) u ∧ (Instr.loadAt 28 (.pointer (some (a2.add (i * 18))))).run Tryz.prog u = .ok (.agg es2) u) (fun _ => false) (by kernel_rfl) ?_
      refine wpAnyD_pured (i := 0) (v := .pointer (some ⟨w.heap.size, 17, none⟩)) rfl rfl (by kernel_rfl) (by kernel_rfl) (by kernel_rfl) (fun _ _ _ h => h) (by go_simp) (by intro u; go_simp) ?_
      try simp only [Act.put, List.setIfInBounds_toArray, List.set_cons_zero, List.set_cons_succ]
      refine wpAnyD_loadd (i := 1) (v := .slice (some a1) n c) rfl rfl (by kernel_rfl) (by kernel_rfl) (by kernel_rfl) (by kernel_rfl) (fun _ _ _ h => h) (by go_simp) (fun u hSu => by have h1 := hSu.1.1; go_simp) (SS.out _ HWd.out) ?_
      try simp only [Act.put, List.setIfInBounds_toArray, List.set_cons_zero, List.set_cons_succ]
      refine wpAnyD_pured (i := 2) (v := .int .i64 (i : Int)) rfl rfl (by kernel_rfl) (by kernel_rfl) (by kernel_rfl) (fun _ _ _ h => h) (by go_simp) (by intro u; go_simp) ?_
      try simp only [Act.put, List.setIfInBounds_toArray, List.set_cons_zero, List.set_cons_succ]
      refine wpAnyD_pured (i := 3) (v := .pointer (some (a1.add (i * 18)))) rfl rfl (by kernel_rfl) (by kernel_rfl) (by kernel_rfl) (fun _ _ _ h => h) (by go_simp) (by intro u; go_simp) ?_
      try simp only [Act.put, List.setIfInBounds_toArray, List.set_cons_zero, List.set_cons_succ]
      refine wpAnyD_loadd (i := 4) (v := .agg es1) rfl rfl (by kernel_rfl) (by kernel_rfl) (by kernel_rfl) (by kernel_rfl) (fun _ _ _ h => h) (by go_simp) (fun u hSu => exec_load_run rfl rfl hSu.2.1) (SS.out _ HWd.out) ?_
      try simp only [Act.put, List.setIfInBounds_toArray, List.set_cons_zero, List.set_cons_succ]
      refine wpAnyD_pured (i := 5) (v := .pointer (some ⟨w.heap.size + 1, 17, none⟩)) rfl rfl (by kernel_rfl) (by kernel_rfl) (by kernel_rfl) (fun _ _ _ h => h) (by go_simp) (by intro u; go_simp) ?_
      try simp only [Act.put, List.setIfInBounds_toArray, List.set_cons_zero, List.set_cons_succ]
      refine wpAnyD_loadd (i := 6) (v := .slice (some a2) n c') rfl rfl (by kernel_rfl) (by kernel_rfl) (by kernel_rfl) (by kernel_rfl) (fun _ _ _ h => h) (by go_simp) (fun u hSu => by have h1 := hSu.1.2; go_simp) (SS.out _ HWd.out) ?_
      try simp only [Act.put, List.setIfInBounds_toArray, List.set_cons_zero, List.set_cons_succ]
      refine wpAnyD_pured (i := 7) (v := .int .i64 (i : Int)) rfl rfl (by kernel_rfl) (by kernel_rfl) (by kernel_rfl) (fun _ _ _ h => h) (by go_simp) (by intro u; go_simp) ?_
      try simp only [Act.put, List.setIfInBounds_toArray, List.set_cons_zero, List.set_cons_succ]
      refine wpAnyD_pured (i := 8) (v := .pointer (some (a2.add (i * 18)))) rfl rfl (by kernel_rfl) (by kernel_rfl) (by kernel_rfl) (fun _ _ _ h => h) (by go_simp) (by intro u; go_simp) ?_
      try simp only [Act.put, List.setIfInBounds_toArray, List.set_cons_zero, List.set_cons_succ]
      refine wpAnyD_loadd (i := 9) (v := .agg es2) rfl rfl (by kernel_rfl) (by kernel_rfl) (by kernel_rfl) (by kernel_rfl) (fun _ _ _ h => h) (by go_simp) (fun u hSu => exec_load_run rfl rfl hSu.2.2) (SS.out _ HWd.out) ?_
      try simp only [Act.put, List.setIfInBounds_toArray, List.set_cons_zero, List.set_cons_succ]
      refine wpAnyD_one (i := 10) (by kernel_rfl) rfl ?_
      intro K hK
      go_simp
      refine C.mono ?_
      rintro e w4 ⟨rfl, hb⟩
      have HW4 : Hid (Below w2.heap.size w2 w4) := bel_step HWd.out hb
      clear hb
      refine hK _ _ (.inr fun _ => SS.out _ HW4.out) ?_
      clear hK C
      try simp only [Act.put, List.setIfInBounds_toArray, List.set_cons_zero, List.set_cons_succ]
      refine wpAnyD_pured (i := 11) (v := .bool (!qq)) rfl rfl (by kernel_rfl) (by kernel_rfl) (by kernel_rfl) (fun _ _ _ h => h) (by go_simp) (by intro u; go_simp) ?_
      try simp only [Act.put, List.setIfInBounds_toArray, List.set_cons_zero, List.set_cons_succ]
      refine wpAnyD_done (by kernel_rfl) ?_ _
      clear SS
      cases qq
      · have HQf : Hid (q = false) := HQF.out rfl
        go_wp2
        go_ret
        exact ⟨by rw [HQf.out]; first | done | rfl, bel_step HB.out HW4.out⟩
      · have HA3 : Hid _ := HA2.out rfl
        go_wp2
        go_roundw
        case rel => exact ⟨i + 1, by omega, by go_num, HW4, HA3⟩
        case measure => simp [intOf]; omega
    · have hki : ¬ (i : Int) < n := by omega
      have HQ2 : Hid (q = true) := by
        show _ = _
        rw [← HQ.out, sF_kids]
        refine ⟨HL.out.1.trans HL.out.2.symm, fun j s t hs ht => HA.out j s t ?_ hs ht⟩
        have := (List.getElem?_eq_some_iff.1 hs).1
        have := HL.out.1
        omega
      clear HA
      go_wp2
      go_ret
      exact ⟨by rw [HQ2.out]; first | done | rfl, bel_step HB.out HW.out⟩
end
end Go.Proofs.YtljfkkpkcjigpaaGreatDoor

namespace Go.Proofs.YtljfkkpkcjigpaaGreatDoor
open Go.RowKit Go.Fm
set_option maxRecDepth 100000
section
variable {a b : Lab} {p p' : Option Addr} {n n' c c' : Nat}
set_option maxHeartbeats 4000000 in
theorem rsame_1 (hk : (a.k == b.k) = true) (hs : (a.s.toList == b.s.toList) = false) (w : World) : Calls Tryz.prog 11 #[.agg (lcs a (.slice p n c)), .agg (lcs b (.slice p' n' c'))] w fun e w' => e = .returned (.bool false) ∧ Below w.heap.size w w' := by
  obtain ⟨w2, hw2⟩ : ∃ w2, (w.alloc (.cells (lcs a (.slice p n c)) 28)).alloc (.cells (lcs b (.slice p' n' c')) 28) = w2 := ⟨_, rfl⟩
  have H0 : w2.heap[w.heap.size]? = some (.cells (lcs a (.slice p n c)) 28) := by rw [← hw2]; exact (Below.heap_alloc _ _ _ (by simp)).trans (heap_alloc_new w _)
  have H1 : w2.heap[w.heap.size + 1]? = some (.cells (lcs b (.slice p' n' c')) 28) := by
    rw [← hw2]
    have := heap_alloc_new (w.alloc (.cells (lcs a (.slice p n c)) 28)) (.cells (lcs b (.slice p' n' c')) 28)
    simpa using this
  have HB : Hid (Below w.heap.size w w2) := by show Below _ _ _; rw [← hw2]; exact bel_alloc (bel_alloc (Below.refl _ _) _) _
  obtain ⟨c0, c1, l2, l3, l4⟩ := box_all H0
  obtain ⟨d0, d1, m2, m3, m4⟩ := box_all H1
  have c17 := cell17 H0
  have d17 := cell17 H1
  have L2 : Hid _ := l2
  have L3 : Hid _ := l3
  have L4 : Hid _ := l4
  have M2 : Hid _ := m2
  have M3 : Hid _ := m3
  have M4 : Hid _ := m4
  have E2 := fun u => run_neq_val u a.vk a.vn a.vs b.vk b.vn b.vs
  have E3 := fun u => run_neq_refB u a.b1 a.h1 a.r1 a.c1 a.fr1 a.fc1 b.b1 b.h1 b.r1 b.c1 b.fr1 b.fc1
  have E4 := fun u => run_neq_refB u a.b2 a.h2 a.r2 a.c2 a.fr2 a.fc2 b.b2 b.h2 b.r2 b.c2 b.fr2 b.fc2
  have hkn := bne_of hk
  have hsn := bne_of hs
  have G2 := guard23
  have G3 := guard25
  clear H0 H1 l2 l3 l4 m2 m3 m4
  generalize lcs a (.slice p n c) = bx at *
  generalize lcs b (.slice p' n' c') = bz at *
  obtain ⟨k, s, vk, vn, vs, b1, x1, r1, c1_, f1, g1, b2, x2, r2, c2, f2, g2⟩ := a
  obtain ⟨k', s', vk', vn', vs', b1', x1', r1', c1', f1', g1', b2', x2', r2', c2', f2', g2'⟩ := b
  dsimp only at *
  go_enter Tryz.func11, Tryz.ntmps11
  go_wp2
  go_ret
  exact ⟨by first | rfl | (simp; done), HB.out⟩
end
end Go.Proofs.YtljfkkpkcjigpaaGreatDoor

namespace Go.Proofs.YtljfkkpkcjigpaaGreatDoor
open Go.RowKit Go.Fm
set_option maxRecDepth 100000
section
variable {a b : Lab} {p p' : Option Addr} {n n' c c' : Nat}
set_option maxHeartbeats 4000000 in
theorem rsame_2 (hk : (a.k == b.k) = true) (hs : (a.s.toList == b.s.toList) = true) (hv : veB a.vk a.vn a.vs b.vk b.vn b.vs = false) (w : World) : Calls Tryz.prog 11 #[.agg (lcs a (.slice p n c)), .agg (lcs b (.slice p' n' c'))] w fun e w' => e = .returned (.bool false) ∧ Below w.heap.size w w' := by
  obtain ⟨w2, hw2⟩ : ∃ w2, (w.alloc (.cells (lcs a (.slice p n c)) 28)).alloc (.cells (lcs b (.slice p' n' c')) 28) = w2 := ⟨_, rfl⟩
  have H0 : w2.heap[w.heap.size]? = some (.cells (lcs a (.slice p n c)) 28) := by rw [← hw2]; exact (Below.heap_alloc _ _ _ (by simp)).trans (heap_alloc_new w _)
  have H1 : w2.heap[w.heap.size + 1]? = some (.cells (lcs b (.slice p' n' c')) 28) := by
    rw [← hw2]
    have := heap_alloc_new (w.alloc (.cells (lcs a (.slice p n c)) 28)) (.cells (lcs b (.slice p' n' c')) 28)
    simpa using this
  have HB : Hid (Below w.heap.size w w2) := by show Below _ _ _; rw [← hw2]; exact bel_alloc (bel_alloc (Below.refl _ _) _) _
  obtain ⟨c0, c1, l2, l3, l4⟩ := box_all H0
  obtain ⟨d0, d1, m2, m3, m4⟩ := box_all H1
  have c17 := cell17 H0
  have d17 := cell17 H1
  have L2 : Hid _ := l2
  have L3 : Hid _ := l3
  have L4 : Hid _ := l4
  have M2 : Hid _ := m2
  have M3 : Hid _ := m3
  have M4 : Hid _ := m4
  have E2 := fun u => run_neq_val u a.vk a.vn a.vs b.vk b.vn b.vs
  have E3 := fun u => run_neq_refB u a.b1 a.h1 a.r1 a.c1 a.fr1 a.fc1 b.b1 b.h1 b.r1 b.c1 b.fr1 b.fc1
  have E4 := fun u => run_neq_refB u a.b2 a.h2 a.r2 a.c2 a.fr2 a.fc2 b.b2 b.h2 b.r2 b.c2 b.fr2 b.fc2
  rw [hv] at E2
  have hkn := bne_of hk
  have hsn := bne_of hs
  have G2 := guard23
  have G3 := guard25
  clear H0 H1 l2 l3 l4 m2 m3 m4
  generalize lcs a (.slice p n c) = bx at *
  generalize lcs b (.slice p' n' c') = bz at *
  obtain ⟨k, s, vk, vn, vs, b1, x1, r1, c1_, f1, g1, b2, x2, r2, c2, f2, g2⟩ := a
  obtain ⟨k', s', vk', vn', vs', b1', x1', r1', c1', f1', g1', b2', x2', r2', c2', f2', g2'⟩ := b
  dsimp only at *
  go_enter Tryz.func11, Tryz.ntmps11
  go_wp2_with (first
    | (refine wpList_load_g 23 _ rfl _ _ rfl L2.out (by go_simp) ?_; clear L2)
    | (refine wpList_load_g 23 _ rfl _ _ rfl M2.out (by go_simp) ?_; clear M2))
  go_ret
  exact ⟨by first | rfl | (simp; done), HB.out⟩
end
end Go.Proofs.YtljfkkpkcjigpaaGreatDoor

namespace Go.Proofs.YtljfkkpkcjigpaaGreatDoor
open Go.RowKit Go.Fm
set_option maxRecDepth 100000
section
variable {a b : Lab} {p p' : Option Addr} {n n' c c' : Nat}
set_option maxHeartbeats 4000000 in
theorem rsame_3 (hk : (a.k == b.k) = true) (hs : (a.s.toList == b.s.toList) = true) (hv : veB a.vk a.vn a.vs b.vk b.vn b.vs = true) (hr : reB a.b1 a.h1 a.r1 a.c1 a.fr1 a.fc1 b.b1 b.h1 b.r1 b.c1 b.fr1 b.fc1 = false) (w : World) : Calls Tryz.prog 11 #[.agg (lcs a (.slice p n c)), .agg (lcs b (.slice p' n' c'))] w fun e w' => e = .returned (.bool false) ∧ Below w.heap.size w w' := by
  obtain ⟨w2, hw2⟩ : ∃ w2, (w.alloc (.cells (lcs a (.slice p n c)) 28)).alloc (.cells (lcs b (.slice p' n' c')) 28) = w2 := ⟨_, rfl⟩
  have H0 : w2.heap[w.heap.size]? = some (.cells (lcs a (.slice p n c)) 28) := by rw [← hw2]; exact (Below.heap_alloc _ _ _ (by simp)).trans (heap_alloc_new w _)
  have H1 : w2.heap[w.heap.size + 1]? = some (.cells (lcs b (.slice p' n' c')) 28) := by
    rw [← hw2]
    have := heap_alloc_new (w.alloc (.cells (lcs a (.slice p n c)) 28)) (.cells (lcs b (.slice p' n' c')) 28)
    simpa using this
  have HB : Hid (Below w.heap.size w w2) := by show Below _ _ _; rw [← hw2]; exact bel_alloc (bel_alloc (Below.refl _ _) _) _
  obtain ⟨c0, c1, l2, l3, l4⟩ := box_all H0
  obtain ⟨d0, d1, m2, m3, m4⟩ := box_all H1
  have c17 := cell17 H0
  have d17 := cell17 H1
  have L2 : Hid _ := l2
  have L3 : Hid _ := l3
  have L4 : Hid _ := l4
  have M2 : Hid _ := m2
  have M3 : Hid _ := m3
  have M4 : Hid _ := m4
  have E2 := fun u => run_neq_val u a.vk a.vn a.vs b.vk b.vn b.vs
  have E3 := fun u => run_neq_refB u a.b1 a.h1 a.r1 a.c1 a.fr1 a.fc1 b.b1 b.h1 b.r1 b.c1 b.fr1 b.fc1
  have E4 := fun u => run_neq_refB u a.b2 a.h2 a.r2 a.c2 a.fr2 a.fc2 b.b2 b.h2 b.r2 b.c2 b.fr2 b.fc2
  rw [hv] at E2
  rw [hr] at E3
  have hkn := bne_of hk
  have hsn := bne_of hs
  have G2 := guard23
  have G3 := guard25
  clear H0 H1 l2 l3 l4 m2 m3 m4
  generalize lcs a (.slice p n c) = bx at *
  generalize lcs b (.slice p' n' c') = bz at *
  obtain ⟨k, s, vk, vn, vs, b1, x1, r1, c1_, f1, g1, b2, x2, r2, c2, f2, g2⟩ := a
  obtain ⟨k', s', vk', vn', vs', b1', x1', r1', c1', f1', g1', b2', x2', r2', c2', f2', g2'⟩ := b
  dsimp only at *
  go_enter Tryz.func11, Tryz.ntmps11
  go_wp2_with (first
    | (refine wpList_load_g 23 _ rfl _ _ rfl L2.out (by go_simp) ?_; clear L2)
    | (refine wpList_load_g 23 _ rfl _ _ rfl M2.out (by go_simp) ?_; clear M2)
    | (refine wpList_load_g 25 _ rfl _ _ rfl L3.out (by go_simp) ?_; clear L3)
    | (refine wpList_load_g 25 _ rfl _ _ rfl M3.out (by go_simp) ?_; clear M3))
  go_ret
  exact ⟨by first | rfl | (simp; done), HB.out⟩
end
end Go.Proofs.YtljfkkpkcjigpaaGreatDoor

namespace Go.Proofs.YtljfkkpkcjigpaaGreatDoor
open Go.RowKit Go.Fm
set_option maxRecDepth 100000
section
variable {a b : Lab} {p p' : Option Addr} {n n' c c' : Nat}
set_option maxHeartbeats 4000000 in
theorem rsame_4 (hk : (a.k == b.k) = true) (hs : (a.s.toList == b.s.toList) = true) (hv : veB a.vk a.vn a.vs b.vk b.vn b.vs = true) (hr : reB a.b1 a.h1 a.r1 a.c1 a.fr1 a.fc1 b.b1 b.h1 b.r1 b.c1 b.fr1 b.fc1 = true) (ht : reB a.b2 a.h2 a.r2 a.c2 a.fr2 a.fc2 b.b2 b.h2 b.r2 b.c2 b.fr2 b.fc2 = false) (w : World) : Calls Tryz.prog 11 #[.agg (lcs a (.slice p n c)), .agg (lcs b (.slice p' n' c'))] w fun e w' => e = .returned (.bool false) ∧ Below w.heap.size w w' := by
  obtain ⟨w2, hw2⟩ : ∃ w2, (w.alloc (.cells (lcs a (.slice p n c)) 28)).alloc (.cells (lcs b (.slice p' n' c')) 28) = w2 := ⟨_, rfl⟩
  have H0 : w2.heap[w.heap.size]? = some (.cells (lcs a (.slice p n c)) 28) := by rw [← hw2]; exact (Below.heap_alloc _ _ _ (by simp)).trans (heap_alloc_new w _)
  have H1 : w2.heap[w.heap.size + 1]? = some (.cells (lcs b (.slice p' n' c')) 28) := by
    rw [← hw2]
    have := heap_alloc_new (w.alloc (.cells (lcs a (.slice p n c)) 28)) (.cells (lcs b (.slice p' n' c')) 28)
    simpa using this
  have HB : Hid (Below w.heap.size w w2) := by show Below _ _ _; rw [← hw2]; exact bel_alloc (bel_alloc (Below.refl _ _) _) _
  obtain ⟨c0, c1, l2, l3, l4⟩ := box_all H0
  obtain ⟨d0, d1, m2, m3, m4⟩ := box_all H1
  have c17 := cell17 H0
  have d17 := cell17 H1
  have L2 : Hid _ := l2
  have L3 : Hid _ := l3
  have L4 : Hid _ := l4
  have M2 : Hid _ := m2
  have M3 : Hid _ := m3
  have M4 : Hid _ := m4
  have E2 := fun u => run_neq_val u a.vk a.vn a.vs b.vk b.vn b.vs
  have E3 := fun u => run_neq_refB u a.b1 a.h1 a.r1 a.c1 a.fr1 a.fc1 b.b1 b.h1 b.r1 b.c1 b.fr1 b.fc1
  have E4 := fun u => run_neq_refB u a.b2 a.h2 a.r2 a.c2 a.fr2 a.fc2 b.b2 b.h2 b.r2 b.c2 b.fr2 b.fc2
  rw [hv] at E2
  rw [hr] at E3
  rw [ht] at E4
  have hkn := bne_of hk
  have hsn := bne_of hs
  have G2 := guard23
  have G3 := guard25
  clear H0 H1 l2 l3 l4 m2 m3 m4
  generalize lcs a (.slice p n c) = bx at *
  generalize lcs b (.slice p' n' c') = bz at *
  obtain ⟨k, s, vk, vn, vs, b1, x1, r1, c1_, f1, g1, b2, x2, r2, c2, f2, g2⟩ := a
  obtain ⟨k', s', vk', vn', vs', b1', x1', r1', c1', f1', g1', b2', x2', r2', c2', f2', g2'⟩ := b
  dsimp only at *
  go_enter Tryz.func11, Tryz.ntmps11
  go_wp2_with (first
    | (refine wpList_load_g 23 _ rfl _ _ rfl L2.out (by go_simp) ?_; clear L2)
    | (refine wpList_load_g 23 _ rfl _ _ rfl M2.out (by go_simp) ?_; clear M2)
    | (refine wpList_load_g 25 _ rfl _ _ rfl L3.out (by go_simp) ?_; clear L3)
    | (refine wpList_load_g 25 _ rfl _ _ rfl M3.out (by go_simp) ?_; clear M3)
    | (refine wpList_load_g 25 _ rfl _ _ rfl L4.out (by go_simp) ?_; clear L4)
    | (refine wpList_load_g 25 _ rfl _ _ rfl M4.out (by go_simp) ?_; clear M4))
  go_ret
  exact ⟨by first | rfl | (simp; done), HB.out⟩
end
end Go.Proofs.YtljfkkpkcjigpaaGreatDoor

namespace Go.Proofs.YtljfkkpkcjigpaaGreatDoor
open Go.RowKit Go.Fm
set_option maxRecDepth 100000
theorem rsame_any : ∀ s : T, zT s ≤ 1000000 → ∀ (t : T) (w : World) (es es' : Array Value), NT w es s → NT w es' t → Calls Tryz.prog 11 #[.agg es, .agg es'] w fun e w' => e = .returned (.bool (sT s t)) ∧ Below w.heap.size w w' := by
  refine ind ?_
  intro s ih hz t w es es' h1 h2
  obtain ⟨p, n, c, rfl, k1⟩ := h1
  obtain ⟨p', n', c', rfl, k2⟩ := h2
  unfold sT labB
  cases hk : (s.1.k == t.1.k)
  · exact rsame_0 hk w
  cases hs : (s.1.s.toList == t.1.s.toList)
  · exact rsame_1 hk hs w
  cases hv : veB s.1.vk s.1.vn s.1.vs t.1.vk t.1.vn t.1.vs
  · exact rsame_2 hk hs hv w
  cases hr : reB s.1.b1 s.1.h1 s.1.r1 s.1.c1 s.1.fr1 s.1.fc1 t.1.b1 t.1.h1 t.1.r1 t.1.c1 t.1.fr1 t.1.fc1
  · exact rsame_3 hk hs hv hr w
  cases ht : reB s.1.b2 s.1.h2 s.1.r2 s.1.c2 s.1.fr2 s.1.fc2 t.1.b2 t.1.h2 t.1.r2 t.1.c2 t.1.fr2 t.1.fc2
  · exact rsame_4 hk hs hv hr ht w
  by_cases hl : n = n'
  · subst hl
    have := kids_le s
    have hk1 := k1.1
    exact rsame_yes hk hs hv hr ht k1 k2 (by omega) (fun s' hs' => ih s' hs' (by have := zT_kid hs'; omega))
  · have hf : sF s.2 t.2 = false := by
      cases hq : sF s.2 t.2
      · rfl
      · exact absurd (by rw [k1.1, k2.1]; exact ((sF_kids _ _).1 hq).1) hl
    rw [hf]
    exact rsame_5 hk hs hv hr ht (by simp; omega) w
end Go.Proofs.YtljfkkpkcjigpaaGreatDoor

namespace Go.Proofs.YtljfkkpkcjigpaaGreatDoor
open Go.RowKit Go.Fm
set_option maxRecDepth 100000
section
variable {W u : World} {g : Nat} {L : List TT} {a : Lab} {ad : Addr} {n c : Nat} {es es1 : Array Value} {s s1 : T} {K K1 : List Tk.Tok}
set_option maxHeartbeats 4000000 in
theorem un_pct (X : WX W g L u) (h1 : (a.s.toList == [45]) = false) (R : ∀ u, Below W.heap.size W u → Hid ((Instr.loadAt 28 (.pointer (some (ad.add (0 * 18))))).run Tryz.prog u = .ok (.agg es) u)) (hs : NT W es s)
    (hn : L.length + K.length + 4 ≤ 1000000) {m : Nat} (hm : L.length + 2 ≤ m) (C : NC W g es (K.map tk) m) :
    Calls Tryz.prog 60 #[.pointer (some ⟨g, 0, none⟩), .agg (lcs a (.slice (some ad) 1 c))] u fun e u' => e = .returned (.tuple #[]) ∧ WS W g (L ++ (wrapK (holdN s.1, K) 7).map tk ++ [tOp ⟨#[37]⟩]) u u' := by
  have Zc : Hid (ZZ W g L u (lcs a (.slice (some ad) 1 c)) (u.alloc (.cells (lcs a (.slice (some ad) 1 c)) 28))) := ZZ.begin X _
  obtain ⟨c1, c17⟩ := Zc.out.cel
  have RL := R _ Zc.out.w.1.bel
  have hw := wrap_len (holdN s.1, K) 7
  have N1 : Hid ((L ++ (wrapK (holdN s.1, K) 7).map tk).length + 1 ≤ 1000000) := by show _ ≤ _; simp at hw ⊢; omega
  have HO := fun (u' : World) (Z : ZZ W g L u (lcs a (.slice (some ad) 1 c)) u') => holding_any (K := K) Z.w.1 hs (m := m) (by omega) (by omega) C 7
  clear X hn hm C hw
  generalize lcs a (.slice (some ad) 1 c) = bx at *
  generalize (wrapK (holdN s.1, K) 7).map tk = M at *
  go_enter Tryz.func60, Tryz.ntmps60
  go_wp2_with (first
    | (refine wpList_load_run rfl 28 _ rfl _ _ rfl RL.out ?_)
    | (go_at_call 104; refine (HO _ Zc.out).mono ?_; rintro e w1 ⟨rfl, hs1⟩; have Zc1 := Zc.out.ws hs1; clear hs1 Zc c1 c17; have Zc : Hid _ := Zc1; clear Zc1)
    | (go_at_call 58; refine (optok_any _ _).mono ?_; rintro e w1 ⟨rfl, hb⟩; have Zc1 := Zc.out.bel hb; clear hb Zc; have Zc : Hid _ := Zc1; clear Zc1)
    | (refine wpList_bslice_run rfl 46 1 _ rfl _ _ _ (by go_simp) (top_one _ _) ?_)
    | (go_at_call 55; refine (Zc.out.put (M := [tOp ⟨#[37]⟩]) rfl (by simp) N1.out).mono ?_; rintro e w1 ⟨rfl, Zc1⟩; clear Zc; have Zc : Hid _ := Zc1; clear Zc1))
  go_end0
  exact ⟨rfl, Zc.out.w⟩
theorem strn_le (l : List UInt8) : strn l ≤ 7 := by
  unfold strn
  repeat' split
  all_goals omega
set_option maxHeartbeats 8000000 in
theorem bin_any (X : WX W g L u) (R0 : ∀ u, Below W.heap.size W u → Hid ((Instr.loadAt 28 (.pointer (some (ad.add (0 * 18))))).run Tryz.prog u = .ok (.agg es) u)) (hs : NT W es s)
    (R1 : ∀ u, Below W.heap.size W u → Hid ((Instr.loadAt 28 (.pointer (some (ad.add (1 * 18))))).run Tryz.prog u = .ok (.agg es1) u)) (hs1 : NT W es1 s1)
    (hn : L.length + K.length + K1.length + 6 ≤ 1000000) {m m1 : Nat} (hm : L.length + 2 ≤ m) (hm1 : L.length + K.length + 5 ≤ m1) (C : NC W g es (K.map tk) m) (C1 : NC W g es1 (K1.map tk) m1) :
    Calls Tryz.prog 61 #[.pointer (some ⟨g, 0, none⟩), .agg (lcs a (.slice (some ad) 2 c))] u fun e u' => e = .returned (.tuple #[]) ∧ WS W g (L ++ (wrapK (holdN s.1, K) (strn a.s.toList)).map tk ++ [tOp a.s] ++ (wrapK (holdN s1.1, K1) (strn a.s.toList + 1)).map tk) u u' := by
  have Zc : Hid (ZZ W g L u (lcs a (.slice (some ad) 2 c)) (u.alloc (.cells (lcs a (.slice (some ad) 2 c)) 28))) := ZZ.begin X _
  obtain ⟨c1, c17⟩ := Zc.out.cel
  have ZC : ∀ (L : List TT) (cur : World), ZZ W g L u (lcs a (.slice (some ad) 2 c)) cur → cur.cell? ⟨u.heap.size, 1, none⟩ = some (.string a.s) ∧ cur.cell? ⟨u.heap.size, 17, none⟩ = some (.slice (some ad) 2 c) := fun L cur h => h.cel
  have ST := fun w => strength_b a.s w
  have hN := strn_le a.s.toList
  have hwr : IntKind.i64.wrap ((strn a.s.toList : Int) + 1) = (strn a.s.toList : Int) + 1 := by simp [IntKind.wrap, IntKind.bits, IntKind.signed]; omega
  have RL := R0 _ Zc.out.w.1.bel
  have hw := wrap_len (holdN s.1, K) (strn a.s.toList)
  have N1 : Hid ((L ++ (wrapK (holdN s.1, K) (strn a.s.toList)).map tk).length + 1 ≤ 1000000) := by show _ ≤ _; simp at hw ⊢; omega
  have HO := fun (u' : World) (Z : ZZ W g L u (lcs a (.slice (some ad) 2 c)) u') => holding_any (K := K) Z.w.1 hs (m := m) (by omega) (by omega) C (strn a.s.toList)
  have HO1 := fun (u' : World) (Z : ZZ W g (L ++ (wrapK (holdN s.1, K) (strn a.s.toList)).map tk ++ [tOp a.s]) u (lcs a (.slice (some ad) 2 c)) u') => holding_any (K := K1) Z.w.1 hs1 (m := m1) (by simp at hw ⊢; omega) (by simp at hw ⊢; omega) C1 (strn a.s.toList + 1)
  have HO1' : ∀ (u' : World) (Z : ZZ W g (L ++ (wrapK (holdN s.1, K) (strn a.s.toList)).map tk ++ [tOp a.s]) u (lcs a (.slice (some ad) 2 c)) u'), Calls Tryz.prog 104 #[.pointer (some ⟨g, 0, none⟩), .agg es1, .int .i64 ((strn a.s.toList : Int) + 1)] u' fun e u'' => e = .returned (.tuple #[]) ∧ WS W g (L ++ (wrapK (holdN s.1, K) (strn a.s.toList)).map tk ++ [tOp a.s] ++ (wrapK (holdN s1.1, K1) (strn a.s.toList + 1)).map tk) u' u'' := fun u' Z => by
    have := HO1 u' Z
    simpa using this
  clear X hn hm hm1 C C1 hw HO1 hN
  generalize lcs a (.slice (some ad) 2 c) = bx at *
  generalize (wrapK (holdN s.1, K) (strn a.s.toList)).map tk = M at *
  generalize (wrapK (holdN s1.1, K1) (strn a.s.toList + 1)).map tk = M1 at *
  generalize strn a.s.toList = N at *
  go_enter Tryz.func61, Tryz.ntmps61
  go_wp2_with (first
    | (go_at_call 95; refine (ST _).mono ?_; rintro e w1 ⟨rfl, hw⟩; obtain rfl := hw.symm; clear hw)
    | (refine wpList_load_run rfl 28 _ rfl _ _ rfl RL.out ?_; clear RL)
    | (go_at_call 104; refine (HO _ Zc.out).mono ?_; rintro e w1 ⟨rfl, hs1⟩; have Zc1 := Zc.out.ws hs1; clear hs1 Zc c1 c17 HO; obtain ⟨c1, c17⟩ := ZC _ _ Zc1; have Zc : Hid _ := Zc1; clear Zc1)
    | (go_at_call 58; refine (optok_any _ _).mono ?_; rintro e w1 ⟨rfl, hb⟩; have Zc1 := Zc.out.bel hb; clear hb Zc c1 c17; have Zc : Hid _ := Zc1; clear Zc1)
    | (refine wpList_bslice_run rfl 46 1 _ rfl _ _ _ (by go_simp) (top_one _ _) ?_)
    | (go_at_call 55; refine (Zc.out.put (M := [tOp a.s]) rfl (by simp) N1.out).mono ?_; rintro e w1 ⟨rfl, Zc1⟩; clear Zc; obtain ⟨c1, c17⟩ := ZC _ _ Zc1; have Zc : Hid _ := Zc1; clear Zc1; have RL := R1 _ Zc.out.w.1.bel)
    | (go_at_call 104; go_loud (refine (HO1' _ Zc.out).mono ?_; rintro e w1 ⟨rfl, hs1⟩; have Zf := Zc.out.w.step hs1; clear hs1)))
  go_end0
  exact ⟨rfl, Zf⟩
end
end Go.Proofs.YtljfkkpkcjigpaaGreatDoor
