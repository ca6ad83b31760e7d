/- RQ, RSameY, RSame1, RSame2, RSame3, RSame4, RSame. -/
import Derived.Test.YtljmklbbngpllaaGreatDoorRCell9Bk
set_option linter.unusedVariables false
set_option linter.unusedSimpArgs false
set_option maxHeartbeats 16000000
set_option maxRecDepth 100000
namespace Go.Proofs.YtljmklbbngpllaaGreatDoor
open Go.RowKit Go.Fm
structure RQ (w : World) (a : Lab) (sl : Value) (g : Nat) (b : Lab) (sb : Value) (u : World) : Prop where
 n : u.heap[w.heap.size]? = some (.cells (lcs a sl) 28)
 t : u.heap[g]? = some (.cells (lcs b sb) 28)
 lt : w.heap.size < g
 b : Below w.heap.size w u
theorem RQ.below {w u u' : World} {a b : Lab} {sl sb : Value} {g : Nat} (h : RQ w a sl g b sb u) (hb : Below u.heap.size u u') : RQ w a sl g b sb u' :=
 ⟨(hb.block _ (aW h.n)).trans h.n, (hb.block _ (aW h.t)).trans h.t, h.lt, aJ h.b hb⟩
theorem RQ.drew {w u : World} {a b : Lab} {sl sb : Value} {g : Nat} (h : RQ w a sl g b sb u) : RQ w a sl g b sb u.drew := ⟨h.n, h.t, h.lt, h.b.drew⟩
theorem aIO {u : World} {g : Nat} {cs : Array Value} (h : u.heap[g]? = some (.cells cs 28)) : ∀ (vs : List Value) (o : Nat), ∃ cs' : Array Value, (u.setCells g o vs).heap[g]? = some (.cells cs' 28) ∧ cs' = (vs.zipIdx o).foldl (fun c x => c.setIfInBounds x.2 x.1) cs := by
 intro vs
 induction vs generalizing u cs with
 | nil => intro o; exact ⟨cs, h, rfl⟩
 | cons v vs ih =>
  intro o
  have h2 : (u.setCell ⟨g, o, none⟩ v).heap[g]? = some (.cells (cs.setIfInBounds o v) 28) := by
   simp [World.setCell, Array.getElem?_modify, h]
  exact ih h2 (o + 1)
theorem RQ.set {w u : World} {a b b' : Lab} {sl sb sb' : Value} {g : Nat} (h : RQ w a sl g b sb u) (ty : TypeId) (o : Nat) (cs : Array Value) (hi : (Tryz.prog.info? ty).map (·.size) = some cs.size) (ho : o + cs.size ≤ 18) (h1 : cs.all (·.oneCell') = true)
  (he : (cs.toList.zipIdx o).foldl (fun c x => c.setIfInBounds x.2 x.1) (lcs b sb) = lcs b' sb') :
  ∃ u', Hid ((Instr.storeAt ty (.pointer (some ⟨g, o, none⟩)) (.agg cs)).run Tryz.prog u = .ok () u') ∧ RQ w a sl g b' sb' u' := by
 have hth : u.there g o cs.size := fun j hj => ⟨by
  rw [cell_of_row u g (o + j) _ 28 _ h.t, Array.getElem?_eq_getElem (by rw [aV]; omega)]
  rfl, by simp [World.frozen?, h.t]⟩
 refine ⟨u.setCells g o cs.toList, run_storeAt_mid (P := Tryz.prog) u g o ty cs hth hi h1, ?_⟩
 have hg := iP g cs.toList o u
 obtain ⟨cs', e1, e2⟩ := aIO h.t cs.toList o
 rw [he] at e2
 rw [e2] at e1
 exact ⟨(hg.block _ (aW h.n) (fun e => by have := Option.some.inj e; have := h.lt; omega)).trans h.n, e1, h.lt, h.b.grown hg h.b.size (fun k e => by cases e; exact Nat.le_of_lt h.lt)⟩
theorem gF {x : Bool} {α : Type} [BEq α] {a b : α} (h : (a == b) = x) : (a != b) = !x := by rw [bne, h]
section
variable {a b : Lab} {p p' : Option Addr} {n n' c c' : Nat}
theorem aIP (hk : (a.k == b.k) = false) (w : World) : Calls Tryz.prog 13 #[.agg (lcs a (.slice p n c)), .agg (lcs b (.slice p' n' c'))] w fun e w' => e = .returned (.bool false) ∧ Below w.heap.size w w' := by
 obtain ⟨w2, hw2⟩ : ∃ w2, (w.alloc (.cells (lcs a (.slice p n c)) 28)).alloc (.cells (lcs b (.slice p' n' c')) 28) = w2 := ⟨_, rfl⟩
 have H0 : w2.heap[w.heap.size]? = some (.cells (lcs a (.slice p n c)) 28) := by rw [← hw2]; exact (Below.heap_alloc _ _ _ (by simp)).trans (heap_alloc_new w _)
 have H1 : w2.heap[w.heap.size + 1]? = some (.cells (lcs b (.slice p' n' c')) 28) := by
  rw [← hw2]
  have := heap_alloc_new (w.alloc (.cells (lcs a (.slice p n c)) 28)) (.cells (lcs b (.slice p' n' c')) 28)
  simpa using this
 have HB : Hid (Below w.heap.size w w2) := by show Below _ _ _; rw [← hw2]; exact aC (aC (Below.refl _ _) _) _
 obtain ⟨c0, c1, l2, l3, l4⟩ := aL H0
 obtain ⟨d0, d1, m2, m3, m4⟩ := aL H1
 have c17 := aU H0
 have d17 := aU H1
 have L2 : Hid _ := l2
 have L3 : Hid _ := l3
 have L4 : Hid _ := l4
 have M2 : Hid _ := m2
 have M3 : Hid _ := m3
 have M4 : Hid _ := m4
 have E2 := fun u => eT u a.vk a.vn a.vs b.vk b.vn b.vs
 have E3 := fun u => bE u a.b1 a.h1 a.r1 a.c1 a.fr1 a.fc1 b.b1 b.h1 b.r1 b.c1 b.fr1 b.fc1
 have E4 := fun u => bE u a.b2 a.h2 a.r2 a.c2 a.fr2 a.fc2 b.b2 b.h2 b.r2 b.c2 b.fr2 b.fc2
 have hkn := gF hk
 have G2 := eZ
 have G3 := dO
 clear H0 H1 l2 l3 l4 m2 m3 m4
 generalize lcs a (.slice p n c) = bx at *
 generalize lcs b (.slice p' n' c') = bz at *
 obtain ⟨k, s, vk, vn, vs, b1, x1, r1, c1_, f1, g1, b2, x2, r2, c2, f2, g2⟩ := a
 obtain ⟨k', s', vk', vn', vs', b1', x1', r1', c1', f1', g1', b2', x2', r2', c2', f2', g2'⟩ := b
 dsimp only at *
 go_enter Tryz.func13, Tryz.ntmps13
 go_wp2_with (first
  | (refine aI 23 _ rfl _ _ rfl L2.out (by go_simp) ?_)
  | (refine aI 23 _ rfl _ _ rfl M2.out (by go_simp) ?_)
  | (refine aI 25 _ rfl _ _ rfl L3.out (by go_simp) ?_)
  | (refine aI 25 _ rfl _ _ rfl M3.out (by go_simp) ?_)
  | (refine aI 25 _ rfl _ _ rfl L4.out (by go_simp) ?_)
  | (refine aI 25 _ rfl _ _ rfl M4.out (by go_simp) ?_))
 go_ret
 exact ⟨by first | rfl | (simp; done), HB.out⟩
theorem aIQ (hk : (a.k == b.k) = true) (hs : (a.s.toList == b.s.toList) = true) (hv : veB a.vk a.vn a.vs b.vk b.vn b.vs = true) (hr : reB a.b1 a.h1 a.r1 a.c1 a.fr1 a.fc1 b.b1 b.h1 b.r1 b.c1 b.fr1 b.fc1 = true) (ht : reB a.b2 a.h2 a.r2 a.c2 a.fr2 a.fc2 b.b2 b.h2 b.r2 b.c2 b.fr2 b.fc2 = true) (hl : ((n : Int) == (n' : Int)) = false) (w : World) : Calls Tryz.prog 13 #[.agg (lcs a (.slice p n c)), .agg (lcs b (.slice p' n' c'))] w fun e w' => e = .returned (.bool false) ∧ Below w.heap.size w w' := by
 obtain ⟨w2, hw2⟩ : ∃ w2, (w.alloc (.cells (lcs a (.slice p n c)) 28)).alloc (.cells (lcs b (.slice p' n' c')) 28) = w2 := ⟨_, rfl⟩
 have H0 : w2.heap[w.heap.size]? = some (.cells (lcs a (.slice p n c)) 28) := by rw [← hw2]; exact (Below.heap_alloc _ _ _ (by simp)).trans (heap_alloc_new w _)
 have H1 : w2.heap[w.heap.size + 1]? = some (.cells (lcs b (.slice p' n' c')) 28) := by
  rw [← hw2]
  have := heap_alloc_new (w.alloc (.cells (lcs a (.slice p n c)) 28)) (.cells (lcs b (.slice p' n' c')) 28)
  simpa using this
 have HB : Hid (Below w.heap.size w w2) := by show Below _ _ _; rw [← hw2]; exact aC (aC (Below.refl _ _) _) _
 obtain ⟨c0, c1, l2, l3, l4⟩ := aL H0
 obtain ⟨d0, d1, m2, m3, m4⟩ := aL H1
 have c17 := aU H0
 have d17 := aU H1
 have L2 : Hid _ := l2
 have L3 : Hid _ := l3
 have L4 : Hid _ := l4
 have M2 : Hid _ := m2
 have M3 : Hid _ := m3
 have M4 : Hid _ := m4
 have E2 := fun u => eT u a.vk a.vn a.vs b.vk b.vn b.vs
 have E3 := fun u => bE u a.b1 a.h1 a.r1 a.c1 a.fr1 a.fc1 b.b1 b.h1 b.r1 b.c1 b.fr1 b.fc1
 have E4 := fun u => bE u a.b2 a.h2 a.r2 a.c2 a.fr2 a.fc2 b.b2 b.h2 b.r2 b.c2 b.fr2 b.fc2
 rw [hv] at E2
 rw [hr] at E3
 rw [ht] at E4
 have hkn := gF hk
 have hsn := gF hs
 have hln := gF hl
 have G2 := eZ
 have G3 := dO
 clear H0 H1 l2 l3 l4 m2 m3 m4
 generalize lcs a (.slice p n c) = bx at *
 generalize lcs b (.slice p' n' c') = bz at *
 obtain ⟨k, s, vk, vn, vs, b1, x1, r1, c1_, f1, g1, b2, x2, r2, c2, f2, g2⟩ := a
 obtain ⟨k', s', vk', vn', vs', b1', x1', r1', c1', f1', g1', b2', x2', r2', c2', f2', g2'⟩ := b
 dsimp only at *
 go_enter Tryz.func13, Tryz.ntmps13
 go_wp2_with (first
  | (refine aI 23 _ rfl _ _ rfl L2.out (by go_simp) ?_)
  | (refine aI 23 _ rfl _ _ rfl M2.out (by go_simp) ?_)
  | (refine aI 25 _ rfl _ _ rfl L3.out (by go_simp) ?_)
  | (refine aI 25 _ rfl _ _ rfl M3.out (by go_simp) ?_)
  | (refine aI 25 _ rfl _ _ rfl L4.out (by go_simp) ?_)
  | (refine aI 25 _ rfl _ _ rfl M4.out (by go_simp) ?_))
 go_ret
 exact ⟨by first | rfl | (simp; done), HB.out⟩
end
section
variable {a b : Lab} {p p' : Option Addr} {n c c' : Nat} {f g : F}
theorem aEs (hk : (a.k == b.k) = true) (hs : (a.s.toList == b.s.toList) = true) (hv : veB a.vk a.vn a.vs b.vk b.vn b.vs = true) (hr : reB a.b1 a.h1 a.r1 a.c1 a.fr1 a.fc1 b.b1 b.h1 b.r1 b.c1 b.fr1 b.fc1 = true) (ht : reB a.b2 a.h2 a.r2 a.c2 a.fr2 a.fc2 b.b2 b.h2 b.r2 b.c2 b.fr2 b.fc2 = true) {w : World} (hf : SF w p n f) (hg : SF w p' n g) (hn : n ≤ 1000000)
  (IH : ∀ s ∈ kids f, ∀ (t : T) (w : World) (es es' : Array Value), NT w es s → NT w es' t → Calls Tryz.prog 13 #[.agg es, .agg es'] w fun e w' => e = .returned (.bool (sT s t)) ∧ Below w.heap.size w w') :
  Calls Tryz.prog 13 #[.agg (lcs a (.slice p n c)), .agg (lcs b (.slice p' n c'))] w fun e w' => e = .returned (.bool (sF f g)) ∧ Below w.heap.size w w' := by
 obtain ⟨w2, hw2⟩ : ∃ w2, (w.alloc (.cells (lcs a (.slice p n c)) 28)).alloc (.cells (lcs b (.slice p' n c')) 28) = w2 := ⟨_, rfl⟩
 have H0 : w2.heap[w.heap.size]? = some (.cells (lcs a (.slice p n c)) 28) := by rw [← hw2]; exact (Below.heap_alloc _ _ _ (by simp)).trans (heap_alloc_new w _)
 have H1 : w2.heap[w.heap.size + 1]? = some (.cells (lcs b (.slice p' n c')) 28) := by
  rw [← hw2]
  have := heap_alloc_new (w.alloc (.cells (lcs a (.slice p n c)) 28)) (.cells (lcs b (.slice p' n c')) 28)
  simpa using this
 have HB : Hid (Below w.heap.size w w2) := by show Below _ _ _; rw [← hw2]; exact aC (aC (Below.refl _ _) _) _
 obtain ⟨c0, c1, l2, l3, l4⟩ := aL H0
 obtain ⟨d0, d1, m2, m3, m4⟩ := aL H1
 have c17 := aU H0
 have d17 := aU H1
 have L2 : Hid _ := l2
 have L3 : Hid _ := l3
 have L4 : Hid _ := l4
 have M2 : Hid _ := m2
 have M3 : Hid _ := m3
 have M4 : Hid _ := m4
 have E2 := fun u => eT u a.vk a.vn a.vs b.vk b.vn b.vs
 have E3 := fun u => bE u a.b1 a.h1 a.r1 a.c1 a.fr1 a.fc1 b.b1 b.h1 b.r1 b.c1 b.fr1 b.fc1
 have E4 := fun u => bE u a.b2 a.h2 a.r2 a.c2 a.fr2 a.fc2 b.b2 b.h2 b.r2 b.c2 b.fr2 b.fc2
 rw [hv] at E2
 rw [hr] at E3
 rw [ht] at E4
 have hkn := gF hk
 have hsn := gF hs
 have HF : Hid (SF w2 p n f) := by
  have : Below w.heap.size w w2 := HB.out
  exact hf.below this
 have HG : Hid (SF w2 p' n g) := by
  have : Below w.heap.size w w2 := HB.out
  exact hg.below this
 have HI : Hid (∀ s ∈ kids f, ∀ (t : T) (w : World) (es es' : Array Value), NT w es s → NT w es' t → Calls Tryz.prog 13 #[.agg es, .agg es'] w fun e w' => e = .returned (.bool (sT s t)) ∧ Below w.heap.size w w') := IH
 have HL : Hid ((kids f).length = n ∧ (kids g).length = n) := ⟨hf.1.symm, hg.1.symm⟩
 have HC : Hid (∀ u, Below w2.heap.size w2 u → u.cell? ⟨w.heap.size, 17, none⟩ = some (.slice p n c) ∧ u.cell? ⟨w.heap.size + 1, 17, none⟩ = some (.slice p' n c')) := fun u hu => ⟨bS hu c17, bS hu d17⟩
 have hln : ((n : Int) != (n : Int)) = false := by simp
 clear hf hg IH
 generalize hq : sF f g = q
 have HQ : Hid (sF f g = q) := hq
 clear hq
 have G2 := eZ
 have G3 := dO
 clear H0 H1 l2 l3 l4 m2 m3 m4
 generalize lcs a (.slice p n c) = bx at *
 generalize lcs b (.slice p' n c') = bz at *
 obtain ⟨k, s, vk, vn, vs, b1, x1, r1, c1_, f1, g1, b2, x2, r2, c2, f2, g2⟩ := a
 obtain ⟨k', s', vk', vn', vs', b1', x1', r1', c1', f1', g1', b2', x2', r2', c2', f2', g2'⟩ := b
 dsimp only at *
 go_enter Tryz.func13, Tryz.ntmps13
 go_wp2_with (first
  | (refine aI 23 _ rfl _ _ rfl L2.out (by go_simp) ?_)
  | (refine aI 23 _ rfl _ _ rfl M2.out (by go_simp) ?_)
  | (refine aI 25 _ rfl _ _ rfl L3.out (by go_simp) ?_)
  | (refine aI 25 _ rfl _ _ rfl M3.out (by go_simp) ?_)
  | (refine aI 25 _ rfl _ _ rfl L4.out (by go_simp) ?_)
  | (refine aI 25 _ rfl _ _ rfl M4.out (by go_simp) ?_))
 clear L2 L3 L4 M2 M3 M4 E2 E3 E4
 go_loopw [51] (fun i wr => ∃ k : Nat, k ≤ n ∧ i = .int .i64 (k : Nat) ∧ Hid (Below w2.heap.size w2 wr) ∧ Hid (∀ j s t, j < k → (kids f)[j]? = some s → (kids g)[j]? = some t → sT s t = true)) (fun i _ => n - (intOf i).toNat)
 case atStart => exact ⟨0, Nat.zero_le _, rfl, Below.refl _ _, fun j s t hj => absurd hj (Nat.not_lt_zero _)⟩
 case round =>
  obtain ⟨i, hi, rfl, HW, HA⟩ := hrel
  clear c17 d17
  by_cases hlt : i < n
  ·have hki : (i : Int) < n := by omega
   obtain ⟨a1, es1, s1, rfl, RU1, aAJ, hN1⟩ := HF.out.kid i hlt
   obtain ⟨a2, es2, t1, rfl, RU2, aK7, hN2⟩ := HG.out.kid i hlt
   have HI1 : Hid ((kids f)[i]? = some s1) := aAJ
   have HI2 : Hid ((kids g)[i]? = some t1) := aK7
   have SS : Hid (∀ u, Below w2.heap.size w2 u → (u.cell? ⟨w.heap.size, 17, none⟩ = some (.slice (some a1) n c) ∧ u.cell? ⟨w.heap.size + 1, 17, none⟩ = some (.slice (some a2) n c')) ∧ (Instr.loadAt 28 (.pointer (some (a1.add (i * 18))))).run Tryz.prog u = .ok (.agg es1) u ∧ (Instr.loadAt 28 (.pointer (some (a2.add (i * 18))))).run Tryz.prog u = .ok (.agg es2) u) := fun u hu => ⟨HC.out u hu, (RU1 u hu).out, (RU2 u hu).out⟩
   have HWd : Hid (Below w2.heap.size w2 wr.drew) := HW.out.drew
   have C := HI.out s1 (List.mem_of_getElem? aAJ) t1 wr.drew es1 es2 (hN1.below HWd.out) (hN2.below HWd.out)
   have HQF : Hid (sT s1 t1 = false → q = false) := fun hh => by
    rw [← HQ.out]
    cases hsf : sF f g
    ·rfl
    ·exfalso
     have := ((xH f g).1 hsf).2 i s1 t1 HI1.out HI2.out
     rw [hh] at this; cases this
   have HA2 : Hid (sT s1 t1 = true → ∀ j s t, j < i + 1 → (kids f)[j]? = some s → (kids g)[j]? = some t → sT s t = true) := fun hh j s' t' hj hs ht => by
    by_cases hjk : j < i
    ·exact HA.out j s' t' hjk hs ht
    ·have : j = i := by omega
     subst this
     rw [HI1.out] at hs
     rw [HI2.out] at ht
     cases hs; cases ht; exact hh
   clear aAJ aK7 hN1 hN2 RU1 RU2 HA HI1 HI2
   generalize hqq : sT s1 t1 = qq at *
   clear hqq
   go_wp2
   refine aM (fun u => (u.cell? ⟨w.heap.size, 17, none⟩ = some (.slice (some a1) n c) ∧ u.cell? ⟨w.heap.size + 1, 17, none⟩ = some (.slice (some a2) n c')) ∧ (Instr.loadAt 28 (.pointer (some (a1.add (i * 18))))).run Tryz.prog u = .ok (.agg es1) u ∧ (Instr.loadAt 28 (.pointer (some (a2.add (i * 18))))).run Tryz.prog u = .ok (.agg es2) u) (fun _ => false) (by kernel_rfl) ?_
   refine dwp 0 (.pointer (some ⟨w.heap.size, 17, none⟩)) ?_
   refine dX (i := 1) (v := .slice (some a1) n c) rfl rfl (by kernel_rfl) (by kernel_rfl) (by kernel_rfl) (by kernel_rfl) (fun _ _ _ h => h) (by go_simp) (fun u hSu => by have h1 := hSu.1.1; go_simp) (SS.out _ HWd.out) ?_
   try simp only [Act.put, List.setIfInBounds_toArray, List.set_cons_zero, List.set_cons_succ]
   refine dwp 2 (.int .i64 (i : Int)) ?_
   refine dwp 3 (.pointer (some (a1.add (i * 18)))) ?_
   refine dX (i := 4) (v := .agg es1) rfl rfl (by kernel_rfl) (by kernel_rfl) (by kernel_rfl) (by kernel_rfl) (fun _ _ _ h => h) (by go_simp) (fun u hSu => aG rfl rfl hSu.2.1) (SS.out _ HWd.out) ?_
   try simp only [Act.put, List.setIfInBounds_toArray, List.set_cons_zero, List.set_cons_succ]
   refine dwp 5 (.pointer (some ⟨w.heap.size + 1, 17, none⟩)) ?_
   refine dX (i := 6) (v := .slice (some a2) n c') rfl rfl (by kernel_rfl) (by kernel_rfl) (by kernel_rfl) (by kernel_rfl) (fun _ _ _ h => h) (by go_simp) (fun u hSu => by have h1 := hSu.1.2; go_simp) (SS.out _ HWd.out) ?_
   try simp only [Act.put, List.setIfInBounds_toArray, List.set_cons_zero, List.set_cons_succ]
   refine dwp 7 (.int .i64 (i : Int)) ?_
   refine dwp 8 (.pointer (some (a2.add (i * 18)))) ?_
   refine dX (i := 9) (v := .agg es2) rfl rfl (by kernel_rfl) (by kernel_rfl) (by kernel_rfl) (by kernel_rfl) (fun _ _ _ h => h) (by go_simp) (fun u hSu => aG rfl rfl hSu.2.2) (SS.out _ HWd.out) ?_
   try simp only [Act.put, List.setIfInBounds_toArray, List.set_cons_zero, List.set_cons_succ]
   refine aF (i := 10) (by kernel_rfl) rfl ?_
   intro K hK
   go_simp
   refine C.mono ?_
   rintro e w4 ⟨rfl, hb⟩
   have HW4 : Hid (Below w2.heap.size w2 w4) := aJ HWd.out hb
   clear hb
   refine hK _ _ (.inr fun _ => SS.out _ HW4.out) ?_
   clear hK C
   try simp only [Act.put, List.setIfInBounds_toArray, List.set_cons_zero, List.set_cons_succ]
   refine dwp 11 (.bool (!qq)) ?_
   refine aK (by kernel_rfl) ?_ _
   clear SS
   cases qq
   ·have HQf : Hid (q = false) := HQF.out rfl
    go_wp2
    go_ret
    exact ⟨by rw [HQf.out]; first | done | rfl, aJ HB.out HW4.out⟩
   ·have HA3 : Hid _ := HA2.out rfl
    go_wp2
    go_roundw
    case rel => exact ⟨i + 1, by omega, by go_num, HW4, HA3⟩
    case measure => simp [intOf]; omega
  ·have hki : ¬ (i : Int) < n := by omega
   have HQ2 : Hid (q = true) := by
    show _ = _
    rw [← HQ.out, xH]
    refine ⟨HL.out.1.trans HL.out.2.symm, fun j s t hs ht => HA.out j s t ?_ hs ht⟩
    have := (List.getElem?_eq_some_iff.1 hs).1
    have := HL.out.1
    omega
   clear HA
   go_wp2
   go_ret
   exact ⟨by rw [HQ2.out]; first | done | rfl, aJ HB.out HW.out⟩
end
section
variable {a b : Lab} {p p' : Option Addr} {n n' c c' : Nat}
theorem aIR (hk : (a.k == b.k) = true) (hs : (a.s.toList == b.s.toList) = false) (w : World) : Calls Tryz.prog 13 #[.agg (lcs a (.slice p n c)), .agg (lcs b (.slice p' n' c'))] w fun e w' => e = .returned (.bool false) ∧ Below w.heap.size w w' := by
 obtain ⟨w2, hw2⟩ : ∃ w2, (w.alloc (.cells (lcs a (.slice p n c)) 28)).alloc (.cells (lcs b (.slice p' n' c')) 28) = w2 := ⟨_, rfl⟩
 have H0 : w2.heap[w.heap.size]? = some (.cells (lcs a (.slice p n c)) 28) := by rw [← hw2]; exact (Below.heap_alloc _ _ _ (by simp)).trans (heap_alloc_new w _)
 have H1 : w2.heap[w.heap.size + 1]? = some (.cells (lcs b (.slice p' n' c')) 28) := by
  rw [← hw2]
  have := heap_alloc_new (w.alloc (.cells (lcs a (.slice p n c)) 28)) (.cells (lcs b (.slice p' n' c')) 28)
  simpa using this
 have HB : Hid (Below w.heap.size w w2) := by show Below _ _ _; rw [← hw2]; exact aC (aC (Below.refl _ _) _) _
 obtain ⟨c0, c1, l2, l3, l4⟩ := aL H0
 obtain ⟨d0, d1, m2, m3, m4⟩ := aL H1
 have c17 := aU H0
 have d17 := aU H1
 have L2 : Hid _ := l2
 have L3 : Hid _ := l3
 have L4 : Hid _ := l4
 have M2 : Hid _ := m2
 have M3 : Hid _ := m3
 have M4 : Hid _ := m4
 have E2 := fun u => eT u a.vk a.vn a.vs b.vk b.vn b.vs
 have E3 := fun u => bE u a.b1 a.h1 a.r1 a.c1 a.fr1 a.fc1 b.b1 b.h1 b.r1 b.c1 b.fr1 b.fc1
 have E4 := fun u => bE u a.b2 a.h2 a.r2 a.c2 a.fr2 a.fc2 b.b2 b.h2 b.r2 b.c2 b.fr2 b.fc2
 have hkn := gF hk
 have hsn := gF hs
 have G2 := eZ
 have G3 := dO
 clear H0 H1 l2 l3 l4 m2 m3 m4
 generalize lcs a (.slice p n c) = bx at *
 generalize lcs b (.slice p' n' c') = bz at *
 obtain ⟨k, s, vk, vn, vs, b1, x1, r1, c1_, f1, g1, b2, x2, r2, c2, f2, g2⟩ := a
 obtain ⟨k', s', vk', vn', vs', b1', x1', r1', c1', f1', g1', b2', x2', r2', c2', f2', g2'⟩ := b
 dsimp only at *
 go_enter Tryz.func13, Tryz.ntmps13
 go_wp2
 go_ret
 exact ⟨by first | rfl | (simp; done), HB.out⟩
end
section
variable {a b : Lab} {p p' : Option Addr} {n n' c c' : Nat}
theorem aIS (hk : (a.k == b.k) = true) (hs : (a.s.toList == b.s.toList) = true) (hv : veB a.vk a.vn a.vs b.vk b.vn b.vs = false) (w : World) : Calls Tryz.prog 13 #[.agg (lcs a (.slice p n c)), .agg (lcs b (.slice p' n' c'))] w fun e w' => e = .returned (.bool false) ∧ Below w.heap.size w w' := by
 obtain ⟨w2, hw2⟩ : ∃ w2, (w.alloc (.cells (lcs a (.slice p n c)) 28)).alloc (.cells (lcs b (.slice p' n' c')) 28) = w2 := ⟨_, rfl⟩
 have H0 : w2.heap[w.heap.size]? = some (.cells (lcs a (.slice p n c)) 28) := by rw [← hw2]; exact (Below.heap_alloc _ _ _ (by simp)).trans (heap_alloc_new w _)
 have H1 : w2.heap[w.heap.size + 1]? = some (.cells (lcs b (.slice p' n' c')) 28) := by
  rw [← hw2]
  have := heap_alloc_new (w.alloc (.cells (lcs a (.slice p n c)) 28)) (.cells (lcs b (.slice p' n' c')) 28)
  simpa using this
 have HB : Hid (Below w.heap.size w w2) := by show Below _ _ _; rw [← hw2]; exact aC (aC (Below.refl _ _) _) _
 obtain ⟨c0, c1, l2, l3, l4⟩ := aL H0
 obtain ⟨d0, d1, m2, m3, m4⟩ := aL H1
 have c17 := aU H0
 have d17 := aU H1
 have L2 : Hid _ := l2
 have L3 : Hid _ := l3
 have L4 : Hid _ := l4
 have M2 : Hid _ := m2
 have M3 : Hid _ := m3
 have M4 : Hid _ := m4
 have E2 := fun u => eT u a.vk a.vn a.vs b.vk b.vn b.vs
 have E3 := fun u => bE u a.b1 a.h1 a.r1 a.c1 a.fr1 a.fc1 b.b1 b.h1 b.r1 b.c1 b.fr1 b.fc1
 have E4 := fun u => bE u a.b2 a.h2 a.r2 a.c2 a.fr2 a.fc2 b.b2 b.h2 b.r2 b.c2 b.fr2 b.fc2
 rw [hv] at E2
 have hkn := gF hk
 have hsn := gF hs
 have G2 := eZ
 have G3 := dO
 clear H0 H1 l2 l3 l4 m2 m3 m4
 generalize lcs a (.slice p n c) = bx at *
 generalize lcs b (.slice p' n' c') = bz at *
 obtain ⟨k, s, vk, vn, vs, b1, x1, r1, c1_, f1, g1, b2, x2, r2, c2, f2, g2⟩ := a
 obtain ⟨k', s', vk', vn', vs', b1', x1', r1', c1', f1', g1', b2', x2', r2', c2', f2', g2'⟩ := b
 dsimp only at *
 go_enter Tryz.func13, Tryz.ntmps13
 go_wp2_with (first
  | (refine aI 23 _ rfl _ _ rfl L2.out (by go_simp) ?_; clear L2)
  | (refine aI 23 _ rfl _ _ rfl M2.out (by go_simp) ?_; clear M2))
 go_ret
 exact ⟨by first | rfl | (simp; done), HB.out⟩
end
section
variable {a b : Lab} {p p' : Option Addr} {n n' c c' : Nat}
theorem aIT (hk : (a.k == b.k) = true) (hs : (a.s.toList == b.s.toList) = true) (hv : veB a.vk a.vn a.vs b.vk b.vn b.vs = true) (hr : reB a.b1 a.h1 a.r1 a.c1 a.fr1 a.fc1 b.b1 b.h1 b.r1 b.c1 b.fr1 b.fc1 = false) (w : World) : Calls Tryz.prog 13 #[.agg (lcs a (.slice p n c)), .agg (lcs b (.slice p' n' c'))] w fun e w' => e = .returned (.bool false) ∧ Below w.heap.size w w' := by
 obtain ⟨w2, hw2⟩ : ∃ w2, (w.alloc (.cells (lcs a (.slice p n c)) 28)).alloc (.cells (lcs b (.slice p' n' c')) 28) = w2 := ⟨_, rfl⟩
 have H0 : w2.heap[w.heap.size]? = some (.cells (lcs a (.slice p n c)) 28) := by rw [← hw2]; exact (Below.heap_alloc _ _ _ (by simp)).trans (heap_alloc_new w _)
 have H1 : w2.heap[w.heap.size + 1]? = some (.cells (lcs b (.slice p' n' c')) 28) := by
  rw [← hw2]
  have := heap_alloc_new (w.alloc (.cells (lcs a (.slice p n c)) 28)) (.cells (lcs b (.slice p' n' c')) 28)
  simpa using this
 have HB : Hid (Below w.heap.size w w2) := by show Below _ _ _; rw [← hw2]; exact aC (aC (Below.refl _ _) _) _
 obtain ⟨c0, c1, l2, l3, l4⟩ := aL H0
 obtain ⟨d0, d1, m2, m3, m4⟩ := aL H1
 have c17 := aU H0
 have d17 := aU H1
 have L2 : Hid _ := l2
 have L3 : Hid _ := l3
 have L4 : Hid _ := l4
 have M2 : Hid _ := m2
 have M3 : Hid _ := m3
 have M4 : Hid _ := m4
 have E2 := fun u => eT u a.vk a.vn a.vs b.vk b.vn b.vs
 have E3 := fun u => bE u a.b1 a.h1 a.r1 a.c1 a.fr1 a.fc1 b.b1 b.h1 b.r1 b.c1 b.fr1 b.fc1
 have E4 := fun u => bE u a.b2 a.h2 a.r2 a.c2 a.fr2 a.fc2 b.b2 b.h2 b.r2 b.c2 b.fr2 b.fc2
 rw [hv] at E2
 rw [hr] at E3
 have hkn := gF hk
 have hsn := gF hs
 have G2 := eZ
 have G3 := dO
 clear H0 H1 l2 l3 l4 m2 m3 m4
 generalize lcs a (.slice p n c) = bx at *
 generalize lcs b (.slice p' n' c') = bz at *
 obtain ⟨k, s, vk, vn, vs, b1, x1, r1, c1_, f1, g1, b2, x2, r2, c2, f2, g2⟩ := a
 obtain ⟨k', s', vk', vn', vs', b1', x1', r1', c1', f1', g1', b2', x2', r2', c2', f2', g2'⟩ := b
 dsimp only at *
 go_enter Tryz.func13, Tryz.ntmps13
 go_wp2_with (first
  | (refine aI 23 _ rfl _ _ rfl L2.out (by go_simp) ?_; clear L2)
  | (refine aI 23 _ rfl _ _ rfl M2.out (by go_simp) ?_; clear M2)
  | (refine aI 25 _ rfl _ _ rfl L3.out (by go_simp) ?_; clear L3)
  | (refine aI 25 _ rfl _ _ rfl M3.out (by go_simp) ?_; clear M3))
 go_ret
 exact ⟨by first | rfl | (simp; done), HB.out⟩
end
section
variable {a b : Lab} {p p' : Option Addr} {n n' c c' : Nat}
theorem aIU (hk : (a.k == b.k) = true) (hs : (a.s.toList == b.s.toList) = true) (hv : veB a.vk a.vn a.vs b.vk b.vn b.vs = true) (hr : reB a.b1 a.h1 a.r1 a.c1 a.fr1 a.fc1 b.b1 b.h1 b.r1 b.c1 b.fr1 b.fc1 = true) (ht : reB a.b2 a.h2 a.r2 a.c2 a.fr2 a.fc2 b.b2 b.h2 b.r2 b.c2 b.fr2 b.fc2 = false) (w : World) : Calls Tryz.prog 13 #[.agg (lcs a (.slice p n c)), .agg (lcs b (.slice p' n' c'))] w fun e w' => e = .returned (.bool false) ∧ Below w.heap.size w w' := by
 obtain ⟨w2, hw2⟩ : ∃ w2, (w.alloc (.cells (lcs a (.slice p n c)) 28)).alloc (.cells (lcs b (.slice p' n' c')) 28) = w2 := ⟨_, rfl⟩
 have H0 : w2.heap[w.heap.size]? = some (.cells (lcs a (.slice p n c)) 28) := by rw [← hw2]; exact (Below.heap_alloc _ _ _ (by simp)).trans (heap_alloc_new w _)
 have H1 : w2.heap[w.heap.size + 1]? = some (.cells (lcs b (.slice p' n' c')) 28) := by
  rw [← hw2]
  have := heap_alloc_new (w.alloc (.cells (lcs a (.slice p n c)) 28)) (.cells (lcs b (.slice p' n' c')) 28)
  simpa using this
 have HB : Hid (Below w.heap.size w w2) := by show Below _ _ _; rw [← hw2]; exact aC (aC (Below.refl _ _) _) _
 obtain ⟨c0, c1, l2, l3, l4⟩ := aL H0
 obtain ⟨d0, d1, m2, m3, m4⟩ := aL H1
 have c17 := aU H0
 have d17 := aU H1
 have L2 : Hid _ := l2
 have L3 : Hid _ := l3
 have L4 : Hid _ := l4
 have M2 : Hid _ := m2
 have M3 : Hid _ := m3
 have M4 : Hid _ := m4
 have E2 := fun u => eT u a.vk a.vn a.vs b.vk b.vn b.vs
 have E3 := fun u => bE u a.b1 a.h1 a.r1 a.c1 a.fr1 a.fc1 b.b1 b.h1 b.r1 b.c1 b.fr1 b.fc1
 have E4 := fun u => bE u a.b2 a.h2 a.r2 a.c2 a.fr2 a.fc2 b.b2 b.h2 b.r2 b.c2 b.fr2 b.fc2
 rw [hv] at E2
 rw [hr] at E3
 rw [ht] at E4
 have hkn := gF hk
 have hsn := gF hs
 have G2 := eZ
 have G3 := dO
 clear H0 H1 l2 l3 l4 m2 m3 m4
 generalize lcs a (.slice p n c) = bx at *
 generalize lcs b (.slice p' n' c') = bz at *
 obtain ⟨k, s, vk, vn, vs, b1, x1, r1, c1_, f1, g1, b2, x2, r2, c2, f2, g2⟩ := a
 obtain ⟨k', s', vk', vn', vs', b1', x1', r1', c1', f1', g1', b2', x2', r2', c2', f2', g2'⟩ := b
 dsimp only at *
 go_enter Tryz.func13, Tryz.ntmps13
 go_wp2_with (first
  | (refine aI 23 _ rfl _ _ rfl L2.out (by go_simp) ?_; clear L2)
  | (refine aI 23 _ rfl _ _ rfl M2.out (by go_simp) ?_; clear M2)
  | (refine aI 25 _ rfl _ _ rfl L3.out (by go_simp) ?_; clear L3)
  | (refine aI 25 _ rfl _ _ rfl M3.out (by go_simp) ?_; clear M3)
  | (refine aI 25 _ rfl _ _ rfl L4.out (by go_simp) ?_; clear L4)
  | (refine aI 25 _ rfl _ _ rfl M4.out (by go_simp) ?_; clear M4))
 go_ret
 exact ⟨by first | rfl | (simp; done), HB.out⟩
end
theorem vX : ∀ s : T, zT s ≤ 1000000 → ∀ (t : T) (w : World) (es es' : Array Value), NT w es s → NT w es' t → Calls Tryz.prog 13 #[.agg es, .agg es'] w fun e w' => e = .returned (.bool (sT s t)) ∧ Below w.heap.size w w' := by
 refine ind ?_
 intro s ih hz t w es es' h1 h2
 obtain ⟨p, n, c, rfl, k1⟩ := h1
 obtain ⟨p', n', c', rfl, k2⟩ := h2
 unfold sT bO
 cases hk : (s.1.k == t.1.k)
 ·exact aIP hk w
 cases hs : (s.1.s.toList == t.1.s.toList)
 ·exact aIR hk hs w
 cases hv : veB s.1.vk s.1.vn s.1.vs t.1.vk t.1.vn t.1.vs
 ·exact aIS hk hs hv w
 cases hr : reB s.1.b1 s.1.h1 s.1.r1 s.1.c1 s.1.fr1 s.1.fc1 t.1.b1 t.1.h1 t.1.r1 t.1.c1 t.1.fr1 t.1.fc1
 ·exact aIT hk hs hv hr w
 cases ht : reB s.1.b2 s.1.h2 s.1.r2 s.1.c2 s.1.fr2 s.1.fc2 t.1.b2 t.1.h2 t.1.r2 t.1.c2 t.1.fr2 t.1.fc2
 ·exact aIU hk hs hv hr ht w
 by_cases hl : n = n'
 ·subst hl
  have := lW s
  have hk1 := k1.1
  exact aEs hk hs hv hr ht k1 k2 (by omega) (fun s' hs' => ih s' hs' (by have := kW hs'; omega))
 ·have hf : sF s.2 t.2 = false := by
   cases hq : sF s.2 t.2
   ·rfl
   ·exact absurd (by rw [k1.1, k2.1]; exact ((xH _ _).1 hq).1) hl
  rw [hf]
  exact aIQ hk hs hv hr ht (by simp; omega) w
end Go.Proofs.YtljmklbbngpllaaGreatDoor
