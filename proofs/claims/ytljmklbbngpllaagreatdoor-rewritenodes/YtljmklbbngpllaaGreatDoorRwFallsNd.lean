/- RSame2, RSame3, RSame4, RSame, FLeft, PlW0, RwMath2, RwLaw, RwFalls. -/
import Derived.Test.YtljmklbbngpllaaGreatDoorRSame1Nd
import Derived.Test.YtljmklbbngpllaaGreatDoorRwLvNd
set_option linter.unusedVariables false
set_option linter.unusedSimpArgs false
set_option maxHeartbeats 16000000
set_option maxRecDepth 100000
namespace Go.Proofs.YtljmklbbngpllaaGreatDoor
open Go.RowKit Go.Fm
section
variable {a b : Lab} {p p' : Option Addr} {n n' c c' : Nat}
theorem aIc (hk : (a.k == b.k) = true) (hs : (a.s.toList == b.s.toList) = true) (hv : veB a.vk a.vn a.vs b.vk b.vn b.vs = false) (w : World) : Calls Tryz.prog 13 #[.agg (lcs a (.slice p n c)), .agg (lcs b (.slice p' n' c'))] w fun e w' => e = .returned (.bool false) ∧ Below w.heap.size w w' := by
 obtain ⟨w2, hw2⟩ : ∃ w2, (w.alloc (.cells (lcs a (.slice p n c)) 28)).alloc (.cells (lcs b (.slice p' n' c')) 28) = w2 := ⟨_, rfl⟩
 have H0 : w2.heap[w.heap.size]? = some (.cells (lcs a (.slice p n c)) 28) := by rw [← hw2]; exact (Below.heap_alloc _ _ _ (by simp)).trans (heap_alloc_new w _)
 have H1 : w2.heap[w.heap.size + 1]? = some (.cells (lcs b (.slice p' n' c')) 28) := by
  rw [← hw2]
  have := heap_alloc_new (w.alloc (.cells (lcs a (.slice p n c)) 28)) (.cells (lcs b (.slice p' n' c')) 28)
  simpa using this
 have HB : Hid (Below w.heap.size w w2) := by show Below _ _ _; rw [← hw2]; exact aA (aA (Below.refl _ _) _) _
 obtain ⟨c0, c1, l2, l3, l4⟩ := aN H0
 obtain ⟨d0, d1, m2, m3, m4⟩ := aN H1
 have c17 := aY H0
 have d17 := aY H1
 have L2 : Hid _ := l2
 have L3 : Hid _ := l3
 have L4 : Hid _ := l4
 have M2 : Hid _ := m2
 have M3 : Hid _ := m3
 have M4 : Hid _ := m4
 have E2 := fun u => dZ u a.vk a.vn a.vs b.vk b.vn b.vs
 have E3 := fun u => bD u a.b1 a.h1 a.r1 a.c1 a.fr1 a.fc1 b.b1 b.h1 b.r1 b.c1 b.fr1 b.fc1
 have E4 := fun u => bD u a.b2 a.h2 a.r2 a.c2 a.fr2 a.fc2 b.b2 b.h2 b.r2 b.c2 b.fr2 b.fc2
 rw [hv] at E2
 have hkn := fK hk
 have hsn := fK hs
 have G2 := eG
 have G3 := dH
 clear H0 H1 l2 l3 l4 m2 m3 m4
 generalize lcs a (.slice p n c) = bx at *
 generalize lcs b (.slice p' n' c') = bz at *
 obtain ⟨k, s, vk, vn, vs, b1, x1, r1, c1_, f1, g1, b2, x2, r2, c2, f2, g2⟩ := a
 obtain ⟨k', s', vk', vn', vs', b1', x1', r1', c1', f1', g1', b2', x2', r2', c2', f2', g2'⟩ := b
 dsimp only at *
 go_enter Tryz.func13, Tryz.ntmps13
 go_wp2_with (first
  | (refine aF 23 _ rfl _ _ rfl L2.out (by go_simp) ?_; clear L2)
  | (refine aF 23 _ rfl _ _ rfl M2.out (by go_simp) ?_; clear M2))
 go_ret
 exact ⟨by first | rfl | (simp; done), HB.out⟩
end
section
variable {a b : Lab} {p p' : Option Addr} {n n' c c' : Nat}
theorem aId (hk : (a.k == b.k) = true) (hs : (a.s.toList == b.s.toList) = true) (hv : veB a.vk a.vn a.vs b.vk b.vn b.vs = true) (hr : reB a.b1 a.h1 a.r1 a.c1 a.fr1 a.fc1 b.b1 b.h1 b.r1 b.c1 b.fr1 b.fc1 = false) (w : World) : Calls Tryz.prog 13 #[.agg (lcs a (.slice p n c)), .agg (lcs b (.slice p' n' c'))] w fun e w' => e = .returned (.bool false) ∧ Below w.heap.size w w' := by
 obtain ⟨w2, hw2⟩ : ∃ w2, (w.alloc (.cells (lcs a (.slice p n c)) 28)).alloc (.cells (lcs b (.slice p' n' c')) 28) = w2 := ⟨_, rfl⟩
 have H0 : w2.heap[w.heap.size]? = some (.cells (lcs a (.slice p n c)) 28) := by rw [← hw2]; exact (Below.heap_alloc _ _ _ (by simp)).trans (heap_alloc_new w _)
 have H1 : w2.heap[w.heap.size + 1]? = some (.cells (lcs b (.slice p' n' c')) 28) := by
  rw [← hw2]
  have := heap_alloc_new (w.alloc (.cells (lcs a (.slice p n c)) 28)) (.cells (lcs b (.slice p' n' c')) 28)
  simpa using this
 have HB : Hid (Below w.heap.size w w2) := by show Below _ _ _; rw [← hw2]; exact aA (aA (Below.refl _ _) _) _
 obtain ⟨c0, c1, l2, l3, l4⟩ := aN H0
 obtain ⟨d0, d1, m2, m3, m4⟩ := aN H1
 have c17 := aY H0
 have d17 := aY H1
 have L2 : Hid _ := l2
 have L3 : Hid _ := l3
 have L4 : Hid _ := l4
 have M2 : Hid _ := m2
 have M3 : Hid _ := m3
 have M4 : Hid _ := m4
 have E2 := fun u => dZ u a.vk a.vn a.vs b.vk b.vn b.vs
 have E3 := fun u => bD u a.b1 a.h1 a.r1 a.c1 a.fr1 a.fc1 b.b1 b.h1 b.r1 b.c1 b.fr1 b.fc1
 have E4 := fun u => bD u a.b2 a.h2 a.r2 a.c2 a.fr2 a.fc2 b.b2 b.h2 b.r2 b.c2 b.fr2 b.fc2
 rw [hv] at E2
 rw [hr] at E3
 have hkn := fK hk
 have hsn := fK hs
 have G2 := eG
 have G3 := dH
 clear H0 H1 l2 l3 l4 m2 m3 m4
 generalize lcs a (.slice p n c) = bx at *
 generalize lcs b (.slice p' n' c') = bz at *
 obtain ⟨k, s, vk, vn, vs, b1, x1, r1, c1_, f1, g1, b2, x2, r2, c2, f2, g2⟩ := a
 obtain ⟨k', s', vk', vn', vs', b1', x1', r1', c1', f1', g1', b2', x2', r2', c2', f2', g2'⟩ := b
 dsimp only at *
 go_enter Tryz.func13, Tryz.ntmps13
 go_wp2_with (first
  | (refine aF 23 _ rfl _ _ rfl L2.out (by go_simp) ?_; clear L2)
  | (refine aF 23 _ rfl _ _ rfl M2.out (by go_simp) ?_; clear M2)
  | (refine aF 25 _ rfl _ _ rfl L3.out (by go_simp) ?_; clear L3)
  | (refine aF 25 _ rfl _ _ rfl M3.out (by go_simp) ?_; clear M3))
 go_ret
 exact ⟨by first | rfl | (simp; done), HB.out⟩
end
section
variable {a b : Lab} {p p' : Option Addr} {n n' c c' : Nat}
theorem aIe (hk : (a.k == b.k) = true) (hs : (a.s.toList == b.s.toList) = true) (hv : veB a.vk a.vn a.vs b.vk b.vn b.vs = true) (hr : reB a.b1 a.h1 a.r1 a.c1 a.fr1 a.fc1 b.b1 b.h1 b.r1 b.c1 b.fr1 b.fc1 = true) (ht : reB a.b2 a.h2 a.r2 a.c2 a.fr2 a.fc2 b.b2 b.h2 b.r2 b.c2 b.fr2 b.fc2 = false) (w : World) : Calls Tryz.prog 13 #[.agg (lcs a (.slice p n c)), .agg (lcs b (.slice p' n' c'))] w fun e w' => e = .returned (.bool false) ∧ Below w.heap.size w w' := by
 obtain ⟨w2, hw2⟩ : ∃ w2, (w.alloc (.cells (lcs a (.slice p n c)) 28)).alloc (.cells (lcs b (.slice p' n' c')) 28) = w2 := ⟨_, rfl⟩
 have H0 : w2.heap[w.heap.size]? = some (.cells (lcs a (.slice p n c)) 28) := by rw [← hw2]; exact (Below.heap_alloc _ _ _ (by simp)).trans (heap_alloc_new w _)
 have H1 : w2.heap[w.heap.size + 1]? = some (.cells (lcs b (.slice p' n' c')) 28) := by
  rw [← hw2]
  have := heap_alloc_new (w.alloc (.cells (lcs a (.slice p n c)) 28)) (.cells (lcs b (.slice p' n' c')) 28)
  simpa using this
 have HB : Hid (Below w.heap.size w w2) := by show Below _ _ _; rw [← hw2]; exact aA (aA (Below.refl _ _) _) _
 obtain ⟨c0, c1, l2, l3, l4⟩ := aN H0
 obtain ⟨d0, d1, m2, m3, m4⟩ := aN H1
 have c17 := aY H0
 have d17 := aY H1
 have L2 : Hid _ := l2
 have L3 : Hid _ := l3
 have L4 : Hid _ := l4
 have M2 : Hid _ := m2
 have M3 : Hid _ := m3
 have M4 : Hid _ := m4
 have E2 := fun u => dZ u a.vk a.vn a.vs b.vk b.vn b.vs
 have E3 := fun u => bD u a.b1 a.h1 a.r1 a.c1 a.fr1 a.fc1 b.b1 b.h1 b.r1 b.c1 b.fr1 b.fc1
 have E4 := fun u => bD u a.b2 a.h2 a.r2 a.c2 a.fr2 a.fc2 b.b2 b.h2 b.r2 b.c2 b.fr2 b.fc2
 rw [hv] at E2
 rw [hr] at E3
 rw [ht] at E4
 have hkn := fK hk
 have hsn := fK hs
 have G2 := eG
 have G3 := dH
 clear H0 H1 l2 l3 l4 m2 m3 m4
 generalize lcs a (.slice p n c) = bx at *
 generalize lcs b (.slice p' n' c') = bz at *
 obtain ⟨k, s, vk, vn, vs, b1, x1, r1, c1_, f1, g1, b2, x2, r2, c2, f2, g2⟩ := a
 obtain ⟨k', s', vk', vn', vs', b1', x1', r1', c1', f1', g1', b2', x2', r2', c2', f2', g2'⟩ := b
 dsimp only at *
 go_enter Tryz.func13, Tryz.ntmps13
 go_wp2_with (first
  | (refine aF 23 _ rfl _ _ rfl L2.out (by go_simp) ?_; clear L2)
  | (refine aF 23 _ rfl _ _ rfl M2.out (by go_simp) ?_; clear M2)
  | (refine aF 25 _ rfl _ _ rfl L3.out (by go_simp) ?_; clear L3)
  | (refine aF 25 _ rfl _ _ rfl M3.out (by go_simp) ?_; clear M3)
  | (refine aF 25 _ rfl _ _ rfl L4.out (by go_simp) ?_; clear L4)
  | (refine aF 25 _ rfl _ _ rfl M4.out (by go_simp) ?_; clear M4))
 go_ret
 exact ⟨by first | rfl | (simp; done), HB.out⟩
end
theorem aDT : ∀ s : T, zT s ≤ 1000000 → ∀ (t : T) (w : World) (es es' : Array Value), NT w es s → NT w es' t → Calls Tryz.prog 13 #[.agg es, .agg es'] w fun e w' => e = .returned (.bool (sT s t)) ∧ Below w.heap.size w w' := by
 refine ind ?_
 intro s ih hz t w es es' h1 h2
 obtain ⟨p, n, c, rfl, k1⟩ := h1
 obtain ⟨p', n', c', rfl, k2⟩ := h2
 unfold sT rY
 cases hk : (s.1.k == t.1.k)
 ·exact aH9 hk w
 cases hs : (s.1.s.toList == t.1.s.toList)
 ·exact aIb hk hs w
 cases hv : veB s.1.vk s.1.vn s.1.vs t.1.vk t.1.vn t.1.vs
 ·exact aIc hk hs hv w
 cases hr : reB s.1.b1 s.1.h1 s.1.r1 s.1.c1 s.1.fr1 s.1.fc1 t.1.b1 t.1.h1 t.1.r1 t.1.c1 t.1.fr1 t.1.fc1
 ·exact aId hk hs hv hr w
 cases ht : reB s.1.b2 s.1.h2 s.1.r2 s.1.c2 s.1.fr2 s.1.fc2 t.1.b2 t.1.h2 t.1.r2 t.1.c2 t.1.fr2 t.1.fc2
 ·exact aIe hk hs hv hr ht w
 by_cases hl : n = n'
 ·subst hl
  have := jF s
  have hk1 := k1.1
  exact aDS hk hs hv hr ht k1 k2 (by omega) (fun s' hs' => ih s' hs' (by have := iZ hs'; omega))
 ·have hf : sF s.2 t.2 = false := by
   cases hq : sF s.2 t.2
   ·rfl
   ·exact absurd (by rw [k1.1, k2.1]; exact ((wJ _ _).1 hq).1) hl
  rw [hf]
  exact aIa hk hs hv hr ht (by simp; omega) w
def szK (l : List T) (k : Nat) : Nat := ((l.take k).map zT).sum
theorem aAs (l : List T) (k : Nat) (s : T) (h : l[k]? = some s) : szK l (k + 1) = szK l k + zT s := by
 unfold szK
 rw [List.take_add_one, h]
 simp
theorem aIf (l : List T) : szK l l.length = (l.map zT).sum := by unfold szK; rw [List.take_of_length_le (Nat.le_refl _)]
theorem aJD (l : List T) (k : Nat) (h : k < l.length) : szK l k + 1 ≤ (l.map zT).sum := by
 have h3 : (l.map zT).sum = ((l.take k).map zT).sum + ((l.drop k).map zT).sum := by rw [← List.sum_append, ← List.map_append, List.take_append_drop]
 have h4 : 1 ≤ ((l.drop k).map zT).sum := by
  rw [List.drop_eq_getElem_cons h, List.map_cons, List.sum_cons]
  have : 1 ≤ zT l[k] := by unfold zT; omega
  omega
 unfold szK
 omega
theorem aGs (l : List T) : ∀ k, k ≤ l.length → k ≤ szK l k
 | 0, _ => Nat.zero_le _
 | k + 1, h => by
  have := aGs l k (by omega)
  rw [aAs l k l[k] (List.getElem?_eq_getElem (by omega))]
  have : 1 ≤ zT l[k] := by unfold zT; omega
  omega
theorem aGt : ∀ t : T, ∀ (w : World) (es : Array Value), NT w es t → ∀ b : Nat, 1 ≤ b → b ≤ 1000000 → Calls Tryz.prog 22 #[.agg es, .int .i64 (b : Nat)] w fun e w' => e = .returned (.int .i64 ((b - zT t : Nat) : Int)) ∧ Below w.heap.size w w' := by
 refine ind ?_
 intro t ih w es h b hb1 hb2
 have hzT : zT t = ((kids t.2).map zT).sum + 1 := by unfold zT; rw [fT]; rfl
 obtain ⟨p, n, c, rfl, hs⟩ := h
 have HK : Hid (∀ s ∈ kids t.2, ∀ (w : World) (es : Array Value), NT w es s → ∀ b : Nat, 1 ≤ b → b ≤ 1000000 → Calls Tryz.prog 22 #[.agg es, .int .i64 (b : Nat)] w fun e w' => e = .returned (.int .i64 ((b - zT s : Nat) : Int)) ∧ Below w.heap.size w w') := ih
 have c17 := aY (heap_alloc_new w (.cells (lcs t.1 (.slice p n c)) 28))
 have HB0 : Hid (Below w.heap.size w (w.alloc (.cells (lcs t.1 (.slice p n c)) 28))) := aA (Below.refl _ _) _
 have hd1 : (b : Int) - 1 = ((b - 1 : Nat) : Int) := by omega
 have hwr : IntKind.i64.wrap ((b - 1 : Nat) : Int) = ((b - 1 : Nat) : Int) := by simp [IntKind.wrap, IntKind.bits, IntKind.signed]; omega
 have HS : Hid (SF w p n t.2) := hs
 have HL : Hid ((kids t.2).length = n) := hs.1.symm
 have HF : Hid (((kids t.2).map zT).sum + 1 = zT t) := hzT.symm
 have HBB : Hid (1 ≤ b ∧ b ≤ 1000000) := ⟨hb1, hb2⟩
 obtain ⟨b1, hbe⟩ : ∃ b1, b - 1 = b1 := ⟨_, rfl⟩
 have HBE : Hid (b = b1 + 1) := by show _ = _; omega
 rw [hbe] at hd1 hwr
 clear ih hs hzT hbe hb1 hb2
 generalize hq : ((b - zT t : Nat) : Int) = q
 have HQ : Hid (((b - zT t : Nat) : Int) = q) := hq
 clear hq
 generalize (b : Int) = bi at *
 generalize lcs t.1 (.slice p n c) = bx at *
 go_enter Tryz.func22, Tryz.ntmps22
 go_wp2
 go_loopw [1, 12] (fun bud i wr => ∃ k : Nat, k ≤ n ∧ i = .int .i64 (k : Nat) ∧ bud = .int .i64 ((b1 - szK (kids t.2) k : Nat) : Int) ∧ Hid (Below w.heap.size w wr)) (fun _ i _ => n - (intOf i).toNat)
 case atStart => exact ⟨0, Nat.zero_le _, rfl, by simp [szK], HB0⟩
 case round =>
  obtain ⟨k, hk, rfl, rfl, HB⟩ := hrel
  clear HB0
  by_cases hlt : k < n
  ·have hki : (k : Int) < n := by omega
   obtain ⟨a', es, s, rfl, RL, HI, RS, RL2, HNT, HM⟩ := HS.out.step HB.out hlt
   have hkl : k < (kids t.2).length := by have := HL.out; omega
   by_cases hz : b1 - szK (kids t.2) k ≤ 0
   ·have hzi : ((b1 - szK (kids t.2) k : Nat) : Int) ≤ 0 := by omega
    have HQ2 : Hid (q = 0) := by
     show _ = _
     rw [← HQ.out]
     have h1 := aJD _ _ hkl
     have h2 := HF.out
     have h3 := HBE.out
     omega
    have HBf : Hid (Below w.heap.size w (wr.alloc (.cells es 28))) := aA HB.out _
    clear hz HNT HM HI HQ
    generalize ((b1 - szK (kids t.2) k : Nat) : Int) = bd at *
    go_wp2_with (first
     | (refine aB rfl 28 _ rfl _ _ rfl RL.out ?_; clear RL)
     | (refine aD rfl 28 _ _ rfl _ _ _ rfl rfl RS.out ?_; clear RS))
    go_ret
    exact ⟨by rw [HQ2.out]; first | done | rfl, HBf.out⟩
   ·have hzi : ¬ ((b1 - szK (kids t.2) k : Nat) : Int) ≤ 0 := by omega
    have C := HK.out s HM.out _ _ HNT.out (b1 - szK (kids t.2) k) (by omega) (by have := HBB.out; have := HBE.out; omega)
    have HN : Hid (b1 - szK (kids t.2) k - zT s = b1 - szK (kids t.2) (k + 1)) := by
     show _ = _
     rw [aAs _ _ _ HI.out]; omega
    have hkb : k ≤ 1000000 := by
     have := aGs (kids t.2) k (by omega)
     have := HBB.out
     have := HBE.out
     omega
    clear hz HNT HM HI HQ
    generalize hbd : b1 - szK (kids t.2) k = bd at *
    clear hbd
    go_wp2_with (first
     | (refine aB rfl 28 _ rfl _ _ rfl RL.out ?_; clear RL)
     | (refine aD rfl 28 _ _ rfl _ _ _ rfl rfl RS.out ?_; clear RS)
     | (refine aB rfl 28 _ rfl _ _ rfl RL2.out ?_; clear RL2)
     | (go_at_call 22; refine C.mono ?_; rintro e w3 ⟨rfl, hs⟩; have HU2 : Hid (Below w.heap.size w w3) := aG (aA HB.out _) hs; clear hs))
    go_roundw
    case rel => exact ⟨k + 1, by omega, by go_num, by rw [HN.out], HU2⟩
    case measure => simp [intOf]; omega
  ·have hki : ¬ (k : Int) < n := by omega
   have HQ2 : Hid (q = ((b1 - szK (kids t.2) k : Nat) : Int)) := by
    show _ = _
    have h1 : k = (kids t.2).length := by have := HL.out; omega
    rw [← HQ.out, h1, aIf]
    have h2 := HF.out
    have h3 := HBE.out
    omega
   generalize ((b1 - szK (kids t.2) k : Nat) : Int) = bd at *
   go_wp2
   go_ret
   exact ⟨by rw [HQ2.out]; first | done | rfl, HB.out⟩
theorem aIg {t : T} {w : World} {es : Array Value} (h : NT w es t) {b : Nat} (h1 : 1 ≤ b) (h2 : b ≤ 1000000) : Calls Tryz.prog 8 #[.agg es, .int .i64 (b : Nat)] w fun e w' => e = .returned (.bool (decide (b ≤ zT t))) ∧ Below w.heap.size w w' := by
 have C := aGt t (w.alloc (.cells es 28)) es (h.below (aA (Below.refl _ _) _)) b h1 h2
 have RL : Hid _ := (jG h).2 (heap_alloc_new w (.cells es 28))
 have HQ : Hid (decide (((b - zT t : Nat) : Int) ≤ 0) = decide (b ≤ zT t)) := by show _ = _; simp; omega
 clear h
 generalize ((b - zT t : Nat) : Int) = q at *
 go_enter Tryz.func8, Tryz.ntmps8
 go_wp2_with (first
  | (refine aB rfl 28 _ rfl _ _ rfl RL.out ?_; clear RL)
  | (go_at_call 22; refine C.mono ?_; rintro e w2 ⟨rfl, hs⟩; have HU2 : Hid (Below w.heap.size w w2) := aR hs; clear hs))
 go_ret
 exact ⟨by rw [← HQ.out]; first | done | rfl, HU2.out⟩
end Go.Proofs.YtljmklbbngpllaaGreatDoor
namespace Go.Proofs.YtljmklbbngpllaaGreatDoor.Rw
open Go.RowKit Go.Fm
attribute [local go_sem] dY bI
abbrev rfN (x : Rf) : Array Value := lcs (cK x) (.slice none 0 0)
structure PB (w : World) (x : Rf) (H : Hm) (C : Chg) (u : World) : Prop where
 b0 : u.heap[w.heap.size]? = some (rfO x)
 b1 : u.heap[w.heap.size + 1]? = some (bF H.hb H.hs H.hr H.hc)
 b2 : u.heap[w.heap.size + 2]? = some (.cells (aW C) 34)
 b3 : u.heap[w.heap.size + 3]? = some (.cells (rfN x) 28)
 bel : Below w.heap.size w u
end Go.Proofs.YtljmklbbngpllaaGreatDoor.Rw
namespace Go.Proofs.YtljmklbbngpllaaGreatDoor.Rw
open Go.RowKit Go.Fm
def most (C : Chg) : Int := if C.co = true then 26 else 64
structure LB (w : World) (es : Array Value) (H : Hm) (C : Chg) (u : World) : Prop where
 b0 : u.heap[w.heap.size]? = some (.cells es 28)
 b1 : u.heap[w.heap.size + 1]? = some (bF H.hb H.hs H.hr H.hc)
 b2 : u.heap[w.heap.size + 2]? = some (.cells (aW C) 34)
 bel : Below w.heap.size w u
theorem LB.step {w : World} {es : Array Value} {H : Hm} {C : Chg} {u v : World} (h : LB w es H C u) (hb : Below u.heap.size u v) : LB w es H C v :=
 ⟨(hb.block _ (aS h.b0)).trans h.b0, (hb.block _ (aS h.b1)).trans h.b1, (hb.block _ (aS h.b2)).trans h.b2, aG h.bel hb⟩
theorem LB.new (w : World) (es : Array Value) (H : Hm) (C : Chg) : LB w es H C (((w.alloc (.cells es 28)).alloc (bF H.hb H.hs H.hr H.hc)).alloc (.cells (aW C) 34)) := by
 obtain ⟨q0, q1, q2⟩ := xE (Below.refl ((((w.alloc (.cells es 28)).alloc (bF H.hb H.hs H.hr H.hc)).alloc (.cells (aW C) 34))).heap.size (((w.alloc (.cells es 28)).alloc (bF H.hb H.hs H.hr H.hc)).alloc (.cells (aW C) 34)))
 exact ⟨q0, q1, q2, aA (aA (aA (Below.refl _ _) _) _) _⟩
structure TB (t : T) (g : Nat) (es : Array Value) (u : World) : Prop where
 h : u.heap[g]? = some (.cells es 28)
 n : NT u es t
theorem TB.step {t : T} {g : Nat} {es : Array Value} {u v : World} (h : TB t g es u) (hb : Below u.heap.size u v) : TB t g es v := ⟨(hb.block _ (aS h.h)).trans h.h, h.n.below hb⟩
theorem TB.lod {t : T} {g : Nat} {es : Array Value} {u : World} (h : TB t g es u) : (Instr.loadAt 28 (.pointer (some ⟨g, 0, none⟩))).run Tryz.prog u = .ok (.agg es) u := (jG h.n).2 h.h
theorem TB.new {t : T} {es : Array Value} {u : World} (h : NT u es t) : TB t u.heap.size es (u.alloc (.cells es 28)) ∧ (Instr.storeAt 28 (.pointer (some ⟨u.heap.size, 0, none⟩)) (.agg es)).run Tryz.prog (u.alloc (.cells nd0 28)) = .ok () (u.alloc (.cells es 28)) :=
 ⟨⟨heap_alloc_new u _, h.below (aA (Below.refl _ _) _)⟩, (kC u h).1⟩
theorem aGu {base : Nat} {w : World} {a : Option Addr} {n c : Nat} {L : List (Array Value × T)} (h : eO base w (.slice a n c) L) (hL : ∀ x ∈ L, x.1.size = 18) {k : Nat} {x : Array Value × T} (hk : L[k]? = some x) : ∃ b, a = some b ∧ (Instr.loadAt 28 (.pointer (some (b.add (k * 18))))).run Tryz.prog w = .ok (.agg x.1) w := by
 rcases h.2 with ⟨e, h0⟩ | ⟨g, cap, cur, e, hg, hh, hle, hm, hc, ht⟩
 ·have := (List.getElem?_eq_some_iff.1 hk).1
  omega
 ·have hq : a = some ⟨g, 0, none⟩ := by cases e; rfl
  subst hq
  refine ⟨_, rfl, ?_⟩
  have hr := jH.of h hL
  have := hr.load hk (hL x (List.mem_of_getElem? hk))
  rw [Addr.add_mid, Nat.zero_add]
  exact this
end Go.Proofs.YtljmklbbngpllaaGreatDoor.Rw
