/- FNode, FWrite. -/
import Derived.Test.YtljmklbbngpllaaGreatDoorFCallNd
set_option linter.unusedVariables false
set_option linter.unusedSimpArgs false
set_option maxHeartbeats 16000000
set_option maxRecDepth 100000
namespace Go.Proofs.YtljmklbbngpllaaGreatDoor
open Go.RowKit Go.Fm
section
variable {W u : World} {g : Nat} {L : List TT} {a : Lab} {p : Option Addr} {n c : Nat}
theorem aJr (X : WX W g L u) (hk : a.k = 1) (hn : L.length + 1 ≤ 1000000) (h3 : a.vk = 3 → In64 a.vn) (h0 : a.vk ≠ 1 → a.vk ≠ 2 → a.vk ≠ 3 → 0 ≤ a.vn) (T : eD W) :
  Calls Tryz.prog 59 #[.pointer (some ⟨g, 0, none⟩), .agg (lcs a (.slice p n c))] u fun e u' => e = .returned (.tuple #[]) ∧ WS W g (L ++ [tk (kG a.vk a.vn a.vs)]) u u' := by
 have Zc : Hid (ZZ W g L u (lcs a (.slice p n c)) (u.alloc (.cells (lcs a (.slice p n c)) 28))) := ZZ.begin X _
 have RL : Hid _ := Zc.out.load (aV _ _)
 obtain ⟨c0, c1, l2, l3, l4⟩ := aN Zc.out.b
 have c5 := dL Zc.out.b
 have L2 : Hid _ := l2
 have L3 : Hid _ := l3
 have L4 : Hid _ := l4
 rw [hk] at c0
 have CT := fun (u' : World) (Z : WX W g L u') => aGh a.vk a.vn a.vs h3 h0 u' (T.below Z.bel)
 have N1 : Hid (L.length + 1 ≤ 1000000) := hn
 generalize tk (kG a.vk a.vn a.vs) = tt at *
 clear X l2 l3 l4
 generalize lcs a (.slice p n c) = bx at *
 go_enter Tryz.func59, Tryz.ntmps59
 go_wp2_with (first
  | (refine aB rfl 23 _ rfl _ _ rfl L2.out ?_)
  | (go_at_call 83; refine (CT _ Zc.out.w.1).mono ?_; rintro e w1 ⟨rfl, hb⟩; have Zc1 := Zc.out.bel hb; clear hb Zc; have Zc : Hid _ := Zc1; clear Zc1)
  | (refine aT rfl 95 1 _ rfl _ _ _ (by go_simp) (aHY tt _) ?_)
  | (go_at_call 82; refine (Zc.out.put (M := [tt]) rfl (by simp) N1.out).mono ?_; rintro e w1 ⟨rfl, Zc1⟩; clear Zc; have Zc : Hid _ := Zc1; clear Zc1))
 go_end0
 exact ⟨rfl, Zc.out.w⟩
theorem aJs (X : WX W g L u) (hk : a.k = 2) (hn : L.length + 1 ≤ 1000000) :
  Calls Tryz.prog 59 #[.pointer (some ⟨g, 0, none⟩), .agg (lcs a (.slice p n c))] u fun e u' => e = .returned (.tuple #[]) ∧ WS W g (L ++ [tRf a.b1 a.h1 a.r1 a.c1 a.fr1 a.fc1]) u u' := by
 have Zc : Hid (ZZ W g L u (lcs a (.slice p n c)) (u.alloc (.cells (lcs a (.slice p n c)) 28))) := ZZ.begin X _
 have RL : Hid _ := Zc.out.load (aV _ _)
 obtain ⟨c0, c1, l2, l3, l4⟩ := aN Zc.out.b
 have c5 := dL Zc.out.b
 have L2 : Hid _ := l2
 have L3 : Hid _ := l3
 have L4 : Hid _ := l4
 rw [hk] at c0
 have N1 : Hid (L.length + 1 ≤ 1000000) := hn
 clear X l2 l3 l4
 generalize lcs a (.slice p n c) = bx at *
 go_enter Tryz.func59, Tryz.ntmps59
 go_wp2_with (first
  | (refine aB rfl 25 _ rfl _ _ rfl L3.out ?_)
  | (go_at_call 84; refine (mH _ _ _ _ _ _ _).mono ?_; rintro e w1 ⟨rfl, hb⟩; have Zc1 := Zc.out.bel hb; clear hb Zc; have Zc : Hid _ := Zc1; clear Zc1)
  | (refine aT rfl 95 1 _ rfl _ _ _ (by go_simp) (aH0 _ _ _ _ _ _ _) ?_)
  | (go_at_call 82; refine (Zc.out.put (M := [tRf a.b1 a.h1 a.r1 a.c1 a.fr1 a.fc1]) rfl (by simp) N1.out).mono ?_; rintro e w1 ⟨rfl, Zc1⟩; clear Zc; have Zc : Hid _ := Zc1; clear Zc1))
 go_end0
 exact ⟨rfl, Zc.out.w⟩
theorem aJt (X : WX W g L u) (hk : a.k = 4) (hn : L.length + 1 ≤ 1000000) :
  Calls Tryz.prog 59 #[.pointer (some ⟨g, 0, none⟩), .agg (lcs a (.slice p n c))] u fun e u' => e = .returned (.tuple #[]) ∧ WS W g (L ++ [tWd a.b1 a.s]) u u' := by
 have Zc : Hid (ZZ W g L u (lcs a (.slice p n c)) (u.alloc (.cells (lcs a (.slice p n c)) 28))) := ZZ.begin X _
 have RL : Hid _ := Zc.out.load (aV _ _)
 obtain ⟨c0, c1, l2, l3, l4⟩ := aN Zc.out.b
 have c5 := dL Zc.out.b
 have L2 : Hid _ := l2
 have L3 : Hid _ := l3
 have L4 : Hid _ := l4
 rw [hk] at c0
 have N1 : Hid (L.length + 1 ≤ 1000000) := hn
 clear X l2 l3 l4
 generalize lcs a (.slice p n c) = bx at *
 go_enter Tryz.func59, Tryz.ntmps59
 go_wp2_with (first
  | (go_at_call 86; refine (kH _ _ _).mono ?_; rintro e w1 ⟨rfl, hb⟩; have Zc1 := Zc.out.bel hb; clear hb Zc; have Zc : Hid _ := Zc1; clear Zc1)
  | (refine aT rfl 95 1 _ rfl _ _ _ (by go_simp) (aHZ _ _ _) ?_)
  | (go_at_call 82; refine (Zc.out.put (M := [tWd a.b1 a.s]) rfl (by simp) N1.out).mono ?_; rintro e w1 ⟨rfl, Zc1⟩; clear Zc; have Zc : Hid _ := Zc1; clear Zc1))
 go_end0
 exact ⟨rfl, Zc.out.w⟩
theorem aJu {M : List TT} (X : WX W g L u) (hk : a.k = 5) (C : ∀ u', WX W g L u' → Calls Tryz.prog 87 #[.pointer (some ⟨g, 0, none⟩), .agg (lcs a (.slice p n c))] u' fun e u'' => e = .returned (.tuple #[]) ∧ WS W g (L ++ M) u' u'') :
  Calls Tryz.prog 59 #[.pointer (some ⟨g, 0, none⟩), .agg (lcs a (.slice p n c))] u fun e u' => e = .returned (.tuple #[]) ∧ WS W g (L ++ M) u u' := by
 have Zc : Hid (ZZ W g L u (lcs a (.slice p n c)) (u.alloc (.cells (lcs a (.slice p n c)) 28))) := ZZ.begin X _
 have RL : Hid _ := Zc.out.load (aV _ _)
 obtain ⟨c0, c1, l2, l3, l4⟩ := aN Zc.out.b
 have c5 := dL Zc.out.b
 have L2 : Hid _ := l2
 have L3 : Hid _ := l3
 have L4 : Hid _ := l4
 rw [hk] at c0
 clear X l2 l3 l4
 generalize lcs a (.slice p n c) = bx at *
 go_enter Tryz.func59, Tryz.ntmps59
 go_wp2_with (first
  | (refine aB rfl 28 _ rfl _ _ rfl RL.out ?_)
  | (go_at_call 87; refine (C _ Zc.out.w.1).mono ?_; rintro e w1 ⟨rfl, hs⟩; have Zf : Hid _ := Zc.out.w.step hs; clear hs))
 go_end0
 exact ⟨rfl, Zf.out⟩
theorem aJv {M : List TT} (X : WX W g L u) (hk : a.k = 6) (C : ∀ u', WX W g L u' → Calls Tryz.prog 88 #[.pointer (some ⟨g, 0, none⟩), .agg (lcs a (.slice p n c))] u' fun e u'' => e = .returned (.tuple #[]) ∧ WS W g (L ++ M) u' u'') :
  Calls Tryz.prog 59 #[.pointer (some ⟨g, 0, none⟩), .agg (lcs a (.slice p n c))] u fun e u' => e = .returned (.tuple #[]) ∧ WS W g (L ++ M) u u' := by
 have Zc : Hid (ZZ W g L u (lcs a (.slice p n c)) (u.alloc (.cells (lcs a (.slice p n c)) 28))) := ZZ.begin X _
 have RL : Hid _ := Zc.out.load (aV _ _)
 obtain ⟨c0, c1, l2, l3, l4⟩ := aN Zc.out.b
 have c5 := dL Zc.out.b
 have L2 : Hid _ := l2
 have L3 : Hid _ := l3
 have L4 : Hid _ := l4
 rw [hk] at c0
 clear X l2 l3 l4
 generalize lcs a (.slice p n c) = bx at *
 go_enter Tryz.func59, Tryz.ntmps59
 go_wp2_with (first
  | (refine aB rfl 28 _ rfl _ _ rfl RL.out ?_)
  | (go_at_call 88; refine (C _ Zc.out.w.1).mono ?_; rintro e w1 ⟨rfl, hs⟩; have Zf : Hid _ := Zc.out.w.step hs; clear hs))
 go_end0
 exact ⟨rfl, Zf.out⟩
theorem aJw {M : List TT} (X : WX W g L u) (hk : a.k = 7) (C : ∀ u', WX W g L u' → Calls Tryz.prog 89 #[.pointer (some ⟨g, 0, none⟩), .agg (lcs a (.slice p n c))] u' fun e u'' => e = .returned (.tuple #[]) ∧ WS W g (L ++ M) u' u'') :
  Calls Tryz.prog 59 #[.pointer (some ⟨g, 0, none⟩), .agg (lcs a (.slice p n c))] u fun e u' => e = .returned (.tuple #[]) ∧ WS W g (L ++ M) u u' := by
 have Zc : Hid (ZZ W g L u (lcs a (.slice p n c)) (u.alloc (.cells (lcs a (.slice p n c)) 28))) := ZZ.begin X _
 have RL : Hid _ := Zc.out.load (aV _ _)
 obtain ⟨c0, c1, l2, l3, l4⟩ := aN Zc.out.b
 have c5 := dL Zc.out.b
 have L2 : Hid _ := l2
 have L3 : Hid _ := l3
 have L4 : Hid _ := l4
 rw [hk] at c0
 clear X l2 l3 l4
 generalize lcs a (.slice p n c) = bx at *
 go_enter Tryz.func59, Tryz.ntmps59
 go_wp2_with (first
  | (refine aB rfl 28 _ rfl _ _ rfl RL.out ?_)
  | (go_at_call 89; refine (C _ Zc.out.w.1).mono ?_; rintro e w1 ⟨rfl, hs⟩; have Zf : Hid _ := Zc.out.w.step hs; clear hs))
 go_end0
 exact ⟨rfl, Zf.out⟩
theorem aBA (b h b' h' : ByteArray) (r c r' c' : Int) (fr fc fr' fc' : Bool) (s : ByteArray) (w : World) : (Instr.buildSlice 95 3 #[(0, .agg (tcs 3 0 noB b h r c fr fc)), (1, .agg (tcs 5 0 s noB noB 0 0 false false)), (2, .agg (tcs 3 0 noB b' h' r' c' fr' fc'))]).run Tryz.prog w = .ok (.slice (some ⟨w.heap.size, 0, none⟩) 3 3) (w.alloc (.cells ([tRf b h r c fr fc, tOp s, tRf b' h' r' c' fr' fc'].flatMap TT.cl).toArray 123)) := by kernel_rfl
theorem aJx (X : WX W g L u) (hk : a.k = 3) (hn : L.length + 3 ≤ 1000000) :
  Calls Tryz.prog 59 #[.pointer (some ⟨g, 0, none⟩), .agg (lcs a (.slice p n c))] u fun e u' => e = .returned (.tuple #[]) ∧ WS W g (L ++ [tRf a.b1 a.h1 a.r1 a.c1 a.fr1 a.fc1, tOp ⟨#[58]⟩, tRf a.b2 a.h2 a.r2 a.c2 a.fr2 a.fc2]) u u' := by
 have Zc : Hid (ZZ W g L u (lcs a (.slice p n c)) (u.alloc (.cells (lcs a (.slice p n c)) 28))) := ZZ.begin X _
 have RL : Hid _ := Zc.out.load (aV _ _)
 obtain ⟨c0, c1, l2, l3, l4⟩ := aN Zc.out.b
 have c5 := dL Zc.out.b
 have L2 : Hid _ := l2
 have L3 : Hid _ := l3
 have L4 : Hid _ := l4
 rw [hk] at c0
 have N1 : Hid (L.length + 3 ≤ 1000000) := hn
 have LD : Hid (∀ (M : List TT) (cur : World), ZZ W g M u (lcs a (.slice p n c)) cur → (Instr.loadAt 25 (.pointer (some ⟨u.heap.size, 5, none⟩))).run Tryz.prog cur = .ok (bC a.b1 a.h1 a.r1 a.c1 a.fr1 a.fc1) cur ∧ (Instr.loadAt 25 (.pointer (some ⟨u.heap.size, 11, none⟩))).run Tryz.prog cur = .ok (bC a.b2 a.h2 a.r2 a.c2 a.fr2 a.fc2) cur) := fun M cur h => ⟨(aN h.b).2.2.2.1, (aN h.b).2.2.2.2⟩
 clear X l2 l3 l4
 generalize lcs a (.slice p n c) = bx at *
 go_enter Tryz.func59, Tryz.ntmps59
 go_wp2
 refine aQ (fun cur => (Instr.loadAt 25 (.pointer (some ⟨u.heap.size, 5, none⟩))).run Tryz.prog cur = .ok (bC a.b1 a.h1 a.r1 a.c1 a.fr1 a.fc1) cur ∧ (Instr.loadAt 25 (.pointer (some ⟨u.heap.size, 11, none⟩))).run Tryz.prog cur = .ok (bC a.b2 a.h2 a.r2 a.c2 a.fr2 a.fc2) cur) (fun _ => false) (by kernel_rfl) ?_
 have Z1 := Zc.out.bel (Below.refl _ _).drew
 clear Zc
 have Zc : Hid _ := Z1
 clear Z1
 refine dwp 0 (.pointer (some ⟨g, 0, none⟩)) ?_
 refine dwp 1 (.pointer (some ⟨u.heap.size, 5, none⟩)) ?_
 refine dO (i := 2) (v := bC a.b1 a.h1 a.r1 a.c1 a.fr1 a.fc1) rfl rfl (by kernel_rfl) (by kernel_rfl) (by kernel_rfl) (by kernel_rfl) (fun _ _ _ h => h) (by go_simp) (fun u hSu => aI rfl rfl hSu.1) (LD.out _ _ Zc.out) ?_
 try simp only [Act.put, List.setIfInBounds_toArray, List.set_cons_zero, List.set_cons_succ]
 refine dwp 5 (.pointer (some ⟨u.heap.size, 11, none⟩)) ?_
 refine dO (i := 6) (v := bC a.b2 a.h2 a.r2 a.c2 a.fr2 a.fc2) rfl rfl (by kernel_rfl) (by kernel_rfl) (by kernel_rfl) (by kernel_rfl) (fun _ _ _ h => h) (by go_simp) (fun u hSu => aI rfl rfl hSu.2) (LD.out _ _ Zc.out) ?_
 try simp only [Act.put, List.setIfInBounds_toArray, List.set_cons_zero, List.set_cons_succ]
 refine aH (i := 3) (by kernel_rfl) rfl ?_
 intro K hK
 go_simp
 refine (mH _ _ _ _ _ _ _).mono ?_
 rintro e w1 ⟨rfl, hb⟩
 have Zc1 := Zc.out.bel hb
 clear hb Zc
 have Zc : Hid _ := Zc1
 clear Zc1
 refine hK _ _ (.inr fun _ => LD.out _ _ Zc.out) ?_
 clear hK
 try simp only [Act.put, List.setIfInBounds_toArray, List.set_cons_zero, List.set_cons_succ]
 refine aH (i := 4) (by kernel_rfl) rfl ?_
 intro K hK
 go_simp
 refine (fD _ _).mono ?_
 rintro e w2 ⟨rfl, hb⟩
 have Zc1 := Zc.out.bel hb
 clear hb Zc
 have Zc : Hid _ := Zc1
 clear Zc1
 refine hK _ _ (.inr fun _ => LD.out _ _ Zc.out) ?_
 clear hK
 try simp only [Act.put, List.setIfInBounds_toArray, List.set_cons_zero, List.set_cons_succ]
 refine aH (i := 7) (by kernel_rfl) rfl ?_
 intro K hK
 go_simp
 refine (mH _ _ _ _ _ _ _).mono ?_
 rintro e w3 ⟨rfl, hb⟩
 have Zc1 := Zc.out.bel hb
 clear hb Zc
 have Zc : Hid _ := Zc1
 clear Zc1
 refine hK _ _ (.inr fun _ => LD.out _ _ Zc.out) ?_
 clear hK
 try simp only [Act.put, List.setIfInBounds_toArray, List.set_cons_zero, List.set_cons_succ]
 refine aH (i := 8) (by kernel_rfl) rfl ?_
 intro K hK
 rw [if_pos (by go_simp)]
 refine lN (some 32) rfl 95 3 _ rfl _ _ (by go_simp) (aBA a.b1 a.h1 a.b2 a.h2 a.r1 a.c1 a.r2 a.c2 a.fr1 a.fc1 a.fr2 a.fc2 ⟨#[58]⟩ _) (hK _ _ (.inr fun _ => LD.out _ _ (Zc.out.bel (aA (Below.refl _ _) _))) ?_)
 clear hK
 try simp only [Act.put, List.setIfInBounds_toArray, List.set_cons_zero, List.set_cons_succ]
 refine aH (i := 9) (by kernel_rfl) rfl ?_
 intro K hK
 go_simp
 refine (Zc.out.put (M := [tRf a.b1 a.h1 a.r1 a.c1 a.fr1 a.fc1, tOp ⟨#[58]⟩, tRf a.b2 a.h2 a.r2 a.c2 a.fr2 a.fc2]) rfl (by simp) N1.out).mono ?_
 rintro e w4 ⟨rfl, Zc1⟩
 clear Zc
 have Zc : Hid _ := Zc1
 clear Zc1
 refine hK _ _ (.inr fun _ => LD.out _ _ Zc.out) ?_
 clear hK
 try simp only [Act.put, List.setIfInBounds_toArray, List.set_cons_zero, List.set_cons_succ]
 refine aK (by kernel_rfl) ?_ _
 go_wp2
 go_end0
 exact ⟨rfl, Zc.out.w⟩
end
theorem aAl {a : Lab} {n : Nat} (h : okL a n = true) : (a.k = 1 ∧ gcB a.vk a.vn a.vs = true) ∨ (a.k = 2 ∧ bB a.b1 a.h1 a.r1 a.c1 = true) ∨ (a.k = 3 ∧ bB a.b1 a.h1 a.r1 a.c1 = true ∧ bB a.b2 a.h2 a.r2 a.c2 = true ∧ a.h2.toList = []) ∨
  (a.k = 4 ∧ gnF a.s.data.toList = true ∧ (a.b1.toList = [] ∨ gnF a.b1.data.toList = true)) ∨ (a.k = 5 ∧ n = 1 ∧ (a.s.toList = [45] ∨ a.s.toList = [37])) ∨ (a.k = 6 ∧ n = 2 ∧ bY a.s.toList ≠ 0) ∨ (a.k = 7 ∧ n ≤ 16 ∧ gfB a.s = true) := by
 unfold okL at h
 rw [Bool.and_eq_true] at h
 have h2 := h.2
 clear h
 unfold oL at h2
 split at h2
 ·rename_i e; exact .inl ⟨e, h2⟩
 split at h2
 ·rename_i e; exact .inr (.inl ⟨e, h2⟩)
 split at h2
 ·rename_i e
  refine .inr (.inr (.inl ⟨e, ?_⟩))
  unfold paB at h2
  split at h2
  ·rename_i hh; exact hh
  ·rw [ByteArray.toList_eq] at h2
   exact absurd h2 (by decide)
 split at h2
 ·rename_i e
  rw [Bool.and_eq_true, Bool.or_eq_true] at h2
  exact .inr (.inr (.inr (.inl ⟨e, h2.1, h2.2.imp (fun h => by simpa using h) id⟩)))
 split at h2
 ·rename_i e
  rw [Bool.and_eq_true, Bool.or_eq_true] at h2
  exact .inr (.inr (.inr (.inr (.inl ⟨e, by have := h2.1; simp at this; omega, h2.2.imp (fun h => by simpa using h) (fun h => by simpa using h)⟩))))
 split at h2
 ·rename_i e
  rw [Bool.and_eq_true] at h2
  exact .inr (.inr (.inr (.inr (.inr (.inl ⟨e, by have := h2.1; simp at this; omega, by have := h2.2; simp at this; omega⟩)))))
 split at h2
 ·rename_i e
  rw [Bool.and_eq_true] at h2
  exact .inr (.inr (.inr (.inr (.inr (.inr ⟨e, by simpa using h2.1, h2.2⟩)))))
 ·cases h2
theorem aGk {b h : ByteArray} {r c : Int} {fr fc : Bool} (hg : bB b h r c = true) : tRf b h r c fr fc = tk (wY b h r c fr fc) := by
 obtain ⟨R, C, rfl, rfl, _⟩ := jX hg
 unfold wY
 show _ = (⟨3, 0, noB, ba b.toList, ba h.toList, ((R : Int).toNat : Int), ((C : Int).toNat : Int), fr, fc⟩ : TT)
 rw [show ba b.toList = b by rw [ByteArray.toList_eq], show ba h.toList = h by rw [ByteArray.toList_eq]]
 rfl
theorem aAm {k n : Int} {s : ByteArray} (h : gcB k n s = true) : (k = 1 ∧ 0 ≤ n ∧ n ≤ 100000000000) ∨ (k = 2 ∧ s.size ≤ 255) ∨ (k = 3 ∧ (n = 0 ∨ n = 1)) ∨ (k = 4 ∧ 1 ≤ n ∧ n ≤ 8) := by
 unfold gcB at h
 split at h
 ·cases h
 rename_i k0
 split at h
 ·rename_i e
  subst e
  simp [mV, gd] at h
  exact .inl ⟨rfl, h.1, h.2.2.2⟩
 rename_i k1
 unfold mV at h
 rw [if_neg k0, if_neg k1] at h
 split at h
 ·rename_i e
  simp [vI] at h
  exact .inr (.inl ⟨e, h.2⟩)
 split at h
 ·rename_i e
  simp at h
  exact .inr (.inr (.inl ⟨e, h.2⟩))
 split at h
 ·rename_i e
  simp [knB] at h
  exact .inr (.inr (.inr ⟨e, h.2⟩))
 ·cases h
theorem sQ {d : Nat} {t : T} (h : gT okL d t = true) : okL t.1 (kids t.2).length = true ∧ ∀ s ∈ kids t.2, gT okL (d - 1) s = true := by
 rw [aFQ, Bool.and_eq_true, Bool.and_eq_true] at h
 exact ⟨h.1.2, fun s hs => List.all_eq_true.1 h.2 s hs⟩
theorem aJy {t : T} {a b : T} (h : kids t.2 = [a, b]) : zT t = zT a + zT b + 1 := by
 have hz : zT t = ((kids t.2).map zT).sum + 1 := by unfold zT; rw [fT]; rfl
 rw [hz, h]; simp
theorem aJz {t : T} {a : T} (h : kids t.2 = [a]) : zT t = zT a + 1 := by
 have hz : zT t = ((kids t.2).map zT).sum + 1 := by unfold zT; rw [fT]; rfl
 rw [hz, h]; simp
theorem jL (t : T) : tkT t = iT t.1 (lI t.2) := rfl
theorem aGl (l : List T) : dW l l.length = dK (l.map tkT) := by unfold dW; rw [List.take_of_length_le (Nat.le_refl _)]
theorem sN : ∀ t : T, ∀ d, gT okL d t = true → ∀ (W : World) (g : Nat) (es : Array Value) (L : List TT) (u : World), NT W es t → WX W g L u → eD W → L.length + 10 * zT t ≤ 1000000 →
  Calls Tryz.prog 59 #[.pointer (some ⟨g, 0, none⟩), .agg es] u fun e u' => e = .returned (.tuple #[]) ∧ WS W g (L ++ (tkT t).map tk) u u' := by
 refine ind ?_
 intro t ih d hg W g es L u hN X T hz
 obtain ⟨p, n, c, rfl, hs⟩ := hN
 obtain ⟨hok, aH5⟩ := sQ hg
 have hn := hs.1
 rw [← hn] at hok
 have IH : ∀ s ∈ kids t.2, ∀ es, NT W es s → NC W g es ((tkT s).map tk) (1000000 - 10 * zT s) := fun s hs es he L u hL hX => by
  have := iZ hs
  exact ih s hs _ (aH5 s hs) W g es L u he hX T (by omega)
 have hz1 : 1 ≤ zT t := by unfold zT; omega
 rcases aAl hok with ⟨hk, h1⟩ | ⟨hk, h1⟩ | ⟨hk, h1, h2, h3⟩ | ⟨hk, h1, h2⟩ | ⟨hk, h1, h2⟩ | ⟨hk, h1, h2⟩ | ⟨hk, h1, h2⟩
 ·have e : tkT t = [kG t.1.vk t.1.vn t.1.vs] := by rw [jL t]; unfold iT; rw [if_pos hk]
  rw [e]
  have hf := aAm h1
  exact aJr X hk (by omega) (fun e3 => by
   rcases hf with h | h | h | h
   ·omega
   ·omega
   ·rcases h.2 with h | h <;> rw [h] <;> exact ⟨by omega, by omega⟩
   ·omega) (fun a b c => by omega) T
 ·have e : tkT t = [wY t.1.b1 t.1.h1 t.1.r1 t.1.c1 t.1.fr1 t.1.fc1] := by rw [jL t]; unfold iT; rw [if_neg (by omega), if_pos hk]
  rw [e]
  have := aJs (p := p) (n := n) (c := c) X hk (by omega)
  rw [aGk h1] at this
  exact this
 ·have e : tkT t = [wY t.1.b1 t.1.h1 t.1.r1 t.1.c1 t.1.fr1 t.1.fc1, Tk.Tok.op [58], wY t.1.b2 t.1.h2 t.1.r2 t.1.c2 t.1.fr2 t.1.fc2] := by rw [jL t]; unfold iT; rw [if_neg (by omega), if_neg (by omega), if_pos hk]
  rw [e]
  have := aJx (p := p) (n := n) (c := c) X hk (by omega)
  rw [aGk h1, aGk h2] at this
  exact this
 ·have e : tkT t = [Tk.Tok.word t.1.b1.toList t.1.s.toList] := by rw [jL t]; unfold iT; rw [if_neg (by omega), if_neg (by omega), if_neg (by omega), if_pos hk]
  rw [e]
  have := aJt (p := p) (n := n) (c := c) X hk (by omega)
  rw [show [tWd t.1.b1 t.1.s] = [Tk.Tok.word t.1.b1.toList t.1.s.toList].map tk by
   show _ = [(⟨4, 0, ba t.1.s.toList, ba t.1.b1.toList, noB, 0, 0, false, false⟩ : TT)]
   rw [show ba t.1.b1.toList = t.1.b1 by rw [ByteArray.toList_eq], show ba t.1.s.toList = t.1.s by rw [ByteArray.toList_eq]]] at this
  exact this
 ·subst h1
  obtain ⟨a, es, s, rfl, R, hks, hNs⟩ := hs.kid 0 (by omega)
  have nR : kids t.2 = [s] := by
   match hq : kids t.2, hn, hks with
   | [x], _, hks => simp at hks; rw [hks]
  have hzs := aJz nR
  have hm : s ∈ kids t.2 := by rw [nR]; simp
  have htl := oQ s
  have aDI : jK (lI t.2) 0 = (bT s.1, tkT s) := by unfold jK; rw [fJ, nR]; rfl
  refine aJu X hk fun u' X' => ?_
  by_cases hm1 : t.1.s.toList = [45]
  ·have e : (tkT t).map tk = [tOp ⟨#[45]⟩] ++ (dD (bT s.1, tkT s) 6).map tk := by
    rw [jL t]; unfold iT; rw [if_neg (by omega), if_neg (by omega), if_neg (by omega), if_neg (by omega), if_pos hk, if_pos hm1, aDI]; rfl
   rw [e, ← List.append_assoc]
   exact aGi X' (by simpa using hm1) R hNs (by omega) (m := 1000000 - 10 * zT s) (by omega) (IH s hm es hNs)
  ·have e : (tkT t).map tk = (dD (bT s.1, tkT s) 7).map tk ++ [tOp ⟨#[37]⟩] := by
    rw [jL t]; unfold iT; rw [if_neg (by omega), if_neg (by omega), if_neg (by omega), if_neg (by omega), if_pos hk, if_neg hm1, aDI, List.map_append]; rfl
   rw [e, ← List.append_assoc]
   exact aJq X' (by simpa using hm1) R hNs (by omega) (m := 1000000 - 10 * zT s) (by omega) (IH s hm es hNs)
 ·subst h1
  obtain ⟨a, es, s, rfl, R, hks, hNs⟩ := hs.kid 0 (by omega)
  obtain ⟨a', es1, s1, e', R1, aAn, aJ9⟩ := hs.kid 1 (by omega)
  cases e'
  have nR : kids t.2 = [s, s1] := by
   match hq : kids t.2, hn, hks, aAn with
   | [x, y], _, hks, aAn => simp at hks aAn; rw [hks, aAn]
  have hzs := aJy nR
  have hm : s ∈ kids t.2 := by rw [nR]; simp
  have hm1 : s1 ∈ kids t.2 := by rw [nR]; simp
  have htl := oQ s
  have aLi := oQ s1
  have aDI : jK (lI t.2) 0 = (bT s.1, tkT s) := by unfold jK; rw [fJ, nR]; rfl
  have aKa : jK (lI t.2) 1 = (bT s1.1, tkT s1) := by unfold jK; rw [fJ, nR]; rfl
  refine aJv X hk fun u' X' => ?_
  have e : (tkT t).map tk = (dD (bT s.1, tkT s) (bY t.1.s.toList)).map tk ++ [tOp t.1.s] ++ (dD (bT s1.1, tkT s1) (bY t.1.s.toList + 1)).map tk := by
   rw [jL t]
   unfold iT
   rw [if_neg (by omega), if_neg (by omega), if_neg (by omega), if_neg (by omega), if_neg (by omega), if_pos hk, aDI, aKa, List.map_append, List.map_cons]
   rw [show tk (Tk.Tok.op t.1.s.toList) = tOp t.1.s by
    show (⟨5, 0, ba t.1.s.toList, noB, noB, 0, 0, false, false⟩ : TT) = _
    rw [show ba t.1.s.toList = t.1.s by rw [ByteArray.toList_eq]]]
   simp
  rw [e, ← List.append_assoc, ← List.append_assoc]
  exact aH4 X' R hNs R1 aJ9 (by omega) (m := 1000000 - 10 * zT s) (m1 := 1000000 - 10 * zT s1) (by omega) (by omega) (IH s hm es hNs) (IH s1 hm1 es1 aJ9)
 ·refine aJw X hk fun u' X' => ?_
  have e : (tkT t).map tk = [tWd noB t.1.s, tOp ⟨#[40]⟩] ++ (dW (kids t.2) n).map tk ++ [tOp ⟨#[41]⟩] := by
   rw [jL t]
   unfold iT
   rw [if_neg (by omega), if_neg (by omega), if_neg (by omega), if_neg (by omega), if_neg (by omega), if_neg (by omega), if_pos hk, hn, aGl, fJ, List.map_map]
   rw [List.map_cons, List.map_cons, List.map_append]
   rw [show tk (Tk.Tok.word [] t.1.s.toList) = tWd noB t.1.s by
    show (⟨4, 0, ba t.1.s.toList, ba [], noB, 0, 0, false, false⟩ : TT) = _
    rw [show ba t.1.s.toList = t.1.s by rw [ByteArray.toList_eq]]]
   rw [show ((fun x : Nat × List Tk.Tok => x.2) ∘ fun t : Lab × F => (bT t.1, tkT t)) = tkT from rfl]
   generalize dK ((kids t.2).map tkT) = A
   simp only [List.cons_append, List.nil_append, List.append_assoc, List.map_cons, List.map_nil]
   rfl
  rw [e, ← List.append_assoc, ← List.append_assoc]
  exact aDM X' hs (by omega) hz IH
end Go.Proofs.YtljmklbbngpllaaGreatDoor
