/- FNode, FWrite, FPrint. -/
import Derived.Test.YtljmklbbngpllaaGreatDoorFCallBk
set_option linter.unusedVariables false
set_option linter.unusedSimpArgs false
set_option maxHeartbeats 16000000
set_option maxRecDepth 100000
namespace Go.Proofs.YtljmklbbngpllaaGreatDoor
open Go.RowKit Go.Fm
section
variable {W u : World} {g : Nat} {L : List TT} {a : Lab} {p : Option Addr} {n c : Nat}
theorem aKe (X : WX W g L u) (hk : a.k = 1) (hn : L.length + 1 ≤ 1000000) (h3 : a.vk = 3 → In64 a.vn) (h0 : a.vk ≠ 1 → a.vk ≠ 2 → a.vk ≠ 3 → 0 ≤ a.vn) (T : eY W) :
  Calls Tryz.prog 59 #[.pointer (some ⟨g, 0, none⟩), .agg (lcs a (.slice p n c))] u fun e u' => e = .returned (.tuple #[]) ∧ WS W g (L ++ [tk (kX a.vk a.vn a.vs)]) u u' := by
 have Zc : Hid (ZZ W g L u (lcs a (.slice p n c)) (u.alloc (.cells (lcs a (.slice p n c)) 28))) := ZZ.begin X _
 have RL : Hid _ := Zc.out.load (aV _ _)
 obtain ⟨c0, c1, l2, l3, l4⟩ := aL Zc.out.b
 have c5 := dD Zc.out.b
 have L2 : Hid _ := l2
 have L3 : Hid _ := l3
 have L4 : Hid _ := l4
 rw [hk] at c0
 have CT := fun (u' : World) (Z : WX W g L u') => aGN a.vk a.vn a.vs h3 h0 u' (T.below Z.bel)
 have N1 : Hid (L.length + 1 ≤ 1000000) := hn
 generalize tk (kX a.vk a.vn a.vs) = tt at *
 clear X l2 l3 l4
 generalize lcs a (.slice p n c) = bx at *
 go_enter Tryz.func59, Tryz.ntmps59
 go_wp2_with (first
  | (refine aA rfl 23 _ rfl _ _ rfl L2.out ?_)
  | (go_at_call 83; refine (CT _ Zc.out.w.1).mono ?_; rintro e w1 ⟨rfl, hb⟩; have Zc1 := Zc.out.bel hb; clear hb Zc; have Zc : Hid _ := Zc1; clear Zc1)
  | (refine aX rfl 95 1 _ rfl _ _ _ (by go_simp) (aIC tt _) ?_)
  | (go_at_call 82; refine (Zc.out.put (M := [tt]) rfl (by simp) N1.out).mono ?_; rintro e w1 ⟨rfl, Zc1⟩; clear Zc; have Zc : Hid _ := Zc1; clear Zc1))
 go_end0
 exact ⟨rfl, Zc.out.w⟩
theorem aKf (X : WX W g L u) (hk : a.k = 2) (hn : L.length + 1 ≤ 1000000) :
  Calls Tryz.prog 59 #[.pointer (some ⟨g, 0, none⟩), .agg (lcs a (.slice p n c))] u fun e u' => e = .returned (.tuple #[]) ∧ WS W g (L ++ [tRf a.b1 a.h1 a.r1 a.c1 a.fr1 a.fc1]) u u' := by
 have Zc : Hid (ZZ W g L u (lcs a (.slice p n c)) (u.alloc (.cells (lcs a (.slice p n c)) 28))) := ZZ.begin X _
 have RL : Hid _ := Zc.out.load (aV _ _)
 obtain ⟨c0, c1, l2, l3, l4⟩ := aL Zc.out.b
 have c5 := dD Zc.out.b
 have L2 : Hid _ := l2
 have L3 : Hid _ := l3
 have L4 : Hid _ := l4
 rw [hk] at c0
 have N1 : Hid (L.length + 1 ≤ 1000000) := hn
 clear X l2 l3 l4
 generalize lcs a (.slice p n c) = bx at *
 go_enter Tryz.func59, Tryz.ntmps59
 go_wp2_with (first
  | (refine aA rfl 25 _ rfl _ _ rfl L3.out ?_)
  | (go_at_call 84; refine (nG _ _ _ _ _ _ _).mono ?_; rintro e w1 ⟨rfl, hb⟩; have Zc1 := Zc.out.bel hb; clear hb Zc; have Zc : Hid _ := Zc1; clear Zc1)
  | (refine aX rfl 95 1 _ rfl _ _ _ (by go_simp) (aIE _ _ _ _ _ _ _) ?_)
  | (go_at_call 82; refine (Zc.out.put (M := [tRf a.b1 a.h1 a.r1 a.c1 a.fr1 a.fc1]) rfl (by simp) N1.out).mono ?_; rintro e w1 ⟨rfl, Zc1⟩; clear Zc; have Zc : Hid _ := Zc1; clear Zc1))
 go_end0
 exact ⟨rfl, Zc.out.w⟩
theorem aKg (X : WX W g L u) (hk : a.k = 4) (hn : L.length + 1 ≤ 1000000) :
  Calls Tryz.prog 59 #[.pointer (some ⟨g, 0, none⟩), .agg (lcs a (.slice p n c))] u fun e u' => e = .returned (.tuple #[]) ∧ WS W g (L ++ [tWd a.b1 a.s]) u u' := by
 have Zc : Hid (ZZ W g L u (lcs a (.slice p n c)) (u.alloc (.cells (lcs a (.slice p n c)) 28))) := ZZ.begin X _
 have RL : Hid _ := Zc.out.load (aV _ _)
 obtain ⟨c0, c1, l2, l3, l4⟩ := aL Zc.out.b
 have c5 := dD Zc.out.b
 have L2 : Hid _ := l2
 have L3 : Hid _ := l3
 have L4 : Hid _ := l4
 rw [hk] at c0
 have N1 : Hid (L.length + 1 ≤ 1000000) := hn
 clear X l2 l3 l4
 generalize lcs a (.slice p n c) = bx at *
 go_enter Tryz.func59, Tryz.ntmps59
 go_wp2_with (first
  | (go_at_call 86; refine (kY _ _ _).mono ?_; rintro e w1 ⟨rfl, hb⟩; have Zc1 := Zc.out.bel hb; clear hb Zc; have Zc : Hid _ := Zc1; clear Zc1)
  | (refine aX rfl 95 1 _ rfl _ _ _ (by go_simp) (aID _ _ _) ?_)
  | (go_at_call 82; refine (Zc.out.put (M := [tWd a.b1 a.s]) rfl (by simp) N1.out).mono ?_; rintro e w1 ⟨rfl, Zc1⟩; clear Zc; have Zc : Hid _ := Zc1; clear Zc1))
 go_end0
 exact ⟨rfl, Zc.out.w⟩
theorem aKh {M : List TT} (X : WX W g L u) (hk : a.k = 5) (C : ∀ u', WX W g L u' → Calls Tryz.prog 87 #[.pointer (some ⟨g, 0, none⟩), .agg (lcs a (.slice p n c))] u' fun e u'' => e = .returned (.tuple #[]) ∧ WS W g (L ++ M) u' u'') :
  Calls Tryz.prog 59 #[.pointer (some ⟨g, 0, none⟩), .agg (lcs a (.slice p n c))] u fun e u' => e = .returned (.tuple #[]) ∧ WS W g (L ++ M) u u' := by
 have Zc : Hid (ZZ W g L u (lcs a (.slice p n c)) (u.alloc (.cells (lcs a (.slice p n c)) 28))) := ZZ.begin X _
 have RL : Hid _ := Zc.out.load (aV _ _)
 obtain ⟨c0, c1, l2, l3, l4⟩ := aL Zc.out.b
 have c5 := dD Zc.out.b
 have L2 : Hid _ := l2
 have L3 : Hid _ := l3
 have L4 : Hid _ := l4
 rw [hk] at c0
 clear X l2 l3 l4
 generalize lcs a (.slice p n c) = bx at *
 go_enter Tryz.func59, Tryz.ntmps59
 go_wp2_with (first
  | (refine aA rfl 28 _ rfl _ _ rfl RL.out ?_)
  | (go_at_call 87; refine (C _ Zc.out.w.1).mono ?_; rintro e w1 ⟨rfl, hs⟩; have Zf : Hid _ := Zc.out.w.step hs; clear hs))
 go_end0
 exact ⟨rfl, Zf.out⟩
theorem aKi {M : List TT} (X : WX W g L u) (hk : a.k = 6) (C : ∀ u', WX W g L u' → Calls Tryz.prog 88 #[.pointer (some ⟨g, 0, none⟩), .agg (lcs a (.slice p n c))] u' fun e u'' => e = .returned (.tuple #[]) ∧ WS W g (L ++ M) u' u'') :
  Calls Tryz.prog 59 #[.pointer (some ⟨g, 0, none⟩), .agg (lcs a (.slice p n c))] u fun e u' => e = .returned (.tuple #[]) ∧ WS W g (L ++ M) u u' := by
 have Zc : Hid (ZZ W g L u (lcs a (.slice p n c)) (u.alloc (.cells (lcs a (.slice p n c)) 28))) := ZZ.begin X _
 have RL : Hid _ := Zc.out.load (aV _ _)
 obtain ⟨c0, c1, l2, l3, l4⟩ := aL Zc.out.b
 have c5 := dD Zc.out.b
 have L2 : Hid _ := l2
 have L3 : Hid _ := l3
 have L4 : Hid _ := l4
 rw [hk] at c0
 clear X l2 l3 l4
 generalize lcs a (.slice p n c) = bx at *
 go_enter Tryz.func59, Tryz.ntmps59
 go_wp2_with (first
  | (refine aA rfl 28 _ rfl _ _ rfl RL.out ?_)
  | (go_at_call 88; refine (C _ Zc.out.w.1).mono ?_; rintro e w1 ⟨rfl, hs⟩; have Zf : Hid _ := Zc.out.w.step hs; clear hs))
 go_end0
 exact ⟨rfl, Zf.out⟩
theorem aKj {M : List TT} (X : WX W g L u) (hk : a.k = 7) (C : ∀ u', WX W g L u' → Calls Tryz.prog 89 #[.pointer (some ⟨g, 0, none⟩), .agg (lcs a (.slice p n c))] u' fun e u'' => e = .returned (.tuple #[]) ∧ WS W g (L ++ M) u' u'') :
  Calls Tryz.prog 59 #[.pointer (some ⟨g, 0, none⟩), .agg (lcs a (.slice p n c))] u fun e u' => e = .returned (.tuple #[]) ∧ WS W g (L ++ M) u u' := by
 have Zc : Hid (ZZ W g L u (lcs a (.slice p n c)) (u.alloc (.cells (lcs a (.slice p n c)) 28))) := ZZ.begin X _
 have RL : Hid _ := Zc.out.load (aV _ _)
 obtain ⟨c0, c1, l2, l3, l4⟩ := aL Zc.out.b
 have c5 := dD Zc.out.b
 have L2 : Hid _ := l2
 have L3 : Hid _ := l3
 have L4 : Hid _ := l4
 rw [hk] at c0
 clear X l2 l3 l4
 generalize lcs a (.slice p n c) = bx at *
 go_enter Tryz.func59, Tryz.ntmps59
 go_wp2_with (first
  | (refine aA rfl 28 _ rfl _ _ rfl RL.out ?_)
  | (go_at_call 89; refine (C _ Zc.out.w.1).mono ?_; rintro e w1 ⟨rfl, hs⟩; have Zf : Hid _ := Zc.out.w.step hs; clear hs))
 go_end0
 exact ⟨rfl, Zf.out⟩
theorem aB5 (b h b' h' : ByteArray) (r c r' c' : Int) (fr fc fr' fc' : Bool) (s : ByteArray) (w : World) : (Instr.buildSlice 95 3 #[(0, .agg (tcs 3 0 noB b h r c fr fc)), (1, .agg (tcs 5 0 s noB noB 0 0 false false)), (2, .agg (tcs 3 0 noB b' h' r' c' fr' fc'))]).run Tryz.prog w = .ok (.slice (some ⟨w.heap.size, 0, none⟩) 3 3) (w.alloc (.cells ([tRf b h r c fr fc, tOp s, tRf b' h' r' c' fr' fc'].flatMap TT.cl).toArray 123)) := by kernel_rfl
theorem aKk (X : WX W g L u) (hk : a.k = 3) (hn : L.length + 3 ≤ 1000000) :
  Calls Tryz.prog 59 #[.pointer (some ⟨g, 0, none⟩), .agg (lcs a (.slice p n c))] u fun e u' => e = .returned (.tuple #[]) ∧ WS W g (L ++ [tRf a.b1 a.h1 a.r1 a.c1 a.fr1 a.fc1, tOp ⟨#[58]⟩, tRf a.b2 a.h2 a.r2 a.c2 a.fr2 a.fc2]) u u' := by
 have Zc : Hid (ZZ W g L u (lcs a (.slice p n c)) (u.alloc (.cells (lcs a (.slice p n c)) 28))) := ZZ.begin X _
 have RL : Hid _ := Zc.out.load (aV _ _)
 obtain ⟨c0, c1, l2, l3, l4⟩ := aL Zc.out.b
 have c5 := dD Zc.out.b
 have L2 : Hid _ := l2
 have L3 : Hid _ := l3
 have L4 : Hid _ := l4
 rw [hk] at c0
 have N1 : Hid (L.length + 3 ≤ 1000000) := hn
 have LD : Hid (∀ (M : List TT) (cur : World), ZZ W g M u (lcs a (.slice p n c)) cur → (Instr.loadAt 25 (.pointer (some ⟨u.heap.size, 5, none⟩))).run Tryz.prog cur = .ok (aY a.b1 a.h1 a.r1 a.c1 a.fr1 a.fc1) cur ∧ (Instr.loadAt 25 (.pointer (some ⟨u.heap.size, 11, none⟩))).run Tryz.prog cur = .ok (aY a.b2 a.h2 a.r2 a.c2 a.fr2 a.fc2) cur) := fun M cur h => ⟨(aL h.b).2.2.2.1, (aL h.b).2.2.2.2⟩
 clear X l2 l3 l4
 generalize lcs a (.slice p n c) = bx at *
 go_enter Tryz.func59, Tryz.ntmps59
 go_wp2
 refine aM (fun cur => (Instr.loadAt 25 (.pointer (some ⟨u.heap.size, 5, none⟩))).run Tryz.prog cur = .ok (aY a.b1 a.h1 a.r1 a.c1 a.fr1 a.fc1) cur ∧ (Instr.loadAt 25 (.pointer (some ⟨u.heap.size, 11, none⟩))).run Tryz.prog cur = .ok (aY a.b2 a.h2 a.r2 a.c2 a.fr2 a.fc2) cur) (fun _ => false) (by kernel_rfl) ?_
 have Z1 := Zc.out.bel (Below.refl _ _).drew
 clear Zc
 have Zc : Hid _ := Z1
 clear Z1
 refine dwp 0 (.pointer (some ⟨g, 0, none⟩)) ?_
 refine dwp 1 (.pointer (some ⟨u.heap.size, 5, none⟩)) ?_
 refine dX (i := 2) (v := aY a.b1 a.h1 a.r1 a.c1 a.fr1 a.fc1) rfl rfl (by kernel_rfl) (by kernel_rfl) (by kernel_rfl) (by kernel_rfl) (fun _ _ _ h => h) (by go_simp) (fun u hSu => aG rfl rfl hSu.1) (LD.out _ _ Zc.out) ?_
 try simp only [Act.put, List.setIfInBounds_toArray, List.set_cons_zero, List.set_cons_succ]
 refine dwp 5 (.pointer (some ⟨u.heap.size, 11, none⟩)) ?_
 refine dX (i := 6) (v := aY a.b2 a.h2 a.r2 a.c2 a.fr2 a.fc2) rfl rfl (by kernel_rfl) (by kernel_rfl) (by kernel_rfl) (by kernel_rfl) (fun _ _ _ h => h) (by go_simp) (fun u hSu => aG rfl rfl hSu.2) (LD.out _ _ Zc.out) ?_
 try simp only [Act.put, List.setIfInBounds_toArray, List.set_cons_zero, List.set_cons_succ]
 refine aF (i := 3) (by kernel_rfl) rfl ?_
 intro K hK
 go_simp
 refine (nG _ _ _ _ _ _ _).mono ?_
 rintro e w1 ⟨rfl, hb⟩
 have Zc1 := Zc.out.bel hb
 clear hb Zc
 have Zc : Hid _ := Zc1
 clear Zc1
 refine hK _ _ (.inr fun _ => LD.out _ _ Zc.out) ?_
 clear hK
 try simp only [Act.put, List.setIfInBounds_toArray, List.set_cons_zero, List.set_cons_succ]
 refine aF (i := 4) (by kernel_rfl) rfl ?_
 intro K hK
 go_simp
 refine (fO _ _).mono ?_
 rintro e w2 ⟨rfl, hb⟩
 have Zc1 := Zc.out.bel hb
 clear hb Zc
 have Zc : Hid _ := Zc1
 clear Zc1
 refine hK _ _ (.inr fun _ => LD.out _ _ Zc.out) ?_
 clear hK
 try simp only [Act.put, List.setIfInBounds_toArray, List.set_cons_zero, List.set_cons_succ]
 refine aF (i := 7) (by kernel_rfl) rfl ?_
 intro K hK
 go_simp
 refine (nG _ _ _ _ _ _ _).mono ?_
 rintro e w3 ⟨rfl, hb⟩
 have Zc1 := Zc.out.bel hb
 clear hb Zc
 have Zc : Hid _ := Zc1
 clear Zc1
 refine hK _ _ (.inr fun _ => LD.out _ _ Zc.out) ?_
 clear hK
 try simp only [Act.put, List.setIfInBounds_toArray, List.set_cons_zero, List.set_cons_succ]
 refine aF (i := 8) (by kernel_rfl) rfl ?_
 intro K hK
 rw [if_pos (by go_simp)]
 refine mP (some 32) rfl 95 3 _ rfl _ _ (by go_simp) (aB5 a.b1 a.h1 a.b2 a.h2 a.r1 a.c1 a.r2 a.c2 a.fr1 a.fc1 a.fr2 a.fc2 ⟨#[58]⟩ _) (hK _ _ (.inr fun _ => LD.out _ _ (Zc.out.bel (aC (Below.refl _ _) _))) ?_)
 clear hK
 try simp only [Act.put, List.setIfInBounds_toArray, List.set_cons_zero, List.set_cons_succ]
 refine aF (i := 9) (by kernel_rfl) rfl ?_
 intro K hK
 go_simp
 refine (Zc.out.put (M := [tRf a.b1 a.h1 a.r1 a.c1 a.fr1 a.fc1, tOp ⟨#[58]⟩, tRf a.b2 a.h2 a.r2 a.c2 a.fr2 a.fc2]) rfl (by simp) N1.out).mono ?_
 rintro e w4 ⟨rfl, Zc1⟩
 clear Zc
 have Zc : Hid _ := Zc1
 clear Zc1
 refine hK _ _ (.inr fun _ => LD.out _ _ Zc.out) ?_
 clear hK
 try simp only [Act.put, List.setIfInBounds_toArray, List.set_cons_zero, List.set_cons_succ]
 refine aK (by kernel_rfl) ?_ _
 go_wp2
 go_end0
 exact ⟨rfl, Zc.out.w⟩
end
theorem aAH {a : Lab} {n : Nat} (h : okL a n = true) : (a.k = 1 ∧ gcB a.vk a.vn a.vs = true) ∨ (a.k = 2 ∧ bB a.b1 a.h1 a.r1 a.c1 = true) ∨ (a.k = 3 ∧ bB a.b1 a.h1 a.r1 a.c1 = true ∧ bB a.b2 a.h2 a.r2 a.c2 = true ∧ a.h2.toList = []) ∨
  (a.k = 4 ∧ gnF a.s.data.toList = true ∧ (a.b1.toList = [] ∨ gnF a.b1.data.toList = true)) ∨ (a.k = 5 ∧ n = 1 ∧ (a.s.toList = [45] ∨ a.s.toList = [37])) ∨ (a.k = 6 ∧ n = 2 ∧ cO a.s.toList ≠ 0) ∨ (a.k = 7 ∧ n ≤ 16 ∧ gfB a.s = true) := by
 unfold okL at h
 rw [Bool.and_eq_true] at h
 have h2 := h.2
 clear h
 unfold fD at h2
 split at h2
 ·rename_i e; exact .inl ⟨e, h2⟩
 split at h2
 ·rename_i e; exact .inr (.inl ⟨e, h2⟩)
 split at h2
 ·rename_i e
  refine .inr (.inr (.inl ⟨e, ?_⟩))
  unfold paB at h2
  split at h2
  ·rename_i hh; exact hh
  ·rw [ByteArray.toList_eq] at h2
   exact absurd h2 (by decide)
 split at h2
 ·rename_i e
  rw [Bool.and_eq_true, Bool.or_eq_true] at h2
  exact .inr (.inr (.inr (.inl ⟨e, h2.1, h2.2.imp (fun h => by simpa using h) id⟩)))
 split at h2
 ·rename_i e
  rw [Bool.and_eq_true, Bool.or_eq_true] at h2
  exact .inr (.inr (.inr (.inr (.inl ⟨e, by have := h2.1; simp at this; omega, h2.2.imp (fun h => by simpa using h) (fun h => by simpa using h)⟩))))
 split at h2
 ·rename_i e
  rw [Bool.and_eq_true] at h2
  exact .inr (.inr (.inr (.inr (.inr (.inl ⟨e, by have := h2.1; simp at this; omega, by have := h2.2; simp at this; omega⟩)))))
 split at h2
 ·rename_i e
  rw [Bool.and_eq_true] at h2
  exact .inr (.inr (.inr (.inr (.inr (.inr ⟨e, by simpa using h2.1, h2.2⟩)))))
 ·cases h2
theorem aGQ {b h : ByteArray} {r c : Int} {fr fc : Bool} (hg : bB b h r c = true) : tRf b h r c fr fc = tk (yA b h r c fr fc) := by
 obtain ⟨R, C, rfl, rfl, _⟩ := iH hg
 unfold yA
 show _ = (⟨3, 0, noB, ba b.toList, ba h.toList, ((R : Int).toNat : Int), ((C : Int).toNat : Int), fr, fc⟩ : TT)
 rw [show ba b.toList = b by rw [ByteArray.toList_eq], show ba h.toList = h by rw [ByteArray.toList_eq]]
 rfl
theorem aAI {k n : Int} {s : ByteArray} (h : gcB k n s = true) : (k = 1 ∧ 0 ≤ n ∧ n ≤ 100000000000) ∨ (k = 2 ∧ s.size ≤ 255) ∨ (k = 3 ∧ (n = 0 ∨ n = 1)) ∨ (k = 4 ∧ 1 ≤ n ∧ n ≤ 8) := by
 unfold gcB at h
 split at h
 ·cases h
 rename_i k0
 split at h
 ·rename_i e
  subst e
  simp [fQ, gd] at h
  exact .inl ⟨rfl, h.1, h.2.2.2⟩
 rename_i k1
 unfold fQ at h
 rw [if_neg k0, if_neg k1] at h
 split at h
 ·rename_i e
  simp [uF] at h
  exact .inr (.inl ⟨e, h.2⟩)
 split at h
 ·rename_i e
  simp at h
  exact .inr (.inr (.inl ⟨e, h.2⟩))
 split at h
 ·rename_i e
  simp [knB] at h
  exact .inr (.inr (.inr ⟨e, h.2⟩))
 ·cases h
theorem tT {d : Nat} {t : T} (h : gT okL d t = true) : okL t.1 (kids t.2).length = true ∧ ∀ s ∈ kids t.2, gT okL (d - 1) s = true := by
 rw [aAC, Bool.and_eq_true, Bool.and_eq_true] at h
 exact ⟨h.1.2, fun s hs => List.all_eq_true.1 h.2 s hs⟩
theorem aKl {t : T} {a b : T} (h : kids t.2 = [a, b]) : zT t = zT a + zT b + 1 := by
 have hz : zT t = ((kids t.2).map zT).sum + 1 := by unfold zT; rw [gL]; rfl
 rw [hz, h]; simp
theorem aKm {t : T} {a : T} (h : kids t.2 = [a]) : zT t = zT a + 1 := by
 have hz : zT t = ((kids t.2).map zT).sum + 1 := by unfold zT; rw [gL]; rfl
 rw [hz, h]; simp
theorem kG (t : T) : tkT t = jJ t.1 (mJ t.2) := rfl
theorem aGR (l : List T) : eH l l.length = dR (l.map tkT) := by unfold eH; rw [List.take_of_length_le (Nat.le_refl _)]
theorem tN : ∀ t : T, ∀ d, gT okL d t = true → ∀ (W : World) (g : Nat) (es : Array Value) (L : List TT) (u : World), NT W es t → WX W g L u → eY W → L.length + 10 * zT t ≤ 1000000 →
  Calls Tryz.prog 59 #[.pointer (some ⟨g, 0, none⟩), .agg es] u fun e u' => e = .returned (.tuple #[]) ∧ WS W g (L ++ (tkT t).map tk) u u' := by
 refine ind ?_
 intro t ih d hg W g es L u hN X T hz
 obtain ⟨p, n, c, rfl, hs⟩ := hN
 obtain ⟨hok, aIJ⟩ := tT hg
 have hn := hs.1
 rw [← hn] at hok
 have IH : ∀ s ∈ kids t.2, ∀ es, NT W es s → NC W g es ((tkT s).map tk) (1000000 - 10 * zT s) := fun s hs es he L u hL hX => by
  have := kW hs
  exact ih s hs _ (aIJ s hs) W g es L u he hX T (by omega)
 have hz1 : 1 ≤ zT t := by unfold zT; omega
 rcases aAH hok with ⟨hk, h1⟩ | ⟨hk, h1⟩ | ⟨hk, h1, h2, h3⟩ | ⟨hk, h1, h2⟩ | ⟨hk, h1, h2⟩ | ⟨hk, h1, h2⟩ | ⟨hk, h1, h2⟩
 ·have e : tkT t = [kX t.1.vk t.1.vn t.1.vs] := by rw [kG t]; unfold jJ; rw [if_pos hk]
  rw [e]
  have hf := aAI h1
  exact aKe X hk (by omega) (fun e3 => by
   rcases hf with h | h | h | h
   ·omega
   ·omega
   ·rcases h.2 with h | h <;> rw [h] <;> exact ⟨by omega, by omega⟩
   ·omega) (fun a b c => by omega) T
 ·have e : tkT t = [yA t.1.b1 t.1.h1 t.1.r1 t.1.c1 t.1.fr1 t.1.fc1] := by rw [kG t]; unfold jJ; rw [if_neg (by omega), if_pos hk]
  rw [e]
  have := aKf (p := p) (n := n) (c := c) X hk (by omega)
  rw [aGQ h1] at this
  exact this
 ·have e : tkT t = [yA t.1.b1 t.1.h1 t.1.r1 t.1.c1 t.1.fr1 t.1.fc1, Tk.Tok.op [58], yA t.1.b2 t.1.h2 t.1.r2 t.1.c2 t.1.fr2 t.1.fc2] := by rw [kG t]; unfold jJ; rw [if_neg (by omega), if_neg (by omega), if_pos hk]
  rw [e]
  have := aKk (p := p) (n := n) (c := c) X hk (by omega)
  rw [aGQ h1, aGQ h2] at this
  exact this
 ·have e : tkT t = [Tk.Tok.word t.1.b1.toList t.1.s.toList] := by rw [kG t]; unfold jJ; rw [if_neg (by omega), if_neg (by omega), if_neg (by omega), if_pos hk]
  rw [e]
  have := aKg (p := p) (n := n) (c := c) X hk (by omega)
  rw [show [tWd t.1.b1 t.1.s] = [Tk.Tok.word t.1.b1.toList t.1.s.toList].map tk by
   show _ = [(⟨4, 0, ba t.1.s.toList, ba t.1.b1.toList, noB, 0, 0, false, false⟩ : TT)]
   rw [show ba t.1.b1.toList = t.1.b1 by rw [ByteArray.toList_eq], show ba t.1.s.toList = t.1.s by rw [ByteArray.toList_eq]]] at this
  exact this
 ·subst h1
  obtain ⟨a, es, s, rfl, R, hks, hNs⟩ := hs.kid 0 (by omega)
  have oJ : kids t.2 = [s] := by
   match hq : kids t.2, hn, hks with
   | [x], _, hks => simp at hks; rw [hks]
  have hzs := aKm oJ
  have hm : s ∈ kids t.2 := by rw [oJ]; simp
  have htl := pQ s
  have aEi : kF (mJ t.2) 0 = (cB s.1, tkT s) := by unfold kF; rw [gD, oJ]; rfl
  refine aKh X hk fun u' X' => ?_
  by_cases hm1 : t.1.s.toList = [45]
  ·have e : (tkT t).map tk = [tOp ⟨#[45]⟩] ++ (dL (cB s.1, tkT s) 6).map tk := by
    rw [kG t]; unfold jJ; rw [if_neg (by omega), if_neg (by omega), if_neg (by omega), if_neg (by omega), if_pos hk, if_pos hm1, aEi]; rfl
   rw [e, ← List.append_assoc]
   exact aGO X' (by simpa using hm1) R hNs (by omega) (m := 1000000 - 10 * zT s) (by omega) (IH s hm es hNs)
  ·have e : (tkT t).map tk = (dL (cB s.1, tkT s) 7).map tk ++ [tOp ⟨#[37]⟩] := by
    rw [kG t]; unfold jJ; rw [if_neg (by omega), if_neg (by omega), if_neg (by omega), if_neg (by omega), if_pos hk, if_neg hm1, aEi, List.map_append]; rfl
   rw [e, ← List.append_assoc]
   exact aKd X' (by simpa using hm1) R hNs (by omega) (m := 1000000 - 10 * zT s) (by omega) (IH s hm es hNs)
 ·subst h1
  obtain ⟨a, es, s, rfl, R, hks, hNs⟩ := hs.kid 0 (by omega)
  obtain ⟨a', es1, s1, e', R1, aAJ, aKY⟩ := hs.kid 1 (by omega)
  cases e'
  have oJ : kids t.2 = [s, s1] := by
   match hq : kids t.2, hn, hks, aAJ with
   | [x, y], _, hks, aAJ => simp at hks aAJ; rw [hks, aAJ]
  have hzs := aKl oJ
  have hm : s ∈ kids t.2 := by rw [oJ]; simp
  have hm1 : s1 ∈ kids t.2 := by rw [oJ]; simp
  have htl := pQ s
  have aMa := pQ s1
  have aEi : kF (mJ t.2) 0 = (cB s.1, tkT s) := by unfold kF; rw [gD, oJ]; rfl
  have aKZ : kF (mJ t.2) 1 = (cB s1.1, tkT s1) := by unfold kF; rw [gD, oJ]; rfl
  refine aKi X hk fun u' X' => ?_
  have e : (tkT t).map tk = (dL (cB s.1, tkT s) (cO t.1.s.toList)).map tk ++ [tOp t.1.s] ++ (dL (cB s1.1, tkT s1) (cO t.1.s.toList + 1)).map tk := by
   rw [kG t]
   unfold jJ
   rw [if_neg (by omega), if_neg (by omega), if_neg (by omega), if_neg (by omega), if_neg (by omega), if_pos hk, aEi, aKZ, List.map_append, List.map_cons]
   rw [show tk (Tk.Tok.op t.1.s.toList) = tOp t.1.s by
    show (⟨5, 0, ba t.1.s.toList, noB, noB, 0, 0, false, false⟩ : TT) = _
    rw [show ba t.1.s.toList = t.1.s by rw [ByteArray.toList_eq]]]
   simp
  rw [e, ← List.append_assoc, ← List.append_assoc]
  exact aII X' R hNs R1 aKY (by omega) (m := 1000000 - 10 * zT s) (m1 := 1000000 - 10 * zT s1) (by omega) (by omega) (IH s hm es hNs) (IH s1 hm1 es1 aKY)
 ·refine aKj X hk fun u' X' => ?_
  have e : (tkT t).map tk = [tWd noB t.1.s, tOp ⟨#[40]⟩] ++ (eH (kids t.2) n).map tk ++ [tOp ⟨#[41]⟩] := by
   rw [kG t]
   unfold jJ
   rw [if_neg (by omega), if_neg (by omega), if_neg (by omega), if_neg (by omega), if_neg (by omega), if_neg (by omega), if_pos hk, hn, aGR, gD, List.map_map]
   rw [List.map_cons, List.map_cons, List.map_append]
   rw [show tk (Tk.Tok.word [] t.1.s.toList) = tWd noB t.1.s by
    show (⟨4, 0, ba t.1.s.toList, ba [], noB, 0, 0, false, false⟩ : TT) = _
    rw [show ba t.1.s.toList = t.1.s by rw [ByteArray.toList_eq]]]
   rw [show ((fun x : Nat × List Tk.Tok => x.2) ∘ fun t : Lab × F => (cB t.1, tkT t)) = tkT from rfl]
   generalize dR ((kids t.2).map tkT) = A
   simp only [List.cons_append, List.nil_append, List.append_assoc, List.map_cons, List.map_nil]
   rfl
  rw [e, ← List.append_assoc, ← List.append_assoc]
  exact aEm X' hs (by omega) hz IH
theorem aB6 {b h : ByteArray} {r c : Int} {fr fc : Bool} (hg : bB b h r c = true) : Tk.okT gnF trB okN (yA b h r c fr fc) := by
 obtain ⟨R, C, rfl, rfl, q1, q2, q3, q4, hw⟩ := iH hg
 show Ad.aED gnF ⟨b.toList, h.toList, ⟨R, C, fr, fc⟩⟩
 refine ⟨⟨q1, q2, q3, q4⟩, ?_, ?_⟩
 ·rcases hw with ⟨h1, h2⟩ | ⟨h1, h2, h3⟩ | ⟨h1, h2, h3, h4⟩
  ·exact .inl h1
  ·exact .inr (by show gnF h.toList = true; rw [ByteArray.toList_eq]; exact h2)
  ·exact .inr (by show gnF h.toList = true; rw [ByteArray.toList_eq]; exact h2)
 ·rcases hw with ⟨h1, h2⟩ | ⟨h1, h2, h3⟩ | ⟨h1, h2, h3, h4⟩
  ·exact .inl h2
  ·exact .inl h3
  ·exact .inr ⟨by rw [ByteArray.toList_eq]; exact h4, by simpa using h1⟩
theorem vR (c : UInt8) (h : c ∈ Tk.ones) : Tk.okT gnF trB okN (Tk.Tok.op [c]) ∧ smT (Tk.Tok.op [c]) := ⟨.inl ⟨c, h, rfl⟩, trivial⟩
theorem aKn {l : List UInt8} (h : cO l ≠ 0) : Tk.okT gnF trB okN (Tk.Tok.op l) ∧ smT (Tk.Tok.op l) := by
 refine ⟨?_, trivial⟩
 have one : ∀ c ∈ Tk.ones, l = [c] → Tk.okT gnF trB okN (Tk.Tok.op l) := fun c hc e => .inl ⟨c, hc, e⟩
 have two : ∀ c d, Tk.two c d = true → l = [c, d] → Tk.okT gnF trB okN (Tk.Tok.op l) := fun c d hc e => .inr ⟨c, d, hc, e⟩
 unfold cO at h
 split at h
 ·rename_i hh
  rcases hh with e | e | e | e | e | e
  ·exact one _ (by decide) e
  ·exact two _ _ (by decide) e
  ·exact one _ (by decide) e
  ·exact two _ _ (by decide) e
  ·exact one _ (by decide) e
  ·exact two _ _ (by decide) e
 split at h
 ·rename_i e; exact one _ (by decide) e
 split at h
 ·rename_i hh
  rcases hh with e | e <;> exact one _ (by decide) e
 split at h
 ·rename_i hh
  rcases hh with e | e <;> exact one _ (by decide) e
 split at h
 ·rename_i e; exact one _ (by decide) e
 ·exact absurd rfl h
theorem aCY : trB [84, 82, 85, 69] = true ∧ trB [70, 65, 76, 83, 69] = true := by
 constructor <;> (unfold trB; decide)
theorem aGS {k n : Int} {s : ByteArray} (h : gcB k n s = true) : Tk.okT gnF trB okN (kX k n s) ∧ smT (kX k n s) := by
 rcases aAI h with ⟨rfl, h1, h2⟩ | ⟨rfl, h1⟩ | ⟨rfl, h1⟩ | ⟨rfl, h1, h2⟩
 ·exact ⟨⟨h1, h2⟩, trivial⟩
 ·refine ⟨trivial, ?_⟩
  show s.toList.length ≤ 255
  rw [ByteArray.toList_eq, bY]; exact h1
 ·refine ⟨.inl ⟨rfl, .inr ?_⟩, trivial⟩
  show trB (kT 3 n s).toList = true
  rw [ByteArray.toList_eq]
  rcases h1 with rfl | rfl
  ·exact aCY.2
  ·exact aCY.1
 ·refine ⟨?_, trivial⟩
  show 1 ≤ n.toNat ∧ n.toNat ≤ 8
  omega
theorem wrap_mem {p : Nat × List Tk.Tok} {k : Nat} {x : Tk.Tok} (h : x ∈ dL p k) : x ∈ p.2 ∨ x = Tk.Tok.op [40] ∨ x = Tk.Tok.op [41] := by
 unfold dL at h
 split at h
 ·exact .inl h
 ·simp only [List.mem_cons, List.mem_append, List.not_mem_nil, or_false] at h
  rcases h with h | h | h
  ·exact .inr (.inl h)
  ·exact .inl h
  ·exact .inr (.inr h)
theorem vS : ∀ {l : List (List Tk.Tok)} {x : Tk.Tok}, x ∈ dR l → x = Tk.Tok.op [44] ∨ ∃ y ∈ l, x ∈ y
 | [], x, h => by simp [dR] at h
 | [y], x, h => .inr ⟨y, by simp, h⟩
 | y :: z :: r, x, h => by
  rw [dR, List.mem_append, List.mem_cons] at h
  rcases h with h | h | h
  ·exact .inr ⟨y, by simp, h⟩
  ·exact .inl h
  ·rcases vS h with h | ⟨q, hq, hx⟩
   ·exact .inl h
   ·exact .inr ⟨q, by simp [List.mem_cons] at hq ⊢; exact .inr hq, hx⟩
theorem aEn : ∀ t : T, ∀ d, gT okL d t = true → ∀ x ∈ tkT t, Tk.okT gnF trB okN x ∧ smT x := by
 refine ind ?_
 intro t ih d hg x hx
 obtain ⟨hok, aIJ⟩ := tT hg
 have o40 := vR 40 (by decide)
 have o41 := vR 41 (by decide)
 have hwrap : ∀ i lv, x ∈ dL (kF (mJ t.2) i) lv → Tk.okT gnF trB okN x ∧ smT x := fun i lv h => by
  rcases wrap_mem h with h | h | h
  ·unfold kF at h
   rw [gD, List.getElem?_map] at h
   cases hq : (kids t.2)[i]? with
   | none => rw [hq] at h; simp at h
   | some s =>
    rw [hq] at h
    have hm := List.mem_of_getElem? hq
    exact ih s hm _ (aIJ s hm) x h
  ·rw [h]; exact o40
  ·rw [h]; exact o41
 rw [kG t] at hx
 unfold jJ at hx
 rcases aAH hok with ⟨hk, h1⟩ | ⟨hk, h1⟩ | ⟨hk, h1, h2, h3⟩ | ⟨hk, h1, h2⟩ | ⟨hk, h1, h2⟩ | ⟨hk, h1, h2⟩ | ⟨hk, h1, h2⟩
 ·rw [if_pos hk, List.mem_singleton] at hx
  rw [hx]; exact aGS h1
 ·rw [if_neg (by omega), if_pos hk, List.mem_singleton] at hx
  rw [hx]; exact ⟨aB6 h1, trivial⟩
 ·rw [if_neg (by omega), if_neg (by omega), if_pos hk] at hx
  simp only [List.mem_cons, List.not_mem_nil, or_false] at hx
  rcases hx with hx | hx | hx
  ·rw [hx]; exact ⟨aB6 h1, trivial⟩
  ·rw [hx]; exact vR 58 (by decide)
  ·rw [hx]; exact ⟨aB6 h2, trivial⟩
 ·rw [if_neg (by omega), if_neg (by omega), if_neg (by omega), if_pos hk, List.mem_singleton] at hx
  rw [hx]
  refine ⟨?_, trivial⟩
  rcases h2 with h2 | h2
  ·exact .inl ⟨h2, .inl (by rw [ByteArray.toList_eq]; exact h1)⟩
  ·exact .inr ⟨by rw [ByteArray.toList_eq]; exact h2, by rw [ByteArray.toList_eq]; exact h1⟩
 ·rw [if_neg (by omega), if_neg (by omega), if_neg (by omega), if_neg (by omega), if_pos hk] at hx
  split at hx
  ·rcases List.mem_cons.1 hx with hx | hx
   ·rw [hx]; exact vR 45 (by decide)
   ·exact hwrap _ _ hx
  ·rcases List.mem_append.1 hx with hx | hx
   ·exact hwrap _ _ hx
   ·rw [List.mem_singleton.1 hx]; exact vR 37 (by decide)
 ·rw [if_neg (by omega), if_neg (by omega), if_neg (by omega), if_neg (by omega), if_neg (by omega), if_pos hk] at hx
  rcases List.mem_append.1 hx with hx | hx
  ·exact hwrap _ _ hx
  rcases List.mem_cons.1 hx with hx | hx
  ·rw [hx]; exact aKn h2
  ·exact hwrap _ _ hx
 ·rw [if_neg (by omega), if_neg (by omega), if_neg (by omega), if_neg (by omega), if_neg (by omega), if_neg (by omega), if_pos hk] at hx
  rcases List.mem_cons.1 hx with hx | hx
  ·rw [hx]
   refine ⟨.inl ⟨rfl, ?_⟩, trivial⟩
   unfold gfB at h2
   rw [Bool.and_eq_true, Bool.or_eq_true] at h2
   rw [ByteArray.toList_eq]
   rcases h2.2 with h | h
   ·exact .inl h
   ·right
    unfold bM at h
    split at h
    ·cases h
    split at h
    ·cases h
    split at h
    ·cases h
    split at h
    ·rename_i ht; exact ht
    split at h
    ·cases h
    ·cases h
  rcases List.mem_cons.1 hx with hx | hx
  ·rw [hx]; exact o40
  rcases List.mem_append.1 hx with hx | hx
  ·rcases vS hx with h | ⟨y, hy, hxy⟩
   ·rw [h]; exact vR 44 (by decide)
   ·rw [gD, List.map_map] at hy
    obtain ⟨s, hs, rfl⟩ := List.mem_map.1 hy
    exact ih s hs _ (aIJ s hs) x hxy
  ·rw [List.mem_singleton.1 hx]; exact o41
def yB (t : T) : List UInt8 := if gT okL 24 t = true then prT none (tkT t) else []
theorem aB7 {t : T} (hz : zT t ≤ 900) (hZ : ZT t) {w : World} {es : Array Value} (h : NT w es t) (T : cZ w) : Calls Tryz.prog 35 #[.agg es] w fun e w' => e = .returned (.string (ba (yB t))) ∧ Below w.heap.size w w' := by
 have B1 := aC (Below.refl w.heap.size w) (.cells es 28)
 have G := aD0 (by omega) hZ (h.below B1) (T.below B1).t.t
 have RL : Hid _ := (iA h).2 (heap_alloc_new w (.cells es 28))
 unfold yB
 cases hq : gT okL 24 t
 ·rw [hq] at G
  rw [if_neg (by decide)]
  clear h T hq hZ hz
  go_enter Tryz.func35, Tryz.ntmps35
  go_wp2_with (first
   | (refine aA rfl 28 _ rfl _ _ rfl RL.out ?_; clear RL)
   | (go_at_call 58; refine G.mono ?_; rintro e w2 ⟨rfl, hs⟩; have HU2 : Hid (Below w.heap.size w w2) := aS hs; clear hs))
  go_ret
  exact ⟨rfl, HU2.out⟩
 ·rw [if_pos rfl]
  have OK := aEn t 24 hq
  have PT : ∀ (u : World) (v : Value), dK 123 0 u v ((tkT t).map tk) → cZ u → Calls Tryz.prog 60 #[v] u fun e w' => e = .returned (.string (ba (prT none (tkT t)))) ∧ Below u.heap.size u w' := fun u v ho hT => aB2 hT ho (by have := pQ t; omega) (fun x hx => (OK x hx).1) (fun x hx => (OK x hx).2)
  have NO := fun (W : World) (u : World) (hW : Below (w.alloc (.cells es 28)).heap.size (w.alloc (.cells es 28)) W) (X : WX W W.heap.size [] u) => tN t 24 hq W W.heap.size es [] u ((h.below B1).below hW) X ((T.below B1).below hW).t.t (by simp; omega)
  have G2 : Calls Tryz.prog 58 #[.agg es] (w.alloc (.cells es 28)) fun e W => e = .returned (.bool true) ∧ Hid ((Instr.loadAt 28 (.pointer (some ⟨w.heap.size, 0, none⟩))).run Tryz.prog (W.alloc (.cells #[.slice none 0 0] 101)) = .ok (.agg es) (W.alloc (.cells #[.slice none 0 0] 101))) ∧
    Calls Tryz.prog 59 #[.pointer (some ⟨W.heap.size, 0, none⟩), .agg es] (W.alloc (.cells #[.slice none 0 0] 101)) (fun e u' => e = .returned (.tuple #[]) ∧ ∃ v, u'.cell? ⟨W.heap.size, 0, none⟩ = some v ∧ Hid (dK 123 0 u' v ((tkT t).map tk) ∧ cZ u' ∧ Below w.heap.size w u')) := G.mono (by
   rintro e W ⟨rfl, hW⟩
   have B2 := aC (Below.refl W.heap.size W) (.cells #[.slice none 0 0] 101)
   have aK0 : W.heap[w.heap.size]? = some (.cells es 28) := (hW.block _ (by simp)).trans (heap_alloc_new _ _)
   refine ⟨by rw [hq], (iA h).2 ((B2.block _ (aW aK0)).trans aK0), (NO W _ hW ⟨B2, Nat.le_refl _, _, heap_alloc_new _ _, dK.nil _ _ _⟩).mono ?_⟩
   rintro e u' ⟨rfl, hs⟩
   obtain ⟨v, hv, ho⟩ := hs.1.blk
   have hb : Below w.heap.size w u' := by
    have b1 : Below w.heap.size w W := aS hW
    exact aJ b1 hs.1.bel
   exact ⟨rfl, v, by rw [cell_of_row u' _ 0 _ _ _ hv]; rfl, ho.base (Nat.zero_le _), T.below hb, hb⟩)
  clear h T hq hZ hz G NO OK B1
  generalize prT none (tkT t) = X at *
  go_enter Tryz.func35, Tryz.ntmps35
  go_wp2_with (first
   | (refine aA rfl 28 _ rfl _ _ rfl RL.out ?_; clear RL)
   | (go_at_call 58; refine G2.mono ?_; rintro e W ⟨rfl, RL, NO⟩; clear G2)
   | (go_at_call 59; refine NO.mono ?_; rintro e u' ⟨rfl, v, cv, HO⟩; clear NO)
   | (go_at_call 60; refine (PT _ _ HO.out.1 HO.out.2.1).mono ?_; rintro e u2 ⟨rfl, hb⟩; have HF : Hid (Below w.heap.size w u2) := aJ HO.out.2.2 hb; clear hb))
  go_ret
  exact ⟨rfl, HF.out⟩
end Go.Proofs.YtljmklbbngpllaaGreatDoor
