/- RwWith, RQ, RSameY, RSame1. -/
import Derived.Test.YtljmklbbngpllaaGreatDoorFCallNd
set_option linter.unusedVariables false
set_option linter.unusedSimpArgs false
set_option maxHeartbeats 16000000
set_option maxRecDepth 100000
namespace Go.Proofs.YtljmklbbngpllaaGreatDoor.Rw
open Go.RowKit Go.Fm
def aAp (C : Chg) (H : Hm) (fv : Array Value) (t : T) : Prop := ∀ (K : Nat → Prop) (w : World) (es : Array Value), NK K w es t → (∀ i, K i → i < w.heap.size) → Calls Tryz.prog 31 #[.agg fv, .agg es] w fun e w' => e = .returned (.bool (nmT C H t)) ∧ Below w.heap.size w w'
def aCu (C : Chg) (H : Hm) (f : F) (k : Nat) : Prop := ((kids f).take k).any (nmT C H) = false
theorem aGr {C : Chg} {H : Hm} {fv : Array Value} {f : F} (ih : ∀ s ∈ kids f, aAp C H fv s) {K : Nat → Prop} {w : World} {p : Option Addr} {n c : Nat} (h : SK K w p n f) (hK : ∀ i, K i → i < w.heap.size) (hn : n ≤ 900) :
  Calls Tryz.prog 74 #[.slice p n c, .func (.func 31) #[.agg fv] #[]] w fun e w' => ∃ r : Int, e = .returned (.int .i64 r) ∧ (decide (0 ≤ r) = (kids f).any (nmT C H)) ∧ Below w.heap.size w w' := by
 have HI : Hid (∀ s ∈ kids f, aAp C H fv s) := ih
 have HSK : Hid (SK K w p n f) := h
 have HKK : Hid (∀ i, K i → i < w.heap.size) := hK
 have HNn : Hid (n = (kids f).length) := h.1
 clear h hK ih
 go_enter Tryz.func74, Tryz.ntmps74
 go_wp2
 go_loopw [8] (fun i wr => ∃ k : Nat, k ≤ n ∧ i = .int .i64 (k : Nat) ∧ Hid (aCu C H f k) ∧ Hid (Below w.heap.size w wr)) (fun i _ => n - (intOf i).toNat)
 case atStart => exact ⟨0, Nat.zero_le _, rfl, rfl, Below.refl _ _⟩
 case round =>
  obtain ⟨k, hk, rfl, HH, HB⟩ := hrel
  by_cases hlt : k < n
  ·have hki : (k : Int) < n := by omega
   obtain ⟨a, es, s, rfl, RL, HS, hN⟩ := (HSK.out.grown (aZ (row := none) HB.out) (fun g e => by cases e)).get k hlt
   have RLh : Hid _ := RL
   have CW := HI.out s (List.mem_of_getElem? HS) K wr es hN (fun i hi => by have := HKK.out i hi; have := HB.out.size; omega)
   have HT : Hid (∀ b, nmT C H s = b → (b = false → aCu C H f (k + 1)) ∧ (b = true → (kids f).any (nmT C H) = true)) := fun b hb => by
    subst hb
    refine ⟨fun e => ?_, fun e => List.any_eq_true.2 ⟨s, List.mem_of_getElem? HS, e⟩⟩
    have hh := HH.out
    unfold aCu at hh ⊢
    rw [List.take_add_one, HS, List.any_append, hh]
    simp [e]
   clear hN RL HS
   generalize nmT C H s = b at *
   obtain ⟨t0, t1⟩ := HT.out b rfl
   clear HT
   cases b
   ·have HN1 : Hid _ := t0 rfl
    clear t0 t1
    go_wp2_with (first
     | ((with_reducible show wpList _ _ _ ({ dst := _, op := Op.load 28 _, type := _, pos := _, after := _, guard := none } :: _) _ _); refine aB rfl 28 _ rfl _ _ rfl RLh.out ?_; clear RLh)
     | (go_at_call 31; refine CW.mono ?_; clear CW; rintro e w3 ⟨rfl, hb⟩; have HB3 : Hid _ := aG HB.out hb; clear hb))
    go_roundw
    case rel => exact ⟨k + 1, by omega, by go_num, HN1, HB3⟩
    case measure => simp [intOf]; omega
   ·have HN1 : Hid _ := t1 rfl
    clear t0 t1
    go_wp2_with (first
     | ((with_reducible show wpList _ _ _ ({ dst := _, op := Op.load 28 _, type := _, pos := _, after := _, guard := none } :: _) _ _); refine aB rfl 28 _ rfl _ _ rfl RLh.out ?_; clear RLh)
     | (go_at_call 31; refine CW.mono ?_; clear CW; rintro e w3 ⟨rfl, hb⟩; have HB3 : Hid _ := aG HB.out hb; clear hb))
    go_ret
    exact ⟨_, rfl, by rw [HN1.out]; simp, HB3.out⟩
  ·have hki : ¬ (k : Int) < n := by omega
   have HE : Hid ((kids f).any (nmT C H) = false) := by
    have hh := HH.out
    unfold aCu at hh
    rwa [List.take_of_length_le (by have := HNn.out; omega)] at hh
   go_wp2
   go_ret
   exact ⟨_, rfl, by rw [HE.out]; simp, HB.out⟩
theorem aAq {C : Chg} {H : Hm} {fv : Array Value} {f : F} (ih : ∀ s ∈ kids f, aAp C H fv s) {K : Nat → Prop} {w : World} {p : Option Addr} {n c : Nat} (h : SK K w p n f) (hK : ∀ i, K i → i < w.heap.size) (hn : n ≤ 900) :
  Calls Tryz.prog 53 #[.slice p n c, .func (.func 31) #[.agg fv] #[]] w fun e w' => e = .returned (.bool (nmF C H f)) ∧ Below w.heap.size w w' := by
 have CI := aGr (c := c) ih h hK hn
 rw [aFU]
 generalize (kids f).any (nmT C H) = b at *
 clear ih h hK
 go_enter Tryz.func53, Tryz.ntmps53
 go_wp2_with (go_at_call 74; refine CI.mono ?_; clear CI; rintro e w3 ⟨r, rfl, hr, hb⟩; have HB3 : Hid _ := hb; clear hb)
 all_goals (go_ret; exact ⟨by rw [← hr]; first | rfl | (simp; omega), HB3.out⟩)
theorem aBG (C : Chg) (H : Hm) (rf af : Value) : ∀ t : T, zT t ≤ 900 → aAp C H (gN C.bk C.sh H.hb H.hs H.hr H.hc rf af) t := by
 refine ind ?_
 intro t ih hz K w es h hK
 have hkl := jF t
 have ih' : ∀ s ∈ kids t.2, aAp C H (gN C.bk C.sh H.hb H.hs H.hr H.hc rf af) s := fun s hs => ih s hs (by have := iZ hs; omega)
 have hN := h
 obtain ⟨p, n, c, rfl, hs⟩ := h
 have aAe : n ≤ 900 := by have := hs.1; omega
 have NA : ∀ u, Calls Tryz.prog 46 #[.agg (gN C.bk C.sh H.hb H.hs H.hr H.hc rf af), .agg (lcs t.1 (.slice p n c))] u fun e w' => e = .returned (.bool (nm C H t.1)) ∧ Below u.heap.size u w' := fun u => nY C.bk C.sh H.hb H.hs H.hr H.hc rf af t.1 (.slice p n c) u
 have hsz : (gN C.bk C.sh H.hb H.hs H.hr H.hc rf af).size = 8 := rfl
 have hbx : (lcs t.1 (.slice p n c)).size = 18 := rfl
 generalize gN C.bk C.sh H.hb H.hs H.hr H.hc rf af = fv at *
 obtain ⟨W, hW⟩ : ∃ W, W = (w.alloc (.cells fv 64)).alloc (.cells (lcs t.1 (.slice p n c)) 28) := ⟨_, rfl⟩
 have HB0 : Below w.heap.size w W := by rw [hW]; exact aA (aA (Below.refl _ _) _) _
 have HN : Hid (∀ u, Below W.heap.size W u → u.heap[w.heap.size]? = some (.cells fv 64) ∧ u.heap[w.heap.size + 1]? = some (.cells (lcs t.1 (.slice p n c)) 28) ∧ Below w.heap.size w u) := fun u hu => by
  have hu0 := hu
  rw [hW] at hu
  obtain ⟨q0, q1⟩ := new2 hu
  exact ⟨q0, q1, aG HB0 hu0⟩
 have HW : Hid (Below W.heap.size W W) := Below.refl _ _
 have HL : Hid (∀ u, Below W.heap.size W u → (Instr.loadAt 64 (.pointer (some ⟨w.heap.size, 0, none⟩))).run Tryz.prog u = .ok (.agg fv) u ∧ (Instr.loadAt 28 (.pointer (some ⟨w.heap.size + 1, 0, none⟩))).run Tryz.prog u = .ok (.agg (lcs t.1 (.slice p n c))) u ∧ (Instr.loadAt 26 (.pointer (some ⟨w.heap.size + 1, 17, none⟩))).run Tryz.prog u = .ok (.slice p n c) u) := fun u hu => ⟨aJg (HN.out u hu).1 hsz, lod (HN.out u hu).2.1 rfl Tryz.underlying28 (by rw [hbx]; exact bS), aFV (aY (HN.out u hu).2.1)⟩
 have HCN : Hid (∀ u, Below W.heap.size W u → Calls Tryz.prog 53 #[.slice p n c, .func (.func 31) #[.agg fv] #[]] u fun e w' => e = .returned (.bool (nmF C H t.2)) ∧ Below W.heap.size W w') := fun u hu => (aAq (c := c) ih' ((show SK K w p n t.2 from hs).grown (aZ (row := none) (HN.out u hu).2.2) (fun g e => by cases e)) (fun i hi => by have := hK i hi; have := (HN.out u hu).2.2.size; omega) aAe).mono fun e w' hh => ⟨hh.1, aG hu hh.2⟩
 have HWe : Hid (W = (w.alloc (.cells fv 64)).alloc (.cells (lcs t.1 (.slice p n c)) 28)) := hW
 have HNA : Hid (∀ u, Below W.heap.size W u → Calls Tryz.prog 46 #[.agg fv, .agg (lcs t.1 (.slice p n c))] u fun e w' => e = .returned (.bool (nm C H t.1)) ∧ Below W.heap.size W w') := fun u hu => (NA u).mono fun e w' hh => ⟨hh.1, aG hu hh.2⟩
 have HQ : nmT C H t = (nm C H t.1 || nmF C H t.2) := rfl
 rw [HQ]
 clear ih ih' hs hN hK hW HB0 NA hkl HQ
 generalize nmF C H t.2 = nb2 at *
 generalize lcs t.1 (.slice p n c) = bx at *
 have hWx := HWe.out
 clear HWe
 cases hb : nm C H t.1
 ·rw [hb] at HNA
  have RF1 : Hid _ := (HL.out _ HW.out).1
  have RX1 : Hid _ := (HL.out _ HW.out).2.1
  subst hWx
  clear hsz hbx
  go_enter Tryz.func31, Tryz.ntmps31
  go_wp2_with (first
   | ((with_reducible show wpList _ _ _ ({ dst := _, op := Op.load 64 _, type := _, pos := _, after := _, guard := none } :: _) _ _); refine aB rfl 64 _ rfl _ _ rfl RF1.out ?_; clear RF1)
   | ((with_reducible show wpList _ _ _ ({ dst := _, op := Op.load 28 _, type := _, pos := _, after := _, guard := none } :: _) _ _); refine aB rfl 28 _ rfl _ _ rfl RX1.out ?_; clear RX1)
   | (refine aF 26 _ rfl _ _ rfl RC1.out (by go_simp) ?_; clear RC1)
   | (refine aF 64 _ rfl _ _ rfl RF1.out (by go_simp) ?_; clear RF1)
   | (go_at_call 46; refine (HNA.out _ HW.out).mono ?_; clear HNA; rintro e w2 ⟨rfl, hb2⟩; have HW2 : Hid _ := hb2; have RF1 : Hid _ := (HL.out _ hb2).1; have RC1 : Hid _ := (HL.out _ hb2).2.2; clear hb2)
   | (go_at_call 53; refine (HCN.out _ HW2.out).mono ?_; clear HCN; rintro e w3 ⟨rfl, hb2⟩; have HW2 : Hid _ := hb2; clear hb2))
  go_ret
  exact ⟨by rw [Bool.false_or]; rfl, (HN.out _ HW2.out).2.2⟩
 ·rw [hb] at HNA
  have RF1 : Hid _ := (HL.out _ HW.out).1
  have RX1 : Hid _ := (HL.out _ HW.out).2.1
  subst hWx
  clear hsz hbx
  go_enter Tryz.func31, Tryz.ntmps31
  go_wp2_with (first
   | ((with_reducible show wpList _ _ _ ({ dst := _, op := Op.load 64 _, type := _, pos := _, after := _, guard := none } :: _) _ _); refine aB rfl 64 _ rfl _ _ rfl RF1.out ?_; clear RF1)
   | ((with_reducible show wpList _ _ _ ({ dst := _, op := Op.load 28 _, type := _, pos := _, after := _, guard := none } :: _) _ _); refine aB rfl 28 _ rfl _ _ rfl RX1.out ?_; clear RX1)
   | (refine aF 26 _ rfl _ _ rfl RC1.out (by go_simp) ?_; clear RC1)
   | (refine aF 64 _ rfl _ _ rfl RF1.out (by go_simp) ?_; clear RF1)
   | (go_at_call 46; refine (HNA.out _ HW.out).mono ?_; clear HNA; rintro e w2 ⟨rfl, hb2⟩; have HW2 : Hid _ := hb2; have RF1 : Hid _ := (HL.out _ hb2).1; have RC1 : Hid _ := (HL.out _ hb2).2.2; clear hb2)
   | (go_at_call 53; refine (HCN.out _ HW2.out).mono ?_; clear HCN; rintro e w3 ⟨rfl, hb2⟩; have HW2 : Hid _ := hb2; clear hb2))
  go_ret
  exact ⟨by rw [Bool.true_or]; rfl, (HN.out _ HW2.out).2.2⟩
theorem aAr (C : Chg) (H : Hm) {K : Nat → Prop} {t : T} (hz : zT t ≤ 900) {w : World} {es : Array Value} (h : NK K w es t) (hK : ∀ i, K i → i < w.heap.size) :
  Calls Tryz.prog 14 #[.agg es, hmV H, .agg (aW C)] w fun e w' => e = .returned (.bool (nmT C H t)) ∧ Below w.heap.size w w' := by
 have aJi := h.size
 obtain ⟨W, hW⟩ : ∃ W, W = ((w.alloc (.cells es 28)).alloc (bF H.hb H.hs H.hr H.hc)).alloc (.cells (aW C) 34) := ⟨_, rfl⟩
 have HB0 : Below w.heap.size w W := by rw [hW]; exact aA (aA (aA (Below.refl _ _) _) _) _
 have HN : Hid (∀ u, Below W.heap.size W u → (u.heap[w.heap.size]? = some (.cells es 28) ∧ u.heap[w.heap.size + 1]? = some (bF H.hb H.hs H.hr H.hc) ∧ u.heap[w.heap.size + 2]? = some (.cells (aW C) 34)) ∧ Below w.heap.size w u) := fun u hu => by
  have hu0 := hu
  rw [hW] at hu
  exact ⟨xE hu, aG HB0 hu0⟩
 have HW : Hid (Below W.heap.size W W.drew) := (Below.refl _ _).drew
 have HL : Hid (∀ u, Below W.heap.size W u → (Instr.loadAt 28 (.pointer (some ⟨w.heap.size, 0, none⟩))).run Tryz.prog u = .ok (.agg es) u) := fun u hu => lod (HN.out u hu).1.1 rfl Tryz.underlying28 (by rw [aJi]; exact bS)
 have HFo : Hid (∀ u, Below W.heap.size W u → Calls Tryz.prog 24 #[.agg (aW C), hmV H] u fun e w' => ∃ g, e = .returned (.agg (eP C H g)) ∧ Below W.heap.size W w') := fun u hu => (sJ C H u).mono fun e w' ⟨g, h1, _, h3⟩ => ⟨g, h1, aG hu h3⟩
 have HNo : Hid (∀ u g, Below W.heap.size W u → Calls Tryz.prog 31 #[.agg (eP C H g), .agg es] u fun e w' => e = .returned (.bool (nmT C H t)) ∧ Below W.heap.size W w') := fun u g hu => (aBG C H (aFZ C g) (aBj C g) t hz K u es (h.below (HN.out u hu).2) (fun i hi => by have := hK i hi; have := (HN.out u hu).2.size; omega)).mono fun e w' hh => ⟨hh.1, aG hu hh.2⟩
 have HWe : Hid (W = ((w.alloc (.cells es 28)).alloc (bF H.hb H.hs H.hr H.hc)).alloc (.cells (aW C) 34)) := hW
 clear h hK HB0 hW
 generalize nmT C H t = rb at *
 go_enter Tryz.func14, Tryz.ntmps14
 go_upto_region 1 with fail
 rw [← HWe.out]
 refine aQ (fun u => Below W.heap.size W u) (fun j => false) (by kernel_rfl) ?_
 refine dwl 0 (.agg (aW C)) ?_ (hS := HW.out) (hy := (fun u hSu => aI rfl rfl (pV (HN.out u hSu).1.2.2)))
 refine dwl 1 (hmV H) ?_ (hS := HW.out) (hy := (fun u hSu => aI rfl rfl (kF (HN.out u hSu).1.2.1)))
 refine dwl 3 (.agg es) ?_ (hS := HW.out) (hy := (fun u hSu => aI rfl rfl (HL.out u hSu)))
 refine aH (i := 2) (by kernel_rfl) rfl ?_
 intro K' hK'
 go_simp
 refine (HFo.out _ HW.out).mono ?_
 rintro e w2 ⟨g, rfl, hb⟩
 refine hK' _ _ (.inr fun _ => hb) ?_
 clear hK'
 try simp only [Act.put, List.setIfInBounds_toArray, List.set_cons_zero, List.set_cons_succ]
 have NC := HNo.out _ g hb
 generalize eP C H g = fv at *
 refine aH (i := 4) (by kernel_rfl) rfl ?_
 intro K' hK'
 go_simp
 refine NC.mono ?_
 rintro e w3 ⟨rfl, hb4⟩
 refine hK' _ _ (.inr fun _ => hb4) ?_
 clear hK'
 try simp only [Act.put, List.setIfInBounds_toArray, List.set_cons_zero, List.set_cons_succ]
 refine dwp 5 (.bool rb) ?_
 refine aK (by kernel_rfl) ?_ _
 go_wp2
 go_ret
 exact ⟨rfl, (HN.out _ hb4).2⟩
end Go.Proofs.YtljmklbbngpllaaGreatDoor.Rw
namespace Go.Proofs.YtljmklbbngpllaaGreatDoor
open Go.RowKit Go.Fm
structure RQ (w : World) (a : Lab) (sl : Value) (g : Nat) (b : Lab) (sb : Value) (u : World) : Prop where
 n : u.heap[w.heap.size]? = some (.cells (lcs a sl) 28)
 t : u.heap[g]? = some (.cells (lcs b sb) 28)
 lt : w.heap.size < g
 b : Below w.heap.size w u
theorem fK {x : Bool} {α : Type} [BEq α] {a b : α} (h : (a == b) = x) : (a != b) = !x := by rw [bne, h]
section
variable {a b : Lab} {p p' : Option Addr} {n n' c c' : Nat}
theorem aH9 (hk : (a.k == b.k) = false) (w : World) : Calls Tryz.prog 13 #[.agg (lcs a (.slice p n c)), .agg (lcs b (.slice p' n' c'))] w fun e w' => e = .returned (.bool false) ∧ Below w.heap.size w w' := by
 obtain ⟨w2, hw2⟩ : ∃ w2, (w.alloc (.cells (lcs a (.slice p n c)) 28)).alloc (.cells (lcs b (.slice p' n' c')) 28) = w2 := ⟨_, rfl⟩
 have H0 : w2.heap[w.heap.size]? = some (.cells (lcs a (.slice p n c)) 28) := by rw [← hw2]; exact (Below.heap_alloc _ _ _ (by simp)).trans (heap_alloc_new w _)
 have H1 : w2.heap[w.heap.size + 1]? = some (.cells (lcs b (.slice p' n' c')) 28) := by
  rw [← hw2]
  have := heap_alloc_new (w.alloc (.cells (lcs a (.slice p n c)) 28)) (.cells (lcs b (.slice p' n' c')) 28)
  simpa using this
 have HB : Hid (Below w.heap.size w w2) := by show Below _ _ _; rw [← hw2]; exact aA (aA (Below.refl _ _) _) _
 obtain ⟨c0, c1, l2, l3, l4⟩ := aN H0
 obtain ⟨d0, d1, m2, m3, m4⟩ := aN H1
 have c17 := aY H0
 have d17 := aY H1
 have L2 : Hid _ := l2
 have L3 : Hid _ := l3
 have L4 : Hid _ := l4
 have M2 : Hid _ := m2
 have M3 : Hid _ := m3
 have M4 : Hid _ := m4
 have E2 := fun u => dZ u a.vk a.vn a.vs b.vk b.vn b.vs
 have E3 := fun u => bD u a.b1 a.h1 a.r1 a.c1 a.fr1 a.fc1 b.b1 b.h1 b.r1 b.c1 b.fr1 b.fc1
 have E4 := fun u => bD u a.b2 a.h2 a.r2 a.c2 a.fr2 a.fc2 b.b2 b.h2 b.r2 b.c2 b.fr2 b.fc2
 have hkn := fK hk
 have G2 := eG
 have G3 := dH
 clear H0 H1 l2 l3 l4 m2 m3 m4
 generalize lcs a (.slice p n c) = bx at *
 generalize lcs b (.slice p' n' c') = bz at *
 obtain ⟨k, s, vk, vn, vs, b1, x1, r1, c1_, f1, g1, b2, x2, r2, c2, f2, g2⟩ := a
 obtain ⟨k', s', vk', vn', vs', b1', x1', r1', c1', f1', g1', b2', x2', r2', c2', f2', g2'⟩ := b
 dsimp only at *
 go_enter Tryz.func13, Tryz.ntmps13
 go_wp2_with (first
  | (refine aF 23 _ rfl _ _ rfl L2.out (by go_simp) ?_)
  | (refine aF 23 _ rfl _ _ rfl M2.out (by go_simp) ?_)
  | (refine aF 25 _ rfl _ _ rfl L3.out (by go_simp) ?_)
  | (refine aF 25 _ rfl _ _ rfl M3.out (by go_simp) ?_)
  | (refine aF 25 _ rfl _ _ rfl L4.out (by go_simp) ?_)
  | (refine aF 25 _ rfl _ _ rfl M4.out (by go_simp) ?_))
 go_ret
 exact ⟨by first | rfl | (simp; done), HB.out⟩
theorem aIa (hk : (a.k == b.k) = true) (hs : (a.s.toList == b.s.toList) = true) (hv : veB a.vk a.vn a.vs b.vk b.vn b.vs = true) (hr : reB a.b1 a.h1 a.r1 a.c1 a.fr1 a.fc1 b.b1 b.h1 b.r1 b.c1 b.fr1 b.fc1 = true) (ht : reB a.b2 a.h2 a.r2 a.c2 a.fr2 a.fc2 b.b2 b.h2 b.r2 b.c2 b.fr2 b.fc2 = true) (hl : ((n : Int) == (n' : Int)) = false) (w : World) : Calls Tryz.prog 13 #[.agg (lcs a (.slice p n c)), .agg (lcs b (.slice p' n' c'))] w fun e w' => e = .returned (.bool false) ∧ Below w.heap.size w w' := by
 obtain ⟨w2, hw2⟩ : ∃ w2, (w.alloc (.cells (lcs a (.slice p n c)) 28)).alloc (.cells (lcs b (.slice p' n' c')) 28) = w2 := ⟨_, rfl⟩
 have H0 : w2.heap[w.heap.size]? = some (.cells (lcs a (.slice p n c)) 28) := by rw [← hw2]; exact (Below.heap_alloc _ _ _ (by simp)).trans (heap_alloc_new w _)
 have H1 : w2.heap[w.heap.size + 1]? = some (.cells (lcs b (.slice p' n' c')) 28) := by
  rw [← hw2]
  have := heap_alloc_new (w.alloc (.cells (lcs a (.slice p n c)) 28)) (.cells (lcs b (.slice p' n' c')) 28)
  simpa using this
 have HB : Hid (Below w.heap.size w w2) := by show Below _ _ _; rw [← hw2]; exact aA (aA (Below.refl _ _) _) _
 obtain ⟨c0, c1, l2, l3, l4⟩ := aN H0
 obtain ⟨d0, d1, m2, m3, m4⟩ := aN H1
 have c17 := aY H0
 have d17 := aY H1
 have L2 : Hid _ := l2
 have L3 : Hid _ := l3
 have L4 : Hid _ := l4
 have M2 : Hid _ := m2
 have M3 : Hid _ := m3
 have M4 : Hid _ := m4
 have E2 := fun u => dZ u a.vk a.vn a.vs b.vk b.vn b.vs
 have E3 := fun u => bD u a.b1 a.h1 a.r1 a.c1 a.fr1 a.fc1 b.b1 b.h1 b.r1 b.c1 b.fr1 b.fc1
 have E4 := fun u => bD u a.b2 a.h2 a.r2 a.c2 a.fr2 a.fc2 b.b2 b.h2 b.r2 b.c2 b.fr2 b.fc2
 rw [hv] at E2
 rw [hr] at E3
 rw [ht] at E4
 have hkn := fK hk
 have hsn := fK hs
 have hln := fK hl
 have G2 := eG
 have G3 := dH
 clear H0 H1 l2 l3 l4 m2 m3 m4
 generalize lcs a (.slice p n c) = bx at *
 generalize lcs b (.slice p' n' c') = bz at *
 obtain ⟨k, s, vk, vn, vs, b1, x1, r1, c1_, f1, g1, b2, x2, r2, c2, f2, g2⟩ := a
 obtain ⟨k', s', vk', vn', vs', b1', x1', r1', c1', f1', g1', b2', x2', r2', c2', f2', g2'⟩ := b
 dsimp only at *
 go_enter Tryz.func13, Tryz.ntmps13
 go_wp2_with (first
  | (refine aF 23 _ rfl _ _ rfl L2.out (by go_simp) ?_)
  | (refine aF 23 _ rfl _ _ rfl M2.out (by go_simp) ?_)
  | (refine aF 25 _ rfl _ _ rfl L3.out (by go_simp) ?_)
  | (refine aF 25 _ rfl _ _ rfl M3.out (by go_simp) ?_)
  | (refine aF 25 _ rfl _ _ rfl L4.out (by go_simp) ?_)
  | (refine aF 25 _ rfl _ _ rfl M4.out (by go_simp) ?_))
 go_ret
 exact ⟨by first | rfl | (simp; done), HB.out⟩
end
section
variable {a b : Lab} {p p' : Option Addr} {n c c' : Nat} {f g : F}
theorem aDS (hk : (a.k == b.k) = true) (hs : (a.s.toList == b.s.toList) = true) (hv : veB a.vk a.vn a.vs b.vk b.vn b.vs = true) (hr : reB a.b1 a.h1 a.r1 a.c1 a.fr1 a.fc1 b.b1 b.h1 b.r1 b.c1 b.fr1 b.fc1 = true) (ht : reB a.b2 a.h2 a.r2 a.c2 a.fr2 a.fc2 b.b2 b.h2 b.r2 b.c2 b.fr2 b.fc2 = true) {w : World} (hf : SF w p n f) (hg : SF w p' n g) (hn : n ≤ 1000000)
  (IH : ∀ s ∈ kids f, ∀ (t : T) (w : World) (es es' : Array Value), NT w es s → NT w es' t → Calls Tryz.prog 13 #[.agg es, .agg es'] w fun e w' => e = .returned (.bool (sT s t)) ∧ Below w.heap.size w w') :
  Calls Tryz.prog 13 #[.agg (lcs a (.slice p n c)), .agg (lcs b (.slice p' n c'))] w fun e w' => e = .returned (.bool (sF f g)) ∧ Below w.heap.size w w' := by
 obtain ⟨w2, hw2⟩ : ∃ w2, (w.alloc (.cells (lcs a (.slice p n c)) 28)).alloc (.cells (lcs b (.slice p' n c')) 28) = w2 := ⟨_, rfl⟩
 have H0 : w2.heap[w.heap.size]? = some (.cells (lcs a (.slice p n c)) 28) := by rw [← hw2]; exact (Below.heap_alloc _ _ _ (by simp)).trans (heap_alloc_new w _)
 have H1 : w2.heap[w.heap.size + 1]? = some (.cells (lcs b (.slice p' n c')) 28) := by
  rw [← hw2]
  have := heap_alloc_new (w.alloc (.cells (lcs a (.slice p n c)) 28)) (.cells (lcs b (.slice p' n c')) 28)
  simpa using this
 have HB : Hid (Below w.heap.size w w2) := by show Below _ _ _; rw [← hw2]; exact aA (aA (Below.refl _ _) _) _
 obtain ⟨c0, c1, l2, l3, l4⟩ := aN H0
 obtain ⟨d0, d1, m2, m3, m4⟩ := aN H1
 have c17 := aY H0
 have d17 := aY H1
 have L2 : Hid _ := l2
 have L3 : Hid _ := l3
 have L4 : Hid _ := l4
 have M2 : Hid _ := m2
 have M3 : Hid _ := m3
 have M4 : Hid _ := m4
 have E2 := fun u => dZ u a.vk a.vn a.vs b.vk b.vn b.vs
 have E3 := fun u => bD u a.b1 a.h1 a.r1 a.c1 a.fr1 a.fc1 b.b1 b.h1 b.r1 b.c1 b.fr1 b.fc1
 have E4 := fun u => bD u a.b2 a.h2 a.r2 a.c2 a.fr2 a.fc2 b.b2 b.h2 b.r2 b.c2 b.fr2 b.fc2
 rw [hv] at E2
 rw [hr] at E3
 rw [ht] at E4
 have hkn := fK hk
 have hsn := fK hs
 have HF : Hid (SF w2 p n f) := by
  have : Below w.heap.size w w2 := HB.out
  exact hf.below this
 have HG : Hid (SF w2 p' n g) := by
  have : Below w.heap.size w w2 := HB.out
  exact hg.below this
 have HI : Hid (∀ s ∈ kids f, ∀ (t : T) (w : World) (es es' : Array Value), NT w es s → NT w es' t → Calls Tryz.prog 13 #[.agg es, .agg es'] w fun e w' => e = .returned (.bool (sT s t)) ∧ Below w.heap.size w w') := IH
 have HL : Hid ((kids f).length = n ∧ (kids g).length = n) := ⟨hf.1.symm, hg.1.symm⟩
 have HC : Hid (∀ u, Below w2.heap.size w2 u → u.cell? ⟨w.heap.size, 17, none⟩ = some (.slice p n c) ∧ u.cell? ⟨w.heap.size + 1, 17, none⟩ = some (.slice p' n c')) := fun u hu => ⟨bM hu c17, bM hu d17⟩
 have hln : ((n : Int) != (n : Int)) = false := by simp
 clear hf hg IH
 generalize hq : sF f g = q
 have HQ : Hid (sF f g = q) := hq
 clear hq
 have G2 := eG
 have G3 := dH
 clear H0 H1 l2 l3 l4 m2 m3 m4
 generalize lcs a (.slice p n c) = bx at *
 generalize lcs b (.slice p' n c') = bz at *
 obtain ⟨k, s, vk, vn, vs, b1, x1, r1, c1_, f1, g1, b2, x2, r2, c2, f2, g2⟩ := a
 obtain ⟨k', s', vk', vn', vs', b1', x1', r1', c1', f1', g1', b2', x2', r2', c2', f2', g2'⟩ := b
 dsimp only at *
 go_enter Tryz.func13, Tryz.ntmps13
 go_wp2_with (first
  | (refine aF 23 _ rfl _ _ rfl L2.out (by go_simp) ?_)
  | (refine aF 23 _ rfl _ _ rfl M2.out (by go_simp) ?_)
  | (refine aF 25 _ rfl _ _ rfl L3.out (by go_simp) ?_)
  | (refine aF 25 _ rfl _ _ rfl M3.out (by go_simp) ?_)
  | (refine aF 25 _ rfl _ _ rfl L4.out (by go_simp) ?_)
  | (refine aF 25 _ rfl _ _ rfl M4.out (by go_simp) ?_))
 clear L2 L3 L4 M2 M3 M4 E2 E3 E4
 go_loopw [51] (fun i wr => ∃ k : Nat, k ≤ n ∧ i = .int .i64 (k : Nat) ∧ Hid (Below w2.heap.size w2 wr) ∧ Hid (∀ j s t, j < k → (kids f)[j]? = some s → (kids g)[j]? = some t → sT s t = true)) (fun i _ => n - (intOf i).toNat)
 case atStart => exact ⟨0, Nat.zero_le _, rfl, Below.refl _ _, fun j s t hj => absurd hj (Nat.not_lt_zero _)⟩
 case round =>
  obtain ⟨i, hi, rfl, HW, HA⟩ := hrel
  clear c17 d17
  by_cases hlt : i < n
  ·have hki : (i : Int) < n := by omega
   obtain ⟨a1, es1, s1, rfl, RU1, aAn, hN1⟩ := HF.out.kid i hlt
   obtain ⟨a2, es2, t1, rfl, RU2, aKh, hN2⟩ := HG.out.kid i hlt
   have HI1 : Hid ((kids f)[i]? = some s1) := aAn
   have HI2 : Hid ((kids g)[i]? = some t1) := aKh
   have SS : Hid (∀ u, Below w2.heap.size w2 u → (u.cell? ⟨w.heap.size, 17, none⟩ = some (.slice (some a1) n c) ∧ u.cell? ⟨w.heap.size + 1, 17, none⟩ = some (.slice (some a2) n c')) ∧ (Instr.loadAt 28 (.pointer (some (a1.add (i * 18))))).run Tryz.prog u = .ok (.agg es1) u ∧ (Instr.loadAt 28 (.pointer (some (a2.add (i * 18))))).run Tryz.prog u = .ok (.agg es2) u) := fun u hu => ⟨HC.out u hu, (RU1 u hu).out, (RU2 u hu).out⟩
   have HWd : Hid (Below w2.heap.size w2 wr.drew) := HW.out.drew
   have C := HI.out s1 (List.mem_of_getElem? aAn) t1 wr.drew es1 es2 (hN1.below HWd.out) (hN2.below HWd.out)
   have HQF : Hid (sT s1 t1 = false → q = false) := fun hh => by
    rw [← HQ.out]
    cases hsf : sF f g
    ·rfl
    ·exfalso
     have := ((wJ f g).1 hsf).2 i s1 t1 HI1.out HI2.out
     rw [hh] at this; cases this
   have HA2 : Hid (sT s1 t1 = true → ∀ j s t, j < i + 1 → (kids f)[j]? = some s → (kids g)[j]? = some t → sT s t = true) := fun hh j s' t' hj hs ht => by
    by_cases hjk : j < i
    ·exact HA.out j s' t' hjk hs ht
    ·have : j = i := by omega
     subst this
     rw [HI1.out] at hs
     rw [HI2.out] at ht
     cases hs; cases ht; exact hh
   clear aAn aKh hN1 hN2 RU1 RU2 HA HI1 HI2
   generalize hqq : sT s1 t1 = qq at *
   clear hqq
   go_wp2
   refine aQ (fun u => (u.cell? ⟨w.heap.size, 17, none⟩ = some (.slice (some a1) n c) ∧ u.cell? ⟨w.heap.size + 1, 17, none⟩ = some (.slice (some a2) n c')) ∧ (Instr.loadAt 28 (.pointer (some (a1.add (i * 18))))).run Tryz.prog u = .ok (.agg es1) u ∧ (Instr.loadAt 28 (.pointer (some (a2.add (i * 18))))).run Tryz.prog u = .ok (.agg es2) u) (fun _ => false) (by kernel_rfl) ?_
   refine dwp 0 (.pointer (some ⟨w.heap.size, 17, none⟩)) ?_
   refine dO (i := 1) (v := .slice (some a1) n c) rfl rfl (by kernel_rfl) (by kernel_rfl) (by kernel_rfl) (by kernel_rfl) (fun _ _ _ h => h) (by go_simp) (fun u hSu => by have h1 := hSu.1.1; go_simp) (SS.out _ HWd.out) ?_
   try simp only [Act.put, List.setIfInBounds_toArray, List.set_cons_zero, List.set_cons_succ]
   refine dwp 2 (.int .i64 (i : Int)) ?_
   refine dwp 3 (.pointer (some (a1.add (i * 18)))) ?_
   refine dO (i := 4) (v := .agg es1) rfl rfl (by kernel_rfl) (by kernel_rfl) (by kernel_rfl) (by kernel_rfl) (fun _ _ _ h => h) (by go_simp) (fun u hSu => aI rfl rfl hSu.2.1) (SS.out _ HWd.out) ?_
   try simp only [Act.put, List.setIfInBounds_toArray, List.set_cons_zero, List.set_cons_succ]
   refine dwp 5 (.pointer (some ⟨w.heap.size + 1, 17, none⟩)) ?_
   refine dO (i := 6) (v := .slice (some a2) n c') rfl rfl (by kernel_rfl) (by kernel_rfl) (by kernel_rfl) (by kernel_rfl) (fun _ _ _ h => h) (by go_simp) (fun u hSu => by have h1 := hSu.1.2; go_simp) (SS.out _ HWd.out) ?_
   try simp only [Act.put, List.setIfInBounds_toArray, List.set_cons_zero, List.set_cons_succ]
   refine dwp 7 (.int .i64 (i : Int)) ?_
   refine dwp 8 (.pointer (some (a2.add (i * 18)))) ?_
   refine dO (i := 9) (v := .agg es2) rfl rfl (by kernel_rfl) (by kernel_rfl) (by kernel_rfl) (by kernel_rfl) (fun _ _ _ h => h) (by go_simp) (fun u hSu => aI rfl rfl hSu.2.2) (SS.out _ HWd.out) ?_
   try simp only [Act.put, List.setIfInBounds_toArray, List.set_cons_zero, List.set_cons_succ]
   refine aH (i := 10) (by kernel_rfl) rfl ?_
   intro K hK
   go_simp
   refine C.mono ?_
   rintro e w4 ⟨rfl, hb⟩
   have HW4 : Hid (Below w2.heap.size w2 w4) := aG HWd.out hb
   clear hb
   refine hK _ _ (.inr fun _ => SS.out _ HW4.out) ?_
   clear hK C
   try simp only [Act.put, List.setIfInBounds_toArray, List.set_cons_zero, List.set_cons_succ]
   refine dwp 11 (.bool (!qq)) ?_
   refine aK (by kernel_rfl) ?_ _
   clear SS
   cases qq
   ·have HQf : Hid (q = false) := HQF.out rfl
    go_wp2
    go_ret
    exact ⟨by rw [HQf.out]; first | done | rfl, aG HB.out HW4.out⟩
   ·have HA3 : Hid _ := HA2.out rfl
    go_wp2
    go_roundw
    case rel => exact ⟨i + 1, by omega, by go_num, HW4, HA3⟩
    case measure => simp [intOf]; omega
  ·have hki : ¬ (i : Int) < n := by omega
   have HQ2 : Hid (q = true) := by
    show _ = _
    rw [← HQ.out, wJ]
    refine ⟨HL.out.1.trans HL.out.2.symm, fun j s t hs ht => HA.out j s t ?_ hs ht⟩
    have := (List.getElem?_eq_some_iff.1 hs).1
    have := HL.out.1
    omega
   clear HA
   go_wp2
   go_ret
   exact ⟨by rw [HQ2.out]; first | done | rfl, aG HB.out HW.out⟩
end
section
variable {a b : Lab} {p p' : Option Addr} {n n' c c' : Nat}
theorem aIb (hk : (a.k == b.k) = true) (hs : (a.s.toList == b.s.toList) = false) (w : World) : Calls Tryz.prog 13 #[.agg (lcs a (.slice p n c)), .agg (lcs b (.slice p' n' c'))] w fun e w' => e = .returned (.bool false) ∧ Below w.heap.size w w' := by
 obtain ⟨w2, hw2⟩ : ∃ w2, (w.alloc (.cells (lcs a (.slice p n c)) 28)).alloc (.cells (lcs b (.slice p' n' c')) 28) = w2 := ⟨_, rfl⟩
 have H0 : w2.heap[w.heap.size]? = some (.cells (lcs a (.slice p n c)) 28) := by rw [← hw2]; exact (Below.heap_alloc _ _ _ (by simp)).trans (heap_alloc_new w _)
 have H1 : w2.heap[w.heap.size + 1]? = some (.cells (lcs b (.slice p' n' c')) 28) := by
  rw [← hw2]
  have := heap_alloc_new (w.alloc (.cells (lcs a (.slice p n c)) 28)) (.cells (lcs b (.slice p' n' c')) 28)
  simpa using this
 have HB : Hid (Below w.heap.size w w2) := by show Below _ _ _; rw [← hw2]; exact aA (aA (Below.refl _ _) _) _
 obtain ⟨c0, c1, l2, l3, l4⟩ := aN H0
 obtain ⟨d0, d1, m2, m3, m4⟩ := aN H1
 have c17 := aY H0
 have d17 := aY H1
 have L2 : Hid _ := l2
 have L3 : Hid _ := l3
 have L4 : Hid _ := l4
 have M2 : Hid _ := m2
 have M3 : Hid _ := m3
 have M4 : Hid _ := m4
 have E2 := fun u => dZ u a.vk a.vn a.vs b.vk b.vn b.vs
 have E3 := fun u => bD u a.b1 a.h1 a.r1 a.c1 a.fr1 a.fc1 b.b1 b.h1 b.r1 b.c1 b.fr1 b.fc1
 have E4 := fun u => bD u a.b2 a.h2 a.r2 a.c2 a.fr2 a.fc2 b.b2 b.h2 b.r2 b.c2 b.fr2 b.fc2
 have hkn := fK hk
 have hsn := fK hs
 have G2 := eG
 have G3 := dH
 clear H0 H1 l2 l3 l4 m2 m3 m4
 generalize lcs a (.slice p n c) = bx at *
 generalize lcs b (.slice p' n' c') = bz at *
 obtain ⟨k, s, vk, vn, vs, b1, x1, r1, c1_, f1, g1, b2, x2, r2, c2, f2, g2⟩ := a
 obtain ⟨k', s', vk', vn', vs', b1', x1', r1', c1', f1', g1', b2', x2', r2', c2', f2', g2'⟩ := b
 dsimp only at *
 go_enter Tryz.func13, Tryz.ntmps13
 go_wp2
 go_ret
 exact ⟨by first | rfl | (simp; done), HB.out⟩
end
end Go.Proofs.YtljmklbbngpllaaGreatDoor
