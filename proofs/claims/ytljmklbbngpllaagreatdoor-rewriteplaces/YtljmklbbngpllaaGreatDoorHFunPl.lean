/- RwRP, HFun. -/
import Derived.Test.YtljmklbbngpllaaGreatDoorFCopy2Pl
set_option linter.unusedVariables false
set_option linter.unusedSimpArgs false
set_option maxHeartbeats 16000000
set_option maxRecDepth 100000
namespace Go.Proofs.YtljmklbbngpllaaGreatDoor.Rw
open Go.RowKit Go.Fm
structure RP (f : T → T) (K : Nat → Prop) (w : World) (t : T) (q : Option Addr) (n cq k : Nat) (u : World) (L : List (Array Value × T)) : Prop where
 box : u.heap[w.heap.size]? = some (.cells (lcs t.1 (.slice q n cq)) 28)
 res : u.heap[w.heap.size + 1]? = some (.cells nd0 28)
 len : L.length = (kids t.2).length
 old : ∀ i x, L[i]? = some x → k ≤ i → (kids t.2)[i]? = some x.2
 new : ∀ i x, L[i]? = some x → i < k → ∃ s, (kids t.2)[i]? = some s ∧ x.2 = f s
 row : n = 0 ∨ ∃ g, q = some ⟨g, 0, none⟩ ∧ w.heap.size + 2 ≤ g ∧ g < u.heap.size ∧ RowC u g L ∧ (∀ o, u.frozen? ⟨g, o, none⟩ = false) ∧ ∀ i x, L[i]? = some x → (i < k → NK (fun i => w.heap.size + 2 ≤ i ∧ i ≠ g) u x.1 x.2) ∧ (k ≤ i → NK K u x.1 x.2)
 bel : Below w.heap.size w u
theorem RP.of {f : T → T} {K : Nat → Prop} {w u : World} {t : T} {q : Option Addr} {n cq : Nat} {L : List (Array Value × T)} (h : CP K w t q n cq 0 u L) : RP f K w t q n cq 0 u L :=
 ⟨h.box, h.res, by rw [← h.len, List.length_map], fun i x hi _ => by rw [← h.len, List.getElem?_map, hi]; rfl, fun i x _ hk => absurd hk (Nat.not_lt_zero _), h.row, h.bel⟩
theorem RP.map {f : T → T} {K : Nat → Prop} {w u : World} {t : T} {q : Option Addr} {n cq : Nat} {L : List (Array Value × T)} (h : RP f K w t q n cq n u L) (hn : n = (kids t.2).length) : L.map (·.2) = (kids t.2).map f := by
 refine List.ext_getElem? fun i => ?_
 rw [List.getElem?_map, List.getElem?_map]
 cases hi : L[i]? with
 | none =>
  have : L.length ≤ i := List.getElem?_eq_none_iff.1 hi
  rw [h.len] at this
  rw [List.getElem?_eq_none_iff.2 this]; rfl
 | some x =>
  have hlt : i < L.length := (List.getElem?_eq_some_iff.1 hi).1
  obtain ⟨s, e1, e2⟩ := h.new i x hi (by rw [hn, ← h.len]; exact hlt)
  rw [e1]; simp [e2]
theorem RP.done {f : T → T} {K : Nat → Prop} {w u : World} {t : T} {q : Option Addr} {n cq : Nat} {L : List (Array Value × T)} (h : RP f K w t q n cq n u L) (hn : n = (kids t.2).length) {F2 : F} (hF : kids F2 = (kids t.2).map f) : NK (fun i => w.heap.size + 2 ≤ i) u (lcs t.1 (.slice q n cq)) (t.1, F2) := by
 refine ⟨q, n, cq, rfl, by rw [hn]; simp [hF], ?_⟩
 have hlen : L.length = n := by rw [hn, h.len]
 rcases h.row with h0 | ⟨g, rfl, hg, hlt, hr, hf, hx⟩
 ·left
  rw [h0] at hn
  have h2 : (kids F2).length = 0 := by rw [hF, List.length_map, ← hn]
  cases F2 with
  | nil => rfl
  | node _ _ _ _ _ => simp [kids] at h2
 ·right
  have hxx : ∀ x ∈ L, NK (fun i => w.heap.size + 2 ≤ i) u x.1 x.2 := fun x hm => by
   obtain ⟨i, hi, e⟩ := List.getElem_of_mem hm
   exact ((hx i x (by rw [List.getElem?_eq_getElem hi, e])).1 (by omega)).mono (fun j hj _ => hj.1)
  refine ⟨_, rfl, InK.rowF (K := fun i => w.heap.size + 2 ≤ i) hg F2 L 0 (by rw [h.map hn, hF]) hxx (hr.flat fun x hm => ⟨(hxx x hm).size, (hxx x hm).one⟩)⟩
theorem RP.step {f : T → T} {K : Nat → Prop} {w u u2 : World} {t : T} {q : Option Addr} {n cq k : Nat} {L : List (Array Value × T)} (hK : ∀ i, K i → i < w.heap.size) (h : RP f K w t q n cq k u L) {g : Nat} (hq : q = some ⟨g, 0, none⟩) (hk : k < n) (hn : n = (kids t.2).length) (hb : Below u.heap.size u u2) {x : Array Value × T} (hx : L[k]? = some x) {es : Array Value} (hs : NK (fun i => u.heap.size ≤ i) u2 es (f x.2)) :
  (Instr.storeAt 28 (.pointer (some ⟨g, k * 18, none⟩)) (.agg es)).run Tryz.prog u2 = .ok () (u2.setCells g (k * 18) es.toList) ∧ RP f K w t q n cq (k + 1) (u2.setCells g (k * 18) es.toList) (L.set k (es, f x.2)) := by
 have hlen : L.length = n := by rw [hn, h.len]
 have hz := h.bel.size
 have hz3 := lt_of h.res
 rcases h.row with h0 | ⟨g', e, hg, hlt, hr, hf, hxx⟩
 ·omega
 ·rw [hq] at e
  cases e
  have hr2 : RowC u2 g L := hr.grown (grown_below (row := none) hb) (by simp)
  have hL : ∀ x ∈ L, x.1.size = 18 := fun x hm => by
   obtain ⟨i, hi, e⟩ := List.getElem_of_mem hm
   have := hxx i x (by rw [List.getElem?_eq_getElem hi, e])
   by_cases hik : i < k
   ·exact (this.1 hik).size
   ·exact (this.2 (by omega)).size
  have hf2 : ∀ o, u2.frozen? ⟨g, o, none⟩ = false := fun o => frozen_of_heap (hb.block g hlt) o (hf o)
  have hG : u2.grownBy (u2.setCells g (k * 18) es.toList) (some g) := grown_setCells g _ _ _
  have hz2 := hb.size
  have hNA : NA' es := ⟨hs.size, hs.one⟩
  refine ⟨hr2.store hL (by omega) hf2 hNA, ?_, ?_, ?_, fun i y hy hi => ?_, fun i y hy hi => ?_, .inr ⟨g, hq, hg, ?_, hr2.set hL (by omega) es (f x.2) hs.size, fun o => by rw [World.frozen?_setCells]; exact hf2 o, fun i y hy => ?_⟩, ?_⟩
  ·rw [hG.block _ (by omega) (by simp; omega), hb.block _ (by omega)]; exact h.box
  ·rw [hG.block _ (by omega) (by simp; omega), hb.block _ (by omega)]; exact h.res
  ·rw [List.length_set, h.len]
  ·rw [List.getElem?_set_ne (by omega)] at hy
   exact h.old i y hy (by omega)
  ·by_cases hik : k = i
   ·subst hik
    rw [List.getElem?_set_self (by omega)] at hy
    cases hy
    exact ⟨x.2, h.old k x hx (Nat.le_refl _), rfl⟩
   ·rw [List.getElem?_set_ne hik] at hy
    exact h.new i y hy (by omega)
  ·have := hG.size; omega
  ·by_cases hi : k = i
   ·subst hi
    rw [List.getElem?_set_self (by omega)] at hy
    cases hy
    exact ⟨fun _ => (hs.mono (fun i hi _ => ⟨by omega, by omega⟩)).grown hG (fun g' e hh => by cases e; exact hh.2 rfl), fun hh => absurd hh (by omega)⟩
   ·rw [List.getElem?_set_ne hi] at hy
    have := hxx i y hy
    refine ⟨fun hh => ((this.1 (by omega)).below hb).grown hG (fun g' e hh => by cases e; exact hh.2 rfl), fun hh => ((this.2 (by omega)).below hb).grown hG (fun g' e hh => ?_)⟩
    cases e
    have := hK _ hh
    omega
  ·exact (h.bel.trans (hb.mono hz)).grown hG (by omega) (fun g' e => by cases e; omega)
end Go.Proofs.YtljmklbbngpllaaGreatDoor.Rw
namespace Go.Proofs.YtljmklbbngpllaaGreatDoor.Hs
open Go.RowKit
theorem rgood_any (a n m : Int) (w : World) : Calls Tryz.prog 52 #[shV a n m] w fun e w' => e = .returned (.bool (goodB a n m)) ∧ Below w.heap.size w w' := by
 have HB1 : Hid (Below w.heap.size w (w.alloc (shO a n m 40))) := bel_alloc (Below.refl _ _) _
 generalize hR : goodB a n m = R
 have HR : Hid (goodB a n m = R) := hR
 clear hR
 by_cases h1 : m < 1
 ·go_enter Tryz.func52, Tryz.ntmps52
  go_wp2
  all_goals (go_ret; refine ⟨ret_bool ?_, HB1.out⟩; rw [← HR.out]; rw [Bool.eq_iff_iff, goodB_iff]; simp; try omega)
 by_cases h2 : 1000 < m
 ·go_enter Tryz.func52, Tryz.ntmps52
  go_wp2
  all_goals (go_ret; refine ⟨ret_bool ?_, HB1.out⟩; rw [← HR.out]; rw [Bool.eq_iff_iff, goodB_iff]; simp; try omega)
 by_cases h3 : a < 1
 ·go_enter Tryz.func52, Tryz.ntmps52
  go_wp2
  all_goals (go_ret; refine ⟨ret_bool ?_, HB1.out⟩; rw [← HR.out]; rw [Bool.eq_iff_iff, goodB_iff]; simp; try omega)
 by_cases h4 : m < a
 ·go_enter Tryz.func52, Tryz.ntmps52
  go_wp2
  all_goals (go_ret; refine ⟨ret_bool ?_, HB1.out⟩; rw [← HR.out]; rw [Bool.eq_iff_iff, goodB_iff]; simp; try omega)
 by_cases h5 : 1 ≤ n
 ·go_enter Tryz.func52, Tryz.ntmps52
  go_wp2
  all_goals (go_ret; refine ⟨ret_bool ?_, HB1.out⟩; rw [← HR.out]; rw [Bool.eq_iff_iff, goodB_iff]; simp; try omega)
 by_cases h6 : n ≤ -1
 ·go_enter Tryz.func52, Tryz.ntmps52
  go_wp2
  all_goals (go_ret; refine ⟨ret_bool ?_, HB1.out⟩; rw [← HR.out]; rw [Bool.eq_iff_iff, goodB_iff]; simp; try omega)
 ·go_enter Tryz.func52, Tryz.ntmps52
  go_wp2
  all_goals (go_ret; refine ⟨ret_bool ?_, HB1.out⟩; rw [← HR.out]; rw [Bool.eq_iff_iff, goodB_iff]; simp; try omega)
abbrev movF (g : Nat) : Value := .func (.func 66) #[] #[.pointer (some ⟨g, 0, none⟩), .pointer (some ⟨g + 1, 0, none⟩)]
structure Mov (u : World) (g : Nat) (a n m : Int) : Prop where
 box : u.heap[g]? = some (.cells #[.int .i64 a, .int .i64 n, .int .i64 m] 32)
 nxt : u.heap[g + 1]? = some (.cells #[.int .i64 (nxF a n)] 3)
theorem mov1_any {u : World} {g : Nat} {a n m : Int} (h : Mov u g a n m) (ha : 1 ≤ a) (ha2 : a ≤ 1000) (hn : -1000 ≤ n) (hn2 : n ≤ 1000) (p : Int) (hp : 1 ≤ p) (hp2 : p ≤ 1000) :
  Calls Tryz.prog 66 #[.int .i64 p, .pointer (some ⟨g, 0, none⟩), .pointer (some ⟨g + 1, 0, none⟩)] u fun e w' => e = .returned (.tuple #[.int .i64 (mvF a n p), .bool (mvB a n p)]) ∧ w' = u := by
 obtain ⟨c0, c1, c2⟩ := s_cells h.box
 have c3 : u.cell? ⟨g + 1, 0, none⟩ = some (.int .i64 (nxF a n)) := by simp [World.cell?, h.nxt]
 unfold mvF mvB
 generalize nxF a n = x at *
 by_cases h1 : p < a
 ·rw [if_pos h1, decide_eq_true h1, Bool.true_or]
  go_enter Tryz.func66, Tryz.ntmps66
  go_wp2
  go_ret2
  exact ⟨rfl, rfl⟩
 by_cases h2 : p < x
 ·rw [if_neg h1, if_pos h2, decide_eq_false h1, decide_eq_true h2, Bool.false_or, Bool.not_true]
  go_enter Tryz.func66, Tryz.ntmps66
  go_wp2
  go_ret2
  exact ⟨rfl, rfl⟩
 ·rw [if_neg h1, if_neg h2, decide_eq_false h1, decide_eq_false h2, Bool.false_or, Bool.not_false]
  go_enter Tryz.func66, Tryz.ntmps66
  go_wp2
  go_ret2
  exact ⟨rfl, rfl⟩
theorem mov_new (w : World) (a n m x : Int) (hx : x = nxF a n) : Mov ((w.alloc (shO a n m 32)).alloc (.cells #[.int .i64 x] 3)) w.heap.size a n m := by
 subst hx
 have hb : Below (w.alloc (shO a n m 32)).heap.size (w.alloc (shO a n m 32)) ((w.alloc (shO a n m 32)).alloc (.cells #[.int .i64 (nxF a n)] 3)) := bel_alloc (Below.refl _ _) _
 refine ⟨new1 hb, ?_⟩
 have := heap_alloc_new (w.alloc (shO a n m 32)) (.cells #[.int .i64 (nxF a n)] 3)
 simpa using this
theorem mover_any (a n m : Int) (ha : 1 ≤ a) (ha2 : a ≤ 1000) (hn : -1000 ≤ n) (hn2 : n ≤ 1000) (w : World) :
  Calls Tryz.prog 40 #[shV a n m] w fun e w' => e = .returned (movF w.heap.size) ∧ Hid (Mov w' w.heap.size a n m) ∧ Hid (Below w.heap.size w w') := by
 by_cases h1 : n < 0
 ·have HM : Hid (Mov ((w.alloc (shO a n m 32)).alloc (.cells #[.int .i64 (a - n)] 3)) w.heap.size a n m) := mov_new w a n m (a - n) (by unfold nxF; rw [if_pos h1])
  have HB : Hid (Below w.heap.size w ((w.alloc (shO a n m 32)).alloc (.cells #[.int .i64 (a - n)] 3))) := bel_alloc (bel_alloc (Below.refl _ _) _) _
  go_enter Tryz.func40, Tryz.ntmps40
  go_wp2
  go_ret
  exact ⟨rfl, HM, HB⟩
 ·have HM : Hid (Mov ((w.alloc (shO a n m 32)).alloc (.cells #[.int .i64 a] 3)) w.heap.size a n m) := mov_new w a n m a (by unfold nxF; rw [if_neg h1])
  have HB : Hid (Below w.heap.size w ((w.alloc (shO a n m 32)).alloc (.cells #[.int .i64 a] 3))) := bel_alloc (bel_alloc (Below.refl _ _) _) _
  go_enter Tryz.func40, Tryz.ntmps40
  go_wp2
  go_ret
  exact ⟨rfl, HM, HB⟩
theorem good_bd {a n m : Int} (h : goodB a n m = true) : 1 ≤ m ∧ m ≤ 1000 ∧ 1 ≤ a ∧ a ≤ m ∧ n ≠ 0 ∧ -(m - a + 1) ≤ n ∧ n ≤ m - a + 1 := goodB_iff.1 h
theorem mv_bd {a n p : Int} (ha : 1 ≤ a) (ha2 : a ≤ 1000) (hn : -1000 ≤ n) (hn2 : n ≤ 1000) (hp : 1 ≤ p) (hp2 : p ≤ 1000) : 1 ≤ mvF a n p ∧ mvF a n p ≤ 2000 := by
 unfold mvF nxF; repeat' split
 all_goals omega
theorem box_cells {w x : World} {a n m : Int} {t : TypeId} (h : Below (w.alloc (shO a n m t)).heap.size (w.alloc (shO a n m t)) x) :
  x.cell? ⟨w.heap.size, 0, none⟩ = some (.int .i64 a) ∧ x.cell? ⟨w.heap.size, 1, none⟩ = some (.int .i64 n) ∧ x.cell? ⟨w.heap.size, 2, none⟩ = some (.int .i64 m) := s_cells (new1 h)
theorem pos_any (a n m p : Int) (w : World) : Calls Tryz.prog 21 #[shV a n m, .int .i64 p] w fun e w' => e = .returned (.tuple #[.int .i64 (posF a n m p), .bool (posB a n m p)]) ∧ Below w.heap.size w w' := by
 have HB0 : Hid (Below (w.alloc (shO a n m 32)).heap.size (w.alloc (shO a n m 32)) (w.alloc (shO a n m 32))) := Below.refl _ _
 have HG : RC (w.alloc (shO a n m 32)) 19 #[shV a n m] _ := RC.of fun u => good_any a n m u
 have HH : RC (w.alloc (shO a n m 32)) 39 #[shV a n m, .int .i64 p] _ := RC.of fun u => has_any a n m p u
 cases hg : goodB a n m
 ·have e1 : posB a n m p = false := by unfold posB; rw [hg]; rfl
  have e2 : posF a n m p = 0 := by unfold posF; rw [e1]; rfl
  rw [e1, e2]
  rw [hg] at HG
  go_enter Tryz.func21, Tryz.ntmps21
  go_wp2_with (go_at_call 19; refine (HG _ HB0.out).mono ?_; clear HG; rintro e w1 ⟨rfl, hb⟩; have HB1 : Hid (Below (w.alloc (shO a n m 32)).heap.size (w.alloc (shO a n m 32)) w1) := hb; clear hb; obtain ⟨c0, c1, c2⟩ := box_cells HB1.out)
  go_ret2
  exact ⟨rfl, bel1 HB1.out⟩
 cases hh : (decide (1 ≤ p) && decide (p ≤ m))
 ·have e1 : posB a n m p = false := by unfold posB; rw [hg, hh]; rfl
  have e2 : posF a n m p = 0 := by unfold posF; rw [e1]; rfl
  rw [e1, e2]
  rw [hg] at HG
  rw [hh] at HH
  clear hh
  go_enter Tryz.func21, Tryz.ntmps21
  go_wp2_with (first
   | (go_at_call 19; refine (HG _ HB0.out).mono ?_; clear HG; rintro e w1 ⟨rfl, hb⟩; have HB1 : Hid (Below (w.alloc (shO a n m 32)).heap.size (w.alloc (shO a n m 32)) w1) := hb; clear hb; obtain ⟨c0, c1, c2⟩ := box_cells HB1.out)
   | (go_at_call 39; refine (HH _ HB1.out).mono ?_; clear HH; rintro e w2 ⟨rfl, hb⟩; have HB2 : Hid (Below (w.alloc (shO a n m 32)).heap.size (w.alloc (shO a n m 32)) w2) := hb; clear hb c0 c1 c2; obtain ⟨c0, c1, c2⟩ := box_cells HB2.out))
  go_ret2
  exact ⟨rfl, bel1 HB2.out⟩
 have hb := good_bd hg
 have hp : 1 ≤ p ∧ p ≤ m := by simpa using hh
 rw [hg] at HG
 rw [hh] at HH
 have HM : Hid (∀ u, Calls Tryz.prog 40 #[shV a n m] u fun e w' => e = .returned (movF u.heap.size) ∧ Hid (Mov w' u.heap.size a n m) ∧ Hid (Below u.heap.size u w')) := fun u => mover_any a n m (by omega) (by omega) (by omega) (by omega) u
 have H1 : Hid (∀ (u : World) (g : Nat), Mov u g a n m → Calls Tryz.prog 66 #[.int .i64 p, .pointer (some ⟨g, 0, none⟩), .pointer (some ⟨g + 1, 0, none⟩)] u fun e w' => e = .returned (.tuple #[.int .i64 (mvF a n p), .bool (mvB a n p)]) ∧ w' = u) := fun u g h => mov1_any h (by omega) (by omega) (by omega) (by omega) p (by omega) (by omega)
 have hv := mv_bd (a := a) (n := n) (p := p) (by omega) (by omega) (by omega) (by omega) (by omega) (by omega)
 have E : Hid (posB a n m p = (mvB a n p && decide (mvF a n p ≤ m))) := by unfold Hid posB; rw [hg, hh]; rfl
 have E2 : Hid (posF a n m p = if posB a n m p = true then mvF a n p else 0) := rfl
 generalize mvF a n p = x at *
 generalize mvB a n p = y at *
 generalize posB a n m p = pb at *
 generalize posF a n m p = pf at *
 clear hh hg hp hb
 cases y
 ·obtain rfl : pb = false := E.out
  obtain rfl : pf = 0 := E2.out
  go_enter Tryz.func21, Tryz.ntmps21
  go_wp2_with (first
   | (go_at_call 19; refine (HG _ HB0.out).mono ?_; clear HG; rintro e w1 ⟨rfl, hb⟩; have HB1 : Hid (Below (w.alloc (shO a n m 32)).heap.size (w.alloc (shO a n m 32)) w1) := hb; clear hb; obtain ⟨c0, c1, c2⟩ := box_cells HB1.out)
   | (go_at_call 39; refine (HH _ HB1.out).mono ?_; clear HH; rintro e w2 ⟨rfl, hb⟩; have HB2 : Hid (Below (w.alloc (shO a n m 32)).heap.size (w.alloc (shO a n m 32)) w2) := hb; clear hb c0 c1 c2; obtain ⟨c0, c1, c2⟩ := box_cells HB2.out)
   | (go_at_call 40; refine (HM.out _).mono ?_; clear HM; rintro e w3 ⟨rfl, Hm, hb⟩; have HB3 : Hid (Below (w.alloc (shO a n m 32)).heap.size (w.alloc (shO a n m 32)) w3) := bel_step HB2.out hb.out; clear hb c0 c1 c2; obtain ⟨c0, c1, c2⟩ := box_cells HB3.out)
   | (go_at_call 66; refine (H1.out _ _ Hm.out).mono ?_; clear H1; rintro e w4 ⟨rfl, hw⟩; obtain rfl := hw.symm; clear hw))
  go_ret2
  exact ⟨rfl, bel1 HB3.out⟩
 by_cases hx : m < x
 ·obtain rfl : pb = false := E.out.trans (by simp; omega)
  obtain rfl : pf = 0 := E2.out
  go_enter Tryz.func21, Tryz.ntmps21
  go_wp2_with (first
   | (go_at_call 19; refine (HG _ HB0.out).mono ?_; clear HG; rintro e w1 ⟨rfl, hb⟩; have HB1 : Hid (Below (w.alloc (shO a n m 32)).heap.size (w.alloc (shO a n m 32)) w1) := hb; clear hb; obtain ⟨c0, c1, c2⟩ := box_cells HB1.out)
   | (go_at_call 39; refine (HH _ HB1.out).mono ?_; clear HH; rintro e w2 ⟨rfl, hb⟩; have HB2 : Hid (Below (w.alloc (shO a n m 32)).heap.size (w.alloc (shO a n m 32)) w2) := hb; clear hb c0 c1 c2; obtain ⟨c0, c1, c2⟩ := box_cells HB2.out)
   | (go_at_call 40; refine (HM.out _).mono ?_; clear HM; rintro e w3 ⟨rfl, Hm, hb⟩; have HB3 : Hid (Below (w.alloc (shO a n m 32)).heap.size (w.alloc (shO a n m 32)) w3) := bel_step HB2.out hb.out; clear hb c0 c1 c2; obtain ⟨c0, c1, c2⟩ := box_cells HB3.out)
   | (go_at_call 66; refine (H1.out _ _ Hm.out).mono ?_; clear H1; rintro e w4 ⟨rfl, hw⟩; obtain rfl := hw.symm; clear hw))
  go_ret2
  exact ⟨rfl, bel1 HB3.out⟩
 ·obtain rfl : pb = true := E.out.trans (by simp; omega)
  obtain rfl : pf = x := E2.out
  go_enter Tryz.func21, Tryz.ntmps21
  go_wp2_with (first
   | (go_at_call 19; refine (HG _ HB0.out).mono ?_; clear HG; rintro e w1 ⟨rfl, hb⟩; have HB1 : Hid (Below (w.alloc (shO a n m 32)).heap.size (w.alloc (shO a n m 32)) w1) := hb; clear hb; obtain ⟨c0, c1, c2⟩ := box_cells HB1.out)
   | (go_at_call 39; refine (HH _ HB1.out).mono ?_; clear HH; rintro e w2 ⟨rfl, hb⟩; have HB2 : Hid (Below (w.alloc (shO a n m 32)).heap.size (w.alloc (shO a n m 32)) w2) := hb; clear hb c0 c1 c2; obtain ⟨c0, c1, c2⟩ := box_cells HB2.out)
   | (go_at_call 40; refine (HM.out _).mono ?_; clear HM; rintro e w3 ⟨rfl, Hm, hb⟩; have HB3 : Hid (Below (w.alloc (shO a n m 32)).heap.size (w.alloc (shO a n m 32)) w3) := bel_step HB2.out hb.out; clear hb c0 c1 c2; obtain ⟨c0, c1, c2⟩ := box_cells HB3.out)
   | (go_at_call 66; refine (H1.out _ _ Hm.out).mono ?_; clear H1; rintro e w4 ⟨rfl, hw⟩; obtain rfl := hw.symm; clear hw))
  go_ret2
  exact ⟨rfl, bel1 HB3.out⟩
end Go.Proofs.YtljmklbbngpllaaGreatDoor.Hs
