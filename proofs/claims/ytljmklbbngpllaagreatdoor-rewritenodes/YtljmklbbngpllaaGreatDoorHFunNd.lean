/- FRowC, FCopy, FCopy2, RwRP, HFun. -/
import Derived.Test.YtljmklbbngpllaaGreatDoorFCloneNd
set_option linter.unusedVariables false
set_option linter.unusedSimpArgs false
set_option maxHeartbeats 16000000
set_option maxRecDepth 100000
namespace Go.Proofs.YtljmklbbngpllaaGreatDoor
open Go.RowKit Go.Fm
def jH (w : World) (g : Nat) (L : List (Array Value × T)) : Prop := ∀ k x, L[k]? = some x → ∀ j v, x.1.toList[j]? = some v → w.cell? ⟨g, k * 18 + j, none⟩ = some v
theorem sH : ∀ (L : List (Array Value × T)), (∀ x ∈ L, x.1.size = 18) → ∀ k x, L[k]? = some x → ∀ j, j < 18 → (L.flatMap (·.1.toList))[k * 18 + j]? = x.1.toList[j]?
 | [], _, k, x, hk, j, hj => by simp at hk
 | y :: L, hL, 0, x, hk, j, hj => by
  simp only [List.getElem?_cons_zero, Option.some.injEq] at hk
  subst hk
  rw [List.flatMap_cons, Nat.zero_mul, Nat.zero_add, List.getElem?_append_left (by rw [Array.length_toList, hL y (by simp)]; exact hj)]
 | y :: L, hL, k + 1, x, hk, j, hj => by
  have hy : y.1.toList.length = 18 := by rw [Array.length_toList, hL y (by simp)]
  rw [List.flatMap_cons, List.getElem?_append_right (by rw [hy]; omega), hy, show (k + 1) * 18 + j - 18 = k * 18 + j by omega]
  exact sH L (fun x hx => hL x (by simp [hx])) k x (by simpa using hk) j hj
theorem jH.of {base : Nat} {w : World} {g n c : Nat} {L : List (Array Value × T)} (h : eO base w (.slice (some ⟨g, 0, none⟩) n c) L) (hL : ∀ x ∈ L, x.1.size = 18) : jH w g L := fun k x hk j v hj => by
 have hx := hL x (List.mem_of_getElem? hk)
 have aJ4 : j < 18 := by have := (List.getElem?_eq_some_iff.1 hj).1; rw [Array.length_toList, hx] at this; exact this
 have := World.ownsRow.cells h (g := g) rfl (k * 18 + j) v (by rw [sH L hL k x hk j aJ4]; exact hj)
 rwa [Addr.add_mid, Nat.zero_add] at this
theorem jH.flat {w : World} {g : Nat} {L : List (Array Value × T)} (h : jH w g L) (hL : ∀ x ∈ L, NA' x.1) : ∀ j v, (L.flatMap (·.1.toList))[j]? = some v → w.cell? ⟨g, 0 + j, none⟩ = some v := fun j v hj => by
 have hlt := (List.getElem?_eq_some_iff.1 hj).1
 rw [sG L hL] at hlt
 have hk : j / 18 < L.length := by omega
 have hx := List.getElem?_eq_getElem hk
 have hm : j / 18 * 18 + j % 18 = j := by omega
 have := sH L (fun x hx => (hL x hx).1) (j / 18) _ hx (j % 18) (by omega)
 rw [hm, hj] at this
 have := h _ _ hx (j % 18) v this.symm
 rwa [hm, ← Nat.zero_add j] at this
theorem jH.load {w : World} {g : Nat} {L : List (Array Value × T)} (h : jH w g L) {k : Nat} {x : Array Value × T} (hk : L[k]? = some x) (hx : x.1.size = 18) : (Instr.loadAt 28 (.pointer (some ⟨g, k * 18, none⟩))).run Tryz.prog w = .ok (.agg x.1) w := by
 have := bW (P := Tryz.prog) w ⟨g, k * 18, none⟩ 28 x.1.toList _ (fun j v hj => by rw [Addr.add_mid]; exact h k x hk j v hj) Tryz.underlying28 rfl (by rw [Array.length_toList, hx]; exact bS)
 simpa using this
theorem kD (b : Nat) : ∀ (vs : List Value) (o : Nat) (w : World), w.grownBy (w.setCells b o vs) (some b)
 | [], _, w => World.grownBy.refl w _
 | v :: r, o, w => (Go.Lib.grownBy_setCell w b o v).trans (kD b r (o + 1) _)
theorem jH.set {w : World} {g k : Nat} {L : List (Array Value × T)} (h : jH w g L) (hL : ∀ x ∈ L, x.1.size = 18) (hk : k < L.length) (es : Array Value) (t : T) (he : es.size = 18) : jH (w.setCells g (k * 18) es.toList) g (L.set k (es, t)) := fun i x hi j v hj => by
 have aJe : ∀ j, j < es.toList.length → (w.cell? ⟨g, k * 18 + j, none⟩).isSome = true := fun j hj => by
  have hx := hL _ (List.getElem_mem hk)
  have hjl : j < L[k].1.toList.length := by rw [Array.length_toList] at hj ⊢; omega
  rw [h k _ (List.getElem?_eq_getElem hk) j _ (List.getElem?_eq_getElem hjl)]
  rfl
 by_cases hik : i = k
 ·subst hik
  rw [List.getElem?_set_self hk] at hi
  cases hi
  obtain ⟨hjl, rfl⟩ := List.getElem?_eq_some_iff.1 hj
  exact World.cell?_setCells_in g es.toList (i * 18) w aJe j hjl
 ·rw [List.getElem?_set_ne (fun e => hik e.symm)] at hi
  have hx := hL x (List.mem_of_getElem? hi)
  have aJ4 : j < 18 := by have := (List.getElem?_eq_some_iff.1 hj).1; rw [Array.length_toList, hx] at this; exact this
  rw [World.cell?_setCells_out g es.toList (k * 18) w _ (fun _ _ => by
   show i * 18 + j < k * 18 ∨ k * 18 + es.toList.length ≤ i * 18 + j
   rw [Array.length_toList, he]
   omega)]
  exact h i x hi j v hj
theorem jH.store {w : World} {g k : Nat} {L : List (Array Value × T)} (h : jH w g L) (hL : ∀ x ∈ L, x.1.size = 18) (hk : k < L.length) (hf : ∀ o, w.frozen? ⟨g, o, none⟩ = false) {es : Array Value} (he : NA' es) :
  (Instr.storeAt 28 (.pointer (some ⟨g, k * 18, none⟩)) (.agg es)).run Tryz.prog w = .ok () (w.setCells g (k * 18) es.toList) :=
 run_storeAt_mid w g (k * 18) 28 es (fun j hj => ⟨by
  have hx := hL _ (List.getElem_mem hk)
  have hjl : j < L[k].1.toList.length := by rw [Array.length_toList]; have := he.1; omega
  rw [h k _ (List.getElem?_eq_getElem hk) j _ (List.getElem?_eq_getElem hjl)]
  rfl, hf _⟩) (by rw [he.1]; exact bS) he.2
theorem jH.grown {w w' : World} {g : Nat} {L : List (Array Value × T)} {row : Option Nat} (h : jH w g L) (hg : w.grownBy w' row) (hr : row ≠ some g) : jH w' g L := fun k x hk j v hj => hg.cell (h k x hk j v hj) (fun e => hr e.symm)
theorem InK.gH {K : Nat → Prop} {u : World} {g : Nat} (hK : K g) : ∀ (f : F) (L : List (Array Value × T)) (o : Nat), L.map (·.2) = kids f → (∀ x ∈ L, NK K u x.1 x.2) → (∀ j v, (L.flatMap (·.1.toList))[j]? = some v → u.cell? ⟨g, o + j, none⟩ = some v) → InK K u ⟨g, o, none⟩ f := by
 intro f
 induction f with
 | nil => intro L o _ _ _; trivial
 | node b o' l f r ihf ihr =>
  intro L o h1 h2 h3
  cases L with
  | nil => simp [kids] at h1
  | cons x L =>
   rw [List.map_cons, kids, List.cons.injEq] at h1
   obtain ⟨e, h1⟩ := h1
   obtain ⟨p, n, c, e1, e2, e3⟩ := h2 x (by simp)
   rw [e] at e1 e2 e3
   have hl : x.1.toList = lcl l (.slice p n c) := by rw [e1]; simp [lcs]
   refine ⟨⟨p, n, c, hK, fun j v hj => ?_, e2, e3⟩, ?_⟩
   ·rw [Addr.add_mid]
    refine h3 j v ?_
    rw [List.flatMap_cons, hl, List.getElem?_append_left (List.getElem?_eq_some_iff.1 hj).1]
    exact hj
   ·rw [Addr.add_mid]
    refine ihr L (o + 18) h1 (fun y hy => h2 y (by simp [hy])) (fun j v hj => ?_)
    rw [Nat.add_assoc]
    refine h3 _ _ ?_
    rw [List.flatMap_cons, hl, List.getElem?_append_right (by rw [iB]; omega), iB, Nat.add_sub_cancel_left]
    exact hj
theorem frozen_of_heap {w w' : World} {g : Nat} (h : w'.heap[g]? = w.heap[g]?) (o : Nat) (hf : w.frozen? ⟨g, o, none⟩ = false) : w'.frozen? ⟨g, o, none⟩ = false := by
 unfold World.frozen? at hf ⊢
 rw [h]
 exact hf
structure CP (K : Nat → Prop) (w : World) (t : T) (q : Option Addr) (n cq k : Nat) (u : World) (L : List (Array Value × T)) : Prop where
 box : u.heap[w.heap.size]? = some (.cells (lcs t.1 (.slice q n cq)) 28)
 res : u.heap[w.heap.size + 1]? = some (.cells nd0 28)
 len : L.map (·.2) = kids t.2
 row : n = 0 ∨ ∃ g, q = some ⟨g, 0, none⟩ ∧ w.heap.size + 2 ≤ g ∧ g < u.heap.size ∧ jH u g L ∧ (∀ o, u.frozen? ⟨g, o, none⟩ = false) ∧ ∀ i x, L[i]? = some x → (i < k → NK (fun i => w.heap.size + 2 ≤ i ∧ i ≠ g) u x.1 x.2) ∧ (k ≤ i → NK K u x.1 x.2)
 bel : Below w.heap.size w u
theorem CP.begin {K : Nat → Prop} {w u : World} {t : T} {q : Option Addr} {n cq : Nat} {L : List (Array Value × T)} (hz : w.heap.size + 2 ≤ u.heap.size) (h0 : u.heap[w.heap.size]? = some (.cells (lcs t.1 (.slice q n cq)) 28)) (h1 : u.heap[w.heap.size + 1]? = some (.cells nd0 28)) (hO : eO (w.heap.size + 2) u (.slice q n cq) L) (hL : L.map (·.2) = kids t.2) (hN : ∀ x ∈ L, NK K u x.1 x.2) (hb : Below w.heap.size w u) : CP K w t q n cq 0 u L := by
 refine ⟨h0, h1, hL, ?_, hb⟩
 rcases hO.2 with ⟨e, h⟩ | ⟨g, cap, cur, e, hg, hh, hle, hm, hc, ht⟩
 ·left; cases e; rfl
 ·right
  have hq : q = some ⟨g, 0, none⟩ := by cases e; rfl
  subst hq
  refine ⟨g, rfl, hg, aS hh, jH.of hO (fun x hx => (hN x hx).size), fun o => ?_, fun i x hi => ⟨fun h => absurd h (Nat.not_lt_zero _), fun _ => hN x (List.mem_of_getElem? hi)⟩⟩
  unfold World.frozen?
  rw [hh]
  simp
theorem aFV {u : World} {g : Nat} {v : Value} (h : u.cell? ⟨g, 17, none⟩ = some v) : (Instr.loadAt 26 (.pointer (some ⟨g, 17, none⟩))).run Tryz.prog u = .ok v u := by
 go_simp
 try simp [h]
theorem CP.clone {K : Nat → Prop} {w : World} {t : T} {p : Option Addr} {n c : Nat} (hn9 : n ≤ 900) (hK : ∀ i, K i → i < w.heap.size) (hs : SK K w p n t.2) :
  Calls Tryz.prog 71 #[.slice p n c] ((w.alloc (.cells (lcs t.1 (.slice p n c)) 28)).alloc (.cells nd0 28)) fun e w1 => ∃ q cq L, e = .returned (.slice q n cq) ∧ w1.cell? ⟨w.heap.size, 17, none⟩ = some (.slice p n c) ∧ w1.frozen? ⟨w.heap.size, 17, none⟩ = false ∧ Hid (CP K w t q n cq 0 (w1.setCell ⟨w.heap.size, 17, none⟩ (.slice q n cq)) L) := by
 have hB : Below w.heap.size w ((w.alloc (.cells (lcs t.1 (.slice p n c)) 28)).alloc (.cells nd0 28)) := aA (aA (Below.refl _ _) _) _
 have hz : ((w.alloc (.cells (lcs t.1 (.slice p n c)) 28)).alloc (.cells nd0 28)).heap.size = w.heap.size + 2 := by simp
 have hb0 : ((w.alloc (.cells (lcs t.1 (.slice p n c)) 28)).alloc (.cells nd0 28)).heap[w.heap.size]? = some (.cells (lcs t.1 (.slice p n c)) 28) := (Below.heap_alloc _ _ _ (by simp)).trans (heap_alloc_new w _)
 have hb1 : ((w.alloc (.cells (lcs t.1 (.slice p n c)) 28)).alloc (.cells nd0 28)).heap[w.heap.size + 1]? = some (.cells nd0 28) := by
  have := heap_alloc_new (w.alloc (.cells (lcs t.1 (.slice p n c)) 28)) (.cells nd0 28)
  simpa using this
 generalize (w.alloc (.cells (lcs t.1 (.slice p n c)) 28)).alloc (.cells nd0 28) = W2 at *
 refine (aDv K W2 p n c t.2 (hs.grown (aZ (row := none) hB) (fun g e => by cases e)) hn9 (fun i hi => by have := hK i hi; omega)).mono ?_
 rintro e w1 ⟨v, L, rfl, hO, hL, hN, hb⟩
 obtain ⟨q, cq, rfl⟩ := fU hO
 have hlen : L.length = n := by rw [hs.1, ← hL, List.length_map]
 have h0 : w1.heap[w.heap.size]? = some (.cells (lcs t.1 (.slice p n c)) 28) := (hb.block _ (by omega)).trans hb0
 have h1 : w1.heap[w.heap.size + 1]? = some (.cells nd0 28) := (hb.block _ (by omega)).trans hb1
 have hG : w1.grownBy (w1.setCell ⟨w.heap.size, 17, none⟩ (.slice q n cq)) (some w.heap.size) := Go.Lib.grownBy_setCell _ _ _ _
 have hz1 := hb.size
 rw [hlen] at hO
 refine ⟨q, cq, L, by rw [hlen], aY h0, ?_, CP.begin ?_ ?_ ?_ (ownsRow_setCell_below (base := w.heap.size + 2) (by rw [← hz]; exact hO) (by simp) _) hL (fun x hx => (hN x hx).grown hG (fun g e hk => by cases e; exact absurd (hK _ hk) (by omega))) ?_⟩
 ·unfold World.frozen?
  rw [h0]
  simp
 ·have := hG.size; omega
 ·rw [heap_setCell_same w1 w.heap.size 17 _ 28 _ h0]
  rfl
 ·rw [heap_setCell_other _ _ _ _ (by simp)]; exact h1
 ·exact (aG hB hb).setCell (by simp) _
end Go.Proofs.YtljmklbbngpllaaGreatDoor
namespace Go.Proofs.YtljmklbbngpllaaGreatDoor.Rw
open Go.RowKit Go.Fm
structure RP (f : T → T) (K : Nat → Prop) (w : World) (t : T) (q : Option Addr) (n cq k : Nat) (u : World) (L : List (Array Value × T)) : Prop where
 box : u.heap[w.heap.size]? = some (.cells (lcs t.1 (.slice q n cq)) 28)
 res : u.heap[w.heap.size + 1]? = some (.cells nd0 28)
 len : L.length = (kids t.2).length
 old : ∀ i x, L[i]? = some x → k ≤ i → (kids t.2)[i]? = some x.2
 new : ∀ i x, L[i]? = some x → i < k → ∃ s, (kids t.2)[i]? = some s ∧ x.2 = f s
 row : n = 0 ∨ ∃ g, q = some ⟨g, 0, none⟩ ∧ w.heap.size + 2 ≤ g ∧ g < u.heap.size ∧ jH u g L ∧ (∀ o, u.frozen? ⟨g, o, none⟩ = false) ∧ ∀ i x, L[i]? = some x → (i < k → NK (fun i => w.heap.size + 2 ≤ i ∧ i ≠ g) u x.1 x.2) ∧ (k ≤ i → NK K u x.1 x.2)
 bel : Below w.heap.size w u
theorem RP.of {f : T → T} {K : Nat → Prop} {w u : World} {t : T} {q : Option Addr} {n cq : Nat} {L : List (Array Value × T)} (h : CP K w t q n cq 0 u L) : RP f K w t q n cq 0 u L :=
 ⟨h.box, h.res, by rw [← h.len, List.length_map], fun i x hi _ => by rw [← h.len, List.getElem?_map, hi]; rfl, fun i x _ hk => absurd hk (Nat.not_lt_zero _), h.row, h.bel⟩
theorem RP.map {f : T → T} {K : Nat → Prop} {w u : World} {t : T} {q : Option Addr} {n cq : Nat} {L : List (Array Value × T)} (h : RP f K w t q n cq n u L) (hn : n = (kids t.2).length) : L.map (·.2) = (kids t.2).map f := by
 refine List.ext_getElem? fun i => ?_
 rw [List.getElem?_map, List.getElem?_map]
 cases hi : L[i]? with
 | none =>
  have : L.length ≤ i := List.getElem?_eq_none_iff.1 hi
  rw [h.len] at this
  rw [List.getElem?_eq_none_iff.2 this]; rfl
 | some x =>
  have hlt : i < L.length := (List.getElem?_eq_some_iff.1 hi).1
  obtain ⟨s, e1, e2⟩ := h.new i x hi (by rw [hn, ← h.len]; exact hlt)
  rw [e1]; simp [e2]
theorem RP.done {f : T → T} {K : Nat → Prop} {w u : World} {t : T} {q : Option Addr} {n cq : Nat} {L : List (Array Value × T)} (h : RP f K w t q n cq n u L) (hn : n = (kids t.2).length) {F2 : F} (hF : kids F2 = (kids t.2).map f) : NK (fun i => w.heap.size + 2 ≤ i) u (lcs t.1 (.slice q n cq)) (t.1, F2) := by
 refine ⟨q, n, cq, rfl, by rw [hn]; simp [hF], ?_⟩
 have hlen : L.length = n := by rw [hn, h.len]
 rcases h.row with h0 | ⟨g, rfl, hg, hlt, hr, hf, hx⟩
 ·left
  rw [h0] at hn
  have h2 : (kids F2).length = 0 := by rw [hF, List.length_map, ← hn]
  cases F2 with
  | nil => rfl
  | node _ _ _ _ _ => simp [kids] at h2
 ·right
  have hxx : ∀ x ∈ L, NK (fun i => w.heap.size + 2 ≤ i) u x.1 x.2 := fun x hm => by
   obtain ⟨i, hi, e⟩ := List.getElem_of_mem hm
   exact ((hx i x (by rw [List.getElem?_eq_getElem hi, e])).1 (by omega)).mono (fun j hj _ => hj.1)
  refine ⟨_, rfl, InK.gH (K := fun i => w.heap.size + 2 ≤ i) hg F2 L 0 (by rw [h.map hn, hF]) hxx (hr.flat fun x hm => ⟨(hxx x hm).size, (hxx x hm).one⟩)⟩
theorem RP.step {f : T → T} {K : Nat → Prop} {w u u2 : World} {t : T} {q : Option Addr} {n cq k : Nat} {L : List (Array Value × T)} (hK : ∀ i, K i → i < w.heap.size) (h : RP f K w t q n cq k u L) {g : Nat} (hq : q = some ⟨g, 0, none⟩) (hk : k < n) (hn : n = (kids t.2).length) (hb : Below u.heap.size u u2) {x : Array Value × T} (hx : L[k]? = some x) {es : Array Value} (hs : NK (fun i => u.heap.size ≤ i) u2 es (f x.2)) :
  (Instr.storeAt 28 (.pointer (some ⟨g, k * 18, none⟩)) (.agg es)).run Tryz.prog u2 = .ok () (u2.setCells g (k * 18) es.toList) ∧ RP f K w t q n cq (k + 1) (u2.setCells g (k * 18) es.toList) (L.set k (es, f x.2)) := by
 have hlen : L.length = n := by rw [hn, h.len]
 have hz := h.bel.size
 have hz3 := aS h.res
 rcases h.row with h0 | ⟨g', e, hg, hlt, hr, hf, hxx⟩
 ·omega
 ·rw [hq] at e
  cases e
  have hr2 : jH u2 g L := hr.grown (aZ (row := none) hb) (by simp)
  have hL : ∀ x ∈ L, x.1.size = 18 := fun x hm => by
   obtain ⟨i, hi, e⟩ := List.getElem_of_mem hm
   have := hxx i x (by rw [List.getElem?_eq_getElem hi, e])
   by_cases hik : i < k
   ·exact (this.1 hik).size
   ·exact (this.2 (by omega)).size
  have hf2 : ∀ o, u2.frozen? ⟨g, o, none⟩ = false := fun o => frozen_of_heap (hb.block g hlt) o (hf o)
  have hG : u2.grownBy (u2.setCells g (k * 18) es.toList) (some g) := kD g _ _ _
  have hz2 := hb.size
  have hNA : NA' es := ⟨hs.size, hs.one⟩
  refine ⟨hr2.store hL (by omega) hf2 hNA, ?_, ?_, ?_, fun i y hy hi => ?_, fun i y hy hi => ?_, .inr ⟨g, hq, hg, ?_, hr2.set hL (by omega) es (f x.2) hs.size, fun o => by rw [World.frozen?_setCells]; exact hf2 o, fun i y hy => ?_⟩, ?_⟩
  ·rw [hG.block _ (by omega) (by simp; omega), hb.block _ (by omega)]; exact h.box
  ·rw [hG.block _ (by omega) (by simp; omega), hb.block _ (by omega)]; exact h.res
  ·rw [List.length_set, h.len]
  ·rw [List.getElem?_set_ne (by omega)] at hy
   exact h.old i y hy (by omega)
  ·by_cases hik : k = i
   ·subst hik
    rw [List.getElem?_set_self (by omega)] at hy
    cases hy
    exact ⟨x.2, h.old k x hx (Nat.le_refl _), rfl⟩
   ·rw [List.getElem?_set_ne hik] at hy
    exact h.new i y hy (by omega)
  ·have := hG.size; omega
  ·by_cases hi : k = i
   ·subst hi
    rw [List.getElem?_set_self (by omega)] at hy
    cases hy
    exact ⟨fun _ => (hs.mono (fun i hi _ => ⟨by omega, by omega⟩)).grown hG (fun g' e hh => by cases e; exact hh.2 rfl), fun hh => absurd hh (by omega)⟩
   ·rw [List.getElem?_set_ne hi] at hy
    have := hxx i y hy
    refine ⟨fun hh => ((this.1 (by omega)).below hb).grown hG (fun g' e hh => by cases e; exact hh.2 rfl), fun hh => ((this.2 (by omega)).below hb).grown hG (fun g' e hh => ?_)⟩
    cases e
    have := hK _ hh
    omega
  ·exact (h.bel.trans (hb.mono hz)).grown hG (by omega) (fun g' e => by cases e; omega)
end Go.Proofs.YtljmklbbngpllaaGreatDoor.Rw
namespace Go.Proofs.YtljmklbbngpllaaGreatDoor.Hs
open Go.RowKit
theorem gQ (a n m : Int) (w : World) : Calls Tryz.prog 52 #[shV a n m] w fun e w' => e = .returned (.bool (bB a n m)) ∧ Below w.heap.size w w' := by
 have HB1 : Hid (Below w.heap.size w (w.alloc (shO a n m 40))) := aA (Below.refl _ _) _
 generalize hR : bB a n m = R
 have HR : Hid (bB a n m = R) := hR
 clear hR
 by_cases h1 : m < 1
 ·go_enter Tryz.func52, Tryz.ntmps52
  go_wp2
  all_goals (go_ret; refine ⟨bJ ?_, HB1.out⟩; rw [← HR.out]; rw [Bool.eq_iff_iff, dA]; simp; try omega)
 by_cases h2 : 1000 < m
 ·go_enter Tryz.func52, Tryz.ntmps52
  go_wp2
  all_goals (go_ret; refine ⟨bJ ?_, HB1.out⟩; rw [← HR.out]; rw [Bool.eq_iff_iff, dA]; simp; try omega)
 by_cases h3 : a < 1
 ·go_enter Tryz.func52, Tryz.ntmps52
  go_wp2
  all_goals (go_ret; refine ⟨bJ ?_, HB1.out⟩; rw [← HR.out]; rw [Bool.eq_iff_iff, dA]; simp; try omega)
 by_cases h4 : m < a
 ·go_enter Tryz.func52, Tryz.ntmps52
  go_wp2
  all_goals (go_ret; refine ⟨bJ ?_, HB1.out⟩; rw [← HR.out]; rw [Bool.eq_iff_iff, dA]; simp; try omega)
 by_cases h5 : 1 ≤ n
 ·go_enter Tryz.func52, Tryz.ntmps52
  go_wp2
  all_goals (go_ret; refine ⟨bJ ?_, HB1.out⟩; rw [← HR.out]; rw [Bool.eq_iff_iff, dA]; simp; try omega)
 by_cases h6 : n ≤ -1
 ·go_enter Tryz.func52, Tryz.ntmps52
  go_wp2
  all_goals (go_ret; refine ⟨bJ ?_, HB1.out⟩; rw [← HR.out]; rw [Bool.eq_iff_iff, dA]; simp; try omega)
 ·go_enter Tryz.func52, Tryz.ntmps52
  go_wp2
  all_goals (go_ret; refine ⟨bJ ?_, HB1.out⟩; rw [← HR.out]; rw [Bool.eq_iff_iff, dA]; simp; try omega)
abbrev aJf (g : Nat) : Value := .func (.func 66) #[] #[.pointer (some ⟨g, 0, none⟩), .pointer (some ⟨g + 1, 0, none⟩)]
structure Mov (u : World) (g : Nat) (a n m : Int) : Prop where
 box : u.heap[g]? = some (.cells #[.int .i64 a, .int .i64 n, .int .i64 m] 32)
 nxt : u.heap[g + 1]? = some (.cells #[.int .i64 (nxF a n)] 3)
theorem sI {u : World} {g : Nat} {a n m : Int} (h : Mov u g a n m) (ha : 1 ≤ a) (ha2 : a ≤ 1000) (hn : -1000 ≤ n) (hn2 : n ≤ 1000) (p : Int) (hp : 1 ≤ p) (hp2 : p ≤ 1000) :
  Calls Tryz.prog 66 #[.int .i64 p, .pointer (some ⟨g, 0, none⟩), .pointer (some ⟨g + 1, 0, none⟩)] u fun e w' => e = .returned (.tuple #[.int .i64 (mvF a n p), .bool (mvB a n p)]) ∧ w' = u := by
 obtain ⟨c0, c1, c2⟩ := nL h.box
 have c3 : u.cell? ⟨g + 1, 0, none⟩ = some (.int .i64 (nxF a n)) := by simp [World.cell?, h.nxt]
 unfold mvF mvB
 generalize nxF a n = x at *
 by_cases h1 : p < a
 ·rw [if_pos h1, decide_eq_true h1, Bool.true_or]
  go_enter Tryz.func66, Tryz.ntmps66
  go_wp2
  go_ret2
  exact ⟨rfl, rfl⟩
 by_cases h2 : p < x
 ·rw [if_neg h1, if_pos h2, decide_eq_false h1, decide_eq_true h2, Bool.false_or, Bool.not_true]
  go_enter Tryz.func66, Tryz.ntmps66
  go_wp2
  go_ret2
  exact ⟨rfl, rfl⟩
 ·rw [if_neg h1, if_neg h2, decide_eq_false h1, decide_eq_false h2, Bool.false_or, Bool.not_false]
  go_enter Tryz.func66, Tryz.ntmps66
  go_wp2
  go_ret2
  exact ⟨rfl, rfl⟩
theorem aCj (w : World) (a n m x : Int) (hx : x = nxF a n) : Mov ((w.alloc (shO a n m 32)).alloc (.cells #[.int .i64 x] 3)) w.heap.size a n m := by
 subst hx
 have hb : Below (w.alloc (shO a n m 32)).heap.size (w.alloc (shO a n m 32)) ((w.alloc (shO a n m 32)).alloc (.cells #[.int .i64 (nxF a n)] 3)) := aA (Below.refl _ _) _
 refine ⟨new1 hb, ?_⟩
 have := heap_alloc_new (w.alloc (shO a n m 32)) (.cells #[.int .i64 (nxF a n)] 3)
 simpa using this
theorem uU (a n m : Int) (ha : 1 ≤ a) (ha2 : a ≤ 1000) (hn : -1000 ≤ n) (hn2 : n ≤ 1000) (w : World) :
  Calls Tryz.prog 40 #[shV a n m] w fun e w' => e = .returned (aJf w.heap.size) ∧ Hid (Mov w' w.heap.size a n m) ∧ Hid (Below w.heap.size w w') := by
 by_cases h1 : n < 0
 ·have HM : Hid (Mov ((w.alloc (shO a n m 32)).alloc (.cells #[.int .i64 (a - n)] 3)) w.heap.size a n m) := aCj w a n m (a - n) (by unfold nxF; rw [if_pos h1])
  have HB : Hid (Below w.heap.size w ((w.alloc (shO a n m 32)).alloc (.cells #[.int .i64 (a - n)] 3))) := aA (aA (Below.refl _ _) _) _
  go_enter Tryz.func40, Tryz.ntmps40
  go_wp2
  go_ret
  exact ⟨rfl, HM, HB⟩
 ·have HM : Hid (Mov ((w.alloc (shO a n m 32)).alloc (.cells #[.int .i64 a] 3)) w.heap.size a n m) := aCj w a n m a (by unfold nxF; rw [if_neg h1])
  have HB : Hid (Below w.heap.size w ((w.alloc (shO a n m 32)).alloc (.cells #[.int .i64 a] 3))) := aA (aA (Below.refl _ _) _) _
  go_enter Tryz.func40, Tryz.ntmps40
  go_wp2
  go_ret
  exact ⟨rfl, HM, HB⟩
theorem gB {a n m : Int} (h : bB a n m = true) : 1 ≤ m ∧ m ≤ 1000 ∧ 1 ≤ a ∧ a ≤ m ∧ n ≠ 0 ∧ -(m - a + 1) ≤ n ∧ n ≤ m - a + 1 := dA.1 h
theorem aFW {a n p : Int} (ha : 1 ≤ a) (ha2 : a ≤ 1000) (hn : -1000 ≤ n) (hn2 : n ≤ 1000) (hp : 1 ≤ p) (hp2 : p ≤ 1000) : 1 ≤ mvF a n p ∧ mvF a n p ≤ 2000 := by
 unfold mvF nxF; repeat' split
 all_goals omega
theorem aL {w x : World} {a n m : Int} {t : TypeId} (h : Below (w.alloc (shO a n m t)).heap.size (w.alloc (shO a n m t)) x) :
  x.cell? ⟨w.heap.size, 0, none⟩ = some (.int .i64 a) ∧ x.cell? ⟨w.heap.size, 1, none⟩ = some (.int .i64 n) ∧ x.cell? ⟨w.heap.size, 2, none⟩ = some (.int .i64 m) := nL (new1 h)
theorem aCk (a n m p : Int) (w : World) : Calls Tryz.prog 21 #[shV a n m, .int .i64 p] w fun e w' => e = .returned (.tuple #[.int .i64 (dG a n m p), .bool (posB a n m p)]) ∧ Below w.heap.size w w' := by
 have HB0 : Hid (Below (w.alloc (shO a n m 32)).heap.size (w.alloc (shO a n m 32)) (w.alloc (shO a n m 32))) := Below.refl _ _
 have HG : RC (w.alloc (shO a n m 32)) 19 #[shV a n m] _ := RC.of fun u => iM a n m u
 have HH : RC (w.alloc (shO a n m 32)) 39 #[shV a n m, .int .i64 p] _ := RC.of fun u => qB a n m p u
 cases hg : bB a n m
 ·have e1 : posB a n m p = false := by unfold posB; rw [hg]; rfl
  have e2 : dG a n m p = 0 := by unfold dG; rw [e1]; rfl
  rw [e1, e2]
  rw [hg] at HG
  go_enter Tryz.func21, Tryz.ntmps21
  go_wp2_with (go_at_call 19; refine (HG _ HB0.out).mono ?_; clear HG; rintro e w1 ⟨rfl, hb⟩; have HB1 : Hid (Below (w.alloc (shO a n m 32)).heap.size (w.alloc (shO a n m 32)) w1) := hb; clear hb; obtain ⟨c0, c1, c2⟩ := aL HB1.out)
  go_ret2
  exact ⟨rfl, aR HB1.out⟩
 cases hh : (decide (1 ≤ p) && decide (p ≤ m))
 ·have e1 : posB a n m p = false := by unfold posB; rw [hg, hh]; rfl
  have e2 : dG a n m p = 0 := by unfold dG; rw [e1]; rfl
  rw [e1, e2]
  rw [hg] at HG
  rw [hh] at HH
  clear hh
  go_enter Tryz.func21, Tryz.ntmps21
  go_wp2_with (first
   | (go_at_call 19; refine (HG _ HB0.out).mono ?_; clear HG; rintro e w1 ⟨rfl, hb⟩; have HB1 : Hid (Below (w.alloc (shO a n m 32)).heap.size (w.alloc (shO a n m 32)) w1) := hb; clear hb; obtain ⟨c0, c1, c2⟩ := aL HB1.out)
   | (go_at_call 39; refine (HH _ HB1.out).mono ?_; clear HH; rintro e w2 ⟨rfl, hb⟩; have HB2 : Hid (Below (w.alloc (shO a n m 32)).heap.size (w.alloc (shO a n m 32)) w2) := hb; clear hb c0 c1 c2; obtain ⟨c0, c1, c2⟩ := aL HB2.out))
  go_ret2
  exact ⟨rfl, aR HB2.out⟩
 have hb := gB hg
 have hp : 1 ≤ p ∧ p ≤ m := by simpa using hh
 rw [hg] at HG
 rw [hh] at HH
 have HM : Hid (∀ u, Calls Tryz.prog 40 #[shV a n m] u fun e w' => e = .returned (aJf u.heap.size) ∧ Hid (Mov w' u.heap.size a n m) ∧ Hid (Below u.heap.size u w')) := fun u => uU a n m (by omega) (by omega) (by omega) (by omega) u
 have H1 : Hid (∀ (u : World) (g : Nat), Mov u g a n m → Calls Tryz.prog 66 #[.int .i64 p, .pointer (some ⟨g, 0, none⟩), .pointer (some ⟨g + 1, 0, none⟩)] u fun e w' => e = .returned (.tuple #[.int .i64 (mvF a n p), .bool (mvB a n p)]) ∧ w' = u) := fun u g h => sI h (by omega) (by omega) (by omega) (by omega) p (by omega) (by omega)
 have hv := aFW (a := a) (n := n) (p := p) (by omega) (by omega) (by omega) (by omega) (by omega) (by omega)
 have E : Hid (posB a n m p = (mvB a n p && decide (mvF a n p ≤ m))) := by unfold Hid posB; rw [hg, hh]; rfl
 have E2 : Hid (dG a n m p = if posB a n m p = true then mvF a n p else 0) := rfl
 generalize mvF a n p = x at *
 generalize mvB a n p = y at *
 generalize posB a n m p = pb at *
 generalize dG a n m p = pf at *
 clear hh hg hp hb
 cases y
 ·obtain rfl : pb = false := E.out
  obtain rfl : pf = 0 := E2.out
  go_enter Tryz.func21, Tryz.ntmps21
  go_wp2_with (first
   | (go_at_call 19; refine (HG _ HB0.out).mono ?_; clear HG; rintro e w1 ⟨rfl, hb⟩; have HB1 : Hid (Below (w.alloc (shO a n m 32)).heap.size (w.alloc (shO a n m 32)) w1) := hb; clear hb; obtain ⟨c0, c1, c2⟩ := aL HB1.out)
   | (go_at_call 39; refine (HH _ HB1.out).mono ?_; clear HH; rintro e w2 ⟨rfl, hb⟩; have HB2 : Hid (Below (w.alloc (shO a n m 32)).heap.size (w.alloc (shO a n m 32)) w2) := hb; clear hb c0 c1 c2; obtain ⟨c0, c1, c2⟩ := aL HB2.out)
   | (go_at_call 40; refine (HM.out _).mono ?_; clear HM; rintro e w3 ⟨rfl, Hm, hb⟩; have HB3 : Hid (Below (w.alloc (shO a n m 32)).heap.size (w.alloc (shO a n m 32)) w3) := aG HB2.out hb.out; clear hb c0 c1 c2; obtain ⟨c0, c1, c2⟩ := aL HB3.out)
   | (go_at_call 66; refine (H1.out _ _ Hm.out).mono ?_; clear H1; rintro e w4 ⟨rfl, hw⟩; obtain rfl := hw.symm; clear hw))
  go_ret2
  exact ⟨rfl, aR HB3.out⟩
 by_cases hx : m < x
 ·obtain rfl : pb = false := E.out.trans (by simp; omega)
  obtain rfl : pf = 0 := E2.out
  go_enter Tryz.func21, Tryz.ntmps21
  go_wp2_with (first
   | (go_at_call 19; refine (HG _ HB0.out).mono ?_; clear HG; rintro e w1 ⟨rfl, hb⟩; have HB1 : Hid (Below (w.alloc (shO a n m 32)).heap.size (w.alloc (shO a n m 32)) w1) := hb; clear hb; obtain ⟨c0, c1, c2⟩ := aL HB1.out)
   | (go_at_call 39; refine (HH _ HB1.out).mono ?_; clear HH; rintro e w2 ⟨rfl, hb⟩; have HB2 : Hid (Below (w.alloc (shO a n m 32)).heap.size (w.alloc (shO a n m 32)) w2) := hb; clear hb c0 c1 c2; obtain ⟨c0, c1, c2⟩ := aL HB2.out)
   | (go_at_call 40; refine (HM.out _).mono ?_; clear HM; rintro e w3 ⟨rfl, Hm, hb⟩; have HB3 : Hid (Below (w.alloc (shO a n m 32)).heap.size (w.alloc (shO a n m 32)) w3) := aG HB2.out hb.out; clear hb c0 c1 c2; obtain ⟨c0, c1, c2⟩ := aL HB3.out)
   | (go_at_call 66; refine (H1.out _ _ Hm.out).mono ?_; clear H1; rintro e w4 ⟨rfl, hw⟩; obtain rfl := hw.symm; clear hw))
  go_ret2
  exact ⟨rfl, aR HB3.out⟩
 ·obtain rfl : pb = true := E.out.trans (by simp; omega)
  obtain rfl : pf = x := E2.out
  go_enter Tryz.func21, Tryz.ntmps21
  go_wp2_with (first
   | (go_at_call 19; refine (HG _ HB0.out).mono ?_; clear HG; rintro e w1 ⟨rfl, hb⟩; have HB1 : Hid (Below (w.alloc (shO a n m 32)).heap.size (w.alloc (shO a n m 32)) w1) := hb; clear hb; obtain ⟨c0, c1, c2⟩ := aL HB1.out)
   | (go_at_call 39; refine (HH _ HB1.out).mono ?_; clear HH; rintro e w2 ⟨rfl, hb⟩; have HB2 : Hid (Below (w.alloc (shO a n m 32)).heap.size (w.alloc (shO a n m 32)) w2) := hb; clear hb c0 c1 c2; obtain ⟨c0, c1, c2⟩ := aL HB2.out)
   | (go_at_call 40; refine (HM.out _).mono ?_; clear HM; rintro e w3 ⟨rfl, Hm, hb⟩; have HB3 : Hid (Below (w.alloc (shO a n m 32)).heap.size (w.alloc (shO a n m 32)) w3) := aG HB2.out hb.out; clear hb c0 c1 c2; obtain ⟨c0, c1, c2⟩ := aL HB3.out)
   | (go_at_call 66; refine (H1.out _ _ Hm.out).mono ?_; clear H1; rintro e w4 ⟨rfl, hw⟩; obtain rfl := hw.symm; clear hw))
  go_ret2
  exact ⟨rfl, aR HB3.out⟩
end Go.Proofs.YtljmklbbngpllaaGreatDoor.Hs
