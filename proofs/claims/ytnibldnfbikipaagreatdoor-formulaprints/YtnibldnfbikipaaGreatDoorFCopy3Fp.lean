/- FCopy2, FEach, FCopy3. -/
import Derived.Test.YtnibldnfbikipaaGreatDoorFCopyFp
import Derived.Test.YtnibldnfbikipaaGreatDoorFSizeFp
set_option linter.unusedVariables false
set_option linter.unusedSimpArgs false
set_option maxHeartbeats 16000000
set_option maxRecDepth 100000
namespace Go.Proofs.YtnibldnfbikipaaGreatDoor
open Go.RowKit Go.Fm
theorem ld26 {u : World} {g : Nat} {v : Value} (h : u.cell? ⟨g, 17, none⟩ = some v) : (Instr.loadAt 65 (.pointer (some ⟨g, 17, none⟩))).run Tryz.prog u = .ok v u := by
 go_simp
 try simp [h]
theorem CP.clone {K : Nat → Prop} {w : World} {t : T} {p : Option Addr} {n c : Nat} (hn9 : n ≤ 900) (hK : ∀ i, K i → i < w.heap.size) (hs : SK K w p n t.2) :
  Calls Tryz.prog 118 #[.slice p n c] ((w.alloc (.cells (lcs t.1 (.slice p n c)) 67)).alloc (.cells nd0 67)) fun e w1 => ∃ q cq L, e = .returned (.slice q n cq) ∧ w1.cell? ⟨w.heap.size, 17, none⟩ = some (.slice p n c) ∧ w1.frozen? ⟨w.heap.size, 17, none⟩ = false ∧ Hid (CP K w t q n cq 0 (w1.setCell ⟨w.heap.size, 17, none⟩ (.slice q n cq)) L) := by
 have hB : Below w.heap.size w ((w.alloc (.cells (lcs t.1 (.slice p n c)) 67)).alloc (.cells nd0 67)) := bel_alloc (bel_alloc (Below.refl _ _) _) _
 have hz : ((w.alloc (.cells (lcs t.1 (.slice p n c)) 67)).alloc (.cells nd0 67)).heap.size = w.heap.size + 2 := by simp
 have hb0 : ((w.alloc (.cells (lcs t.1 (.slice p n c)) 67)).alloc (.cells nd0 67)).heap[w.heap.size]? = some (.cells (lcs t.1 (.slice p n c)) 67) := (Below.heap_alloc _ _ _ (by simp)).trans (heap_alloc_new w _)
 have hb1 : ((w.alloc (.cells (lcs t.1 (.slice p n c)) 67)).alloc (.cells nd0 67)).heap[w.heap.size + 1]? = some (.cells nd0 67) := by
  have := heap_alloc_new (w.alloc (.cells (lcs t.1 (.slice p n c)) 67)) (.cells nd0 67)
  simpa using this
 generalize (w.alloc (.cells (lcs t.1 (.slice p n c)) 67)).alloc (.cells nd0 67) = W2 at *
 refine (clone_any K W2 p n c t.2 (hs.grown (grown_below (row := none) hB) (fun g e => by cases e)) hn9 (fun i hi => by have := hK i hi; omega)).mono ?_
 rintro e w1 ⟨v, L, rfl, hO, hL, hN, hb⟩
 obtain ⟨q, cq, rfl⟩ := ownN_slice hO
 have hlen : L.length = n := by rw [hs.1, ← hL, List.length_map]
 have h0 : w1.heap[w.heap.size]? = some (.cells (lcs t.1 (.slice p n c)) 67) := (hb.block _ (by omega)).trans hb0
 have h1 : w1.heap[w.heap.size + 1]? = some (.cells nd0 67) := (hb.block _ (by omega)).trans hb1
 have hG : w1.grownBy (w1.setCell ⟨w.heap.size, 17, none⟩ (.slice q n cq)) (some w.heap.size) := Go.Lib.grownBy_setCell _ _ _ _
 have hz1 := hb.size
 rw [hlen] at hO
 refine ⟨q, cq, L, by rw [hlen], cell17 h0, ?_, CP.begin ?_ ?_ ?_ (ownsRow_setCell_below (base := w.heap.size + 2) (by rw [← hz]; exact hO) (by simp) _) hL (fun x hx => (hN x hx).grown hG (fun g e hk => by cases e; exact absurd (hK _ hk) (by omega))) ?_⟩
 ·unfold World.frozen?
  rw [h0]
  simp
 ·have := hG.size; omega
 ·rw [heap_setCell_same w1 w.heap.size 17 _ 67 _ h0]
  rfl
 ·rw [heap_setCell_other _ _ _ _ (by simp)]; exact h1
 ·exact (bel_step hB hb).setCell (by simp) _
theorem copied_any : ∀ t : T, zT t ≤ 900 → ∀ (K : Nat → Prop) (w : World) (es : Array Value), NK K w es t → (∀ i, K i → i < w.heap.size) → Calls Tryz.prog 83 #[.agg es] w fun e w' => ∃ es', e = .returned (.agg es') ∧ NK (fun i => w.heap.size ≤ i) w' es' t ∧ Below w.heap.size w w' := by
 refine ind ?_
 intro t ih hz K w es h hK
 have HKk : Hid (∀ s ∈ kids t.2, ∀ (K : Nat → Prop) (w : World) (es : Array Value), NK K w es s → (∀ i, K i → i < w.heap.size) → Calls Tryz.prog 83 #[.agg es] w fun e w' => ∃ es', e = .returned (.agg es') ∧ NK (fun i => w.heap.size ≤ i) w' es' s ∧ Below w.heap.size w w') := fun s hs => ih s hs (by have := zT_kid hs; omega)
 have hkl := kids_le t
 obtain ⟨p, n, c, rfl, hs⟩ := h
 have hn900 : n ≤ 900 := by have := hs.1; omega
 have C := CP.clone (c := c) hn900 hK hs
 have HNn : Hid (n = (kids t.2).length) := hs.1
 have HKK : Hid (∀ i, K i → i < w.heap.size) := hK
 have H0 := heap_alloc_new w (.cells (lcs t.1 (.slice p n c)) 67)
 have c17 := cell17 H0
 clear ih hs hK hz hkl
 have R17 : Hid ((Instr.loadAt 65 (.pointer (some ⟨w.heap.size, 17, none⟩))).run Tryz.prog ((w.alloc (.cells (lcs t.1 (.slice p n c)) 67)).alloc (.cells nd0 67)) = .ok (.slice p n c) ((w.alloc (.cells (lcs t.1 (.slice p n c)) 67)).alloc (.cells nd0 67))) := ld26 (cell_bel (bel_alloc (Below.refl _ _) _) c17)
 clear c17 H0
 generalize lcs t.1 (.slice p n c) = bx at C R17 ⊢
 go_enter Tryz.func83, Tryz.ntmps83
 go_wp2_with (first
  | (refine wpList_load_run rfl 65 _ rfl _ _ rfl R17.out ?_; clear R17)
  | (go_at_call 118; refine C.mono ?_; rintro e w1 ⟨q, cq, L0, rfl, c1, f1, HP0⟩; clear C))
 clear c1 f1
 generalize w1.setCell ⟨w.heap.size, 17, none⟩ (.slice q n cq) = u0 at *
 go_loopw [12] (fun i wr => ∃ (k : Nat) (L : List (Array Value × T)), k ≤ n ∧ i = .int .i64 (k : Nat) ∧ Hid (CP K w t q n cq k wr L)) (fun i _ => n - (intOf i).toNat)
 case atStart => exact ⟨0, L0, Nat.zero_le _, rfl, HP0⟩
 case round =>
  obtain ⟨k, L, hk, rfl, HP⟩ := hrel
  clear HP0
  by_cases hlt : k < n
  ·have hki : (k : Int) < n := by omega
   obtain ⟨a, x, HX, HQ, RL, hN⟩ : ∃ a x, Hid (L[k]? = some x) ∧ q = some a ∧ Hid ((Instr.loadAt 67 (.pointer (some (a.add (k * 18))))).run Tryz.prog wr = .ok (.agg x.1) wr) ∧ NK K wr x.1 x.2 := by
    rcases HP.out.row with h0 | ⟨g, rfl, hg, hltg, hr, hf, hxx⟩
    ·omega
    ·have hl : k < L.length := by
      have := congrArg List.length HP.out.len
      rw [List.length_map] at this
      have := HNn.out
      omega
     have hx := (hxx k _ (List.getElem?_eq_getElem hl)).2 (Nat.le_refl _)
     refine ⟨_, _, List.getElem?_eq_getElem hl, rfl, ?_, hx⟩
     have := hr.load (List.getElem?_eq_getElem hl) hx.size
     rw [Addr.add_mid, Nat.zero_add]
     exact this
   have HS : Hid (x.2 ∈ kids t.2) := by
    show _ ∈ _
    rw [← HP.out.len]
    exact List.mem_map.2 ⟨x, List.mem_of_getElem? HX.out, rfl⟩
   obtain ⟨b1, b2⟩ := nbox wr hN.nt
   have RS : Hid _ := b1
   have HB2 : Hid (Below wr.heap.size wr (wr.alloc (.cells x.1 67)).drew) := (bel_alloc (Below.refl _ _) _).drew
   have RL28 : Hid ((Instr.loadAt 67 (.pointer (some ⟨wr.heap.size, 0, none⟩))).run Tryz.prog (wr.alloc (.cells x.1 67)).drew = .ok (.agg x.1) (wr.alloc (.cells x.1 67)).drew) := b2 _ (heap_alloc_new wr _)
   have RL17 : Hid ((Instr.loadAt 65 (.pointer (some ⟨w.heap.size, 17, none⟩))).run Tryz.prog (wr.alloc (.cells x.1 67)).drew = .ok (.slice q n cq) (wr.alloc (.cells x.1 67)).drew) := ld26 (cell17 ((HB2.out.block _ (lt_of HP.out.box)).trans HP.out.box))
   have C31 := HKk.out x.2 HS.out K (wr.alloc (.cells x.1 67)).drew x.1 (hN.below HB2.out) (fun i hi => by have := HKK.out i hi; have := HP.out.bel.size; have := HB2.out.size; omega)
   have C : Calls Tryz.prog 83 #[.agg x.1] (wr.alloc (.cells x.1 67)).drew fun e w3 => ∃ es2 w4 L', e = .returned (.agg es2) ∧ Hid ((Instr.loadAt 65 (.pointer (some ⟨w.heap.size, 17, none⟩))).run Tryz.prog w3 = .ok (.slice q n cq) w3 ∧ (Instr.loadAt 67 (.pointer (some ⟨wr.heap.size, 0, none⟩))).run Tryz.prog w3 = .ok (.agg x.1) w3) ∧ Hid ((Instr.storeAt 67 (.pointer (some (a.add (k * 18)))) (.agg es2)).run Tryz.prog w3 = .ok () w4) ∧ Hid (CP K w t q n cq (k + 1) w4 L') := C31.mono (by
    rintro e w3 ⟨es2, rfl, hn2, hb3⟩
    have hB3 : Below wr.heap.size wr w3 := bel_step HB2.out hb3
    have hg : ∃ g, q = some ⟨g, 0, none⟩ := by
     rcases HP.out.row with h0 | ⟨g, e, _⟩
     ·omega
     ·exact ⟨g, e⟩
    obtain ⟨g, hg⟩ := hg
    have ha : a = ⟨g, 0, none⟩ := by rw [HQ] at hg; exact Option.some.inj hg
    obtain ⟨r1, r2⟩ := CP.step HKK.out HP.out hg hlt HNn.out hB3 HX.out (hn2.mono (fun i hi _ => Nat.le_trans HB2.out.size hi))
    refine ⟨es2, _, _, rfl, ⟨ld26 (cell17 ((hB3.block _ (lt_of HP.out.box)).trans HP.out.box)), b2 _ ((hb3.block _ (by simp)).trans (heap_alloc_new wr _))⟩, ?_, r2⟩
    rw [ha, Addr.add_mid, Nat.zero_add]
    exact r1)
   clear C31 hN b1 b2 HP HX HS HB2
   subst HQ
   go_wp2_with (first
    | (refine wpList_load_run rfl 67 _ rfl _ _ rfl RL.out ?_; clear RL)
    | (refine wpList_store_run rfl 67 _ _ rfl _ _ _ rfl rfl RS.out ?_; clear RS))
   refine wp_region_d (fun u => (Instr.loadAt 65 (.pointer (some ⟨w.heap.size, 17, none⟩))).run Tryz.prog u = .ok (.slice (some a) n cq) u ∧ (Instr.loadAt 67 (.pointer (some ⟨wr.heap.size, 0, none⟩))).run Tryz.prog u = .ok (.agg x.1) u) (fun j => j == 6) (by kernel_rfl) ?_
   refine dwp 0 (.pointer (some ⟨w.heap.size, 17, none⟩)) (h := ?_)
   refine wpAnyD_loadd (i := 1) (v := .slice (some a) n cq) rfl rfl (by kernel_rfl) (by kernel_rfl) (by kernel_rfl) (by kernel_rfl) (fun _ _ _ h => h) (by go_simp) (fun u hSu => exec_load_run rfl rfl hSu.1) ⟨RL17.out, RL28.out⟩ ?_
   try simp only [Act.put, List.setIfInBounds_toArray, List.set_cons_zero, List.set_cons_succ]
   refine dwp 2 (.int .i64 (k : Nat)) (h := ?_)
   refine wpAnyD_loadd (i := 3) (v := .agg x.1) rfl rfl (by kernel_rfl) (by kernel_rfl) (by kernel_rfl) (by kernel_rfl) (fun _ _ _ h => h) (by go_simp) (fun u hSu => exec_load_run rfl rfl hSu.2) ⟨RL17.out, RL28.out⟩ ?_
   try simp only [Act.put, List.setIfInBounds_toArray, List.set_cons_zero, List.set_cons_succ]
   refine wpAnyD_one (i := 4) (by kernel_rfl) rfl ?_
   intro K' hK'
   go_simp
   refine C.mono ?_
   rintro e w3 ⟨es2, w4, L', rfl, RS3, RSt, HP4⟩
   refine hK' _ _ (.inr fun _ => RS3.out) ?_
   clear hK' C RS3 RL17 RL28
   try simp only [Act.put, List.setIfInBounds_toArray, List.set_cons_zero, List.set_cons_succ]
   refine dwp 5 (.pointer (some (a.add (k * 18)))) (h := ?_)
   refine wpAnyD_one (i := 6) (by kernel_rfl) rfl ?_
   intro K' hK'
   rw [if_pos (by go_simp)]
   refine wp_store_run none rfl 67 _ _ rfl _ _ rfl rfl RSt.out (hK' _ _ (.inl rfl) ?_)
   clear hK'
   try simp only [Act.put, List.setIfInBounds_toArray, List.set_cons_zero, List.set_cons_succ]
   refine wpAnyD_done (by kernel_rfl) ?_ _
   go_wp2
   go_roundw
   case rel => exact ⟨k + 1, L', by omega, by go_num, HP4⟩
   case measure => simp [intOf]; omega
  ·have hki : ¬ (k : Int) < n := by omega
   obtain rfl : k = n := by omega
   have hD := HP.out.done HNn.out
   have RLb : Hid _ := hD.lod HP.out.box
   have RSb : Hid _ := hD.sto (g := w.heap.size + 1) HP.out.res rfl
   have HG : wr.grownBy (wr.setRow (w.heap.size + 1) (lcs t.1 (.slice q k cq))) (some (w.heap.size + 1)) := setRow_grown _ _ _
   have HD : Hid (NK (fun i => w.heap.size ≤ i) (wr.setRow (w.heap.size + 1) (lcs t.1 (.slice q k cq))) (lcs t.1 (.slice q k cq)) t) := (hD.grown HG (fun g e h => by cases e; omega)).mono (fun i h _ => by omega)
   have HB : Hid (Below w.heap.size w (wr.setRow (w.heap.size + 1) (lcs t.1 (.slice q k cq)))) := HP.out.bel.grown HG HP.out.bel.size (fun g e => by cases e; omega)
   have HR : Hid _ := HP.out.res
   have HSz : Hid ((lcs t.1 (.slice q k cq)).size = 18) := rfl
   clear HG hD HP
   generalize lcs t.1 (.slice q k cq) = es' at *
   go_wp2_with (first
    | (refine wpList_load_run rfl 67 _ rfl _ _ rfl RLb.out ?_; clear RLb)
    | (refine wpList_store_run rfl 67 _ _ rfl _ _ _ rfl rfl RSb.out ?_; clear RSb))
   exact bodyPost_ret (nd_res HR.out HSz.out rfl rfl) rfl ⟨_, rfl, HD.out, HB.out⟩
theorem each_any (t : T) (hz : zT t ≤ 900) (K : Nat → Prop) (w : World) (es : Array Value) (h : NK K w es t) (hK : ∀ i, K i → i < w.heap.size) : Calls Tryz.prog 39 #[.agg es] w fun e w' => ∃ B es', e = .returned (.func (.func 84) #[] #[.pointer (some ⟨B, 0, none⟩)]) ∧ w.heap.size ≤ B ∧ w'.heap[B]? = some (.cells es' 67) ∧ NK (fun i => w.heap.size ≤ i ∧ i ≠ B) w' es' t ∧ Below w.heap.size w w' := by
 have hB0 : Below w.heap.size w (w.alloc (.cells es 67)) := bel_alloc (Below.refl _ _) _
 have RL : Hid _ := h.lod (heap_alloc_new w (.cells es 67))
 have C := copied_any t hz K (w.alloc (.cells es 67)) es (h.below hB0) (fun i hi => by have := hK i hi; have := hB0.size; omega)
 have C' : Calls Tryz.prog 83 #[.agg es] (w.alloc (.cells es 67)) fun e w1 => ∃ es', e = .returned (.agg es') ∧ Hid ((Instr.storeAt 67 (.pointer (some ⟨w1.heap.size, 0, none⟩)) (.agg es')).run Tryz.prog (w1.alloc (.cells nd0 67)) = .ok () (w1.alloc (.cells es' 67))) ∧ Hid (w.heap.size ≤ w1.heap.size ∧ (w1.alloc (.cells es' 67)).heap[w1.heap.size]? = some (.cells es' 67) ∧ NK (fun i => w.heap.size ≤ i ∧ i ≠ w1.heap.size) (w1.alloc (.cells es' 67)) es' t ∧ Below w.heap.size w (w1.alloc (.cells es' 67))) := C.mono (by
  rintro e w1 ⟨es', rfl, hN, hB⟩
  have hz1 := hB.size
  have hz0 := hB0.size
  refine ⟨es', rfl, (nbox w1 hN.nt).1, by omega, heap_alloc_new w1 _, ?_, bel_alloc (bel_step hB0 hB) _⟩
  exact (hN.mono (fun i hi hl => ⟨by omega, by omega⟩)).below (bel_alloc (Below.refl _ _) _))
 clear C h hK hz hB0
 go_enter Tryz.func39, Tryz.ntmps39
 go_wp2_with (first
  | (refine wpList_load_run rfl 67 _ rfl _ _ rfl RL.out ?_; clear RL)
  | (go_at_call 83; refine C'.mono ?_; rintro e w1 ⟨es', rfl, RS, HE⟩; clear C')
  | (refine wpList_store_run rfl 67 _ _ rfl _ _ _ rfl rfl RS.out ?_; clear RS))
 go_ret
 exact ⟨_, es', rfl, HE.out.1, HE.out.2.1, HE.out.2.2.1, HE.out.2.2.2⟩
def TopR (m : Nat) (w : World) (es : Array Value) (t : T) : Prop := ∃ q n c, es = lcs t.1 (.slice q n c) ∧ n = (kids t.2).length ∧ (n = 0 ∨ ∃ g L, q = some ⟨g, 0, none⟩ ∧ L.length = n ∧ m ≤ g ∧ (∃ o, w.heap[g]? = some o ∧ o.isCells = true) ∧ RowC w g L ∧ (∀ x ∈ L, x.1.size = 18) ∧ ∀ o, w.frozen? ⟨g, o, none⟩ = false)
theorem CP.top {K : Nat → Prop} {w u : World} {t : T} {q : Option Addr} {n cq : Nat} {L : List (Array Value × T)} (h : CP K w t q n cq n u L) (hn : n = (kids t.2).length) : TopR (w.heap.size + 2) u (lcs t.1 (.slice q n cq)) t := by
 refine ⟨q, n, cq, rfl, hn, ?_⟩
 have hlen : L.length = n := by rw [hn, ← h.len, List.length_map]
 rcases h.row with h0 | ⟨g, rfl, hg, hlt, hr, hf, hx⟩
 ·exact .inl h0
 ·by_cases hn0 : n = 0
  ·exact .inl hn0
  have h18 : ∀ x ∈ L, x.1.size = 18 := fun x hm => by
   obtain ⟨i, hi, e⟩ := List.getElem_of_mem hm
   exact ((hx i x (by rw [List.getElem?_eq_getElem hi, e])).1 (by omega)).size
  have h0 : 0 < L.length := by omega
  have hs := h18 _ (List.getElem_mem h0)
  obtain ⟨o, ho, hc⟩ := cells_of (hr 0 _ (List.getElem?_eq_getElem h0) 0 _ (List.getElem?_eq_getElem (by rw [Array.length_toList]; omega)))
  exact .inr ⟨g, L, rfl, hlen, hg, ⟨o, ho, hc⟩, hr, h18, hf⟩
theorem TopR.grown {m : Nat} {w w' : World} {es : Array Value} {t : T} {row : Option Nat} (h : TopR m w es t) (hg : w.grownBy w' row) (hr : ∀ r, row = some r → r < m ∨ ∃ o : Obj, w.heap[r]? = some o ∧ o.isCells = false) : TopR m w' es t := by
 obtain ⟨q, n, c, e, hn, h⟩ := h
 refine ⟨q, n, c, e, hn, h.imp id ?_⟩
 rintro ⟨g, L, h1, h2, h3, h4, h5, h6, h7⟩
 obtain ⟨o', h4, h4c⟩ := h4
 have hne : row ≠ some g := fun e => by
  rcases hr g e with h | ⟨o, ho, hc⟩
  ·omega
  ·rw [h4] at ho; cases ho; rw [h4c] at hc; cases hc
 have hb := hg.block g (lt_of h4) (fun e => hne e.symm)
 exact ⟨g, L, h1, h2, h3, ⟨o', hb.trans h4, h4c⟩, h5.grown hg hne, h6, fun o => frozen_of_heap hb o (h7 o)⟩
theorem TopR.down {m m' : Nat} {w : World} {es : Array Value} {t : T} (h : TopR m w es t) (hm : m' ≤ m) : TopR m' w es t := by
 obtain ⟨q, n, c, e, hn, h⟩ := h
 refine ⟨q, n, c, e, hn, h.imp id ?_⟩
 rintro ⟨g, L, h1, h2, h3, h4⟩
 exact ⟨g, L, h1, h2, by omega, h4⟩
theorem copied_row (t : T) (hz : zT t ≤ 900) (K : Nat → Prop) (w : World) (es : Array Value) (h : NK K w es t) (hK : ∀ i, K i → i < w.heap.size) : Calls Tryz.prog 83 #[.agg es] w fun e w' => ∃ es', e = .returned (.agg es') ∧ NK (fun i => w.heap.size ≤ i) w' es' t ∧ TopR w.heap.size w' es' t ∧ Below w.heap.size w w' := by
 have HKk : Hid (∀ s ∈ kids t.2, ∀ (K : Nat → Prop) (w : World) (es : Array Value), NK K w es s → (∀ i, K i → i < w.heap.size) → Calls Tryz.prog 83 #[.agg es] w fun e w' => ∃ es', e = .returned (.agg es') ∧ NK (fun i => w.heap.size ≤ i) w' es' s ∧ Below w.heap.size w w') := fun s hs => copied_any s (by have := zT_kid hs; omega)
 have hkl := kids_le t
 obtain ⟨p, n, c, rfl, hs⟩ := h
 have hn900 : n ≤ 900 := by have := hs.1; omega
 have C := CP.clone (c := c) hn900 hK hs
 have HNn : Hid (n = (kids t.2).length) := hs.1
 have HKK : Hid (∀ i, K i → i < w.heap.size) := hK
 have H0 := heap_alloc_new w (.cells (lcs t.1 (.slice p n c)) 67)
 have c17 := cell17 H0
 clear hs hK hz hkl
 have R17 : Hid ((Instr.loadAt 65 (.pointer (some ⟨w.heap.size, 17, none⟩))).run Tryz.prog ((w.alloc (.cells (lcs t.1 (.slice p n c)) 67)).alloc (.cells nd0 67)) = .ok (.slice p n c) ((w.alloc (.cells (lcs t.1 (.slice p n c)) 67)).alloc (.cells nd0 67))) := ld26 (cell_bel (bel_alloc (Below.refl _ _) _) c17)
 clear c17 H0
 generalize lcs t.1 (.slice p n c) = bx at C R17 ⊢
 go_enter Tryz.func83, Tryz.ntmps83
 go_wp2_with (first
  | (refine wpList_load_run rfl 65 _ rfl _ _ rfl R17.out ?_; clear R17)
  | (go_at_call 118; refine C.mono ?_; rintro e w1 ⟨q, cq, L0, rfl, c1, f1, HP0⟩; clear C))
 clear c1 f1
 generalize w1.setCell ⟨w.heap.size, 17, none⟩ (.slice q n cq) = u0 at *
 go_loopw [12] (fun i wr => ∃ (k : Nat) (L : List (Array Value × T)), k ≤ n ∧ i = .int .i64 (k : Nat) ∧ Hid (CP K w t q n cq k wr L)) (fun i _ => n - (intOf i).toNat)
 case atStart => exact ⟨0, L0, Nat.zero_le _, rfl, HP0⟩
 case round =>
  obtain ⟨k, L, hk, rfl, HP⟩ := hrel
  clear HP0
  by_cases hlt : k < n
  ·have hki : (k : Int) < n := by omega
   obtain ⟨a, x, HX, HQ, RL, hN⟩ : ∃ a x, Hid (L[k]? = some x) ∧ q = some a ∧ Hid ((Instr.loadAt 67 (.pointer (some (a.add (k * 18))))).run Tryz.prog wr = .ok (.agg x.1) wr) ∧ NK K wr x.1 x.2 := by
    rcases HP.out.row with h0 | ⟨g, rfl, hg, hltg, hr, hf, hxx⟩
    ·omega
    ·have hl : k < L.length := by
      have := congrArg List.length HP.out.len
      rw [List.length_map] at this
      have := HNn.out
      omega
     have hx := (hxx k _ (List.getElem?_eq_getElem hl)).2 (Nat.le_refl _)
     refine ⟨_, _, List.getElem?_eq_getElem hl, rfl, ?_, hx⟩
     have := hr.load (List.getElem?_eq_getElem hl) hx.size
     rw [Addr.add_mid, Nat.zero_add]
     exact this
   have HS : Hid (x.2 ∈ kids t.2) := by
    show _ ∈ _
    rw [← HP.out.len]
    exact List.mem_map.2 ⟨x, List.mem_of_getElem? HX.out, rfl⟩
   obtain ⟨b1, b2⟩ := nbox wr hN.nt
   have RS : Hid _ := b1
   have HB2 : Hid (Below wr.heap.size wr (wr.alloc (.cells x.1 67)).drew) := (bel_alloc (Below.refl _ _) _).drew
   have RL28 : Hid ((Instr.loadAt 67 (.pointer (some ⟨wr.heap.size, 0, none⟩))).run Tryz.prog (wr.alloc (.cells x.1 67)).drew = .ok (.agg x.1) (wr.alloc (.cells x.1 67)).drew) := b2 _ (heap_alloc_new wr _)
   have RL17 : Hid ((Instr.loadAt 65 (.pointer (some ⟨w.heap.size, 17, none⟩))).run Tryz.prog (wr.alloc (.cells x.1 67)).drew = .ok (.slice q n cq) (wr.alloc (.cells x.1 67)).drew) := ld26 (cell17 ((HB2.out.block _ (lt_of HP.out.box)).trans HP.out.box))
   have C31 := HKk.out x.2 HS.out K (wr.alloc (.cells x.1 67)).drew x.1 (hN.below HB2.out) (fun i hi => by have := HKK.out i hi; have := HP.out.bel.size; have := HB2.out.size; omega)
   have C : Calls Tryz.prog 83 #[.agg x.1] (wr.alloc (.cells x.1 67)).drew fun e w3 => ∃ es2 w4 L', e = .returned (.agg es2) ∧ Hid ((Instr.loadAt 65 (.pointer (some ⟨w.heap.size, 17, none⟩))).run Tryz.prog w3 = .ok (.slice q n cq) w3 ∧ (Instr.loadAt 67 (.pointer (some ⟨wr.heap.size, 0, none⟩))).run Tryz.prog w3 = .ok (.agg x.1) w3) ∧ Hid ((Instr.storeAt 67 (.pointer (some (a.add (k * 18)))) (.agg es2)).run Tryz.prog w3 = .ok () w4) ∧ Hid (CP K w t q n cq (k + 1) w4 L') := C31.mono (by
    rintro e w3 ⟨es2, rfl, hn2, hb3⟩
    have hB3 : Below wr.heap.size wr w3 := bel_step HB2.out hb3
    have hg : ∃ g, q = some ⟨g, 0, none⟩ := by
     rcases HP.out.row with h0 | ⟨g, e, _⟩
     ·omega
     ·exact ⟨g, e⟩
    obtain ⟨g, hg⟩ := hg
    have ha : a = ⟨g, 0, none⟩ := by rw [HQ] at hg; exact Option.some.inj hg
    obtain ⟨r1, r2⟩ := CP.step HKK.out HP.out hg hlt HNn.out hB3 HX.out (hn2.mono (fun i hi _ => Nat.le_trans HB2.out.size hi))
    refine ⟨es2, _, _, rfl, ⟨ld26 (cell17 ((hB3.block _ (lt_of HP.out.box)).trans HP.out.box)), b2 _ ((hb3.block _ (by simp)).trans (heap_alloc_new wr _))⟩, ?_, r2⟩
    rw [ha, Addr.add_mid, Nat.zero_add]
    exact r1)
   clear C31 hN b1 b2 HP HX HS HB2
   subst HQ
   go_wp2_with (first
    | (refine wpList_load_run rfl 67 _ rfl _ _ rfl RL.out ?_; clear RL)
    | (refine wpList_store_run rfl 67 _ _ rfl _ _ _ rfl rfl RS.out ?_; clear RS))
   refine wp_region_d (fun u => (Instr.loadAt 65 (.pointer (some ⟨w.heap.size, 17, none⟩))).run Tryz.prog u = .ok (.slice (some a) n cq) u ∧ (Instr.loadAt 67 (.pointer (some ⟨wr.heap.size, 0, none⟩))).run Tryz.prog u = .ok (.agg x.1) u) (fun j => j == 6) (by kernel_rfl) ?_
   refine dwp 0 (.pointer (some ⟨w.heap.size, 17, none⟩)) (h := ?_)
   refine wpAnyD_loadd (i := 1) (v := .slice (some a) n cq) rfl rfl (by kernel_rfl) (by kernel_rfl) (by kernel_rfl) (by kernel_rfl) (fun _ _ _ h => h) (by go_simp) (fun u hSu => exec_load_run rfl rfl hSu.1) ⟨RL17.out, RL28.out⟩ ?_
   try simp only [Act.put, List.setIfInBounds_toArray, List.set_cons_zero, List.set_cons_succ]
   refine dwp 2 (.int .i64 (k : Nat)) (h := ?_)
   refine wpAnyD_loadd (i := 3) (v := .agg x.1) rfl rfl (by kernel_rfl) (by kernel_rfl) (by kernel_rfl) (by kernel_rfl) (fun _ _ _ h => h) (by go_simp) (fun u hSu => exec_load_run rfl rfl hSu.2) ⟨RL17.out, RL28.out⟩ ?_
   try simp only [Act.put, List.setIfInBounds_toArray, List.set_cons_zero, List.set_cons_succ]
   refine wpAnyD_one (i := 4) (by kernel_rfl) rfl ?_
   intro K' hK'
   go_simp
   refine C.mono ?_
   rintro e w3 ⟨es2, w4, L', rfl, RS3, RSt, HP4⟩
   refine hK' _ _ (.inr fun _ => RS3.out) ?_
   clear hK' C RS3 RL17 RL28
   try simp only [Act.put, List.setIfInBounds_toArray, List.set_cons_zero, List.set_cons_succ]
   refine dwp 5 (.pointer (some (a.add (k * 18)))) (h := ?_)
   refine wpAnyD_one (i := 6) (by kernel_rfl) rfl ?_
   intro K' hK'
   rw [if_pos (by go_simp)]
   refine wp_store_run none rfl 67 _ _ rfl _ _ rfl rfl RSt.out (hK' _ _ (.inl rfl) ?_)
   clear hK'
   try simp only [Act.put, List.setIfInBounds_toArray, List.set_cons_zero, List.set_cons_succ]
   refine wpAnyD_done (by kernel_rfl) ?_ _
   go_wp2
   go_roundw
   case rel => exact ⟨k + 1, L', by omega, by go_num, HP4⟩
   case measure => simp [intOf]; omega
  ·have hki : ¬ (k : Int) < n := by omega
   obtain rfl : k = n := by omega
   have hD := HP.out.done HNn.out
   have RLb : Hid _ := hD.lod HP.out.box
   have RSb : Hid _ := hD.sto (g := w.heap.size + 1) HP.out.res rfl
   have HG : wr.grownBy (wr.setRow (w.heap.size + 1) (lcs t.1 (.slice q k cq))) (some (w.heap.size + 1)) := setRow_grown _ _ _
   have HD : Hid (NK (fun i => w.heap.size ≤ i) (wr.setRow (w.heap.size + 1) (lcs t.1 (.slice q k cq))) (lcs t.1 (.slice q k cq)) t) := (hD.grown HG (fun g e h => by cases e; omega)).mono (fun i h _ => by omega)
   have HB : Hid (Below w.heap.size w (wr.setRow (w.heap.size + 1) (lcs t.1 (.slice q k cq)))) := HP.out.bel.grown HG HP.out.bel.size (fun g e => by cases e; omega)
   have HT : Hid (TopR w.heap.size (wr.setRow (w.heap.size + 1) (lcs t.1 (.slice q k cq))) (lcs t.1 (.slice q k cq)) t) := ((HP.out.top HNn.out).grown HG (fun r e => by cases e; exact .inl (by omega))).down (by omega)
   have HR : Hid _ := HP.out.res
   have HSz : Hid ((lcs t.1 (.slice q k cq)).size = 18) := rfl
   clear HG hD HP
   generalize lcs t.1 (.slice q k cq) = es' at *
   go_wp2_with (first
    | (refine wpList_load_run rfl 67 _ rfl _ _ rfl RLb.out ?_; clear RLb)
    | (refine wpList_store_run rfl 67 _ _ rfl _ _ _ rfl rfl RSb.out ?_; clear RSb))
   exact bodyPost_ret (nd_res HR.out HSz.out rfl rfl) rfl ⟨_, rfl, HD.out, HT.out, HB.out⟩
end Go.Proofs.YtnibldnfbikipaaGreatDoor
