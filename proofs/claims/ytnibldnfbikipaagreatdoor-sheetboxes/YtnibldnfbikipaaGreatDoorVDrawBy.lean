/- SIdx, SGet, SOrd, VDraw. -/
import Derived.Deep.RegionHeld
import Derived.OrdersHeld
import Derived.Test.YtnibldnfbikipaaGreatDoorSFunBy
set_option linter.unusedVariables false
set_option linter.unusedSimpArgs false
set_option maxHeartbeats 16000000
set_option maxRecDepth 100000
namespace Go.Proofs.YtnibldnfbikipaaGreatDoor.Sh
open Go.RowKit
theorem pred71 {w : World} {g : Nat} {s : ByteArray} (hg : w.heap[g]? = some (.cells #[.string s] 9)) (t : ByteArray) (p : Option Addr) (n c : Nat) :
  Calls Tryz.prog 71 #[.agg #[.string t, .slice p n c], .pointer (some ⟨g, 0, none⟩)] w fun e w' => e = .returned (.bool (t.toList == s.toList)) ∧ Below w.heap.size w w' := by
 have hlt : g < w.heap.size := (Array.getElem?_eq_some_iff.1 hg).1
 have c1 : (w.alloc (.cells #[.string t, .slice p n c] 78)).cell? ⟨g, 0, none⟩ = some (.string s) := cell_heap ((Below.heap_alloc w _ g hlt).trans hg) rfl
 have c2 := cell_heap (heap_alloc_new w (.cells #[.string t, .slice p n c] 78)) (j := 0) rfl
 have HB : Hid (Below w.heap.size w (w.alloc (.cells #[.string t, .slice p n c] 78))) := (Below.refl _ _).alloc (Nat.le_refl _) _
 clear hg
 go_enter Tryz.func71, Tryz.ntmps71
 go_wp2
 go_ret
 exact ⟨rfl, HB.out⟩
theorem idxf_71 {lo hi : Nat} {w : World} {a : Option Addr} {c : Nat} {L : List SheetT} (h : Shs lo hi w (.slice a L.length c) L) (hhi : hi ≤ w.heap.size) (p : SheetT → Bool) (g : Nat)
  (HP : ∀ (k : Nat) (hk : k < L.length) (u : World) (q : Option Addr) (m d : Nat), Below w.heap.size w u → Cls lo hi u (.slice q m d) L[k].cells → Calls Tryz.prog 71 #[.agg #[.string L[k].name, .slice q m d], .pointer (some ⟨g, 0, none⟩)] u fun e w' => e = .returned (.bool (p L[k])) ∧ Below u.heap.size u w') :
  Calls Tryz.prog 70 #[.slice a L.length c, .func (.func 71) #[] #[.pointer (some ⟨g, 0, none⟩)]] w fun e w' => e = .returned (.int .i64 (idxI (L.findIdx? p))) ∧ Below w.heap.size w w' := by
 obtain ⟨_, _, he, hz1, hz2⟩ := h.slice
 cases he
 have hlen : L.length ≤ 9223372036854775807 := by unfold maxLen at hz2; omega
 have HS : Hid (Shs lo hi w (.slice a L.length c) L) := h
 have HPh : Hid _ := HP
 generalize hO : L.findIdx? p = o
 have HO : Hid (L.findIdx? p = o) := hO
 clear h HP hz1 hz2 hO
 go_enter Tryz.func70, Tryz.ntmps70
 go_wp2
 go_loopw [8] (fun i wr => ∃ (k : Nat), k ≤ L.length ∧ i = .int .i64 (k : Nat) ∧ Hid (∀ j (hj : j < L.length), j < k → p L[j] = false) ∧ Hid (Below w.heap.size w wr)) (fun i _ => L.length - (intOf i).toNat)
 case atStart => exact ⟨0, Nat.zero_le _, rfl, fun j _ hj => by omega, Below.refl _ _⟩
 case round =>
  obtain ⟨k, hk, rfl, HA, HB⟩ := hrel
  by_cases hkL : k < L.length
  ·have hki : (k : Int) < L.length := by omega
   have HS2 := HS.out.below hhi HB.out
   obtain ⟨a', cv, ov, W, rfl, rfl, hcl, hW, R1, -, -⟩ := HS2.runs hkL
   obtain ⟨q, d, rfl, _, _⟩ := hcl.slice
   have C := HPh.out k hkL wr q _ d HB.out hcl
   have hk63 : k < 9223372036854775807 := by omega
   have HX : Hid (p L[k] = true → o = some k) := fun e => HO.out.symm.trans <| findIdx_some hkL (fun j hj => HA.out j (by omega) hj) e
   have HY : Hid (p L[k] = false → ∀ j (hj : j < L.length), j < k + 1 → p L[j] = false) := fun e j hj hlt => by
    by_cases hjk : j = k
    ·subst hjk; exact e
    ·exact HA.out j hj (by omega)
   clear hcl hW HS2
   cases hp : p L[k] with
   | true =>
    obtain rfl := HX.out hp
    rw [hp] at C
    clear HX HY hp
    generalize L[k] = y at *
    obtain ⟨yn, yc⟩ := y
    dsimp only at *
    go_wp2_with (first
     | (refine wpList_load_run rfl 78 _ rfl _ _ rfl R1.out ?_; clear R1)
     | (go_at_call 71; refine C.mono ?_; rintro e w1 ⟨rfl, hb1⟩; have HB1 : Hid _ := bel_step HB.out HB.out.size hb1; clear hb1))
    go_ret
    exact ⟨rfl, HB1.out⟩
   | false =>
    have HY2 : Hid _ := HY.out hp
    rw [hp] at C
    clear HX HY hp
    generalize L[k] = y at *
    obtain ⟨yn, yc⟩ := y
    dsimp only at *
    go_wp2_with (first
     | (refine wpList_load_run rfl 78 _ rfl _ _ rfl R1.out ?_; clear R1)
     | (go_at_call 71; refine C.mono ?_; rintro e w1 ⟨rfl, hb1⟩; have HB1 : Hid _ := bel_step HB.out HB.out.size hb1; clear hb1))
    go_roundw
    case rel => exact ⟨k + 1, by omega, by go_num, HY2, HB1⟩
    case measure => simp [intOf]; omega
  ·have hki : ¬ (k : Int) < L.length := by omega
   obtain rfl : o = none := HO.out.symm.trans <| findIdx_none fun j hj => HA.out j hj (by omega)
   go_wp2
   go_ret
   exact ⟨rfl, HB.out⟩
abbrev bkO (sv nv lv : Value) : Obj := .cells #[sv, nv, lv] 26
theorem ldB {w : World} {g : Nat} {sv nv lv : Value} {z : Nat × Nat} (h : w.heap[g]? = some (.cells #[sv, nv, lv] 26 z)) : (Instr.loadAt 26 (.pointer (some ⟨g, 0, none⟩))).run Tryz.prog w = .ok (.agg #[sv, nv, lv]) w := by
 have hi : (Tryz.prog.info? 26).map (·.size) = some (#[sv, nv, lv] : Array Value).size := by kernel_rfl
 simp only [Instr.loadAt, Instr.sureAddr, Sem.run_bind, Sem.run_pure, Result.andThen_ok, run_loadVar_row w g 26 26 _ z _ h Tryz.underlying26 rfl hi]
theorem c_cells {u : World} {g : Nat} {y : CellT} {z : Nat × Nat} (h : u.heap[g]? = some (.cells (cellC y).toArray 57 z)) : u.cell? ⟨g, 0, none⟩ = some (.int .i64 y.row) ∧ u.cell? ⟨g, 1, none⟩ = some (.int .i64 y.col) ∧ u.cell? ⟨g, 2, none⟩ = some (.string y.text) :=
 ⟨cell_heap h rfl, cell_heap h rfl, cell_heap h rfl⟩
theorem index_any {lo hi : Nat} {w : World} {sv nv lv : Value} {x : BookT} (h : BkM lo hi w sv nv lv x) (hhi : hi ≤ w.heap.size) (s : ByteArray) :
  Calls Tryz.prog 20 #[.agg #[sv, nv, lv], .string s] w fun e w' => e = .returned (.int .i64 (idxI (idxN x.sheets s))) ∧ Below w.heap.size w w' := by
 obtain ⟨sa, sc, rfl, _, _⟩ := h.sh.slice
 obtain ⟨na, nc, rfl, _, _⟩ := h.nm.slice
 obtain ⟨la, lc, rfl, _, _⟩ := h.lk.slice
 obtain ⟨W, hW⟩ : ∃ W, W = (w.alloc (bkO (.slice sa x.sheets.length sc) (.slice na x.names.length nc) (.slice la x.links.length lc))).alloc (.cells #[.string s] 9) := ⟨_, rfl⟩
 have HB : Below w.heap.size w W := by rw [hW]; exact bel_alloc (bel_alloc (Below.refl _ _) (Nat.le_refl _) _) (Nat.le_refl _) _
 have hz : hi ≤ W.heap.size := Nat.le_trans hhi HB.size
 have HG : W.heap[w.heap.size + 1]? = some (.cells #[.string s] 9) := by rw [hW]; simpa using heap_alloc_new (w.alloc (bkO (.slice sa x.sheets.length sc) (.slice na x.names.length nc) (.slice la x.links.length lc))) (.cells #[.string s] 9)
 have C := idxf_71 (h.sh.below hhi HB) hz (fun t => t.name.toList == s.toList) (w.heap.size + 1) (fun k hk u q m d hu hc => pred71 (by rw [hu.block _ (blk_lt HG)]; exact HG) _ q m d)
 rw [hW] at C
 have HBh : Hid (Below w.heap.size w W) := HB
 have HW : Hid (W = _) := hW
 have HE : Hid (idxN x.sheets s = x.sheets.findIdx? fun t => t.name.toList == s.toList) := rfl
 rw [HE.out]
 generalize (x.sheets.findIdx? fun t => t.name.toList == s.toList) = o at *
 clear h HB HG hW hz HE
 go_enter Tryz.func20, Tryz.ntmps20
 go_wp2_with (go_at_call 70; refine C.mono ?_; rintro e w1 ⟨rfl, hb⟩; rw [← HW.out] at hb; have HB2 : Hid _ := bel_step HBh.out HBh.out.size hb; clear hb)
 go_ret
 exact ⟨rfl, HB2.out⟩
theorem cellsOf_any {lo hi : Nat} {w : World} {sv nv lv : Value} {x : BookT} (h : BkM lo hi w sv nv lv x) (hhi : hi ≤ w.heap.size) (s : ByteArray) :
  Calls Tryz.prog 72 #[.agg #[sv, nv, lv], .string s] w fun e w' => (∃ v, e = .returned v ∧ Cls lo hi w' v (cellsO x.sheets s)) ∧ Below w.heap.size w w' := by
 have h0 := h
 obtain ⟨sa, sc, rfl, hs1, hs2⟩ := h.sh.slice
 obtain ⟨na, nc, rfl, _, _⟩ := h.nm.slice
 obtain ⟨la, lc, rfl, _, _⟩ := h.lk.slice
 obtain ⟨W, hW⟩ : ∃ W, W = w.alloc (bkO (.slice sa x.sheets.length sc) (.slice na x.names.length nc) (.slice la x.links.length lc)) := ⟨_, rfl⟩
 have HB : Below w.heap.size w W := by rw [hW]; exact bel_alloc (Below.refl _ _) (Nat.le_refl _) _
 have HG : W.heap[w.heap.size]? = some (bkO (.slice sa x.sheets.length sc) (.slice na x.names.length nc) (.slice la x.links.length lc)) := by rw [hW]; exact heap_alloc_new w _
 have R1 : Hid _ := ldB HG
 have C0 := index_any (h.below hhi HB) (Nat.le_trans hhi HB.size) s
 have hlen : x.sheets.length ≤ 9223372036854775807 := by unfold maxLen at hs2; omega
 unfold cellsO
 cases hO : idxN x.sheets s with
 | none =>
  rw [hO] at C0
  have C : Calls Tryz.prog 20 _ _ fun e w' => e = .returned (.int .i64 (-1)) ∧ Hid (Below w.heap.size w w') :=
   C0.mono (by
    rintro e w' ⟨rfl, hb⟩
    exact ⟨rfl, bel_step HB HB.size hb⟩)
  rw [hW] at C R1
  clear h h0 HB HG hW hs1 hs2 C0
  dsimp only
  go_enter Tryz.func72, Tryz.ntmps72
  go_wp2_with (first
   | (refine wpList_load_run rfl 26 _ rfl _ _ rfl R1.out ?_; clear R1)
   | (go_at_call 20; refine C.mono ?_; clear C; rintro e w1 ⟨rfl, HB⟩))
  go_ret
  exact ⟨⟨_, rfl, Cls.nil _ _ _⟩, HB.out⟩
 | some i =>
  rw [hO] at C0
  have hil := idx_lt hO
  have C : Calls Tryz.prog 20 _ _ fun e w' => e = .returned (.int .i64 (i : Nat)) ∧ ∃ a' q d, sa = some a' ∧ w'.cell? ⟨w.heap.size, 0, none⟩ = some (.slice sa x.sheets.length sc) ∧ w'.cell? ⟨(a'.add (i * 2)).block, (a'.add (i * 2)).off + 1, none⟩ = some (.slice q x.sheets[i].cells.length d) ∧ Hid (Cls lo hi w' (.slice q x.sheets[i].cells.length d) x.sheets[i].cells) ∧ Hid (Below w.heap.size w w') :=
   C0.mono (by
    rintro e w' ⟨rfl, hb⟩
    have hb2 := bel_step HB HB.size hb
    obtain ⟨cv, hr, hc⟩ := h.sh.below hhi hb2
    have hcs := hc i _ (List.getElem?_eq_getElem hil)
    obtain ⟨a', rfl, h1, h2⟩ := Rws.at hr hil
    obtain ⟨q, d, hcv, _, _⟩ := hcs.slice
    exact ⟨rfl, a', q, d, rfl, cell_heap ((hb.block _ (blk_lt HG)).trans HG) rfl, h2 1 _ (by omega) (by simp [sheetsC, List.getElem?_eq_getElem hil, sheetC, hcv]), by rw [← hcv]; exact hcs, hb2⟩)
  rw [hW] at C R1
  have hni : ¬ (i : Int) < 0 := by omega
  have hii : (i : Int) < x.sheets.length := by omega
  have HE : Hid ((x.sheets[i]?.map (·.cells)).getD [] = x.sheets[i].cells) := by show _ = _; simp [List.getElem?_eq_getElem hil]
  dsimp only
  rw [HE.out]
  clear h h0 HB HG hW hs1 hs2 C0 HE
  generalize x.sheets[i].cells = cl at *
  go_enter Tryz.func72, Tryz.ntmps72
  go_wp2_with (first
   | (refine wpList_load_run rfl 26 _ rfl _ _ rfl R1.out ?_; clear R1)
   | (go_at_call 20; refine C.mono ?_; clear C; rintro e w1 ⟨rfl, a', q, d, rfl, c0, c1, HC, HB⟩))
  go_ret
  exact ⟨⟨_, rfl, HC.out⟩, HB.out⟩
theorem get_any {lo hi : Nat} {w : World} {sv nv lv : Value} {x : BookT} (h : BkM lo hi w sv nv lv x) (hhi : hi ≤ w.heap.size) (s : ByteArray) (r c : Int) :
  Calls Tryz.prog 22 #[.agg #[sv, nv, lv], .string s, .int .i64 r, .int .i64 c] w fun e w' => e = .returned (.string (getL (cellsO x.sheets s) r c)) ∧ Below w.heap.size w w' := by
 have h0 := h
 obtain ⟨sa, sc, rfl, hs1, hs2⟩ := h.sh.slice
 obtain ⟨na, nc, rfl, _, _⟩ := h.nm.slice
 obtain ⟨la, lc, rfl, _, _⟩ := h.lk.slice
 obtain ⟨W, hW⟩ : ∃ W, W = w.alloc (bkO (.slice sa x.sheets.length sc) (.slice na x.names.length nc) (.slice la x.links.length lc)) := ⟨_, rfl⟩
 have HB : Below w.heap.size w W := by rw [hW]; exact bel_alloc (Below.refl _ _) (Nat.le_refl _) _
 have HG : W.heap[w.heap.size]? = some (bkO (.slice sa x.sheets.length sc) (.slice na x.names.length nc) (.slice la x.links.length lc)) := by rw [hW]; exact heap_alloc_new w _
 have R1 : Hid _ := ldB HG
 generalize hL : cellsO x.sheets s = L
 have C : Calls Tryz.prog 72 _ _ fun e w' => ∃ q d, e = .returned (.slice q L.length d) ∧ L.length ≤ 9223372036854775807 ∧ Hid (Cls lo hi w' (.slice q L.length d) L) ∧ Hid (Below w.heap.size w w') :=
  (cellsOf_any (h.below hhi HB) (Nat.le_trans hhi HB.size) s).mono (by
   rintro e w' ⟨⟨v, rfl, hc⟩, hb⟩
   rw [hL] at hc
   obtain ⟨q, d, rfl, h1, h2⟩ := hc.slice
   exact ⟨q, d, rfl, by unfold maxLen at h2; omega, hc, bel_step HB HB.size hb⟩)
 rw [hW] at C R1
 generalize hG : getL L r c = gt
 have HO : Hid (getL L r c = gt) := hG
 clear h h0 HB HG hW hs1 hs2 hL hG
 go_enter Tryz.func22, Tryz.ntmps22
 go_wp2_with (first
  | (refine wpList_load_run rfl 26 _ rfl _ _ rfl R1.out ?_; clear R1)
  | (go_at_call 72; refine C.mono ?_; clear C; rintro e w1 ⟨q, d, rfl, hlen, HC, HB⟩))
 go_loopw [15] (fun i wr => ∃ (k : Nat), k ≤ L.length ∧ i = .int .i64 (k : Nat) ∧ Hid (∀ j (hj : j < L.length), j < k → atB r c L[j] = false) ∧ Hid (Below w1.heap.size w1 wr)) (fun i _ => L.length - (intOf i).toNat)
 case atStart => exact ⟨0, Nat.zero_le _, rfl, fun j _ hj => by omega, Below.refl _ _⟩
 case round =>
  obtain ⟨k, hk, rfl, HA, HD⟩ := hrel
  have hhi1 : hi ≤ w1.heap.size := Nat.le_trans hhi HB.out.size
  by_cases hkL : k < L.length
  ·have hki : (k : Int) < L.length := by omega
   obtain ⟨a', ov, W', rfl, rfl, hW', R2, R3, -⟩ := (HC.out.below hhi1 HD.out).runs hkL
   obtain ⟨c0, c1, c2⟩ := c_cells (show W'.heap[wr.heap.size]? = some (.cells (cellC L[k]).toArray 57) by rw [hW']; exact heap_alloc_new wr _)
   have HD2 : Hid (Below w1.heap.size w1 W') := by rw [hW']; exact bel_alloc HD.out (Nat.le_refl _) _
   have hk63 : k < 9223372036854775807 := by omega
   have HX : Hid (atB r c L[k] = true → gt = L[k].text) := fun e => by rw [← HO.out]; unfold getL; rw [find_some hkL (fun j hj => HA.out j (by omega) hj) e]
   have HY : Hid (atB r c L[k] = false → ∀ j (hj : j < L.length), j < k + 1 → atB r c L[j] = false) := fun e j hj hlt => by
    by_cases hjk : j = k
    ·subst hjk; exact e
    ·exact HA.out j hj (by omega)
   clear hW'
   have hat : atB r c L[k] = (L[k].row == r && L[k].col == c) := rfl
   generalize L[k] = y at *
   obtain ⟨yr, yc, yt⟩ := y
   dsimp only at *
   by_cases e1 : yr = r
   ·by_cases e2 : yc = c
    ·obtain rfl := HX.out (by rw [hat]; simp [e1, e2])
     subst e1 e2
     clear HX HY hat HO
     go_wp2_with (first
      | (refine wpList_load_run rfl 57 _ rfl _ _ rfl R2.out ?_; clear R2)
      | (refine wpList_store_run rfl 57 _ _ rfl _ _ _ rfl rfl R3.out ?_; clear R3))
     go_ret
     exact ⟨rfl, HB.out.trans (HD2.out.mono HB.out.size)⟩
    ·have HY2 : Hid _ := HY.out (by rw [hat]; simp [e2])
     subst e1
     clear HX HY hat HO
     go_wp2_with (first
      | (refine wpList_load_run rfl 57 _ rfl _ _ rfl R2.out ?_; clear R2)
      | (refine wpList_store_run rfl 57 _ _ rfl _ _ _ rfl rfl R3.out ?_; clear R3))
     go_roundw
     case rel => exact ⟨k + 1, by omega, by go_num, HY2, HD2⟩
     case measure => simp [intOf]; omega
   ·have HY2 : Hid _ := HY.out (by rw [hat]; simp [e1])
    clear HX HY hat HO
    go_wp2_with (first
     | (refine wpList_load_run rfl 57 _ rfl _ _ rfl R2.out ?_; clear R2)
     | (refine wpList_store_run rfl 57 _ _ rfl _ _ _ rfl rfl R3.out ?_; clear R3))
    go_roundw
    case rel => exact ⟨k + 1, by omega, by go_num, HY2, HD2⟩
    case measure => simp [intOf]; omega
  ·have hki : ¬ (k : Int) < L.length := by omega
   obtain rfl : gt = ⟨#[]⟩ := by
    rw [← HO.out]
    unfold getL
    rw [find_none fun j hj => HA.out j hj (by omega)]
   go_wp2
   go_ret
   exact ⟨rfl, HB.out.trans (HD.out.mono HB.out.size)⟩
theorem cnt_take {L : List SheetT} {k : Nat} (hk : k < L.length) : cntL (L.take (k + 1)) = cntL (L.take k) + L[k].cells.length := by
 unfold cntL
 rw [List.take_succ_eq_append_getElem hk, List.map_append, List.sum_append]
 simp
theorem cnt_le {L : List SheetT} (k : Nat) : cntL (L.take k) ≤ cntL L := by
 unfold cntL
 conv => rhs; rw [← List.take_append_drop k L, List.map_append, List.sum_append]
 omega
theorem count_any {lo hi : Nat} {w : World} {sv nv lv : Value} {x : BookT} (h : BkM lo hi w sv nv lv x) (hhi : hi ≤ w.heap.size) (hz : cntL x.sheets ≤ 4611686018427387904) :
  Calls Tryz.prog 24 #[.agg #[sv, nv, lv]] w fun e w' => e = .returned (.int .i64 (cntL x.sheets : Nat)) ∧ Below w.heap.size w w' := by
 obtain ⟨sa, sc, rfl, hs1, hs2⟩ := h.sh.slice
 obtain ⟨na, nc, rfl, _, _⟩ := h.nm.slice
 obtain ⟨la, lc, rfl, _, _⟩ := h.lk.slice
 have HB : Hid (Below w.heap.size w (w.alloc (bkO (.slice sa x.sheets.length sc) (.slice na x.names.length nc) (.slice la x.links.length lc)))) := bel_alloc (Below.refl _ _) (Nat.le_refl _) _
 have c0 := cell_heap (heap_alloc_new w (bkO (.slice sa x.sheets.length sc) (.slice na x.names.length nc) (.slice la x.links.length lc))) (j := 0) rfl
 have HS : Hid (Shs lo hi w (.slice sa x.sheets.length sc) x.sheets) := h.sh
 have hlen : x.sheets.length ≤ 9223372036854775807 := by unfold maxLen at hs2; omega
 generalize hT : cntL x.sheets = tot at *
 have HT : Hid (cntL x.sheets = tot) := hT
 clear h hs1 hs2 hT
 go_enter Tryz.func24, Tryz.ntmps24
 go_wp2
 go_loopw [3, 9] (fun m i wr => ∃ (k q : Nat), k ≤ x.sheets.length ∧ i = .int .i64 (k : Nat) ∧ m = .int .i64 (q : Nat) ∧ q = cntL (x.sheets.take k) ∧ Hid (Below w.heap.size w wr)) (fun _ i _ => x.sheets.length - (intOf i).toNat)
 case atStart => exact ⟨0, 0, Nat.zero_le _, rfl, rfl, rfl, HB⟩
 case round =>
  obtain ⟨k, q, hk, rfl, rfl, hq, HD⟩ := hrel
  clear HB
  by_cases hkL : k < x.sheets.length
  ·have hki : (k : Int) < x.sheets.length := by omega
   obtain ⟨a', cv, ov, W, rfl, rfl, hcl, hW, R1, R2, -⟩ := (HS.out.below hhi HD.out).runs hkL
   obtain ⟨ca, cc, rfl, _, _⟩ := hcl.slice
   have c1 := cell_heap (show W.heap[wr.heap.size]? = some (.cells #[.string x.sheets[k].name, .slice ca x.sheets[k].cells.length cc] 78) by rw [hW]; exact heap_alloc_new wr _) (j := 1) rfl
   have HD2 : Hid (Below w.heap.size w W) := by rw [hW]; exact bel_alloc HD.out (Nat.le_refl _) _
   have hk63 : k < 9223372036854775807 := by omega
   have hs := cnt_take hkL
   have hle := cnt_le (L := x.sheets) (k + 1)
   rw [HT.out] at hle
   clear hcl hW
   generalize x.sheets[k] = y at *
   obtain ⟨yn, yc⟩ := y
   dsimp only at *
   have hw : (q : Int) + (yc.length : Nat) = ((q + yc.length : Nat) : Int) := by omega
   have hm : IntKind.i64.wrap ((q + yc.length : Nat) : Int) = ((q + yc.length : Nat) : Int) := by rw [IntKind.wrap_i64]; omega
   generalize hqq : q + yc.length = q2 at *
   go_wp2_with (first
    | (refine wpList_load_run rfl 78 _ rfl _ _ rfl R1.out ?_; clear R1)
    | (refine wpList_store_run rfl 78 _ _ rfl _ _ _ rfl rfl R2.out ?_; clear R2))
   go_roundw
   case rel => exact ⟨k + 1, q2, by omega, by go_num, by go_num, by omega, HD2⟩
   case measure => simp [intOf]; omega
  ·have hki : ¬ (k : Int) < x.sheets.length := by omega
   obtain rfl : q = tot := by rw [hq, List.take_of_length_le (by omega)]; exact HT.out
   go_wp2
   go_ret
   exact ⟨rfl, HD.out⟩
theorem nanI_any (x : Int) (w : World) : Calls Tryz.prog 209 #[.int .i64 x] w fun e w' => e = .returned (.bool false) ∧ w' = w := by
 go_enter Tryz.func209, Tryz.ntmps209
 go_wp2
 go_ret
 exact ⟨by simp, rfl⟩
theorem cpI_any (x y : Int) (w : World) : Calls Tryz.prog 162 #[.int .i64 x, .int .i64 y] w fun e w' => e = .returned (.int .i64 (cpI x y)) ∧ w' = w := by
 rcases cpI_ways x y with ⟨h1, h2⟩ | ⟨h1, h2⟩ | ⟨h1, h2⟩
 ·rw [h1]
  go_enter Tryz.func162, Tryz.ntmps162
  go_wp2_with (go_at_call 209; refine (nanI_any _ _).mono ?_; rintro e w' ⟨rfl, hw⟩; obtain rfl := hw.symm; clear hw)
  go_ret
  exact ⟨rfl, rfl⟩
 ·rw [h1]
  subst h2
  go_enter Tryz.func162, Tryz.ntmps162
  go_wp2_with (go_at_call 209; refine (nanI_any _ _).mono ?_; rintro e w' ⟨rfl, hw⟩; obtain rfl := hw.symm; clear hw)
  go_ret
  exact ⟨rfl, rfl⟩
 ·rw [h1]
  have h3 : ¬ x < y := by omega
  go_enter Tryz.func162, Tryz.ntmps162
  go_wp2_with (go_at_call 209; refine (nanI_any _ _).mono ?_; rintro e w' ⟨rfl, hw⟩; obtain rfl := hw.symm; clear hw)
  go_ret
  exact ⟨rfl, rfl⟩
def or2 (a b : Int) : Int := if a ≠ 0 then a else b
theorem or2_cases (a b : Int) : ((a != 0) = true ∧ or2 a b = a) ∨ (a = 0 ∧ (b != 0) = true ∧ or2 a b = b) ∨ (a = 0 ∧ b = 0 ∧ or2 a b = 0) := by
 unfold or2
 by_cases ha : a = 0
 ·by_cases hb : b = 0 <;> simp [ha, hb]
 ·simp [ha]
theorem or2_any {w : World} {g : Nat} {a b : Int} (h0 : w.cell? ⟨g, 0, none⟩ = some (.int .i64 a)) (h1 : w.cell? ⟨g, 1, none⟩ = some (.int .i64 b)) :
  Calls Tryz.prog 161 #[.slice (some ⟨g, 0, none⟩) 2 2] w fun e w' => e = .returned (.int .i64 (or2 a b)) ∧ w' = w := by
 rcases or2_cases a b with ⟨t1, e⟩ | ⟨t1, t2, e⟩ | ⟨t1, t2, e⟩
 all_goals
  rw [e]
  clear e
  try subst t1
  try subst t2
  go_enter Tryz.func161, Tryz.ntmps161
  go_wp2
  refine wp_loop_rounds 6 ?_
  rw [rounds_succ]
  go_wp2
  try (rw [rounds_succ]; go_wp2)
  try (rw [rounds_succ]; go_wp2)
  go_ret
  exact ⟨rfl, rfl⟩
theorem or2_new (u : World) (x y : Int) : Calls Tryz.prog 161 #[.slice (some ⟨u.heap.size, 0, none⟩) 2 2] (u.alloc (.cells #[.int .i64 x, .int .i64 y] 3)).drew fun e w' => e = .returned (.int .i64 (or2 x y)) ∧ w' = (u.alloc (.cells #[.int .i64 x, .int .i64 y] 3)).drew := by
 have hz : (u.alloc (.cells #[.int .i64 x, .int .i64 y] 3)).drew.heap[u.heap.size]? = some (.cells #[.int .i64 x, .int .i64 y] 3 (0, 0)) := heap_alloc_new u _
 have c := fun j => cell_of_row _ u.heap.size j _ 3 _ hz
 exact or2_any ((c 0).trans rfl) ((c 1).trans rfl)
abbrev ceO (y : CellT) : Obj := .cells (cellC y).toArray 57
theorem order_any (a b : CellT) (w : World) : Calls Tryz.prog 113 #[cellV a, cellV b] w fun e w' => e = .returned (.int .i64 (ordC a b)) ∧ Below w.heap.size w w' := by
 obtain ⟨r1, c1, t1⟩ := a
 obtain ⟨r2, c2, t2⟩ := b
 have C1 := fun u => cpI_any r1 r2 u
 have C2 := fun u => cpI_any c1 c2 u
 have HK : Hid (ordC ⟨r1, c1, t1⟩ ⟨r2, c2, t2⟩ = or2 (cpI r1 r2) (cpI c1 c2)) := rfl
 generalize ordC ⟨r1, c1, t1⟩ ⟨r2, c2, t2⟩ = R at *
 generalize cpI r1 r2 = x1 at *
 generalize cpI c1 c2 = x2 at *
 obtain ⟨V, hV⟩ : ∃ V, V = (w.alloc (ceO ⟨r1, c1, t1⟩)).alloc (ceO ⟨r2, c2, t2⟩) := ⟨_, rfl⟩
 have HC : Hid (∀ u : World, Below V.heap.size V u → (u.cell? ⟨w.heap.size, 0, none⟩ = some (.int .i64 r1) ∧ u.cell? ⟨w.heap.size, 1, none⟩ = some (.int .i64 c1)) ∧ (u.cell? ⟨w.heap.size + 1, 0, none⟩ = some (.int .i64 r2) ∧ u.cell? ⟨w.heap.size + 1, 1, none⟩ = some (.int .i64 c2))) := by
  intro u hu
  rw [hV] at hu
  obtain ⟨q1, q2, _⟩ := c_cells (new2 hu).1
  obtain ⟨q3, q4, _⟩ := c_cells (new2 hu).2
  exact ⟨⟨q1, q2⟩, q3, q4⟩
 have HB : Hid (Below V.heap.size V V.drew) := (Below.refl _ _).drew
 have HO : Hid (Below V.heap.size V (V.alloc (.cells #[.int .i64 x1, .int .i64 x2] 3)).drew) := (Sh.bel_alloc (Below.refl _ _) (Nat.le_refl _) _).drew
 have OR := or2_new V x1 x2
 rw [show V.heap.size = w.heap.size + 2 by rw [hV]; simp] at OR
 rw [hV] at HC HB HO OR
 simp only [ceO, cellC] at HC HB HO OR
 clear hV
 go_enter Tryz.func113, Tryz.ntmps113
 go_wp2
 go_region_held_law (fun u => (u.cell? ⟨w.heap.size, 0, none⟩ = some (.int .i64 r1) ∧ u.cell? ⟨w.heap.size, 1, none⟩ = some (.int .i64 c1)) ∧ (u.cell? ⟨w.heap.size + 1, 0, none⟩ = some (.int .i64 r2) ∧ u.cell? ⟨w.heap.size + 1, 1, none⟩ = some (.int .i64 c2)))
  (first | exact HC.out _ HB.out | exact HC.out _ HO.out) (first
  | (go_at_call_of 162 r1; refine (C1 _).mono ?_; rintro e w' ⟨rfl, hw⟩; obtain rfl := hw.symm; clear hw)
  | (go_at_call_of 162 c1; refine (C2 _).mono ?_; rintro e w' ⟨rfl, hw⟩; obtain rfl := hw.symm; clear hw)
  | (go_at_call 161; refine OR.mono ?_; rintro e w' ⟨rfl, hw⟩; obtain rfl := hw.symm; clear hw))
 go_wp2
 go_ret
 exact ⟨by rw [HK.out]; rfl, bel2 HO.out⟩
theorem inside_any (r c : Int) (w : World) : Calls Tryz.prog 56 #[.int .i64 r, .int .i64 c] w fun e w' => e = .returned (.bool (insB r c)) ∧ w' = w := by
 unfold insB
 by_cases h1 : 1 ≤ r
 ·by_cases h2 : r ≤ 64
  ·by_cases h3 : 1 ≤ c
   ·by_cases h4 : c ≤ 26
    all_goals
     go_enter Tryz.func56, Tryz.ntmps56
     go_wp2
     go_ret
     exact ⟨by congr 2; simp; omega, rfl⟩
   ·go_enter Tryz.func56, Tryz.ntmps56
    go_wp2
    go_ret
    exact ⟨by congr 2; simp; omega, rfl⟩
  ·go_enter Tryz.func56, Tryz.ntmps56
   go_wp2
   go_ret
   exact ⟨by congr 2; simp; omega, rfl⟩
 ·go_enter Tryz.func56, Tryz.ntmps56
  go_wp2
  go_ret
  exact ⟨by congr 2; simp; omega, rfl⟩
end Go.Proofs.YtnibldnfbikipaaGreatDoor.Sh
namespace Go
section
variable {P : Program} {ops : Array Oper} {Q : Exit → Act → World → Prop} {md : Region.Mode} {S S2 : World → Prop} {D : Nat → Bool}
def wpAnyD (P : Program) (md : Region.Mode) (ops : Array Oper) (Q : Exit → Act → World → Prop) (S : World → Prop) (D : Nat → Bool) : Nat → Array Bool → Act → World → Prop
 | 0, listed, a, w => Region.ready md ops listed = [] ∧ Q .normal a w
 | fuel + 1, listed, a, w =>
  (Region.ready md ops listed = [] → Q .normal a w) ∧
  ∀ i ∈ Region.ready md ops listed, wpOp P ops Q i (fun a' w' => (D i = true ∨ (S w → S w')) ∧ wpAnyD P md ops Q S D fuel (listed.setIfInBounds i true) a' w') a w
theorem wpAny_of_d : ∀ (fuel : Nat) (listed : Array Bool) (a : Act) (w : World), wpAnyD P md ops Q S D fuel listed a w → wpAny P md ops Q fuel listed a w
 | 0, _, _, _, h => h
 | fuel + 1, _, _, _, h => ⟨h.1, fun i hi => wpOp_mono (fun a' w' h' => wpAny_of_d fuel _ a' w' h'.2) (h.2 i hi)⟩
theorem wpAnyD_first {i : Nat} {oi : Oper} {v : Value} (hi : ops[i]? = some oi) (hsel : ∀ (j : Nat) (o : Oper) cs b, ops[j]? = some o → o.op ≠ .select cs b)
  (hQ : ∀ c a w, Q (.panic c) (a.put oi.dst v) w → Q (.panic c) a w)
  (hk : ∀ (j : Nat) (oj : Oper), ops[j]? = some oj → (∀ e ∈ oj.after, Region.binds md e = true → e.on ≠ i) → ∀ w w', S2 w → (D j = true ∨ (S w → S w')) → S2 w') :
  ∀ (fuel : Nat) (listed : Array Bool) (a : Act) (w : World),
   (∀ j oj, ops[j]? = some oj → j ≠ i → listed.getD j true = false → (∀ e ∈ oj.after, Region.binds md e = true → e.on ≠ i) → oi.apart ops oj = true) →
   i ∈ Region.ready md ops listed → YieldsIf P ops S2 oi v a → S2 w →
   wpAnyD P md ops Q S D fuel (listed.setIfInBounds i true) (a.put oi.dst v) w → wpAnyD P md ops Q S D (fuel + 1) listed a w := by
 intro fuel
 induction fuel with
 | zero =>
  intro listed a w _ hr hy hS H
  refine ⟨fun h => (by rw [h] at hr; cases hr), fun j hj => ?_⟩
  by_cases hji : j = i
  ·subst hji; exact hy.wpOp hi hS ⟨.inr id, H⟩
  ·have := ready_mono hj hji
   rw [H.1] at this
   cases this
 | succ fuel ih =>
  intro listed a w hfree hr hy hS H
  refine ⟨fun h => (by rw [h] at hr; cases hr), fun j hj => ?_⟩
  by_cases hji : j = i
  ·subst hji; exact hy.wpOp hi hS ⟨.inr id, H⟩
  ·have h1 := H.2 j (ready_mono hj hji)
   obtain ⟨hjun, oj, hoj, hall⟩ := mem_ready.1 hj
   have hnot : ∀ e ∈ oj.after, Region.binds md e = true → e.on ≠ i := fun e he hb heq => by
    have h1 := hall e he hb
    have h0 := (mem_ready.1 hr).1
    rw [heq] at h1
    rcases Nat.lt_or_ge i listed.size with h' | h'
    ·simp [h'] at h0 h1; rw [h0] at h1; cases h1
    ·simp [Array.getElem?_eq_none h'] at h1
   have h2 := wpOp_putIf hoj (hfree j oj hoj hji hjun hnot) (fun cs b => hsel i oi cs b hi) (fun cs b => hsel j oj cs b hoj) hQ hy h1
   have hfree' : ∀ k ok, ops[k]? = some ok → k ≠ i → (listed.setIfInBounds j true).getD k true = false →
     (∀ e ∈ ok.after, Region.binds md e = true → e.on ≠ i) → oi.apart ops ok = true := fun k ok hk hki hun hno => by
    refine hfree k ok hk hki ?_ hno
    by_cases hjk : j = k
    ·subst hjk; exact hjun
    ·rw [getD_set_ne true hjk] at hun; exact hun
   refine wpOp_mono (fun a' w' h3 => ⟨h3.2.1, ih (listed.setIfInBounds j true) a' w' hfree' (ready_mono hr (Ne.symm hji)) h3.1 (hk j oj hoj hnot w w' hS h3.2.1) ?_⟩) h2
   rw [Array.setIfInBounds_comm _ _ hji]
   exact h3.2.2
theorem wpAnyD_pure {i : Nat} {oi : Oper} {v : Value} {fuel : Nat} {listed : Array Bool} {a : Act} {w : World} (hi : ops[i]? = some oi)
  (hs : Region.noSelect ops = true) (hf : Region.free md ops listed i = true) (hr : (Region.ready md ops listed).contains i = true)
  (hQ : ∀ c a w, Q (.panic c) (a.put oi.dst v) w → Q (.panic c) a w) (hg : Region.wanted oi (yielded ops a.tmps) = true) (hy : ∀ w, (execOp a.eval oi).run P w = .ok (.value v) w)
  (h : wpAnyD P md ops Q S D fuel (listed.setIfInBounds i true) (a.put oi.dst v) w) : wpAnyD P md ops Q S D (fuel + 1) listed a w :=
 wpAnyD_first (S2 := fun _ => True) hi (Region.noSelect_spec hs) hQ (fun _ _ _ _ _ _ _ _ => trivial) fuel listed a w (Region.free_spec hi hf) (by simpa using hr) (.inl ⟨hg, fun w _ => hy w⟩) trivial h
theorem wpAnyD_load {i : Nat} {oi : Oper} {v : Value} {fuel : Nat} {listed : Array Bool} {a : Act} {w : World} (hi : ops[i]? = some oi)
  (hs : Region.noSelect ops = true) (hf : Region.free md ops listed i = true) (hr : (Region.ready md ops listed).contains i = true)
  (hD : ((List.range ops.size).all fun j => !D j || ((ops[j]?.map fun o => o.after.any fun e => Region.binds md e && e.on == i).getD false)) = true)
  (hQ : ∀ c a w, Q (.panic c) (a.put oi.dst v) w → Q (.panic c) a w) (hg : Region.wanted oi (yielded ops a.tmps) = true) (hy : ∀ w, S w → (execOp a.eval oi).run P w = .ok (.value v) w) (hS : S w)
  (h : wpAnyD P md ops Q S D fuel (listed.setIfInBounds i true) (a.put oi.dst v) w) : wpAnyD P md ops Q S D (fuel + 1) listed a w := by
 refine wpAnyD_first (S2 := S) hi (Region.noSelect_spec hs) hQ (fun j oj hj hno w w' hS hc => ?_) fuel listed a w (Region.free_spec hi hf) (by simpa using hr) (.inl ⟨hg, hy⟩) hS h
 rcases hc with hc | hc
 ·exfalso
  rw [List.all_eq_true] at hD
  have hlt : j < ops.size := (Array.getElem?_eq_some_iff.1 hj).1
  have := hD j (by simpa using hlt)
  rw [hc, hj] at this
  simp only [Bool.not_true, Bool.false_or, Option.map_some, Option.getD_some, Array.any_eq_true] at this
  obtain ⟨q, hq, hb⟩ := this
  simp only [Bool.and_eq_true, beq_iff_eq] at hb
  exact hno _ (Array.getElem_mem hq) hb.1 hb.2
 ·exact hc hS
theorem wpAnyD_skip {i : Nat} {oi : Oper} {fuel : Nat} {listed : Array Bool} {a : Act} {w : World} (hi : ops[i]? = some oi)
  (hs : Region.noSelect ops = true) (hf : Region.free md ops listed i = true) (hr : (Region.ready md ops listed).contains i = true)
  (hQ : ∀ c a w, Q (.panic c) (a.put oi.dst undef) w → Q (.panic c) a w) (hg : Region.wanted oi (yielded ops a.tmps) = false)
  (h : wpAnyD P md ops Q S D fuel (listed.setIfInBounds i true) (a.put oi.dst undef) w) : wpAnyD P md ops Q S D (fuel + 1) listed a w :=
 wpAnyD_first (S2 := fun _ => True) hi (Region.noSelect_spec hs) hQ (fun _ _ _ _ _ _ _ _ => trivial) fuel listed a w (Region.free_spec hi hf) (by simpa using hr) (.inr ⟨hg, rfl⟩) trivial h
theorem wpAnyD_one {i : Nat} {o : Oper} {fuel : Nat} {listed : Array Bool} {a : Act} {w : World} (hr : Region.ready md ops listed = [i]) (ho : ops[i]? = some o)
  (h : ∀ K' : Act → World → Prop, (∀ a' w', (D i = true ∨ (S w → S w')) → wpAnyD P md ops Q S D fuel (listed.setIfInBounds i true) a' w' → K' a' w') → if Region.wanted o (yielded ops a.tmps) = true then Oper.wp P o a w K' Q else K' (a.put o.dst undef) w) :
  wpAnyD P md ops Q S D (fuel + 1) listed a w := by
 refine ⟨fun h0 => (by rw [hr] at h0; cases h0), fun j hj => ?_⟩
 rw [hr] at hj
 obtain rfl : j = i := by simpa using hj
 exact wpOp_step ho fun K' hK => h K' fun a' w' h1 h2 => hK a' w' ⟨h1, h2⟩
theorem wpAnyD_done {listed : Array Bool} {a : Act} {w : World} (hr : Region.ready md ops listed = []) (h : Q .normal a w) :
  ∀ fuel, wpAnyD P md ops Q S D fuel listed a w
 | 0 => ⟨hr, h⟩
 | _ + 1 => ⟨fun _ => h, by rw [hr]; simp⟩
theorem wp_region_d {id : Nat} {a : Act} {w : World} (S : World → Prop) (D : Nat → Bool) (hm : P.follows .mixedOrders = true)
  (h : wpAnyD P .any ops Q S D ops.size (Array.replicate ops.size false) a w.drew) : (Code.region id ops true).wp P Q a w :=
 wp_region_any hm (wpAny_of_d _ _ _ _ h)
theorem wpAnyD_pured {i d : Nat} {oi : Oper} {v : Value} {fuel : Nat} {listed : Array Bool} {a : Act} {w : World} (hi : ops[i]? = some oi)
  (hd : oi.dst = some d) (hs : Region.noSelect ops = true) (hf : Region.free md ops listed i = true) (hr : (Region.ready md ops listed).contains i = true)
  (hQ : ∀ c a w, Q (.panic c) (a.put (some d) v) w → Q (.panic c) a w) (hg : Region.wanted oi (yielded ops a.tmps) = true) (hy : ∀ w, (execOp a.eval oi).run P w = .ok (.value v) w)
  (h : wpAnyD P md ops Q S D fuel (listed.setIfInBounds i true) (a.put (some d) v) w) : wpAnyD P md ops Q S D (fuel + 1) listed a w :=
 wpAnyD_pure hi hs hf hr (hd ▸ hQ) hg hy (hd ▸ h)
theorem wpAnyD_loadd {i d : Nat} {oi : Oper} {v : Value} {fuel : Nat} {listed : Array Bool} {a : Act} {w : World} (hi : ops[i]? = some oi)
  (hd : oi.dst = some d) (hs : Region.noSelect ops = true) (hf : Region.free md ops listed i = true) (hr : (Region.ready md ops listed).contains i = true)
  (hD : ((List.range ops.size).all fun j => !D j || ((ops[j]?.map fun o => o.after.any fun e => Region.binds md e && e.on == i).getD false)) = true)
  (hQ : ∀ c a w, Q (.panic c) (a.put (some d) v) w → Q (.panic c) a w) (hg : Region.wanted oi (yielded ops a.tmps) = true) (hy : ∀ w, S w → (execOp a.eval oi).run P w = .ok (.value v) w) (hS : S w)
  (h : wpAnyD P md ops Q S D fuel (listed.setIfInBounds i true) (a.put (some d) v) w) : wpAnyD P md ops Q S D (fuel + 1) listed a w :=
 wpAnyD_load hi hs hf hr hD (hd ▸ hQ) hg hy hS (hd ▸ h)
theorem wpAnyD_skipd {i d : Nat} {oi : Oper} {fuel : Nat} {listed : Array Bool} {a : Act} {w : World} (hi : ops[i]? = some oi)
  (hd : oi.dst = some d) (hs : Region.noSelect ops = true) (hf : Region.free md ops listed i = true) (hr : (Region.ready md ops listed).contains i = true)
  (hQ : ∀ c a w, Q (.panic c) (a.put (some d) undef) w → Q (.panic c) a w) (hg : Region.wanted oi (yielded ops a.tmps) = false)
  (h : wpAnyD P md ops Q S D fuel (listed.setIfInBounds i true) (a.put (some d) undef) w) : wpAnyD P md ops Q S D (fuel + 1) listed a w :=
 wpAnyD_skip hi hs hf hr (hd ▸ hQ) hg (hd ▸ h)
theorem dwp (i : Nat) (v : Value) {d : Nat} {oi : Oper} {fuel : Nat} {listed : Array Bool} {a a' : Act} {w : World} (hi : ops[i]? = some oi := by exact rfl)
  (hd : oi.dst = some d := by exact rfl) (hs : Region.noSelect ops = true := by kernel_rfl) (hf : Region.free md ops listed i = true := by kernel_rfl) (hr : (Region.ready md ops listed).contains i = true := by kernel_rfl)
  (hQ : ∀ c a w, Q (.panic c) (a.put (some d) v) w → Q (.panic c) a w := by exact fun _ _ _ h => h) (hg : Region.wanted oi (yielded ops a.tmps) = true := by go_simp) (hy : ∀ w, (execOp a.eval oi).run P w = .ok (.value v) w := by (intro u; go_simp))
  (ha : a.put (some d) v = a' := by (simp only [Act.put, List.setIfInBounds_toArray, List.set_cons_zero, List.set_cons_succ]; rfl)) (h : wpAnyD P md ops Q S D fuel (listed.setIfInBounds i true) a' w) : wpAnyD P md ops Q S D (fuel + 1) listed a w :=
 wpAnyD_pured hi hd hs hf hr hQ hg hy (ha ▸ h)
theorem dws (i : Nat) {d : Nat} {oi : Oper} {fuel : Nat} {listed : Array Bool} {a a' : Act} {w : World} (hi : ops[i]? = some oi := by exact rfl)
  (hd : oi.dst = some d := by exact rfl) (hs : Region.noSelect ops = true := by kernel_rfl) (hf : Region.free md ops listed i = true := by kernel_rfl) (hr : (Region.ready md ops listed).contains i = true := by kernel_rfl)
  (hQ : ∀ c a w, Q (.panic c) (a.put (some d) undef) w → Q (.panic c) a w := by exact fun _ _ _ h => h) (hg : Region.wanted oi (yielded ops a.tmps) = false := by (go_simp <;> simp [undef]))
  (ha : a.put (some d) undef = a' := by (simp only [Act.put, List.setIfInBounds_toArray, List.set_cons_zero, List.set_cons_succ]; rfl)) (h : wpAnyD P md ops Q S D fuel (listed.setIfInBounds i true) a' w) : wpAnyD P md ops Q S D (fuel + 1) listed a w :=
 wpAnyD_skipd hi hd hs hf hr hQ hg (ha ▸ h)
theorem dwl (i : Nat) (v : Value) {d : Nat} {oi : Oper} {fuel : Nat} {listed : Array Bool} {a a' : Act} {w : World} (hi : ops[i]? = some oi := by exact rfl)
  (hd : oi.dst = some d := by exact rfl) (hs : Region.noSelect ops = true := by kernel_rfl) (hf : Region.free md ops listed i = true := by kernel_rfl) (hr : (Region.ready md ops listed).contains i = true := by kernel_rfl)
  (hD : ((List.range ops.size).all fun j => !D j || ((ops[j]?.map fun o => o.after.any fun e => Region.binds md e && e.on == i).getD false)) = true := by kernel_rfl)
  (hQ : ∀ c a w, Q (.panic c) (a.put (some d) v) w → Q (.panic c) a w := by exact fun _ _ _ h => h) (hg : Region.wanted oi (yielded ops a.tmps) = true := by go_simp) (hS : S w) (hy : ∀ w, S w → (execOp a.eval oi).run P w = .ok (.value v) w)
  (ha : a.put (some d) v = a' := by (simp only [Act.put, List.setIfInBounds_toArray, List.set_cons_zero, List.set_cons_succ]; rfl)) (h : wpAnyD P md ops Q S D fuel (listed.setIfInBounds i true) a' w) : wpAnyD P md ops Q S D (fuel + 1) listed a w :=
 wpAnyD_loadd hi hd hs hf hr hD hQ hg hy hS (ha ▸ h)
end
end Go
