/- SR3. -/
import Derived.Test.YtnibldnfbikipaaGreatDoorSR2By
set_option linter.unusedVariables false
set_option linter.unusedSimpArgs false
set_option maxHeartbeats 16000000
set_option maxRecDepth 100000
namespace Go.Proofs.YtnibldnfbikipaaGreatDoor.Sh
open Go.RowKit Go.Fm
section
variable {L : List SheetT}
theorem fi_ge {p : SheetT → Bool} {k : Nat} (hk : k < L.length) (h : p L[k] = true) : 0 ≤ idxI (L.findIdx? p) := by
 cases e : L.findIdx? p with
 | some i => show (0 : Int) ≤ (i : Int); omega
 | none =>
  rw [List.findIdx?_eq_none_iff] at e
  have := e _ (List.getElem_mem hk)
  rw [h] at this; cases this
theorem fi_no {p : SheetT → Bool} (h : ∀ j (hj : j < L.length), p L[j] = false) : ¬ 0 ≤ idxI (L.findIdx? p) := by
 rw [findIdx_none h]; decide
theorem chk8 (hz : ¬ (L.length = 0 ∨ 4 < L.length)) {k : Nat} (hk : k < L.length) (h : misB L[k] = true) : checkF L = 8 := by
 unfold checkF; rw [if_neg hz, if_pos (fi_ge hk h)]
theorem chk7 (hz : ¬ (L.length = 0 ∨ 4 < L.length)) (h8 : ∀ j (hj : j < L.length), misB L[j] = false) {k : Nat} (hk : k < L.length) (h : twAt L k = true) : checkF L = 7 := by
 unfold checkF; rw [if_neg hz, if_neg (fi_no h8), if_pos (tw_yes hk h)]
theorem chk9 (hz : ¬ (L.length = 0 ∨ 4 < L.length)) (h8 : ∀ j (hj : j < L.length), misB L[j] = false) (h7 : ∀ i, i < L.length → twAt L i = false) {k : Nat} (hk : k < L.length) (h : mlB L[k] = true) : checkF L = 9 := by
 unfold checkF; rw [if_neg hz, if_neg (fi_no h8), if_neg (by rw [tw_no h7]; decide), if_pos (fi_ge hk h)]
theorem chkR (hz : ¬ (L.length = 0 ∨ 4 < L.length)) (h8 : ∀ j (hj : j < L.length), misB L[j] = false) (h7 : ∀ i, i < L.length → twAt L i = false) (h9 : ∀ j (hj : j < L.length), mlB L[j] = false) : checkF L = if textsS L ≠ 0 then textsS L else if 200 < cntL L then 5 else 0 := by
 unfold checkF; rw [if_neg hz, if_neg (fi_no h8), if_neg (by rw [tw_no h7]; decide), if_neg (fi_no h9)]
end
theorem rcheck_any {lo hi : Nat} {w : World} {sv nv lv : Value} {x : BookT} (h : BkM lo hi w sv nv lv x) (hhi : hi ≤ w.heap.size) (hN : NamesOk x.sheets) (hC : CellsOk x.sheets) (T : Tab9 w) :
  Calls Tryz.prog 10 #[.agg #[sv, nv, lv]] w fun e w' => e = .returned (.int .i64 (checkF x.sheets)) ∧ Below w.heap.size w w' := by
 obtain ⟨sa, sc, rfl, hs1, hs2⟩ := h.sh.slice
 obtain ⟨na, nc, rfl, _, _⟩ := h.nm.slice
 obtain ⟨la, lc, rfl, _, _⟩ := h.lk.slice
 have HB0 : Hid (Below w.heap.size w (w.alloc (bkO (.slice sa x.sheets.length sc) (.slice na x.names.length nc) (.slice la x.links.length lc)))) := Sh.bel_alloc (Below.refl _ _) (Nat.le_refl _) _
 have HX0 : Hid ((w.alloc (bkO (.slice sa x.sheets.length sc) (.slice na x.names.length nc) (.slice la x.links.length lc))).heap[w.heap.size]? = some (bkO (.slice sa x.sheets.length sc) (.slice na x.names.length nc) (.slice la x.links.length lc))) := heap_alloc_new w _
 have hlen : x.sheets.length ≤ 9223372036854775807 := by unfold maxLen at hs2; omega
 have c0 := cell_heap HX0.out (j := 0) rfl
 have HH : Hid (BkM lo hi w (.slice sa x.sheets.length sc) (.slice na x.names.length nc) (.slice la x.links.length lc) x) := h
 have HT : Hid (Tab9 w) := T
 have HNm : Hid (NamesOk x.sheets) := hN
 have HCe : Hid (CellsOk x.sheets) := hC
 generalize hR : checkF x.sheets = R
 have HR : Hid (checkF x.sheets = R) := hR
 clear h hs1 hs2 hR T hN hC
 by_cases hz : x.sheets.length = 0 ∨ 4 < x.sheets.length
 ·obtain rfl : R = 15 := by rw [← HR.out]; unfold checkF; rw [if_pos hz]
  clear HR HH HT HNm HCe
  generalize x.sheets.length = n at *
  by_cases hz0 : n = 0
  ·subst hz0
   go_enter Tryz.func10, Tryz.ntmps10
   go_wp2
   go_ret
   exact ⟨rfl, HB0.out⟩
  ·have h4 : (4 : Int) < n := by omega
   have h1 : ¬ (n : Int) < 1 := by omega
   clear hz
   go_enter Tryz.func10, Tryz.ntmps10
   go_wp2
   go_ret
   exact ⟨rfl, HB0.out⟩
 have HZ : Hid (¬ (x.sheets.length = 0 ∨ 4 < x.sheets.length)) := hz
 have hn1 : ¬ (4 : Int) < x.sheets.length := by omega
 have hn0 : ¬ (x.sheets.length : Int) < 1 := by omega
 clear hz
 go_enter Tryz.func10, Tryz.ntmps10
 go_wp2
 go_loopw [26] (fun i wr => ∃ (k : Nat), k ≤ x.sheets.length ∧ i = .int .i64 (k : Nat) ∧ Hid (∀ j (hj : j < x.sheets.length), j < k → misB x.sheets[j] = false) ∧ Hid (Below w.heap.size w wr) ∧ Hid (wr.heap[w.heap.size]? = some (bkO (.slice sa x.sheets.length sc) (.slice na x.names.length nc) (.slice la x.links.length lc)))) (fun i _ => x.sheets.length - (intOf i).toNat)
 case atStart => exact ⟨0, Nat.zero_le _, rfl, fun j _ hj => by omega, HB0, HX0⟩
 case round =>
  clear HB0 HX0 c0
  obtain ⟨k, hk, rfl, HA, HD, HX⟩ := hrel
  have c0 := cell_heap HX.out (j := 0) rfl
  by_cases hkL : k < x.sheets.length
  ·have hki : (k : Int) < x.sheets.length := by omega
   obtain ⟨a', cv, ov, W, rfl, rfl, hcl, hW, R1, R2, -⟩ := (HH.out.sh.below hhi HD.out).runs hkL
   obtain ⟨ca, cc, rfl, _, _⟩ := hcl.slice
   have hbx : W.heap[wr.heap.size]? = some (.cells #[.string x.sheets[k].name, .slice ca x.sheets[k].cells.length cc] 78) := by rw [hW]; exact heap_alloc_new wr _
   have cn := cell_heap hbx (j := 0) rfl
   have cl := cell_heap hbx (j := 1) rfl
   have HD2 : Hid (Below w.heap.size w W) := by rw [hW]; exact Sh.bel_alloc HD.out (Nat.le_refl _) _
   have hX2 : W.heap[w.heap.size]? = some (bkO (.slice (some a') x.sheets.length sc) (.slice na x.names.length nc) (.slice la x.links.length lc)) := by rw [hW]; exact (Below.heap_alloc wr _ _ (blk_lt HX.out)).trans HX.out
   have RL : Hid _ := ldB hX2
   have HX2 : Hid (W.heap[w.heap.size]? = some (bkO (.slice (some a') x.sheets.length sc) (.slice na x.names.length nc) (.slice la x.links.length lc))) := hX2
   have hcl2 : Cls lo hi W (.slice ca x.sheets[k].cells.length cc) x.sheets[k].cells := by rw [hW]; exact hcl.below (Nat.le_trans hhi HD.out.size) (Sh.bel_alloc (Below.refl _ _) (Nat.le_refl _) _)
   have hhW : hi ≤ W.heap.size := Nat.le_trans hhi HD2.out.size
   have hk63 : k < 9223372036854775807 := by omega
   have C := rgoodname_any x.sheets[k].name (HNm.out _ (List.getElem_mem hkL)) W
   have HX8 : Hid (misB x.sheets[k] = true → R = 8) := fun e => by rw [← HR.out]; exact chk8 HZ.out hkL e
   have HY : Hid (misB x.sheets[k] = false → ∀ j (hj : j < x.sheets.length), j < k + 1 → misB x.sheets[j] = false) := fun e j hj hlt => by
    by_cases hjk : j = k
    ·subst hjk; exact e
    ·exact HA.out j hj (by omega)
   have HAT : Hid (misB x.sheets[k] = !gnF x.sheets[k].name.data.toList) := rfl
   clear hcl hW hX2 hbx hcl2
   generalize x.sheets[k] = y at *
   obtain ⟨yn, yc⟩ := y
   dsimp only at *
   cases hg : gnF yn.data.toList with
   | false =>
    rw [hg] at C HAT
    obtain rfl := HX8.out (by rw [HAT.out]; rfl)
    clear HX8 HY
    go_wp2_with (first
     | (refine wpList_load_run rfl 78 _ rfl _ _ rfl R1.out ?_; clear R1)
     | (refine wpList_store_run rfl 78 _ _ rfl _ _ _ rfl rfl R2.out ?_; clear R2)
     | (refine wpList_load_run rfl 26 _ rfl _ _ rfl RL.out ?_; clear RL)
     | (go_at_call 48; refine C.mono ?_; clear C; rintro e w1 ⟨rfl, hb⟩; have HB1 : Hid _ := Sh.bel_step HD2.out HD2.out.size hb; have HX3 : Hid _ := (hb.block _ (blk_lt HX2.out)).trans HX2.out; clear hb))
    go_ret
    exact ⟨rfl, HB1.out⟩
   | true =>
    rw [hg] at C HAT
    have HY2 : Hid _ := HY.out (by rw [HAT.out]; rfl)
    clear HX8 HY
    go_wp2_with (first
     | (refine wpList_load_run rfl 78 _ rfl _ _ rfl R1.out ?_; clear R1)
     | (refine wpList_store_run rfl 78 _ _ rfl _ _ _ rfl rfl R2.out ?_; clear R2)
     | (refine wpList_load_run rfl 26 _ rfl _ _ rfl RL.out ?_; clear RL)
     | (go_at_call 48; refine C.mono ?_; clear C; rintro e w1 ⟨rfl, hb⟩; have HB1 : Hid _ := Sh.bel_step HD2.out HD2.out.size hb; have HX3 : Hid _ := (hb.block _ (blk_lt HX2.out)).trans HX2.out; clear hb))
    go_roundw
    case rel => exact ⟨k + 1, by omega, by go_num, HY2, HB1, HX3⟩
    case measure => simp [intOf]; omega
  ·have hki : ¬ (k : Int) < x.sheets.length := by omega
   have H8 : Hid (∀ j (hj : j < x.sheets.length), misB x.sheets[j] = false) := fun j hj => HA.out j hj (by omega)
   clear HA hki
   go_wp2
   go_loopw [38] (fun i wr => ∃ (k : Nat), k ≤ x.sheets.length ∧ i = .int .i64 (k : Nat) ∧ Hid (∀ j, j < k → twAt x.sheets j = false) ∧ Hid (Below w.heap.size w wr) ∧ Hid (wr.heap[w.heap.size]? = some (bkO (.slice sa x.sheets.length sc) (.slice na x.names.length nc) (.slice la x.links.length lc)))) (fun i _ => x.sheets.length - (intOf i).toNat)
   case atStart => exact ⟨0, Nat.zero_le _, rfl, fun j hj => by omega, HD, HX⟩
   case round =>
    clear HD HX c0
    obtain ⟨k, hk, rfl, HA, HD, HX⟩ := hrel
    have c0 := cell_heap HX.out (j := 0) rfl
    by_cases hkL : k < x.sheets.length
    ·have hki : (k : Int) < x.sheets.length := by omega
     obtain ⟨a', cv, ov, W, rfl, rfl, hcl, hW, R1, R2, -⟩ := (HH.out.sh.below hhi HD.out).runs hkL
     obtain ⟨ca, cc, rfl, _, _⟩ := hcl.slice
     have hbx : W.heap[wr.heap.size]? = some (.cells #[.string x.sheets[k].name, .slice ca x.sheets[k].cells.length cc] 78) := by rw [hW]; exact heap_alloc_new wr _
     have cn := cell_heap hbx (j := 0) rfl
     have cl := cell_heap hbx (j := 1) rfl
     have HD2 : Hid (Below w.heap.size w W) := by rw [hW]; exact Sh.bel_alloc HD.out (Nat.le_refl _) _
     have hX2 : W.heap[w.heap.size]? = some (bkO (.slice (some a') x.sheets.length sc) (.slice na x.names.length nc) (.slice la x.links.length lc)) := by rw [hW]; exact (Below.heap_alloc wr _ _ (blk_lt HX.out)).trans HX.out
     have RL : Hid _ := ldB hX2
     have HX2 : Hid (W.heap[w.heap.size]? = some (bkO (.slice (some a') x.sheets.length sc) (.slice na x.names.length nc) (.slice la x.links.length lc))) := hX2
     have hcl2 : Cls lo hi W (.slice ca x.sheets[k].cells.length cc) x.sheets[k].cells := by rw [hW]; exact hcl.below (Nat.le_trans hhi HD.out.size) (Sh.bel_alloc (Below.refl _ _) (Nat.le_refl _) _)
     have hhW : hi ≤ W.heap.size := Nat.le_trans hhi HD2.out.size
     have hk63 : k < 9223372036854775807 := by omega
     have C := rindex_any (HH.out.below hhi HD2.out) (Nat.le_trans hhi HD2.out.size) x.sheets[k].name
     have hat : twAt x.sheets k = !(idxI (idxN x.sheets x.sheets[k].name) == (k : Int)) := by unfold twAt; simp only [List.getElem?_eq_getElem hkL]
     have HX7 : Hid (twAt x.sheets k = true → R = 7) := fun e => by rw [← HR.out]; exact chk7 HZ.out H8.out hkL e
     have HY : Hid (twAt x.sheets k = false → ∀ j, j < k + 1 → twAt x.sheets j = false) := fun e j hj => by
      by_cases hjk : j = k
      ·subst hjk; exact e
      ·exact HA.out j (by omega)
     have HAT : Hid _ := hat
     clear hcl hW hX2 hbx hcl2 hat
     generalize idxI (idxN x.sheets x.sheets[k].name) = q at *
     generalize x.sheets[k] = y at *
     obtain ⟨yn, yc⟩ := y
     dsimp only at *
     by_cases e1 : q = (k : Int)
     ·have HN2 : Hid _ := HY.out (by rw [HAT.out]; simp [e1])
      subst e1
      clear HX7 HY
      go_wp2_with (first
       | (refine wpList_load_run rfl 78 _ rfl _ _ rfl R1.out ?_; clear R1)
       | (refine wpList_store_run rfl 78 _ _ rfl _ _ _ rfl rfl R2.out ?_; clear R2)
       | (refine wpList_load_run rfl 26 _ rfl _ _ rfl RL.out ?_; clear RL)
       | (go_at_call 21; refine C.mono ?_; clear C; rintro e w1 ⟨rfl, hb⟩; have HB1 : Hid _ := Sh.bel_step HD2.out HD2.out.size hb; have HX3 : Hid _ := (hb.block _ (blk_lt HX2.out)).trans HX2.out; clear hb))
      go_roundw
      case rel => exact ⟨k + 1, by omega, by go_num, HN2, HB1, HX3⟩
      case measure => simp [intOf]; omega
     ·obtain rfl := HX7.out (by rw [HAT.out]; simp [e1])
      have hob : (q != (k : Int)) = true := by simpa using e1
      clear HX7 HY
      go_wp2_with (first
       | (refine wpList_load_run rfl 78 _ rfl _ _ rfl R1.out ?_; clear R1)
       | (refine wpList_store_run rfl 78 _ _ rfl _ _ _ rfl rfl R2.out ?_; clear R2)
       | (refine wpList_load_run rfl 26 _ rfl _ _ rfl RL.out ?_; clear RL)
       | (go_at_call 21; refine C.mono ?_; clear C; rintro e w1 ⟨rfl, hb⟩; have HB1 : Hid _ := Sh.bel_step HD2.out HD2.out.size hb; have HX3 : Hid _ := (hb.block _ (blk_lt HX2.out)).trans HX2.out; clear hb))
      go_ret
      exact ⟨rfl, HB1.out⟩
    ·have hki : ¬ (k : Int) < x.sheets.length := by omega
     have H7 : Hid (∀ j, j < x.sheets.length → twAt x.sheets j = false) := fun j hj => HA.out j (by omega)
     clear HA hki
     go_wp2
     go_loopw [53] (fun i wr => ∃ (k : Nat), k ≤ x.sheets.length ∧ i = .int .i64 (k : Nat) ∧ Hid (∀ j (hj : j < x.sheets.length), j < k → mlB x.sheets[j] = false) ∧ Hid (Below w.heap.size w wr) ∧ Hid (wr.heap[w.heap.size]? = some (bkO (.slice sa x.sheets.length sc) (.slice na x.names.length nc) (.slice la x.links.length lc)))) (fun i _ => x.sheets.length - (intOf i).toNat)
     case atStart => exact ⟨0, Nat.zero_le _, rfl, fun j _ hj => by omega, HD, HX⟩
     case round =>
      clear HD HX c0
      obtain ⟨k, hk, rfl, HA, HD, HX⟩ := hrel
      have c0 := cell_heap HX.out (j := 0) rfl
      by_cases hkL : k < x.sheets.length
      ·have hki : (k : Int) < x.sheets.length := by omega
       obtain ⟨a', cv, ov, W, rfl, rfl, hcl, hW, R1, R2, -⟩ := (HH.out.sh.below hhi HD.out).runs hkL
       obtain ⟨ca, cc, rfl, _, _⟩ := hcl.slice
       have hbx : W.heap[wr.heap.size]? = some (.cells #[.string x.sheets[k].name, .slice ca x.sheets[k].cells.length cc] 78) := by rw [hW]; exact heap_alloc_new wr _
       have cn := cell_heap hbx (j := 0) rfl
       have cl := cell_heap hbx (j := 1) rfl
       have HD2 : Hid (Below w.heap.size w W) := by rw [hW]; exact Sh.bel_alloc HD.out (Nat.le_refl _) _
       have hX2 : W.heap[w.heap.size]? = some (bkO (.slice (some a') x.sheets.length sc) (.slice na x.names.length nc) (.slice la x.links.length lc)) := by rw [hW]; exact (Below.heap_alloc wr _ _ (blk_lt HX.out)).trans HX.out
       have RL : Hid _ := ldB hX2
       have HX2 : Hid (W.heap[w.heap.size]? = some (bkO (.slice (some a') x.sheets.length sc) (.slice na x.names.length nc) (.slice la x.links.length lc))) := hX2
       have hcl2 : Cls lo hi W (.slice ca x.sheets[k].cells.length cc) x.sheets[k].cells := by rw [hW]; exact hcl.below (Nat.le_trans hhi HD.out.size) (Sh.bel_alloc (Below.refl _ _) (Nat.le_refl _) _)
       have hhW : hi ≤ W.heap.size := Nat.le_trans hhi HD2.out.size
       have hk63 : k < 9223372036854775807 := by omega
       have C := rcells_any hcl2 hhW
       have HX9 : Hid (mlB x.sheets[k] = true → R = 9) := fun e => by rw [← HR.out]; exact chk9 HZ.out H8.out H7.out hkL e
       have HY : Hid (mlB x.sheets[k] = false → ∀ j (hj : j < x.sheets.length), j < k + 1 → mlB x.sheets[j] = false) := fun e j hj hlt => by
        by_cases hjk : j = k
        ·subst hjk; exact e
        ·exact HA.out j hj (by omega)
       have HAT : Hid (mlB x.sheets[k] = !laidB x.sheets[k].cells) := rfl
       have HRL : Hid (rlF x.sheets[k].cells = if laidB x.sheets[k].cells = true then 0 else 9) := rfl
       clear hcl hW hX2 hbx hcl2
       generalize x.sheets[k] = y at *
       obtain ⟨yn, yc⟩ := y
       dsimp only at *
       cases hg : laidB yc with
       | false =>
        rw [hg] at HAT HRL
        rw [show rlF yc = 9 from HRL.out] at C
        obtain rfl := HX9.out (by rw [HAT.out]; rfl)
        clear HX9 HY
        go_wp2_with (first
         | (refine wpList_load_run rfl 78 _ rfl _ _ rfl R1.out ?_; clear R1)
         | (refine wpList_store_run rfl 78 _ _ rfl _ _ _ rfl rfl R2.out ?_; clear R2)
         | (refine wpList_load_run rfl 26 _ rfl _ _ rfl RL.out ?_; clear RL)
         | (go_at_call 49; refine C.mono ?_; clear C; rintro e w1 ⟨rfl, hb⟩; have HB1 : Hid _ := Sh.bel_step HD2.out HD2.out.size hb; have HX3 : Hid _ := (hb.block _ (blk_lt HX2.out)).trans HX2.out; clear hb))
        go_ret
        exact ⟨rfl, HB1.out⟩
       | true =>
        rw [hg] at HAT HRL
        rw [show rlF yc = 0 from HRL.out] at C
        have HY2 : Hid _ := HY.out (by rw [HAT.out]; rfl)
        clear HX9 HY
        go_wp2_with (first
         | (refine wpList_load_run rfl 78 _ rfl _ _ rfl R1.out ?_; clear R1)
         | (refine wpList_store_run rfl 78 _ _ rfl _ _ _ rfl rfl R2.out ?_; clear R2)
         | (refine wpList_load_run rfl 26 _ rfl _ _ rfl RL.out ?_; clear RL)
         | (go_at_call 49; refine C.mono ?_; clear C; rintro e w1 ⟨rfl, hb⟩; have HB1 : Hid _ := Sh.bel_step HD2.out HD2.out.size hb; have HX3 : Hid _ := (hb.block _ (blk_lt HX2.out)).trans HX2.out; clear hb))
        go_roundw
        case rel => exact ⟨k + 1, by omega, by go_num, HY2, HB1, HX3⟩
        case measure => simp [intOf]; omega
      ·have hki : ¬ (k : Int) < x.sheets.length := by omega
       have H9 : Hid (∀ j (hj : j < x.sheets.length), mlB x.sheets[j] = false) := fun j hj => HA.out j hj (by omega)
       have H0 : Hid _ := chkR HZ.out H8.out H7.out H9.out
       clear HA hki
       go_wp2
       go_loopw [67] (fun i wr => ∃ (k : Nat), k ≤ x.sheets.length ∧ i = .int .i64 (k : Nat) ∧ Hid (textsS (x.sheets.drop k) = textsS x.sheets) ∧ Hid (Below w.heap.size w wr) ∧ Hid (wr.heap[w.heap.size]? = some (bkO (.slice sa x.sheets.length sc) (.slice na x.names.length nc) (.slice la x.links.length lc)))) (fun i _ => x.sheets.length - (intOf i).toNat)
       case atStart => exact ⟨0, Nat.zero_le _, rfl, by show _ = _; rw [List.drop_zero], HD, HX⟩
       case round =>
        clear HD HX c0
        obtain ⟨k, hk, rfl, HA, HD, HX⟩ := hrel
        have c0 := cell_heap HX.out (j := 0) rfl
        by_cases hkL : k < x.sheets.length
        ·have hki : (k : Int) < x.sheets.length := by omega
         obtain ⟨a', cv, ov, W, rfl, rfl, hcl, hW, R1, R2, -⟩ := (HH.out.sh.below hhi HD.out).runs hkL
         obtain ⟨ca, cc, rfl, _, _⟩ := hcl.slice
         have hbx : W.heap[wr.heap.size]? = some (.cells #[.string x.sheets[k].name, .slice ca x.sheets[k].cells.length cc] 78) := by rw [hW]; exact heap_alloc_new wr _
         have cn := cell_heap hbx (j := 0) rfl
         have cl := cell_heap hbx (j := 1) rfl
         have HD2 : Hid (Below w.heap.size w W) := by rw [hW]; exact Sh.bel_alloc HD.out (Nat.le_refl _) _
         have hX2 : W.heap[w.heap.size]? = some (bkO (.slice (some a') x.sheets.length sc) (.slice na x.names.length nc) (.slice la x.links.length lc)) := by rw [hW]; exact (Below.heap_alloc wr _ _ (blk_lt HX.out)).trans HX.out
         have RL : Hid _ := ldB hX2
         have HX2 : Hid (W.heap[w.heap.size]? = some (bkO (.slice (some a') x.sheets.length sc) (.slice na x.names.length nc) (.slice la x.links.length lc))) := hX2
         have hcl2 : Cls lo hi W (.slice ca x.sheets[k].cells.length cc) x.sheets[k].cells := by rw [hW]; exact hcl.below (Nat.le_trans hhi HD.out.size) (Sh.bel_alloc (Below.refl _ _) (Nat.le_refl _) _)
         have hhW : hi ≤ W.heap.size := Nat.le_trans hhi HD2.out.size
         have hk63 : k < 9223372036854775807 := by omega
         have C := rtexts_any hcl2 hhW (HT.out.below HD2.out)
         have HXT : Hid (textsF x.sheets[k].cells ≠ 0 → R = textsF x.sheets[k].cells) := fun e => by
          have q : textsS x.sheets = textsF x.sheets[k].cells := by rw [← HA.out, List.drop_eq_getElem_cons hkL, textsS, if_pos e]
          rw [← HR.out, H0.out, q, if_pos e]
         have HY : Hid (textsF x.sheets[k].cells = 0 → textsS (x.sheets.drop (k + 1)) = textsS x.sheets) := fun e => by rw [← HA.out]; conv => rhs; rw [List.drop_eq_getElem_cons hkL, textsS, if_neg (by simpa using e)]
         clear hcl hW hX2 hbx hcl2
         generalize x.sheets[k] = y at *
         obtain ⟨yn, yc⟩ := y
         dsimp only at *
         generalize textsF yc = me at *
         by_cases e1 : me = 0
         ·have HY2 : Hid _ := HY.out e1
          subst e1
          clear HXT HY
          go_wp2_with (first
           | (refine wpList_load_run rfl 78 _ rfl _ _ rfl R1.out ?_; clear R1)
           | (refine wpList_store_run rfl 78 _ _ rfl _ _ _ rfl rfl R2.out ?_; clear R2)
           | (refine wpList_load_run rfl 26 _ rfl _ _ rfl RL.out ?_; clear RL)
           | (go_at_call 50; refine C.mono ?_; clear C; rintro e w1 ⟨rfl, hb⟩; have HB1 : Hid _ := Sh.bel_step HD2.out HD2.out.size hb; have HX3 : Hid _ := (hb.block _ (blk_lt HX2.out)).trans HX2.out; clear hb))
          go_roundw
          case rel => exact ⟨k + 1, by omega, by go_num, HY2, HB1, HX3⟩
          case measure => simp [intOf]; omega
         ·have hpb : (me != 0) = true := by simpa using e1
          obtain rfl := HXT.out e1
          clear HXT HY
          go_wp2_with (first
           | (refine wpList_load_run rfl 78 _ rfl _ _ rfl R1.out ?_; clear R1)
           | (refine wpList_store_run rfl 78 _ _ rfl _ _ _ rfl rfl R2.out ?_; clear R2)
           | (refine wpList_load_run rfl 26 _ rfl _ _ rfl RL.out ?_; clear RL)
           | (go_at_call 50; refine C.mono ?_; clear C; rintro e w1 ⟨rfl, hb⟩; have HB1 : Hid _ := Sh.bel_step HD2.out HD2.out.size hb; have HX3 : Hid _ := (hb.block _ (blk_lt HX2.out)).trans HX2.out; clear hb))
          go_ret
          exact ⟨rfl, HB1.out⟩
        ·have hki : ¬ (k : Int) < x.sheets.length := by omega
         have ht : textsS x.sheets = 0 := by rw [← HA.out, List.drop_of_length_le (by omega)]; rfl
         have hcz := cnt_four HCe.out (by have := HZ.out; omega)
         have C := rcount_any (HH.out.below hhi HD.out) (Nat.le_trans hhi HD.out.size) (by omega)
         have RL : Hid _ := ldB HX.out
         have hr : R = if 200 < cntL x.sheets then 5 else 0 := by rw [← HR.out, H0.out, if_neg (by simpa using ht)]
         clear HA hki H0 ht HR HH HZ H7 H8 H9
         generalize cntL x.sheets = ct at *
         by_cases h2 : 200 < ct
         ·rw [if_pos h2] at hr
          subst hr
          have h2i : (200 : Int) < ct := by omega
          go_wp2_with (first
           | (refine wpList_load_run rfl 26 _ rfl _ _ rfl RL.out ?_; clear RL)
           | (go_at_call 25; refine C.mono ?_; clear C; rintro e w1 ⟨rfl, hb⟩; have HB1 : Hid _ := Sh.bel_step HD.out HD.out.size hb; clear hb))
          go_ret
          exact ⟨rfl, HB1.out⟩
         ·rw [if_neg h2] at hr
          subst hr
          have h2i : ¬ (200 : Int) < ct := by omega
          go_wp2_with (first
           | (refine wpList_load_run rfl 26 _ rfl _ _ rfl RL.out ?_; clear RL)
           | (go_at_call 25; refine C.mono ?_; clear C; rintro e w1 ⟨rfl, hb⟩; have HB1 : Hid _ := Sh.bel_step HD.out HD.out.size hb; clear hb))
          go_ret
          exact ⟨rfl, HB1.out⟩
end Go.Proofs.YtnibldnfbikipaaGreatDoor.Sh
