/- SIn. -/
import Derived.Test.YtnibldnfbikipaaGreatDoorSCmBy
import Derived.Test.YtnibldnfbikipaaGreatDoorSR1By
set_option linter.unusedVariables false
set_option linter.unusedSimpArgs false
set_option maxHeartbeats 16000000
set_option maxRecDepth 100000
namespace Go.Proofs.YtnibldnfbikipaaGreatDoor.Sh
open Go.RowKit Go.Fm Cm
def ibxB (r1 c1 r2 c2 : Int) (d : CellT) : Bool := decide (r1 ≤ d.row) && decide (d.row ≤ r2) && decide (c1 ≤ d.col) && decide (d.col ≤ c2)
def colB (c1 r2 c2 : Int) (d : CellT) : Bool := decide (d.row ≤ r2) && (decide (c1 ≤ d.col) && decide (d.col ≤ c2))
def inF (L : List CellT) (r1 c1 r2 c2 : Int) : List CellT := L.filter (ibxB r1 c1 r2 c2)
theorem fil_take {q : CellT → Bool} {L : List CellT} {k : Nat} (hk : k < L.length) : (L.take (k + 1)).filter q = (L.take k).filter q ++ if q L[k] = true then [L[k]] else [] := by
 rw [List.take_succ_eq_append_getElem hk, List.filter_append]
 congr 1
 by_cases h : q L[k] = true <;> simp [h]
theorem in_drop {L : List CellT} {r1 c1 : Int} {i : Nat} {b : Bool} (hR : Rise L) (h : BsR L ⟨r1, c1, ⟨#[]⟩⟩ i b) (r2 c2 : Int) : inF L r1 c1 r2 c2 = (L.drop i).filter (colB c1 r2 c2) := by
 obtain ⟨h0, h1, h2, _⟩ := h
 unfold inF
 conv => lhs; rw [← List.take_append_drop i L]
 rw [List.filter_append]
 have hR2 := hR
 unfold Rise at hR2
 rw [List.pairwise_iff_getElem] at hR2
 have e1 : (L.take i).filter (ibxB r1 c1 r2 c2) = [] := by
  refine filter_no fun d hd => ?_
  obtain ⟨j, hj, rfl⟩ := List.mem_iff_getElem.1 hd
  rw [List.length_take] at hj
  rw [List.getElem_take]
  have hlt : Lt L[j] ⟨r1, c1, ⟨#[]⟩⟩ := by
   have h3 := ord_neg.1 (h1 (by omega) (by omega))
   by_cases e : j = i - 1
   ·subst e; exact h3
   ·exact (hR2 j (i - 1) (by omega) (by omega) (by omega)).trans h3
  have hlt2 : L[j].row < r1 ∨ L[j].row = r1 ∧ L[j].col < c1 := hlt
  unfold ibxB
  generalize L[j] = d at hlt2
  simp only [Bool.and_eq_false_iff, decide_eq_false_iff_not]
  omega
 rw [e1, List.nil_append]
 refine List.filter_congr fun d hd => ?_
 obtain ⟨j, hj, rfl⟩ := List.mem_iff_getElem.1 hd
 rw [List.length_drop] at hj
 rw [List.getElem_drop]
 have hge : ¬ Lt L[i + j] ⟨r1, c1, ⟨#[]⟩⟩ := by
  have h3 : ¬ Lt (L[i]'(by omega)) ⟨r1, c1, ⟨#[]⟩⟩ := fun e => by have := ord_neg.2 e; have := h2 (by omega); omega
  by_cases e : j = 0
  ·subst e; exact h3
  ·exact fun e2 => h3 ((hR2 i (i + j) (by omega) (by omega) (by omega)).trans e2)
 have hge2 : ¬ (L[i + j].row < r1 ∨ L[i + j].row = r1 ∧ L[i + j].col < c1) := hge
 unfold ibxB colB
 generalize L[i + j] = d at hge2
 rw [Bool.eq_iff_iff]
 simp only [Bool.and_eq_true, decide_eq_true_eq]
 omega
theorem in_break {T : List CellT} {c1 r2 c2 : Int} (hR : Rise T) {k : Nat} (hk : k < T.length) (h : r2 < T[k].row) : T.filter (colB c1 r2 c2) = (T.take k).filter (colB c1 r2 c2) := by
 conv => lhs; rw [← List.take_append_drop k T]
 rw [List.filter_append]
 have e : (T.drop k).filter (colB c1 r2 c2) = [] := by
  refine filter_no fun d hd => ?_
  obtain ⟨j, hj, rfl⟩ := List.mem_iff_getElem.1 hd
  rw [List.length_drop] at hj
  rw [List.getElem_drop]
  have hle : r2 < T[k + j].row := by
   by_cases e : j = 0
   ·subst e; exact h
   ·unfold Rise at hR
    rw [List.pairwise_iff_getElem] at hR
    have := hR k (k + j) hk (by omega) (by omega)
    have q : T[k].row < T[k + j].row ∨ T[k].row = T[k + j].row ∧ T[k].col < T[k + j].col := this
    omega
  unfold colB
  generalize T[k + j] = d at hle
  simp only [Bool.and_eq_false_iff, decide_eq_false_iff_not]
  omega
 rw [e, List.append_nil]
theorem suf_any {lo hi : Nat} {w : World} {p : Option Addr} {c k : Nat} {L : List CellT} (h : Cls lo hi w (.slice p L.length c) L) (hk : k ≤ L.length) :
  ∃ p2 c2, Hid (∀ u, (Instr.sliceAt 27 (.slice p L.length c) (some (.int .i64 (k : Nat))) none none).run Tryz.prog u = .ok (.slice p2 (L.drop k).length c2) u) ∧ Cls lo hi w (.slice p2 (L.drop k).length c2) (L.drop k) := by
 have h2 : Tryz.prog.underlying 27 = some (.slice (Tryz.prog.elem 27)) := by rw [rtC.elem]; exact rtC.st
 have run : ∀ u, (Instr.sliceAt 27 (.slice p L.length c) (some (.int .i64 (k : Nat))) none none).run Tryz.prog u = .ok (sliced p k L.length c 3) u := fun u => by
  rw [run_sliceAt_slice u 27 _ _ _ _ h2, run_slice_l u 27 _ L.length c h2 .i64 (k : Nat) (by omega) (by omega), rtC.elem, rtC.so u]
  rfl
 rcases h with ⟨e1, e2⟩ | ⟨a, cap, e1, g2, g3, g4, g5⟩
 ·have : L = [] := List.eq_nil_of_length_eq_zero e2
  subst this
  cases e1
  have hk0 : k = 0 := by simpa using hk
  subst hk0
  exact ⟨none, 0, fun u => by rw [run u]; simp [sliced], .inl ⟨rfl, rfl⟩⟩
 ·cases e1
  by_cases hc : c = k
  ·have hL : L.length = k := by omega
   refine ⟨some a, c - k, fun u => ?_, .inr ⟨a, c - k, rfl, by simp; omega, by omega, fun h0 => by simp at h0; omega, fun j i u hj => by simp at hj; omega⟩⟩
   rw [run u]
   simp [sliced, hc]
  ·refine ⟨some (a.add (k * 3)), c - k, fun u => ?_, .inr ⟨a.add (k * 3), c - k, rfl, by simp; omega, by omega, fun h0 => ?_, fun j i u hj hu => ?_⟩⟩
   ·rw [run u]
    simp [sliced, hc]
   ·rw [addr_block]
    exact g4 (by simp at h0; omega)
   ·rw [Go.Deep.add_add, show k * 3 + (j * 3 + i) = (k + j) * 3 + i by omega]
    refine g5 (k + j) i u (by simp at hj; omega) ?_
    dsimp only at hu ⊢
    rw [List.getElem?_drop] at hu
    exact hu
theorem sl_nodir (L : List CellT) (k : Nat) (hR : Rise L) : Rise (L.drop k) := List.Pairwise.sublist (List.drop_sublist k L) hR
theorem in_any {lo hi : Nat} {w : World} {sv nv lv : Value} {x : BookT} (h : BkM lo hi w sv nv lv x) (hhi : hi ≤ w.heap.size) (s : ByteArray) (r1 c1 r2 c2 : Int) (hR : Rise (cellsO x.sheets s)) (hn : (cellsO x.sheets s).length ≤ 1000) :
  Calls Tryz.prog 34 #[.agg #[sv, nv, lv], .string s, .int .i64 r1, .int .i64 c1, .int .i64 r2, .int .i64 c2] w fun e w' => ∃ v, e = .returned v ∧ OwnM w.heap.size w' v (inF (cellsO x.sheets s) r1 c1 r2 c2) ∧ Below w.heap.size w w' := by
 obtain ⟨sa, sc, rfl, hs1, hs2⟩ := h.sh.slice
 obtain ⟨na, nc, rfl, _, _⟩ := h.nm.slice
 obtain ⟨la, lc, rfl, _, _⟩ := h.lk.slice
 obtain ⟨W, hW⟩ : ∃ W, W = w.alloc (bkO (.slice sa x.sheets.length sc) (.slice na x.names.length nc) (.slice la x.links.length lc)) := ⟨_, rfl⟩
 have HB : Below w.heap.size w W := by rw [hW]; exact Sh.bel_alloc (Below.refl _ _) (Nat.le_refl _) _
 have R1 : Hid _ := ldB (show W.heap[w.heap.size]? = some (bkO (.slice sa x.sheets.length sc) (.slice na x.names.length nc) (.slice la x.links.length lc)) by rw [hW]; exact heap_alloc_new w _)
 generalize hL : cellsO x.sheets s = L at *
 have C : Calls Tryz.prog 72 _ _ fun e w' => ∃ q d, e = .returned (.slice q L.length d) ∧ Hid (Cls lo hi w' (.slice q L.length d) L) ∧ Hid (Below w.heap.size w w') :=
  (cellsOf_any (h.below hhi HB) (Nat.le_trans hhi HB.size) s).mono (by
   rintro e w' ⟨⟨v, rfl, hc⟩, hb⟩
   rw [hL] at hc
   obtain ⟨q, d, rfl, h1, h2⟩ := hc.slice
   exact ⟨q, d, rfl, hc, Sh.bel_step HB HB.size hb⟩)
 rw [hW] at C R1
 have HRi : Hid (Rise L) := hR
 generalize hG : inF L r1 c1 r2 c2 = gt
 have HO : Hid (inF L r1 c1 r2 c2 = gt) := hG
 clear h HB hW hs1 hs2 hL hG hR
 go_enter Tryz.func34, Tryz.ntmps34
 go_wp2_with (refine wpList_load_run rfl 26 _ rfl _ _ rfl R1.out ?_; clear R1)
 refine C.mono ?_
 clear C
 rintro e w1 ⟨q, d, rfl, HC, HB⟩
 have C1 := finder_any _ q L.length d rfl w1
 have HB2 : Below w1.heap.size w1 (w1.alloc (.cells #[.slice q L.length d] 27)) := Sh.bel_alloc (Below.refl _ _) (Nat.le_refl _) _
 have hhi1 : hi ≤ w1.heap.size := Nat.le_trans hhi HB.out.size
 have C2 : Calls Tryz.prog 116 #[.int .i64 r1, .int .i64 c1, .pointer (some ⟨w1.heap.size, 0, none⟩)] (w1.alloc (.cells #[.slice q L.length d] 27)) fun e w' => (∃ (i : Nat) (b : Bool), e = .returned (.tuple #[.int .i64 (i : Nat), .bool b]) ∧ Hid (BsR L ⟨r1, c1, ⟨#[]⟩⟩ i b)) ∧ Hid (Below w1.heap.size w1 w') := (find1_any (HC.out.below hhi1 HB2) (Nat.le_trans hhi1 HB2.size) hn (heap_alloc_new w1 _) r1 c1).mono (by
  rintro e w' ⟨⟨i, b, rfl, hb⟩, hbl⟩
  exact ⟨⟨i, b, rfl, hb⟩, Sh.bel_step HB2 HB2.size hbl⟩)
 clear HB2
 go_wp2_with (go_at_call 81; refine C1.mono ?_; clear C1; rintro e w2 ⟨rfl, rfl⟩)
 refine C2.mono ?_
 clear C2
 rintro e w2 ⟨⟨i, b, rfl, Hb⟩, HB2⟩
 have HC2 : Cls lo hi w2 (.slice q L.length d) L := HC.out.below hhi1 HB2.out
 obtain ⟨p2, c2', RS, HT0⟩ := suf_any HC2 Hb.out.1
 have HT : Hid (Cls lo hi w2 (.slice p2 (L.drop i).length c2') (L.drop i)) := HT0
 have HO2 : Hid ((L.drop i).filter (colB c1 r2 c2) = gt) := by show _ = _; rw [← HO.out, in_drop HRi.out Hb.out]
 have HRT : Hid (Rise (L.drop i)) := sl_nodir L i HRi.out
 have hTn : (L.drop i).length ≤ 1000 := by simp; omega
 have hhi2 : hi ≤ w2.heap.size := Nat.le_trans hhi1 HB2.out.size
 have HBw : Hid (Below w.heap.size w w2) := Sh.bel_step HB.out HB.out.size HB2.out
 clear HC HC2 HO Hb HT0 HB2 HB HRi
 generalize L.drop i = T at *
 go_wp2_with (refine wpl_slice rfl 27 _ _ _ _ rfl _ _ _ _ _ rfl rfl rfl rfl (RS.out _) ?_; clear RS)
 go_loopw [16, 34] (fun v i wr => ∃ (k : Nat), k ≤ T.length ∧ i = .int .i64 (k : Nat) ∧ Hid (OwnM w2.heap.size wr v ((T.take k).filter (colB c1 r2 c2))) ∧ Hid (Below w2.heap.size w2 wr)) (fun _ i _ => T.length - (intOf i).toNat)
 case atStart => exact ⟨0, Nat.zero_le _, rfl, OwnM.nil _ _, Below.refl _ _⟩
 case round =>
  obtain ⟨k, hk, rfl, HW, HD⟩ := hrel
  by_cases hkT : k < T.length
  ·have hki : (k : Int) < T.length := by omega
   obtain ⟨a', ov, W', rfl, rfl, hW', R2, R3, R4⟩ := (HT.out.below hhi2 HD.out).runs hkT
   have hbx : W'.heap[wr.heap.size]? = some (.cells (cellC T[k]).toArray 57) := by rw [hW']; exact heap_alloc_new wr _
   obtain ⟨y0, y1, y2⟩ := c_cells hbx
   have HD2 : Hid (Below wr.heap.size wr W') := by rw [hW']; exact Sh.bel_alloc (Below.refl _ _) (Nat.le_refl _) _
   have hlen : ((T.take k).filter (colB c1 r2 c2)).length ≤ 1000 := by
    have := List.length_filter_le (colB c1 r2 c2) (T.take k)
    rw [List.length_take] at this; omega
   obtain ⟨va, vc, rfl, _⟩ := HW.out.slice
   have HTk : Hid _ := fil_take (q := colB c1 r2 c2) hkT
   have HBRK : Hid (r2 < T[k].row → (T.take k).filter (colB c1 r2 c2) = gt) := fun e => by rw [← HO2.out]; exact (in_break HRT.out hkT e).symm
   clear hW' hbx
   generalize hy : T[k] = y at *
   clear hy
   obtain ⟨yr, yc, yt⟩ := y
   dsimp only at *
   by_cases e1 : r2 < yr
   ·have HFIN : Hid (OwnM w.heap.size W' (.slice va ((T.take k).filter (colB c1 r2 c2)).length vc) gt) := by show OwnM _ _ _ _; rw [← HBRK.out e1]; exact (HW.out.below HD2.out).base HBw.out.size
    have HFB : Hid (Below w.heap.size w W') := Sh.bel_step (Sh.bel_step HBw.out HBw.out.size HD.out) (Nat.le_trans HBw.out.size HD.out.size) HD2.out
    clear HW HTk HBRK R4
    go_wp2_with (first
     | (refine wpList_load_run rfl 57 _ rfl _ _ rfl R2.out ?_; clear R2)
     | (refine wpList_store_run rfl 57 _ _ rfl _ _ _ rfl rfl R3.out ?_; clear R3))
    go_ret
    exact ⟨_, rfl, HFIN.out, HFB.out⟩
   ·have hq : colB c1 r2 c2 ⟨yr, yc, yt⟩ = (decide (c1 ≤ yc) && decide (yc ≤ c2)) := by unfold colB; rw [decide_eq_true (by omega : yr ≤ r2)]; rfl
    rw [hq] at HTk
    clear HBRK hq
    by_cases e2 : c1 ≤ yc ∧ yc ≤ c2
    ·have hd1 : c1 ≤ yc := e2.1
     have hd2 : yc ≤ c2 := e2.2
     have HT2 : Hid ((T.take (k + 1)).filter (colB c1 r2 c2) = (T.take k).filter (colB c1 r2 c2) ++ [⟨yr, yc, yt⟩]) := by show _ = _; rw [HTk.out]; simp [hd1, hd2]
     obtain ⟨v', w', RA, o1, _, b1, _⟩ := ownM_cat2 (L := (T.take k).filter (colB c1 r2 c2)) (y := ⟨yr, yc, yt⟩) (b := W'.heap.size) (w := W'.alloc (nmO ⟨yr, yc, yt⟩)) (HW.out.below (Sh.bel_step HD2.out HD2.out.size (Sh.bel_alloc (Below.refl _ _) (Nat.le_refl _) _))) (heap_alloc_new W' _) (by omega) (by have := HD.out.size; have := HD2.out.size; simp; omega)
     have RB : Hid _ := nslice_one W' ⟨yr, yc, yt⟩
     have HB2 : Hid (Below w2.heap.size w2 w') := (Sh.bel_step (Sh.bel_step HD.out HD.out.size HD2.out) (Nat.le_trans HD.out.size HD2.out.size) (Sh.bel_alloc (Below.refl _ _) (Nat.le_refl _) _)).trans b1
     have HW2 : Hid (OwnM w2.heap.size w' v' ((T.take (k + 1)).filter (colB c1 r2 c2))) := by show OwnM _ _ _ _; rw [HT2.out]; exact o1
     clear HW HTk HT2 o1 b1 e2
     generalize ((T.take k).filter (colB c1 r2 c2)).length = fl at *
     go_wp2_with (first
      | (refine wpList_load_run rfl 57 _ rfl _ _ rfl R2.out ?_; clear R2)
      | (refine wpList_store_run rfl 57 _ _ rfl _ _ _ rfl rfl R3.out ?_; clear R3)
      | (refine wpList_load_run rfl 57 _ rfl _ _ rfl R4.out ?_; clear R4)
      | (refine wpl_bslice rfl 27 1 _ rfl _ _ _ (by go_simp) RB.out ?_; clear RB)
      | (at_builtin; refine wpl_append rfl _ _ 27 27 rfl _ _ _ _ rfl rfl RA.out ?_; clear RA))
     go_roundw
     case rel => exact ⟨k + 1, by omega, by go_num, HW2, HB2⟩
     case measure => simp [intOf]; omega
    ·have HT2 : Hid ((T.take (k + 1)).filter (colB c1 r2 c2) = (T.take k).filter (colB c1 r2 c2)) := by
      show _ = _
      rw [HTk.out, if_neg (by simpa using e2), List.append_nil]
     have HW2 : Hid (OwnM w2.heap.size W' (.slice va ((T.take k).filter (colB c1 r2 c2)).length vc) ((T.take (k + 1)).filter (colB c1 r2 c2))) := by show OwnM _ _ _ _; rw [HT2.out]; exact HW.out.below HD2.out
     have HB2 : Hid (Below w2.heap.size w2 W') := Sh.bel_step HD.out HD.out.size HD2.out
     clear HW HTk HT2 R4
     by_cases e3 : c1 ≤ yc
     ·have e4 : ¬ yc ≤ c2 := fun e => e2 ⟨e3, e⟩
      clear e2
      go_wp2_with (first
       | (refine wpList_load_run rfl 57 _ rfl _ _ rfl R2.out ?_; clear R2)
       | (refine wpList_store_run rfl 57 _ _ rfl _ _ _ rfl rfl R3.out ?_; clear R3))
      go_roundw
      case rel => exact ⟨k + 1, by omega, by go_num, HW2, HB2⟩
      case measure => simp [intOf]; omega
     ·clear e2
      go_wp2_with (first
       | (refine wpList_load_run rfl 57 _ rfl _ _ rfl R2.out ?_; clear R2)
       | (refine wpList_store_run rfl 57 _ _ rfl _ _ _ rfl rfl R3.out ?_; clear R3))
      go_roundw
      case rel => exact ⟨k + 1, by omega, by go_num, HW2, HB2⟩
      case measure => simp [intOf]; omega
  ·have hki : ¬ (k : Int) < T.length := by omega
   have h1 := HW.out
   rw [List.take_of_length_le (by omega), HO2.out] at h1
   have HFIN : Hid _ := h1.base HBw.out.size
   clear h1
   have HFB : Hid (Below w.heap.size w wr) := Sh.bel_step HBw.out HBw.out.size HD.out
   clear HW
   go_wp2
   go_ret
   exact ⟨_, rfl, HFIN.out, HFB.out⟩
theorem rin_any {lo hi : Nat} {w : World} {sv nv lv : Value} {x : BookT} (h : BkM lo hi w sv nv lv x) (hhi : hi ≤ w.heap.size) (s : ByteArray) (r1 c1 r2 c2 : Int) (hn : (cellsO x.sheets s).length ≤ 1000) :
  Calls Tryz.prog 35 #[.agg #[sv, nv, lv], .string s, .int .i64 r1, .int .i64 c1, .int .i64 r2, .int .i64 c2] w fun e w' => ∃ v, e = .returned v ∧ OwnM w.heap.size w' v (inF (cellsO x.sheets s) r1 c1 r2 c2) ∧ Below w.heap.size w w' := by
 obtain ⟨sa, sc, rfl, hs1, hs2⟩ := h.sh.slice
 obtain ⟨na, nc, rfl, _, _⟩ := h.nm.slice
 obtain ⟨la, lc, rfl, _, _⟩ := h.lk.slice
 obtain ⟨W, hW⟩ : ∃ W, W = w.alloc (bkO (.slice sa x.sheets.length sc) (.slice na x.names.length nc) (.slice la x.links.length lc)) := ⟨_, rfl⟩
 have HB : Below w.heap.size w W := by rw [hW]; exact Sh.bel_alloc (Below.refl _ _) (Nat.le_refl _) _
 have HG : W.heap[w.heap.size]? = some (bkO (.slice sa x.sheets.length sc) (.slice na x.names.length nc) (.slice la x.links.length lc)) := by rw [hW]; exact heap_alloc_new w _
 have R1 : Hid _ := ldB HG
 have C0 := rindex_any (h.below hhi HB) (Nat.le_trans hhi HB.size) s
 have hlen : x.sheets.length ≤ 9223372036854775807 := by unfold maxLen at hs2; omega
 unfold cellsO at *
 cases hO : idxN x.sheets s with
 | none =>
  rw [hO] at C0
  have C : Calls Tryz.prog 21 _ _ fun e w' => e = .returned (.int .i64 (-1)) ∧ Hid (Below w.heap.size w w') :=
   C0.mono (by
    rintro e w' ⟨rfl, hb⟩
    exact ⟨rfl, Sh.bel_step HB HB.size hb⟩)
  rw [hW] at C R1
  clear h HB HG hW hs1 hs2 C0
  dsimp only
  go_enter Tryz.func35, Tryz.ntmps35
  go_wp2_with (first
   | (refine wpList_load_run rfl 26 _ rfl _ _ rfl R1.out ?_; clear R1)
   | (go_at_call 21; refine C.mono ?_; clear C; rintro e w1 ⟨rfl, HB⟩))
  go_ret
  exact ⟨_, rfl, OwnM.nil _ _, HB.out⟩
 | some i =>
  rw [hO] at C0
  have hil := idx_lt hO
  have C : Calls Tryz.prog 21 _ _ fun e w' => e = .returned (.int .i64 (i : Nat)) ∧ ∃ a' q d, sa = some a' ∧ w'.cell? ⟨w.heap.size, 0, none⟩ = some (.slice sa x.sheets.length sc) ∧ w'.cell? ⟨(a'.add (i * 2)).block, (a'.add (i * 2)).off + 1, none⟩ = some (.slice q x.sheets[i].cells.length d) ∧ Hid (Cls lo hi w' (.slice q x.sheets[i].cells.length d) x.sheets[i].cells) ∧ Hid (Below w.heap.size w w') :=
   C0.mono (by
    rintro e w' ⟨rfl, hb⟩
    have hb2 := Sh.bel_step HB HB.size hb
    obtain ⟨cv, hr, hc⟩ := h.sh.below hhi hb2
    have hcs := hc i _ (List.getElem?_eq_getElem hil)
    obtain ⟨a', rfl, h1, h2⟩ := Rws.at hr hil
    obtain ⟨q, d, hcv, _, _⟩ := hcs.slice
    exact ⟨rfl, a', q, d, rfl, cell_heap ((hb.block _ (blk_lt HG)).trans HG) rfl, h2 1 _ (by omega) (by simp [sheetsC, List.getElem?_eq_getElem hil, sheetC, hcv]), by rw [← hcv]; exact hcs, hb2⟩)
  rw [hW] at C R1
  have hni : ¬ (i : Int) < 0 := by omega
  have hii : (i : Int) < x.sheets.length := by omega
  have HE : (x.sheets[i]?.map (·.cells)).getD [] = x.sheets[i].cells := by simp [List.getElem?_eq_getElem hil]
  rw [hO] at hn
  dsimp only at *
  rw [HE] at hn ⊢
  clear h HB HG hW hs1 hs2 C0 HE
  generalize x.sheets[i].cells = T at *
  generalize hG : inF T r1 c1 r2 c2 = gt
  have HO2 : Hid (T.filter (ibxB r1 c1 r2 c2) = gt) := hG
  clear hG
  go_enter Tryz.func35, Tryz.ntmps35
  go_wp2_with (first
   | (refine wpList_load_run rfl 26 _ rfl _ _ rfl R1.out ?_; clear R1)
   | (go_at_call 21; refine C.mono ?_; clear C; rintro e w2 ⟨rfl, a2, q, d, rfl, d0, d1, HT, HBw⟩))
  have hhi2 : hi ≤ w2.heap.size := Nat.le_trans hhi HBw.out.size
  go_loopw [14, 29] (fun v i wr => ∃ (k : Nat), k ≤ T.length ∧ i = .int .i64 (k : Nat) ∧ Hid (OwnM w2.heap.size wr v ((T.take k).filter (ibxB r1 c1 r2 c2))) ∧ Hid (Below w2.heap.size w2 wr)) (fun _ i _ => T.length - (intOf i).toNat)
  case atStart => exact ⟨0, Nat.zero_le _, rfl, OwnM.nil _ _, Below.refl _ _⟩
  case round =>
   obtain ⟨k, hk, rfl, HW, HD⟩ := hrel
   by_cases hkT : k < T.length
   ·have hki : (k : Int) < T.length := by omega
    obtain ⟨a', ov, W', rfl, rfl, hW', R2, R3, R4⟩ := (HT.out.below hhi2 HD.out).runs hkT
    have hbx : W'.heap[wr.heap.size]? = some (.cells (cellC T[k]).toArray 57) := by rw [hW']; exact heap_alloc_new wr _
    obtain ⟨y0, y1, y2⟩ := c_cells hbx
    have HD2 : Hid (Below wr.heap.size wr W') := by rw [hW']; exact Sh.bel_alloc (Below.refl _ _) (Nat.le_refl _) _
    have hlen : ((T.take k).filter (ibxB r1 c1 r2 c2)).length ≤ 1000 := by
     have := List.length_filter_le (ibxB r1 c1 r2 c2) (T.take k)
     rw [List.length_take] at this; omega
    obtain ⟨va, vc, rfl, _⟩ := HW.out.slice
    have HTk : Hid _ := fil_take (q := ibxB r1 c1 r2 c2) hkT
    clear hW' hbx
    generalize hy : T[k] = y at *
    clear hy
    obtain ⟨yr, yc, yt⟩ := y
    dsimp only at *
    by_cases e2 : r1 ≤ yr ∧ yr ≤ r2 ∧ c1 ≤ yc ∧ yc ≤ c2
    ·obtain ⟨hd1, hd2, hd3, hd4⟩ := e2
     have HT2 : Hid ((T.take (k + 1)).filter (ibxB r1 c1 r2 c2) = (T.take k).filter (ibxB r1 c1 r2 c2) ++ [⟨yr, yc, yt⟩]) := by show _ = _; rw [HTk.out]; simp [ibxB, hd1, hd2, hd3, hd4]
     obtain ⟨v', w', RA, o1, _, b1, _⟩ := ownM_cat2 (L := (T.take k).filter (ibxB r1 c1 r2 c2)) (y := ⟨yr, yc, yt⟩) (b := W'.heap.size) (w := W'.alloc (nmO ⟨yr, yc, yt⟩)) (HW.out.below (Sh.bel_step HD2.out HD2.out.size (Sh.bel_alloc (Below.refl _ _) (Nat.le_refl _) _))) (heap_alloc_new W' _) (by omega) (by have := HD.out.size; have := HD2.out.size; simp; omega)
     have RB : Hid _ := nslice_one W' ⟨yr, yc, yt⟩
     have HB2 : Hid (Below w2.heap.size w2 w') := (Sh.bel_step (Sh.bel_step HD.out HD.out.size HD2.out) (Nat.le_trans HD.out.size HD2.out.size) (Sh.bel_alloc (Below.refl _ _) (Nat.le_refl _) _)).trans b1
     have HW2 : Hid (OwnM w2.heap.size w' v' ((T.take (k + 1)).filter (ibxB r1 c1 r2 c2))) := by show OwnM _ _ _ _; rw [HT2.out]; exact o1
     clear HW HTk HT2 o1 b1
     generalize ((T.take k).filter (ibxB r1 c1 r2 c2)).length = fl at *
     go_wp2_with (first
      | (refine wpList_load_run rfl 57 _ rfl _ _ rfl R2.out ?_; clear R2)
      | (refine wpList_store_run rfl 57 _ _ rfl _ _ _ rfl rfl R3.out ?_; clear R3)
      | (refine wpList_load_run rfl 57 _ rfl _ _ rfl R4.out ?_; clear R4)
      | (refine wpl_bslice rfl 27 1 _ rfl _ _ _ (by go_simp) RB.out ?_; clear RB)
      | (at_builtin; refine wpl_append rfl _ _ 27 27 rfl _ _ _ _ rfl rfl RA.out ?_; clear RA))
     go_roundw
     case rel => exact ⟨k + 1, by omega, by go_num, HW2, HB2⟩
     case measure => simp [intOf]; omega
    ·have HT2 : Hid ((T.take (k + 1)).filter (ibxB r1 c1 r2 c2) = (T.take k).filter (ibxB r1 c1 r2 c2)) := by
      show _ = _
      rw [HTk.out, if_neg (by simp only [ibxB, Bool.and_eq_true, decide_eq_true_eq]; omega), List.append_nil]
     have HW2 : Hid (OwnM w2.heap.size W' (.slice va ((T.take k).filter (ibxB r1 c1 r2 c2)).length vc) ((T.take (k + 1)).filter (ibxB r1 c1 r2 c2))) := by show OwnM _ _ _ _; rw [HT2.out]; exact HW.out.below HD2.out
     have HB2 : Hid (Below w2.heap.size w2 W') := Sh.bel_step HD.out HD.out.size HD2.out
     have he : (¬ r1 ≤ yr) ∨ (r1 ≤ yr ∧ ¬ yr ≤ r2) ∨ (r1 ≤ yr ∧ yr ≤ r2 ∧ ¬ c1 ≤ yc) ∨ (r1 ≤ yr ∧ yr ≤ r2 ∧ c1 ≤ yc ∧ ¬ yc ≤ c2) := by omega
     clear HW HTk HT2 R4 e2
     rcases he with f1 | ⟨f1, f2⟩ | ⟨f1, f2, f3⟩ | ⟨f1, f2, f3, f4⟩
     all_goals
      go_wp2_with (first
       | (refine wpList_load_run rfl 57 _ rfl _ _ rfl R2.out ?_; clear R2)
       | (refine wpList_store_run rfl 57 _ _ rfl _ _ _ rfl rfl R3.out ?_; clear R3))
      go_roundw
      case rel => exact ⟨k + 1, by omega, by go_num, HW2, HB2⟩
      case measure => simp [intOf]; omega
   ·have hki : ¬ (k : Int) < T.length := by omega
    have h1 := HW.out
    rw [List.take_of_length_le (by omega), HO2.out] at h1
    have HFIN : Hid _ := h1.base HBw.out.size
    clear h1
    have HFB : Hid (Below w.heap.size w wr) := Sh.bel_step HBw.out HBw.out.size HD.out
    clear HW
    go_wp2
    go_ret
    exact ⟨_, rfl, HFIN.out, HFB.out⟩
end Go.Proofs.YtnibldnfbikipaaGreatDoor.Sh
