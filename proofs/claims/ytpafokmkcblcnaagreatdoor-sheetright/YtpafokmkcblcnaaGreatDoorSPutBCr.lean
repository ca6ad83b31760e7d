/- SPutB. -/
import Derived.Test.YtpafokmkcblcnaaGreatDoorSPutB0Cr
set_option linter.unusedVariables false
set_option linter.unusedSimpArgs false
namespace Go.Proofs.YtpafokmkcblcnaaGreatDoor.Sh
open Go.RowKit Go.Fm
set_option maxRecDepth 100000
set_option maxHeartbeats 16000000 in
theorem put_any {lo hi : Nat} {w : World} {sv nv lv : Value} {x : BookT} (h : BkM lo hi w sv nv lv x) (hhi : hi ≤ w.heap.size) (hz : Small x) (hR : Rises x) (T : Tab9 w) (s : ByteArray) (r c : Int) (t : ByteArray) :
    Calls Tryz.prog 13 #[.agg #[sv, nv, lv], .string s, .int .i64 r, .int .i64 c, .string t] w (PutP w (putE x s r c t) (putAt x ((idxN x.sheets s).getD 0) ⟨r, c, t⟩)) := by
  obtain ⟨sa, sc, rfl, hs1, hs2⟩ := h.sh.slice
  obtain ⟨na, nc, rfl, _, _⟩ := h.nm.slice
  obtain ⟨la, lc, rfl, _, _⟩ := h.lk.slice
  obtain ⟨W, hW⟩ : ∃ W, W = (w.alloc (bkO (.slice sa x.sheets.length sc) (.slice na x.names.length nc) (.slice la x.links.length lc))).alloc (.cells #[.slice none 0 0, .slice none 0 0, .slice none 0 0] 26) := ⟨_, rfl⟩
  have HB0 : Below w.heap.size w W := by rw [hW]; exact Sh.bel_alloc (Sh.bel_alloc (Below.refl _ _) (Nat.le_refl _) _) (Nat.le_refl _) _
  have hX0 : W.heap[w.heap.size]? = some (bkO (.slice sa x.sheets.length sc) (.slice na x.names.length nc) (.slice la x.links.length lc)) := by rw [hW, Below.heap_alloc _ _ _ (by simp)]; exact heap_alloc_new w _
  have hX1 : W.heap[w.heap.size + 1]? = some (.cells #[.slice none 0 0, .slice none 0 0, .slice none 0 0] 26) := by rw [hW]; simpa using heap_alloc_new (w.alloc (bkO (.slice sa x.sheets.length sc) (.slice na x.names.length nc) (.slice la x.links.length lc))) (.cells #[.slice none 0 0, .slice none 0 0, .slice none 0 0] 26)
  have hlen : x.sheets.length ≤ 1000 := hz.sh
  have KX : ∀ u, Below W.heap.size W u → u.heap[w.heap.size]? = some (bkO (.slice sa x.sheets.length sc) (.slice na x.names.length nc) (.slice la x.links.length lc)) ∧ u.heap[w.heap.size + 1]? = some (.cells #[.slice none 0 0, .slice none 0 0, .slice none 0 0] 26) ∧ Below w.heap.size w u := fun u hu => ⟨(hu.block _ (blk_lt hX0)).trans hX0, (hu.block _ (blk_lt hX1)).trans hX1, Sh.bel_step HB0 HB0.size hu⟩
  have C1 : Calls Tryz.prog 20 #[.agg #[.slice sa x.sheets.length sc, .slice na x.names.length nc, .slice la x.links.length lc], .string s] W fun e u => e = .returned (.int .i64 (idxI (idxN x.sheets s))) ∧ Hid (Below W.heap.size W u) := (index_any (h.below hhi HB0) (Nat.le_trans hhi HB0.size) s).mono (by
    rintro e u ⟨rfl, hu⟩
    exact ⟨rfl, hu⟩)
  have C2 : Hid (∀ u, Below W.heap.size W u → Calls Tryz.prog 26 #[.string t] u fun e v => e = .returned (.int .i64 (mayF t)) ∧ Hid (Below W.heap.size W v)) := fun u hu => (may_any t u (T.below (KX u hu).2.2)).mono (by
    rintro e v ⟨rfl, hv⟩
    exact ⟨rfl, Sh.bel_step hu hu.size hv⟩)
  have HERR : Hid (∀ u, Below W.heap.size W u → _) := fun u hu => out_err (KX u hu).2.2 (KX u hu).2.1 (by omega)
  have R0 : Hid _ := ldB hX0
  have HKX : Hid _ := KX
  have HH : Hid (BkM lo hi w (.slice sa x.sheets.length sc) (.slice na x.names.length nc) (.slice la x.links.length lc) x) := h
  have HZz : Hid (Small x) := hz
  have HRR : Hid (Rises x) := hR
  rw [hW] at R0 C1
  rw [← hW] at C1 R0
  have HW : Hid ((w.alloc (bkO (.slice sa x.sheets.length sc) (.slice na x.names.length nc) (.slice la x.links.length lc))).alloc (.cells #[.slice none 0 0, .slice none 0 0, .slice none 0 0] 26) = W) := hW.symm
  clear h HB0 hX0 hX1 hW T hs1 hs2 KX hz hR
  unfold putE
  by_cases h3 : mayF t = 3
  · rw [if_pos h3]
    rw [h3] at C2
    generalize idxI (idxN x.sheets s) = oi at *
    clear h3
    go_enter Tryz.func13, Tryz.ntmps13
    go_wp2_with (first
      | (rw [HW.out]; refine wpList_load_run rfl 26 _ rfl _ _ rfl R0.out ?_)
      | (go_at_call 20; refine C1.mono ?_; clear C1; rintro e w1 ⟨rfl, HB1⟩; have CM := C2.out w1 HB1.out; clear C2)
      | (go_at_call 26; refine CM.mono ?_; clear CM; rintro e w2 ⟨rfl, HB2⟩; obtain ⟨RS, HZ, HBz⟩ := HERR.out w2 HB2.out; clear HERR)
      | (refine wpl_build rfl 26 _ rfl _ _ (by go_simp) (bbuild0 _) ?_)
      | (refine wpList_store_run rfl 26 _ _ rfl _ _ _ rfl rfl RS.out ?_))
    refine bodyPost_ret (res2 rfl rfl HZ.out rfl rfl) rfl ?_
    exact ⟨by rw [if_neg (by decide)]; rfl, HBz.out⟩
  · rw [if_neg h3]
    cases hO : idxN x.sheets s with
    | none =>
      rw [hO] at C1
      simp only [idxI] at C1
      have h3b : ((mayF t) == 3) = false := by simpa using h3
      clear h3
      generalize mayF t = me at *
      go_enter Tryz.func13, Tryz.ntmps13
      go_wp2_with (first
        | (rw [HW.out]; refine wpList_load_run rfl 26 _ rfl _ _ rfl R0.out ?_)
        | (go_at_call 20; refine C1.mono ?_; clear C1; rintro e w1 ⟨rfl, HB1⟩; have CM := C2.out w1 HB1.out; clear C2)
        | (go_at_call 26; refine CM.mono ?_; clear CM; rintro e w2 ⟨rfl, HB2⟩; obtain ⟨RS, HZ, HBz⟩ := HERR.out w2 HB2.out; clear HERR)
        | (refine wpl_build rfl 26 _ rfl _ _ (by go_simp) (bbuild0 _) ?_)
        | (refine wpList_store_run rfl 26 _ _ rfl _ _ _ rfl rfl RS.out ?_))
      refine bodyPost_ret (res2 rfl rfl HZ.out rfl rfl) rfl ?_
      exact ⟨by rw [if_neg (by decide)]; rfl, HBz.out⟩
    | some i =>
      rw [hO] at C1
      simp only [idxI] at C1
      have hil := idx_lt hO
      have hni : decide ((i : Int) < 0) = false := by simp
      have hii : (i : Int) < x.sheets.length := by omega
      have h3b : ((mayF t) == 3) = false := by simpa using h3
      dsimp only [Option.getD]
      clear hO
      by_cases h9 : insB r c = false
      · rw [if_pos h9]
        clear h3
        generalize mayF t = me at *
        go_enter Tryz.func13, Tryz.ntmps13
        go_wp2_with (first
          | (rw [HW.out]; refine wpList_load_run rfl 26 _ rfl _ _ rfl R0.out ?_)
          | (go_at_call 20; refine C1.mono ?_; clear C1; rintro e w1 ⟨rfl, HB1⟩; have CM := C2.out w1 HB1.out; clear C2)
          | (go_at_call 26; refine CM.mono ?_; clear CM; rintro e w2 ⟨rfl, HB2⟩; obtain ⟨RS, HZ, HBz⟩ := HERR.out w2 HB2.out; clear HERR)
          | (go_at_call 56; refine (inside_any _ _ _).mono ?_; rintro e w' ⟨rfl, hw⟩; obtain rfl := hw.symm; clear hw)
          | (refine wpl_build rfl 26 _ rfl _ _ (by go_simp) (bbuild0 _) ?_)
          | (refine wpList_store_run rfl 26 _ _ rfl _ _ _ rfl rfl RS.out ?_))
        refine bodyPost_ret (res2 rfl rfl HZ.out rfl rfl) rfl ?_
        exact ⟨by rw [if_neg (by decide)]; rfl, HBz.out⟩
      · rw [if_neg h9]
        have h9t : insB r c = true := by simpa using h9
        clear h9
        by_cases h10 : mayF t ≠ 0
        · rw [if_pos h10]
          have h10b : ((mayF t) != 0) = true := by simpa using h10
          have HM : Hid (¬ mayF t = 0) := h10
          clear h3 h10
          generalize mayF t = me at *
          go_enter Tryz.func13, Tryz.ntmps13
          go_wp2_with (first
            | (rw [HW.out]; refine wpList_load_run rfl 26 _ rfl _ _ rfl R0.out ?_)
            | (go_at_call 20; refine C1.mono ?_; clear C1; rintro e w1 ⟨rfl, HB1⟩; have CM := C2.out w1 HB1.out; clear C2)
            | (go_at_call 26; refine CM.mono ?_; clear CM; rintro e w2 ⟨rfl, HB2⟩; obtain ⟨RS, HZ, HBz⟩ := HERR.out w2 HB2.out; clear HERR)
            | (go_at_call 56; refine (inside_any _ _ _).mono ?_; rintro e w' ⟨rfl, hw⟩; obtain rfl := hw.symm; clear hw)
            | (refine wpl_build rfl 26 _ rfl _ _ (by go_simp) (bbuild0 _) ?_)
            | (refine wpList_store_run rfl 26 _ _ rfl _ _ _ rfl rfl RS.out ?_))
          refine bodyPost_ret (res2 rfl rfl HZ.out rfl rfl) rfl ?_
          exact ⟨by rw [if_neg HM.out]; rfl, HBz.out⟩
        · rw [if_neg h10]
          have h100 : mayF t = 0 := by simpa using h10
          rw [h100] at C2
          clear h3 h3b h10 h100
          obtain ⟨cv, hr, hcc⟩ := HH.out.sh
          obtain ⟨a', rfl, _, _⟩ := Rws.at hr hil
          obtain ⟨q, d, hcv, _, _⟩ := (hcc i _ (List.getElem?_eq_getElem hil)).slice
          have HCE : Hid (∀ u, Below W.heap.size W u → u.cell? ⟨(a'.add (i * 2)).block, (a'.add (i * 2)).off + 1, none⟩ = some (.slice q x.sheets[i].cells.length d) ∧ Cls lo hi u (.slice q x.sheets[i].cells.length d) x.sheets[i].cells) := fun u hu => by
            have hub := (HKX.out u hu).2.2
            have hr2 := hr.kept (w' := u) fun k _ hk => hub.block k (by omega)
            obtain ⟨a2, e2, _, g2⟩ := Rws.at hr2 hil
            cases e2
            refine ⟨g2 1 _ (by omega) (by simp [sheetsC, List.getElem?_eq_getElem hil, sheetC, hcv]), ?_⟩
            have := (hcc i _ (List.getElem?_eq_getElem hil)).below hhi hub
            rw [hcv] at this
            exact this
          have C3 : Hid (∀ u, Below W.heap.size W u → Calls Tryz.prog 24 #[.agg #[.slice (some a') x.sheets.length sc, .slice na x.names.length nc, .slice la x.links.length lc]] u fun e v => e = .returned (.int .i64 (cntL x.sheets : Nat)) ∧ v.cell? ⟨w.heap.size, 0, none⟩ = some (.slice (some a') x.sheets.length sc) ∧ v.cell? ⟨(a'.add (i * 2)).block, (a'.add (i * 2)).off + 1, none⟩ = some (.slice q x.sheets[i].cells.length d) ∧ Hid (Below W.heap.size W v)) := fun u hu =>
            (count_any (HH.out.below hhi (HKX.out u hu).2.2) (Nat.le_trans hhi (HKX.out u hu).2.2.size) (by have := cnt_small HZz.out; omega)).mono (by
              rintro e v ⟨rfl, hv⟩
              have hv2 := Sh.bel_step hu hu.size hv
              exact ⟨rfl, cell_heap (HKX.out v hv2).1 rfl, (HCE.out v hv2).1, hv2⟩)
          have C4 : Hid (∀ u, Below W.heap.size W u → Calls Tryz.prog 57 #[.slice q x.sheets[i].cells.length d, .int .i64 r, .int .i64 c] u fun e v => e = .returned (.bool (x.sheets[i].cells.any (atB r c))) ∧ Hid (Below W.heap.size W v)) := fun u hu =>
            (has_any (HCE.out u hu).2 (Nat.le_trans hhi (HKX.out u hu).2.2.size) (HZz.out.cl _ (List.getElem_mem hil)) (HRR.out _ (List.getElem_mem hil)) r c).mono (by
              rintro e v ⟨rfl, hv⟩
              exact ⟨rfl, Sh.bel_step hu hu.size hv⟩)
          have C5 : Hid (∀ u, Below W.heap.size W u → Calls Tryz.prog 17 #[.agg #[.slice (some a') x.sheets.length sc, .slice na x.names.length nc, .slice la x.links.length lc]] u fun e v => ∃ gs gn gl, e = .returned (.agg #[newS gs x.sheets.length, newS gn x.names.length, newS gl x.links.length]) ∧ (v.alloc (.cells #[newS gs x.sheets.length, newS gn x.names.length, newS gl x.links.length] 26)).cell? ⟨v.heap.size, 0, none⟩ = some (newS gs x.sheets.length) ∧ (v.alloc (.cells #[newS gs x.sheets.length, newS gn x.names.length, newS gl x.links.length] 26)).cell? ⟨gs, i * 2 + 1, none⟩ = some (newS (gs + 1 + i) x.sheets[i].cells.length) ∧
              Hid (Calls Tryz.prog 58 #[newS (gs + 1 + i) x.sheets[i].cells.length, cellV ⟨r, c, t⟩] (v.alloc (.cells #[newS gs x.sheets.length, newS gn x.names.length, newS gl x.links.length] 26)) fun e w4 => ∃ pa pn pc w6, e = .returned (.slice pa pn pc) ∧ w4.cell? ⟨gs, i * 2 + 1, none⟩ = some (newS (gs + 1 + i) x.sheets[i].cells.length) ∧ w4.frozen? ⟨gs, i * 2 + 1, none⟩ = false ∧
                Hid ((Instr.loadAt 26 (.pointer (some ⟨v.heap.size, 0, none⟩))).run Tryz.prog (w4.setCell ⟨gs, i * 2 + 1, none⟩ (.slice pa pn pc)) = .ok (.agg #[newS gs x.sheets.length, newS gn x.names.length, newS gl x.links.length]) (w4.setCell ⟨gs, i * 2 + 1, none⟩ (.slice pa pn pc))) ∧
                Hid ((Instr.storeAt 26 (.pointer (some ⟨w.heap.size + 1, 0, none⟩)) (.agg #[newS gs x.sheets.length, newS gn x.names.length, newS gl x.links.length])).run Tryz.prog (w4.setCell ⟨gs, i * 2 + 1, none⟩ (.slice pa pn pc)) = .ok () w6) ∧
                Hid (w6.heap[w.heap.size + 1]? = some (.cells #[newS gs x.sheets.length, newS gn x.names.length, newS gl x.links.length] 26)) ∧
                Hid (OwnB w.heap.size w6 (newS gs x.sheets.length) (newS gn x.names.length) (newS gl x.links.length) (putAt x i ⟨r, c, t⟩)) ∧ Hid (Below w.heap.size w w6))) := fun u hu =>
            (copy_any (HH.out.below hhi (HKX.out u hu).2.2) (Nat.le_trans hhi (HKX.out u hu).2.2.size) HZz.out).mono (by
              rintro e v ⟨⟨gs, gn, gl, rfl, hC⟩, hv⟩
              have hub := (HKX.out u hu).2.2
              have hb1 := hC.b1
              have hx1 := (HKX.out u hu).2.1
              have hl1 := blk_lt hx1
              obtain ⟨V, hV, c1, c2, CC⟩ := put_tail (w := w) (hC.mono hub.size) HZz.out HRR.out hil (Sh.bel_step hub hub.size hv) (by omega) ((hv.block _ hl1).trans hx1) ⟨r, c, t⟩
              rw [hV] at c1 c2 CC
              exact ⟨gs, gn, gl, rfl, c1, c2, CC⟩)
          have HFU : Hid (full x i r c t = (!(t.toList == []) && (decide (200 ≤ cntL x.sheets) && !(x.sheets[i].cells.any (atB r c))))) := by
            show _ = _
            unfold full
            simp only [List.getElem?_eq_getElem hil, Option.map_some, Option.getD_some]
          generalize hfu : full x i r c t = fu at *
          clear hr hcc hcv hfu HCE HERR
          generalize x.sheets[i].cells.any (atB r c) = an at *
          generalize x.sheets[i].cells.length = ln at *
          generalize cntL x.sheets = ct at *
          have hi2 : i < 9223372036854775807 := by omega
          clear hil HZz HRR HH
          have BU : Hid (∀ u : World, _) := fun u : World => cbuild3 u r c t
          have HOK : Hid (∀ sv nv lv w6, OwnB w.heap.size w6 sv nv lv (putAt x i ⟨r, c, t⟩) → Below w.heap.size w w6 → PutP w 0 (putAt x i ⟨r, c, t⟩) (.returned (.tuple #[.agg #[sv, nv, lv], .int .i64 0])) w6) := fun sv nv lv w6 h1 h2 => ⟨by rw [if_pos rfl]; exact ⟨_, _, _, rfl, h1⟩, h2⟩
          cases ht : t.toList == [] with
          | true =>
            rw [ht] at HFU
            obtain rfl : fu = false := HFU.out
            clear HFU C3 C4
            rw [if_neg (by decide)]
            generalize PutP w 0 (putAt x i ⟨r, c, t⟩) = Q0 at *
            go_enter Tryz.func13, Tryz.ntmps13
            go_wp2_with (first
              | (rw [HW.out]; refine wpList_load_run rfl 26 _ rfl _ _ rfl R0.out ?_; clear R0)
              | (go_at_call 20; refine C1.mono ?_; clear C1; rintro e w1 ⟨rfl, HB1⟩; have CM := C2.out w1 HB1.out; clear C2)
              | (go_at_call 26; refine CM.mono ?_; clear CM; rintro e w2 ⟨rfl, HB2⟩; obtain ⟨c20, c21, c22⟩ := b_cells (HKX.out _ HB2.out).1)
              | (go_at_call 56; refine (inside_any _ _ _).mono ?_; rintro e w' ⟨rfl, hw⟩; obtain rfl := hw.symm; clear hw)
              | (go_at_call 17; refine (C5.out _ HB2.out).mono ?_; clear C5; rintro e v ⟨gs, gn, gl, rfl, cV, cW, CW⟩)
              | (go_at_call 58; refine CW.out.mono ?_; clear CW; rintro e w5 ⟨pa, pn, pc, w6, rfl, c50, f50, RL6, RS6, HG6, HO6, HB6⟩)
              | ((with_reducible show wpList _ _ _ ({ dst := _, op := Op.load 26 _, type := _, pos := _, after := _, guard := none } :: _) _ _); refine wpList_load_run rfl 26 _ rfl _ _ rfl RL6.out ?_; clear RL6)
              | ((with_reducible show wpList _ _ _ ({ dst := _, op := Op.store 26 _ _, type := _, pos := _, after := _, guard := none } :: _) _ _); refine wpList_store_run rfl 26 _ _ rfl _ _ _ rfl rfl RS6.out ?_; clear RS6))
            refine bodyPost_ret (res2 rfl rfl HG6.out rfl rfl) rfl ?_
            exact HOK.out _ _ _ _ HO6.out HB6.out
          | false =>
            rw [ht] at HFU
            by_cases hct : 200 ≤ ct
            · have hcti : (200 : Int) ≤ ct := by omega
              cases han : an with
              | true =>
                rw [han] at HFU C4
                obtain rfl : fu = false := by rw [HFU.out]; simp
                clear HFU
                rw [if_neg (by decide)]
                generalize PutP w 0 (putAt x i ⟨r, c, t⟩) = Q0 at *
                go_enter Tryz.func13, Tryz.ntmps13
                go_wp2_with (first
                  | (rw [HW.out]; refine wpList_load_run rfl 26 _ rfl _ _ rfl R0.out ?_; clear R0)
                  | (go_at_call 20; refine C1.mono ?_; clear C1; rintro e w1 ⟨rfl, HB1⟩; have CM := C2.out w1 HB1.out; clear C2)
                  | (go_at_call 26; refine CM.mono ?_; clear CM; rintro e w2 ⟨rfl, HB2⟩; obtain ⟨c20, c21, c22⟩ := b_cells (HKX.out _ HB2.out).1)
                  | (go_at_call 56; refine (inside_any _ _ _).mono ?_; rintro e w' ⟨rfl, hw⟩; obtain rfl := hw.symm; clear hw)
                  | (go_at_call 24; refine (C3.out _ HB2.out).mono ?_; clear C3; rintro e w3 ⟨rfl, c30, c31, HB3⟩; obtain ⟨_, c32, c33⟩ := b_cells (HKX.out _ HB3.out).1)
                  | (go_at_call 57; refine (C4.out _ HB3.out).mono ?_; clear C4; rintro e w4 ⟨rfl, HB4⟩; obtain ⟨c40, c41, c42⟩ := b_cells (HKX.out _ HB4.out).1)
                  | (go_at_call 17; refine (C5.out _ HB4.out).mono ?_; clear C5; rintro e v ⟨gs, gn, gl, rfl, cV, cW, CW⟩)
                  | (go_at_call 58; refine CW.out.mono ?_; clear CW; rintro e w5 ⟨pa, pn, pc, w6, rfl, c50, f50, RL6, RS6, HG6, HO6, HB6⟩)
                  | ((with_reducible show wpList _ _ _ ({ dst := _, op := Op.load 26 _, type := _, pos := _, after := _, guard := none } :: _) _ _); refine wpList_load_run rfl 26 _ rfl _ _ rfl RL6.out ?_; clear RL6)
                  | ((with_reducible show wpList _ _ _ ({ dst := _, op := Op.store 26 _ _, type := _, pos := _, after := _, guard := none } :: _) _ _); refine wpList_store_run rfl 26 _ _ rfl _ _ _ rfl rfl RS6.out ?_; clear RS6))
                refine bodyPost_ret (res2 rfl rfl HG6.out rfl rfl) rfl ?_
                exact HOK.out _ _ _ _ HO6.out HB6.out
              | false =>
                rw [han] at HFU C4
                obtain rfl : fu = true := by rw [HFU.out]; simp [hct]
                clear HFU
                rw [if_pos rfl]
                have HERR : Hid (∀ u, Below W.heap.size W u → _) := fun u hu => out_err (HKX.out u hu).2.2 (HKX.out u hu).2.1 (Nat.le_succ _)
                go_enter Tryz.func13, Tryz.ntmps13
                go_wp2_with (first
                  | (rw [HW.out]; refine wpList_load_run rfl 26 _ rfl _ _ rfl R0.out ?_)
                  | (go_at_call 20; refine C1.mono ?_; clear C1; rintro e w1 ⟨rfl, HB1⟩; have CM := C2.out w1 HB1.out; clear C2)
                  | (go_at_call 26; refine CM.mono ?_; clear CM; rintro e w2 ⟨rfl, HB2⟩; obtain ⟨c20, c21, c22⟩ := b_cells (HKX.out _ HB2.out).1)
                  | (go_at_call 56; refine (inside_any _ _ _).mono ?_; rintro e w' ⟨rfl, hw⟩; obtain rfl := hw.symm; clear hw)
                  | (go_at_call 24; refine (C3.out _ HB2.out).mono ?_; clear C3; rintro e w3 ⟨rfl, c30, c31, HB3⟩)
                  | (go_at_call 57; refine (C4.out _ HB3.out).mono ?_; clear C4; rintro e w4 ⟨rfl, HB4⟩; obtain ⟨RS, HZ, HBz⟩ := HERR.out w4 HB4.out; clear HERR)
                  | (refine wpl_build rfl 26 _ rfl _ _ (by go_simp) (bbuild0 _) ?_)
                  | (refine wpList_store_run rfl 26 _ _ rfl _ _ _ rfl rfl RS.out ?_))
                refine bodyPost_ret (res2 rfl rfl HZ.out rfl rfl) rfl ?_
                exact ⟨by rw [if_neg (by decide)]; rfl, HBz.out⟩
            · have hcti : ¬ (200 : Int) ≤ ct := by omega
              obtain rfl : fu = false := by rw [HFU.out]; simp [hct]
              clear HFU C4
              rw [if_neg (by decide)]
              generalize PutP w 0 (putAt x i ⟨r, c, t⟩) = Q0 at *
              go_enter Tryz.func13, Tryz.ntmps13
              go_wp2_with (first
                | (rw [HW.out]; refine wpList_load_run rfl 26 _ rfl _ _ rfl R0.out ?_; clear R0)
                | (go_at_call 20; refine C1.mono ?_; clear C1; rintro e w1 ⟨rfl, HB1⟩; have CM := C2.out w1 HB1.out; clear C2)
                | (go_at_call 26; refine CM.mono ?_; clear CM; rintro e w2 ⟨rfl, HB2⟩; obtain ⟨c20, c21, c22⟩ := b_cells (HKX.out _ HB2.out).1)
                | (go_at_call 56; refine (inside_any _ _ _).mono ?_; rintro e w' ⟨rfl, hw⟩; obtain rfl := hw.symm; clear hw)
                | (go_at_call 24; refine (C3.out _ HB2.out).mono ?_; clear C3; rintro e w3 ⟨rfl, c30, c31, HB3⟩; obtain ⟨_, c32, c33⟩ := b_cells (HKX.out _ HB3.out).1)
                | (go_at_call 17; refine (C5.out _ HB3.out).mono ?_; clear C5; rintro e v ⟨gs, gn, gl, rfl, cV, cW, CW⟩)
                | (go_at_call 58; refine CW.out.mono ?_; clear CW; rintro e w5 ⟨pa, pn, pc, w6, rfl, c50, f50, RL6, RS6, HG6, HO6, HB6⟩)
                | ((with_reducible show wpList _ _ _ ({ dst := _, op := Op.load 26 _, type := _, pos := _, after := _, guard := none } :: _) _ _); refine wpList_load_run rfl 26 _ rfl _ _ rfl RL6.out ?_; clear RL6)
                | ((with_reducible show wpList _ _ _ ({ dst := _, op := Op.store 26 _ _, type := _, pos := _, after := _, guard := none } :: _) _ _); refine wpList_store_run rfl 26 _ _ rfl _ _ _ rfl rfl RS6.out ?_; clear RS6))
              refine bodyPost_ret (res2 rfl rfl HG6.out rfl rfl) rfl ?_
              exact HOK.out _ _ _ _ HO6.out HB6.out
end Go.Proofs.YtpafokmkcblcnaaGreatDoor.Sh
