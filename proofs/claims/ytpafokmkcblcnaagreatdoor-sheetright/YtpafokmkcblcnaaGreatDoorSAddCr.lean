/- SAdd. -/
import Derived.Test.YtpafokmkcblcnaaGreatDoorSAdd0Cr
set_option linter.unusedVariables false
set_option linter.unusedSimpArgs false
namespace Go.Proofs.YtpafokmkcblcnaaGreatDoor.Sh
open Go.RowKit Go.Fm
set_option maxRecDepth 100000
theorem ld22 {u : World} {p : Addr} {v : Value} (h : u.cell? p = some v) : (Instr.loadAt 22 (.pointer (some p))).run Tryz.prog u = .ok v u := ld1 h (Tryz.isAgg22 u)
theorem op_bslice {P : Program} {o : Oper} {a : Act} {w w' : World} {K : Act → World → Prop} {Q : Exit → Act → World → Prop} {ty : TypeId} {len : Nat} {xs : Array (Nat × Operand)} {ps : Array (Nat × Value)} {v : Value} (ho : o.op = .buildSlice ty len xs) (hx : (xs.map fun (i, x) => (i, a.eval x)) = ps) (hrun : (Instr.buildSlice ty len ps).run P w = .ok v w') (h : K (a.put o.dst v) w') : Oper.wp P o a w K Q := by
  unfold Oper.wp execOp
  simp only [ho, hx, Sem.run_bind, Sem.run_pure, hrun, Result.andThen_ok]
  exact h
theorem cell_alloc {w : World} {a : Addr} {v : Value} (h : w.cell? a = some v) (o : Obj) : (w.alloc o).cell? a = some v := (World.cell?_of_block (Below.heap_alloc w o _ (World.block_lt_of_cell? w a h))).trans h
set_option maxHeartbeats 8000000 in
theorem add_any {lo hi lo2 hi2 : Nat} {w : World} {sv nv lv : Value} {x : BookT} (h : BkM lo hi w sv nv lv x) (hhi : hi ≤ w.heap.size) (hz : Small x) (T : Tab9 w) (s : ByteArray) (hs : s.size ≤ 9223372036854775807) (at_ : Int) {a : Option Addr} {c : Nat} {L : List CellT} (hL : Cls lo2 hi2 w (.slice a L.length c) L) (hhi2 : hi2 ≤ w.heap.size) (hln : L.length ≤ 1099511627776) :
    Calls Tryz.prog 28 #[.agg #[sv, nv, lv], .string s, .int .i64 at_, .slice a L.length c] w (PutP w (addE x s at_ L) (addAt x at_.toNat ⟨s, L⟩)) := by
  obtain ⟨sa, sc, rfl, hs1, hs2⟩ := h.sh.slice
  obtain ⟨na, nc, rfl, _, _⟩ := h.nm.slice
  obtain ⟨la, lc, rfl, _, _⟩ := h.lk.slice
  obtain ⟨W, hW⟩ : ∃ W, W = (w.alloc (bkO (.slice sa x.sheets.length sc) (.slice na x.names.length nc) (.slice la x.links.length lc))).alloc (.cells #[.slice none 0 0, .slice none 0 0, .slice none 0 0] 26) := ⟨_, rfl⟩
  have HB0 : Below w.heap.size w W := by rw [hW]; exact Sh.bel_alloc (Sh.bel_alloc (Below.refl _ _) (Nat.le_refl _) _) (Nat.le_refl _) _
  have hX0 : W.heap[w.heap.size]? = some (bkO (.slice sa x.sheets.length sc) (.slice na x.names.length nc) (.slice la x.links.length lc)) := by rw [hW, Below.heap_alloc _ _ _ (by simp)]; exact heap_alloc_new w _
  have hX1 : W.heap[w.heap.size + 1]? = some (.cells #[.slice none 0 0, .slice none 0 0, .slice none 0 0] 26) := by rw [hW]; simpa using heap_alloc_new (w.alloc (bkO (.slice sa x.sheets.length sc) (.slice na x.names.length nc) (.slice la x.links.length lc))) (.cells #[.slice none 0 0, .slice none 0 0, .slice none 0 0] 26)
  have hlen : x.sheets.length ≤ 1000 := hz.sh
  have KX : ∀ u, Below W.heap.size W u → u.heap[w.heap.size]? = some (bkO (.slice sa x.sheets.length sc) (.slice na x.names.length nc) (.slice la x.links.length lc)) ∧ u.heap[w.heap.size + 1]? = some (.cells #[.slice none 0 0, .slice none 0 0, .slice none 0 0] 26) ∧ Below w.heap.size w u := fun u hu => ⟨(hu.block _ (blk_lt hX0)).trans hX0, (hu.block _ (blk_lt hX1)).trans hX1, Sh.bel_step HB0 HB0.size hu⟩
  have C76 : Calls Tryz.prog 76 #[.string s] W fun e u => e = .returned (.bool (gnF s.data.toList)) ∧ (u.cell? ⟨w.heap.size, 0, none⟩ = some (.slice sa x.sheets.length sc) ∧ u.cell? ⟨w.heap.size, 1, none⟩ = some (.slice na x.names.length nc) ∧ u.cell? ⟨w.heap.size, 2, none⟩ = some (.slice la x.links.length lc)) ∧ Hid (Below W.heap.size W u) := (goodname_any s hs W (T.below HB0).t.t).mono (by
    rintro e u ⟨rfl, hu⟩
    exact ⟨rfl, b_cells (KX u hu).1, hu⟩)
  have C20 : Hid (∀ u, Below W.heap.size W u → Calls Tryz.prog 20 #[.agg #[.slice sa x.sheets.length sc, .slice na x.names.length nc, .slice la x.links.length lc], .string s] u fun e v => e = .returned (.int .i64 (idxI (idxN x.sheets s))) ∧ (v.cell? ⟨w.heap.size, 0, none⟩ = some (.slice sa x.sheets.length sc) ∧ v.cell? ⟨w.heap.size, 1, none⟩ = some (.slice na x.names.length nc) ∧ v.cell? ⟨w.heap.size, 2, none⟩ = some (.slice la x.links.length lc)) ∧ Hid (Below W.heap.size W v)) := fun u hu => (index_any (h.below hhi (KX u hu).2.2) (Nat.le_trans hhi (KX u hu).2.2.size) s).mono (by
    rintro e v ⟨rfl, hv⟩
    have hv2 := Sh.bel_step hu hu.size hv
    exact ⟨rfl, b_cells (KX v hv2).1, hv2⟩)
  have C77 : Hid (∀ u, Below W.heap.size W u → Calls Tryz.prog 77 #[.slice a L.length c] u fun e v => e = .returned (.bool (laidB L)) ∧ (v.cell? ⟨w.heap.size, 0, none⟩ = some (.slice sa x.sheets.length sc) ∧ v.cell? ⟨w.heap.size, 1, none⟩ = some (.slice na x.names.length nc) ∧ v.cell? ⟨w.heap.size, 2, none⟩ = some (.slice la x.links.length lc)) ∧ Hid (Below W.heap.size W v)) := fun u hu => (laid_any (hL.below hhi2 (KX u hu).2.2) (Nat.le_trans hhi2 (KX u hu).2.2.size)).mono (by
    rintro e v ⟨rfl, hv⟩
    have hv2 := Sh.bel_step hu hu.size hv
    exact ⟨rfl, b_cells (KX v hv2).1, hv2⟩)
  have C55 : Hid (∀ u, Below W.heap.size W u → Calls Tryz.prog 55 #[.slice a L.length c] u fun e v => e = .returned (.int .i64 (textsF L)) ∧ (v.cell? ⟨w.heap.size, 0, none⟩ = some (.slice sa x.sheets.length sc) ∧ v.cell? ⟨w.heap.size, 1, none⟩ = some (.slice na x.names.length nc) ∧ v.cell? ⟨w.heap.size, 2, none⟩ = some (.slice la x.links.length lc)) ∧ Hid (Below W.heap.size W v)) := fun u hu => (texts_any (hL.below hhi2 (KX u hu).2.2) (Nat.le_trans hhi2 (KX u hu).2.2.size) (T.below (KX u hu).2.2)).mono (by
    rintro e v ⟨rfl, hv⟩
    have hv2 := Sh.bel_step hu hu.size hv
    exact ⟨rfl, b_cells (KX v hv2).1, hv2⟩)
  have hcz := cnt_small hz
  have C24 : Hid (∀ u, Below W.heap.size W u → Calls Tryz.prog 24 #[.agg #[.slice sa x.sheets.length sc, .slice na x.names.length nc, .slice la x.links.length lc]] u fun e v => e = .returned (.int .i64 (cntL x.sheets : Nat)) ∧ (v.cell? ⟨w.heap.size, 0, none⟩ = some (.slice sa x.sheets.length sc) ∧ v.cell? ⟨w.heap.size, 1, none⟩ = some (.slice na x.names.length nc) ∧ v.cell? ⟨w.heap.size, 2, none⟩ = some (.slice la x.links.length lc)) ∧ Hid (Below W.heap.size W v)) := fun u hu => (count_any (h.below hhi (KX u hu).2.2) (Nat.le_trans hhi (KX u hu).2.2.size) (by omega)).mono (by
    rintro e v ⟨rfl, hv⟩
    have hv2 := Sh.bel_step hu hu.size hv
    exact ⟨rfl, b_cells (KX v hv2).1, hv2⟩)
  have HERR : Hid (∀ u, Below W.heap.size W u → _) := fun u hu => out_err (KX u hu).2.2 (KX u hu).2.1 (by omega)
  have HKX : Hid _ := KX
  have HH : Hid (BkM lo hi w (.slice sa x.sheets.length sc) (.slice na x.names.length nc) (.slice la x.links.length lc) x) := h
  have HZz : Hid (Small x) := hz
  have HLL : Hid (Cls lo2 hi2 w (.slice a L.length c) L) := hL
  have HW : Hid ((w.alloc (bkO (.slice sa x.sheets.length sc) (.slice na x.names.length nc) (.slice la x.links.length lc))).alloc (.cells #[.slice none 0 0, .slice none 0 0, .slice none 0 0] 26) = W) := hW.symm
  clear h HB0 hX0 hX1 hW hs1 hs2 KX hz T hL hs
  unfold addE
  cases hg : gnF s.data.toList with
  | false =>
    rw [if_pos rfl]
    rw [hg] at C76
    go_enter Tryz.func28, Tryz.ntmps28
    go_wp2_with (first
      | (go_at_call 76; rw [HW.out]; refine C76.mono ?_; clear C76; rintro e w1 ⟨rfl, ⟨c10, c11, c12⟩, HB1⟩; obtain ⟨RS, HZ, HBz⟩ := HERR.out w1 HB1.out; clear HERR)
      | ((with_reducible show wpList _ _ _ ({ dst := _, op := Op.build 26 _, type := _, pos := _, after := _, guard := none } :: _) _ _); refine wpl_build rfl 26 _ rfl _ _ (by go_simp) (bbuild0 _) ?_)
      | ((with_reducible show wpList _ _ _ ({ dst := _, op := Op.store 26 _ _, type := _, pos := _, after := _, guard := none } :: _) _ _); refine wpList_store_run rfl 26 _ _ rfl _ _ _ rfl rfl RS.out ?_))
    refine bodyPost_ret (res2 rfl rfl HZ.out rfl rfl) rfl ?_
    exact ⟨by rw [if_neg (by decide)]; rfl, HBz.out⟩
  | true =>
    rw [if_neg (by decide)]
    rw [hg] at C76
    clear hg
    by_cases h7 : 0 ≤ idxI (idxN x.sheets s)
    · rw [if_pos h7]
      generalize idxI (idxN x.sheets s) = oi at *
      go_enter Tryz.func28, Tryz.ntmps28
      go_wp2_with (first
        | (go_at_call 76; rw [HW.out]; refine C76.mono ?_; clear C76; rintro e w1 ⟨rfl, ⟨c10, c11, c12⟩, HB1⟩)
        | (go_at_call 20; refine (C20.out _ HB1.out).mono ?_; clear C20; rintro e w2 ⟨rfl, ⟨c20, c21, c22⟩, HB2⟩; obtain ⟨RS, HZ, HBz⟩ := HERR.out w2 HB2.out; clear HERR)
        | ((with_reducible show wpList _ _ _ ({ dst := _, op := Op.build 26 _, type := _, pos := _, after := _, guard := none } :: _) _ _); refine wpl_build rfl 26 _ rfl _ _ (by go_simp) (bbuild0 _) ?_)
        | ((with_reducible show wpList _ _ _ ({ dst := _, op := Op.store 26 _ _, type := _, pos := _, after := _, guard := none } :: _) _ _); refine wpList_store_run rfl 26 _ _ rfl _ _ _ rfl rfl RS.out ?_))
      refine bodyPost_ret (res2 rfl rfl HZ.out rfl rfl) rfl ?_
      exact ⟨by rw [if_neg (by decide)]; rfl, HBz.out⟩
    · rw [if_neg h7]
      generalize idxI (idxN x.sheets s) = oi at *
      have h7d : decide (0 ≤ oi) = false := by simpa using h7
      clear h7
      by_cases h9 : at_ < 0 ∨ (x.sheets.length : Int) < at_ ∨ laidB L = false ∨ textsF L ≠ 0
      · rw [if_pos h9]
        by_cases g1 : at_ < 0
        · clear h9
          go_enter Tryz.func28, Tryz.ntmps28
          go_wp2_with (first
            | (go_at_call 76; rw [HW.out]; refine C76.mono ?_; clear C76; rintro e w1 ⟨rfl, ⟨c10, c11, c12⟩, HB1⟩)
            | (go_at_call 20; refine (C20.out _ HB1.out).mono ?_; clear C20; rintro e w2 ⟨rfl, ⟨c20, c21, c22⟩, HB2⟩; obtain ⟨RS, HZ, HBz⟩ := HERR.out w2 HB2.out; clear HERR)
            | ((with_reducible show wpList _ _ _ ({ dst := _, op := Op.build 26 _, type := _, pos := _, after := _, guard := none } :: _) _ _); refine wpl_build rfl 26 _ rfl _ _ (by go_simp) (bbuild0 _) ?_)
            | ((with_reducible show wpList _ _ _ ({ dst := _, op := Op.store 26 _ _, type := _, pos := _, after := _, guard := none } :: _) _ _); refine wpList_store_run rfl 26 _ _ rfl _ _ _ rfl rfl RS.out ?_))
          refine bodyPost_ret (res2 rfl rfl HZ.out rfl rfl) rfl ?_
          exact ⟨by rw [if_neg (by decide)]; rfl, HBz.out⟩
        · have g1d : decide (at_ < 0) = false := by simpa using g1
          by_cases g2 : (x.sheets.length : Int) < at_
          · clear h9 g1
            go_enter Tryz.func28, Tryz.ntmps28
            go_wp2_with (first
              | (go_at_call 76; rw [HW.out]; refine C76.mono ?_; clear C76; rintro e w1 ⟨rfl, ⟨c10, c11, c12⟩, HB1⟩)
              | (go_at_call 20; refine (C20.out _ HB1.out).mono ?_; clear C20; rintro e w2 ⟨rfl, ⟨c20, c21, c22⟩, HB2⟩; obtain ⟨RS, HZ, HBz⟩ := HERR.out w2 HB2.out; clear HERR)
              | ((with_reducible show wpList _ _ _ ({ dst := _, op := Op.build 26 _, type := _, pos := _, after := _, guard := none } :: _) _ _); refine wpl_build rfl 26 _ rfl _ _ (by go_simp) (bbuild0 _) ?_)
              | ((with_reducible show wpList _ _ _ ({ dst := _, op := Op.store 26 _ _, type := _, pos := _, after := _, guard := none } :: _) _ _); refine wpList_store_run rfl 26 _ _ rfl _ _ _ rfl rfl RS.out ?_))
            refine bodyPost_ret (res2 rfl rfl HZ.out rfl rfl) rfl ?_
            exact ⟨by rw [if_neg (by decide)]; rfl, HBz.out⟩
          · have g2d : decide ((x.sheets.length : Int) < at_) = false := by simpa using g2
            cases g3 : laidB L with
            | false =>
              rw [g3] at C77
              clear h9 g1 g2
              go_enter Tryz.func28, Tryz.ntmps28
              go_wp2_with (first
                | (go_at_call 76; rw [HW.out]; refine C76.mono ?_; clear C76; rintro e w1 ⟨rfl, ⟨c10, c11, c12⟩, HB1⟩)
                | (go_at_call 20; refine (C20.out _ HB1.out).mono ?_; clear C20; rintro e w2 ⟨rfl, ⟨c20, c21, c22⟩, HB2⟩)
                | (go_at_call 77; refine (C77.out _ HB2.out).mono ?_; clear C77; rintro e w3 ⟨rfl, ⟨c30, c31, c32⟩, HB3⟩; obtain ⟨RS, HZ, HBz⟩ := HERR.out w3 HB3.out; clear HERR)
                | ((with_reducible show wpList _ _ _ ({ dst := _, op := Op.build 26 _, type := _, pos := _, after := _, guard := none } :: _) _ _); refine wpl_build rfl 26 _ rfl _ _ (by go_simp) (bbuild0 _) ?_)
                | ((with_reducible show wpList _ _ _ ({ dst := _, op := Op.store 26 _ _, type := _, pos := _, after := _, guard := none } :: _) _ _); refine wpList_store_run rfl 26 _ _ rfl _ _ _ rfl rfl RS.out ?_))
              refine bodyPost_ret (res2 rfl rfl HZ.out rfl rfl) rfl ?_
              exact ⟨by rw [if_neg (by decide)]; rfl, HBz.out⟩
            | true =>
              rw [g3] at C77
              have g4 : textsF L ≠ 0 := by
                rcases h9 with e | e | e | e
                · exact absurd e g1
                · exact absurd e g2
                · rw [g3] at e; cases e
                · exact e
              have g4b : (textsF L != 0) = true := by simpa using g4
              generalize textsF L = tf at *
              clear h9 g1 g2 g4
              go_enter Tryz.func28, Tryz.ntmps28
              go_wp2_with (first
                | (go_at_call 76; rw [HW.out]; refine C76.mono ?_; clear C76; rintro e w1 ⟨rfl, ⟨c10, c11, c12⟩, HB1⟩)
                | (go_at_call 20; refine (C20.out _ HB1.out).mono ?_; clear C20; rintro e w2 ⟨rfl, ⟨c20, c21, c22⟩, HB2⟩)
                | (go_at_call 77; refine (C77.out _ HB2.out).mono ?_; clear C77; rintro e w3 ⟨rfl, ⟨c30, c31, c32⟩, HB3⟩)
                | (go_at_call 55; refine (C55.out _ HB3.out).mono ?_; clear C55; rintro e w4 ⟨rfl, ⟨c40, c41, c42⟩, HB4⟩; obtain ⟨RS, HZ, HBz⟩ := HERR.out w4 HB4.out; clear HERR)
                | ((with_reducible show wpList _ _ _ ({ dst := _, op := Op.build 26 _, type := _, pos := _, after := _, guard := none } :: _) _ _); refine wpl_build rfl 26 _ rfl _ _ (by go_simp) (bbuild0 _) ?_)
                | ((with_reducible show wpList _ _ _ ({ dst := _, op := Op.store 26 _ _, type := _, pos := _, after := _, guard := none } :: _) _ _); refine wpList_store_run rfl 26 _ _ rfl _ _ _ rfl rfl RS.out ?_))
              refine bodyPost_ret (res2 rfl rfl HZ.out rfl rfl) rfl ?_
              exact ⟨by rw [if_neg (by decide)]; rfl, HBz.out⟩
      · rw [if_neg h9]
        obtain ⟨j, rfl⟩ : ∃ j : Nat, at_ = (j : Int) := ⟨at_.toNat, by omega⟩
        have hj : j ≤ x.sheets.length := by omega
        have g1d : decide ((j : Int) < 0) = false := by simp
        have g2p : ¬ (x.sheets.length : Int) < (j : Int) := by omega
        have g3 : laidB L = true := by
          cases e : laidB L with
          | true => rfl
          | false => exact absurd (.inr (.inr (.inl e))) h9
        have g4 : textsF L = 0 := Classical.byContradiction fun e => h9 (.inr (.inr (.inr e)))
        rw [g3] at C77
        rw [g4] at C55
        clear h9 g3 g4
        by_cases h15 : 4 ≤ x.sheets.length
        · rw [if_pos h15]
          have h15p : (4 : Int) ≤ (x.sheets.length : Int) := by omega
          clear h15 hj
          have HLN : Hid (x.sheets.length ≤ 1000) := hlen
          go_enter Tryz.func28, Tryz.ntmps28
          go_wp2_with (first
            | (go_at_call 76; rw [HW.out]; refine C76.mono ?_; clear C76; rintro e w1 ⟨rfl, ⟨c10, c11, c12⟩, HB1⟩)
            | (go_at_call 20; refine (C20.out _ HB1.out).mono ?_; clear C20; rintro e w2 ⟨rfl, ⟨c20, c21, c22⟩, HB2⟩)
            | (go_at_call 77; refine (C77.out _ HB2.out).mono ?_; clear C77; rintro e w3 ⟨rfl, ⟨c30, c31, c32⟩, HB3⟩)
            | (go_at_call 55; refine (C55.out _ HB3.out).mono ?_; clear C55; rintro e w4 ⟨rfl, ⟨c40, c41, c42⟩, HB4⟩; obtain ⟨RS, HZ, HBz⟩ := HERR.out w4 HB4.out; clear HERR)
            | ((with_reducible show wpList _ _ _ ({ dst := _, op := Op.build 26 _, type := _, pos := _, after := _, guard := none } :: _) _ _); refine wpl_build rfl 26 _ rfl _ _ (by go_simp) (bbuild0 _) ?_)
            | ((with_reducible show wpList _ _ _ ({ dst := _, op := Op.store 26 _ _, type := _, pos := _, after := _, guard := none } :: _) _ _); refine wpList_store_run rfl 26 _ _ rfl _ _ _ rfl rfl RS.out ?_))
          refine bodyPost_ret (res2 rfl rfl HZ.out rfl rfl) rfl ?_
          exact ⟨by rw [if_neg (by decide)]; rfl, HBz.out⟩
        · rw [if_neg h15]
          have h15p : ¬ (4 : Int) ≤ (x.sheets.length : Int) := by omega
          obtain ⟨q, hq⟩ : ∃ q, q = cntL x.sheets + L.length := ⟨_, rfl⟩
          have e1 : (cntL x.sheets : Int) + (L.length : Int) = (q : Int) := by omega
          have e2 : IntKind.i64.wrap (q : Int) = (q : Int) := by rw [IntKind.wrap_i64]; omega
          rw [← hq]
          by_cases h5 : 200 < q
          · rw [if_pos h5]
            have h5p : (200 : Int) < (q : Int) := by omega
            generalize cntL x.sheets = ct at *
            clear h5 hq hcz hj h15
            go_enter Tryz.func28, Tryz.ntmps28
            go_wp2_with (first
              | (go_at_call 76; rw [HW.out]; refine C76.mono ?_; clear C76; rintro e w1 ⟨rfl, ⟨c10, c11, c12⟩, HB1⟩)
              | (go_at_call 20; refine (C20.out _ HB1.out).mono ?_; clear C20; rintro e w2 ⟨rfl, ⟨c20, c21, c22⟩, HB2⟩)
              | (go_at_call 77; refine (C77.out _ HB2.out).mono ?_; clear C77; rintro e w3 ⟨rfl, ⟨c30, c31, c32⟩, HB3⟩)
              | (go_at_call 55; refine (C55.out _ HB3.out).mono ?_; clear C55; rintro e w4 ⟨rfl, ⟨c40, c41, c42⟩, HB4⟩)
              | (go_at_call 24; refine (C24.out _ HB4.out).mono ?_; clear C24; rintro e w5 ⟨rfl, ⟨c50, c51, c52⟩, HB5⟩; obtain ⟨RS, HZ, HBz⟩ := HERR.out w5 HB5.out; clear HERR)
              | ((with_reducible show wpList _ _ _ ({ dst := _, op := Op.build 26 _, type := _, pos := _, after := _, guard := none } :: _) _ _); refine wpl_build rfl 26 _ rfl _ _ (by go_simp) (bbuild0 _) ?_)
              | ((with_reducible show wpList _ _ _ ({ dst := _, op := Op.store 26 _ _, type := _, pos := _, after := _, guard := none } :: _) _ _); refine wpList_store_run rfl 26 _ _ rfl _ _ _ rfl rfl RS.out ?_))
            refine bodyPost_ret (res2 rfl rfl HZ.out rfl rfl) rfl ?_
            exact ⟨by rw [if_neg (by decide)]; rfl, HBz.out⟩
          · rw [if_neg h5]
            have h5p : ¬ (200 : Int) < (q : Int) := by omega
            have hL2 : L.length ≤ 1000 := by omega
            have C5 : Hid (∀ u, Below W.heap.size W u → Calls Tryz.prog 17 #[.agg #[.slice sa x.sheets.length sc, .slice na x.names.length nc, .slice la x.links.length lc]] u fun e v => ∃ gs gn gl, e = .returned (.agg #[newS gs x.sheets.length, newS gn x.names.length, newS gl x.links.length]) ∧ Hid ((v.alloc (.cells #[newS gs x.sheets.length, newS gn x.names.length, newS gl x.links.length] 26)).drew.cell? ⟨v.heap.size, 0, none⟩ = some (newS gs x.sheets.length)) ∧
      Hid (Calls Tryz.prog 62 #[.slice a L.length c] (v.alloc (.cells #[newS gs x.sheets.length, newS gn x.names.length, newS gl x.links.length] 26)).drew fun e w2 => ∃ gL, e = .returned (newS gL L.length) ∧ w2.cell? ⟨v.heap.size, 0, none⟩ = some (newS gs x.sheets.length) ∧
        Hid (Calls Tryz.prog 78 #[newS gs x.sheets.length, .int .i64 (j : Nat), .slice (some ⟨w2.heap.size, 0, none⟩) 1 1] (w2.alloc (.cells #[.string s, newS gL L.length] 78)) fun e w4 => ∃ pa pn pc w5 w6, e = .returned (.slice pa pn pc) ∧
          Hid ((Instr.storeAt 22 (.pointer (some ⟨v.heap.size, 0, none⟩)) (.slice pa pn pc)).run Tryz.prog w4 = .ok () w5) ∧
          Hid ((Instr.loadAt 26 (.pointer (some ⟨v.heap.size, 0, none⟩))).run Tryz.prog w5 = .ok (.agg #[.slice pa pn pc, newS gn x.names.length, newS gl x.links.length]) w5) ∧
          Hid ((Instr.storeAt 26 (.pointer (some ⟨w.heap.size + 1, 0, none⟩)) (.agg #[.slice pa pn pc, newS gn x.names.length, newS gl x.links.length])).run Tryz.prog w5 = .ok () w6) ∧
          Hid (w6.heap[w.heap.size + 1]? = some (.cells #[.slice pa pn pc, newS gn x.names.length, newS gl x.links.length] 26)) ∧
          Hid (OwnB w.heap.size w6 (.slice pa pn pc) (newS gn x.names.length) (newS gl x.links.length) (addAt x j ⟨s, L⟩)) ∧ Hid (Below w.heap.size w w6)))) := fun u hu =>
              (copy_any (HH.out.below hhi (HKX.out u hu).2.2) (Nat.le_trans hhi (HKX.out u hu).2.2.size) HZz.out).mono (by
                rintro e v ⟨⟨gs, gn, gl, rfl, hC⟩, hv⟩
                have hub := (HKX.out u hu).2.2
                have hb1 := hC.b1
                have hx1 := (HKX.out u hu).2.1
                have hl1 := blk_lt hx1
                obtain ⟨V, hV, c1, CC⟩ := add_tail (w := w) (hC.mono hub.size) HZz.out hj (Sh.bel_step hub hub.size hv) (by omega) ((hv.block _ hl1).trans hx1) s HLL.out hhi2 hL2
                rw [hV] at c1 CC
                exact ⟨gs, gn, gl, rfl, c1, CC⟩)
            have HOK : Hid (∀ sv nv lv w6, OwnB w.heap.size w6 sv nv lv (addAt x j ⟨s, L⟩) → Below w.heap.size w w6 → PutP w 0 (addAt x j ⟨s, L⟩) (.returned (.tuple #[.agg #[sv, nv, lv], .int .i64 0])) w6) := fun sv nv lv w6 h1 h2 => ⟨by rw [if_pos rfl]; exact ⟨_, _, _, rfl, h1⟩, h2⟩
            rw [Int.toNat_natCast]
            generalize PutP w 0 (addAt x j ⟨s, L⟩) = Q0 at *
            generalize cntL x.sheets = ct at *
            clear h5 hq hcz hj h15 HERR HH HZz HLL
            go_enter Tryz.func28, Tryz.ntmps28
            go_wp2_with (first
              | (go_at_call 76; rw [HW.out]; refine C76.mono ?_; clear C76; rintro e w1 ⟨rfl, ⟨c10, c11, c12⟩, HB1⟩)
              | (go_at_call 20; refine (C20.out _ HB1.out).mono ?_; clear C20; rintro e w2 ⟨rfl, ⟨c20, c21, c22⟩, HB2⟩)
              | (go_at_call 77; refine (C77.out _ HB2.out).mono ?_; clear C77; rintro e w3 ⟨rfl, ⟨c30, c31, c32⟩, HB3⟩)
              | (go_at_call 55; refine (C55.out _ HB3.out).mono ?_; clear C55; rintro e w4 ⟨rfl, ⟨c40, c41, c42⟩, HB4⟩)
              | (go_at_call 24; refine (C24.out _ HB4.out).mono ?_; clear C24; rintro e w5 ⟨rfl, ⟨c50, c51, c52⟩, HB5⟩)
              | (go_at_call 17; refine (C5.out _ HB5.out).mono ?_; clear C5; rintro e v ⟨gs, gn, gl, rfl, HS, CW⟩))
            refine wp_region_d (fun u => u.cell? ⟨v.heap.size, 0, none⟩ = some (newS gs x.sheets.length)) (fun j => j == 8 || j == 10) (by kernel_rfl) ?_
            refine wpAnyD_pured (i := 0) (v := (.pointer (some ⟨v.heap.size, 0, none⟩))) rfl rfl (by kernel_rfl) (by kernel_rfl) (by kernel_rfl) (fun _ _ _ h => h) (by go_simp) (by intro u; go_simp) ?_
            try simp only [Act.put, List.setIfInBounds_toArray, List.set_cons_zero, List.set_cons_succ]
            refine wpAnyD_loadd (i := 1) (v := (newS gs x.sheets.length)) rfl rfl (by kernel_rfl) (by kernel_rfl) (by kernel_rfl) (by kernel_rfl) (fun _ _ _ h => h) (by go_simp) (fun u hSu => exec_load rfl rfl (ld22 hSu)) HS.out ?_
            try simp only [Act.put, List.setIfInBounds_toArray, List.set_cons_zero, List.set_cons_succ]
            refine wpAnyD_pured (i := 2) (v := (.int .i64 (j : Int))) rfl rfl (by kernel_rfl) (by kernel_rfl) (by kernel_rfl) (fun _ _ _ h => h) (by go_simp) (by intro u; go_simp) ?_
            try simp only [Act.put, List.setIfInBounds_toArray, List.set_cons_zero, List.set_cons_succ]
            refine wpAnyD_pured (i := 3) (v := (.string s)) rfl rfl (by kernel_rfl) (by kernel_rfl) (by kernel_rfl) (fun _ _ _ h => h) (by go_simp) (by intro u; go_simp) ?_
            try simp only [Act.put, List.setIfInBounds_toArray, List.set_cons_zero, List.set_cons_succ]
            refine wpAnyD_pured (i := 4) (v := (.slice a L.length c)) rfl rfl (by kernel_rfl) (by kernel_rfl) (by kernel_rfl) (fun _ _ _ h => h) (by go_simp) (by intro u; go_simp) ?_
            try simp only [Act.put, List.setIfInBounds_toArray, List.set_cons_zero, List.set_cons_succ]
            refine wpAnyD_one (i := 5) (by kernel_rfl) rfl ?_
            intro K' hK'
            go_simp
            refine CW.out.mono ?_
            clear CW
            rintro e u2 ⟨gL, rfl, HS2, CI⟩
            refine hK' _ _ (.inr fun _ => HS2) ?_
            clear hK'
            try simp only [Act.put, List.setIfInBounds_toArray, List.set_cons_zero, List.set_cons_succ]
            refine wpAnyD_pured (i := 6) (v := (.agg #[.string s, newS gL L.length])) rfl rfl (by kernel_rfl) (by kernel_rfl) (by kernel_rfl) (fun _ _ _ h => h) (by go_simp) (fun u => exec_build rfl (by go_simp) (sbuild u _ _ _ _)) ?_
            try simp only [Act.put, List.setIfInBounds_toArray, List.set_cons_zero, List.set_cons_succ]
            refine wpAnyD_one (i := 7) (by kernel_rfl) rfl ?_
            intro K' hK'
            rw [if_pos (by rfl)]
            refine op_bslice rfl (by go_simp) (sslice_one u2 s (some ⟨gL, 0, none⟩) L.length L.length) ?_
            refine hK' _ _ (.inr fun _ => cell_alloc HS2 _) ?_
            clear hK'
            try simp only [Act.put, List.setIfInBounds_toArray, List.set_cons_zero, List.set_cons_succ]
            refine wpAnyD_one (i := 8) (by kernel_rfl) rfl ?_
            intro K' hK'
            go_simp
            refine CI.out.mono ?_
            clear CI
            rintro e u4 ⟨pa, pn, pc, u5, u6, rfl, RS5, RL6, RS6, HG6, HO6, HB6⟩
            refine hK' _ _ (.inl rfl) ?_
            clear hK'
            try simp only [Act.put, List.setIfInBounds_toArray, List.set_cons_zero, List.set_cons_succ]
            refine wpAnyD_pured (i := 9) (v := (.pointer (some ⟨v.heap.size, 0, none⟩))) rfl rfl (by kernel_rfl) (by kernel_rfl) (by kernel_rfl) (fun _ _ _ h => h) (by go_simp) (by intro u; go_simp) ?_
            try simp only [Act.put, List.setIfInBounds_toArray, List.set_cons_zero, List.set_cons_succ]
            refine wpAnyD_one (i := 10) (by kernel_rfl) rfl ?_
            intro K' hK'
            rw [if_pos (by rfl)]
            refine op_store rfl rfl rfl RS5.out ?_
            refine hK' _ _ (.inl rfl) ?_
            clear hK'
            try simp only [Act.put, List.setIfInBounds_toArray, List.set_cons_zero, List.set_cons_succ]
            refine wpAnyD_done (by kernel_rfl) ?_ _
            go_wp2_with (first
              | ((with_reducible show wpList _ _ _ ({ dst := _, op := Op.load 26 _, type := _, pos := _, after := _, guard := none } :: _) _ _); refine wpList_load_run rfl 26 _ rfl _ _ rfl RL6.out ?_; clear RL6)
              | ((with_reducible show wpList _ _ _ ({ dst := _, op := Op.store 26 _ _, type := _, pos := _, after := _, guard := none } :: _) _ _); refine wpList_store_run rfl 26 _ _ rfl _ _ _ rfl rfl RS6.out ?_; clear RS6))
            refine bodyPost_ret (res2 rfl rfl HG6.out rfl rfl) rfl ?_
            exact HOK.out _ _ _ _ HO6.out HB6.out
end Go.Proofs.YtpafokmkcblcnaaGreatDoor.Sh
