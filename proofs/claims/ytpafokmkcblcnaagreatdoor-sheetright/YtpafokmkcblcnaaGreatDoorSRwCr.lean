/- SRw. -/
import Derived.Test.YtpafokmkcblcnaaGreatDoorSRw2Cr
set_option linter.unusedVariables false
set_option linter.unusedSimpArgs false
namespace Go.Proofs.YtpafokmkcblcnaaGreatDoor.Sh
open Go.RowKit Go.Fm
set_option maxRecDepth 100000
set_option maxHeartbeats 8000000 in
theorem right_any {lo hi lo2 hi2 : Nat} {w : World} {sv nv lv : Value} {x : BookT} (h : BkM lo hi w sv nv lv x) (hhi : hi ≤ w.heap.size) (hN : NamesOk x.sheets) (hC : CellsOk x.sheets) (hn : x.names.length ≤ 1125899906842624) (hk : x.links.length ≤ 1125899906842624)
    {pa : Option Addr} {pc : Nat} {L : List PutT} (hP : Pts lo2 hi2 w (.slice pa L.length pc) L) (hhi2 : hi2 ≤ w.heap.size) (hS : ∀ p ∈ L, p.sh.size ≤ 9223372036854775807) (T : Tab9 w) :
    Calls Tryz.prog 6 #[.agg #[sv, nv, lv], .slice pa L.length pc] w fun e w' => e = .returned (.bool true) ∧ Below w.heap.size w w' := by
  obtain ⟨sa, sc, rfl, hs1, hs2⟩ := h.sh.slice
  obtain ⟨na, nc, rfl, _, _⟩ := h.nm.slice
  obtain ⟨la, lc, rfl, _, _⟩ := h.lk.slice
  obtain ⟨W, hW⟩ : ∃ W, W = w.alloc (bkO (.slice sa x.sheets.length sc) (.slice na x.names.length nc) (.slice la x.links.length lc)) := ⟨_, rfl⟩
  have HB0 : Below w.heap.size w W := by rw [hW]; exact Sh.bel_alloc (Below.refl _ _) (Nat.le_refl _) _
  have hX0 : W.heap[w.heap.size]? = some (bkO (.slice sa x.sheets.length sc) (.slice na x.names.length nc) (.slice la x.links.length lc)) := by rw [hW]; exact heap_alloc_new w _
  have KX : Hid (∀ u, Below W.heap.size W u → u.heap[w.heap.size]? = some (bkO (.slice sa x.sheets.length sc) (.slice na x.names.length nc) (.slice la x.links.length lc)) ∧ BkM lo hi u (.slice sa x.sheets.length sc) (.slice na x.names.length nc) (.slice la x.links.length lc) x ∧ hi ≤ u.heap.size ∧ Tab9 u ∧ Below w.heap.size w u) := fun u hu => by
    have hw := Sh.bel_step HB0 HB0.size hu
    exact ⟨(hu.block _ (blk_lt hX0)).trans hX0, h.below hhi hw, Nat.le_trans hhi hw.size, T.below hw, hw⟩
  obtain ⟨d0, d1, d2⟩ := b_cells hX0
  have C8 := small_any (KX.out W (Below.refl _ _)).2.1 (KX.out W (Below.refl _ _)).2.2.1 hn hk
  rw [hW] at d0 d1 d2
  have HW : Hid (w.alloc (bkO (.slice sa x.sheets.length sc) (.slice na x.names.length nc) (.slice la x.links.length lc)) = W) := hW.symm
  have HP : Hid (Pts lo2 hi2 w (.slice pa L.length pc) L) := hP
  have HT : Hid (Tab9 w) := T
  have HC11 : Hid (∀ u, Below W.heap.size W u → Calls Tryz.prog 11 #[.agg #[.slice sa x.sheets.length sc, .slice na x.names.length nc, .slice la x.links.length lc]] u fun e v => e = .returned (.int .i64 (checkF x.sheets)) ∧ Hid (Below W.heap.size W v)) := fun u hu => (check_any (KX.out u hu).2.1 (KX.out u hu).2.2.1 hN hC (KX.out u hu).2.2.2.1).mono fun e v hh => ⟨hh.1, Sh.bel_step hu hu.size hh.2⟩
  have HC9 : Hid (∀ u, Below W.heap.size W u → Calls Tryz.prog 9 #[] u fun e v => e = .returned (.bool true) ∧ Hid (Below w.heap.size w v)) := fun u hu => (lives_any u (KX.out u hu).2.2.2.1).mono fun e v hh => ⟨hh.1, Sh.bel_step (KX.out u hu).2.2.2.2 (KX.out u hu).2.2.2.2.size hh.2⟩
  have HFI : Hid (checkF x.sheets = 0 → x.names.length + x.links.length < 300 → Fine x) := fun e1 e2 => ⟨check_right.1 e1, by omega, by omega, hN⟩
  have HKI : Hid (∀ u, Below W.heap.size W u → Fine x → RS w u (.slice sa x.sheets.length sc) (.slice na x.names.length nc) (.slice la x.links.length lc) x) := fun u hu hf => ⟨(KX.out u hu).1, ⟨lo, hi, (KX.out u hu).2.1, (KX.out u hu).2.2.1, .inl hhi⟩, hf, (KX.out u hu).2.2.2.2⟩
  have HSZ : Hid (∀ p ∈ L, p.sh.size ≤ 9223372036854775807) := hS
  clear hW HB0 hX0 h hP hN hC hn hk T hS
  go_enter Tryz.func6, Tryz.ntmps6
  go_wp2_with (first
    | (go_at_call 8; rw [HW.out]; refine C8.mono ?_; clear C8; refine Hid.out ?_))
  unfold Hid
  rintro e v ⟨⟨b, rfl, hb1, -⟩, HV⟩
  have HV : Hid _ := HV
  have HB1 : Hid _ := hb1
  clear hb1
  obtain ⟨d0, d1, d2⟩ := b_cells (KX.out _ HV.out).1
  cases hb : b
  · clear HC11 HFI HKI HP HB1
    go_wp2_with (first
      | (go_at_call 9; refine (HC9.out _ HV.out).mono ?_; clear HC9; rintro e v2 ⟨rfl, HV2⟩))
    go_ret
    exact ⟨rfl, HV2.out⟩
  · have hq := HB1.out hb
    by_cases hl : 60 < L.length
    · have hli : (60 : Int) < L.length := by omega
      clear HC11 HFI HKI HP HB1
      go_wp2_with (first
        | (go_at_call 9; refine (HC9.out _ HV.out).mono ?_; clear HC9; rintro e v2 ⟨rfl, HV2⟩))
      go_ret
      exact ⟨rfl, HV2.out⟩
    · have hli : ¬ (60 : Int) < L.length := by omega
      by_cases hck : checkF x.sheets = 0
      · have HF : Hid (Fine x) := HFI.out hck hq
        rw [hck] at HC11
        clear HFI hq HB1 hck
        go_wp2_with (first
          | (go_at_call 11; refine (HC11.out _ HV.out).mono ?_; clear HC11; rintro e v2 ⟨rfl, HV2⟩; have HI : Hid _ := HKI.out _ HV2.out HF.out; clear HKI HF))
        go_loopw [29] (fun i wr => ∃ (k : Nat) (y : BookT) (c1 : Option Addr) (n1 m1 : Nat) (c2 : Option Addr) (n2 m2 : Nat) (c3 : Option Addr) (n3 m3 : Nat), k ≤ L.length ∧ i = .int .i64 (k : Nat) ∧ Hid (RS w wr (.slice c1 n1 m1) (.slice c2 n2 m2) (.slice c3 n3 m3) y)) (fun i _ => L.length - (intOf i).toNat)
        case atStart => exact ⟨0, x, _, _, _, _, _, _, _, _, _, Nat.zero_le _, rfl, HI.out⟩
        case round =>
          obtain ⟨k, y, c1, n1, m1, c2, n2, m2, c3, n3, m3, hkl, rfl, HR⟩ := hrel
          clear HI HV HV2 d0 d1 d2 KX HC9 HW
          by_cases hkL : k < L.length
          · have hki : (k : Int) < L.length := by omega
            obtain ⟨a', ov, V, rfl, rfl, hV, R1, R2, -⟩ := (HP.out.below hhi2 HR.out.bl).runs hkL
            have P0 : Hid (RP w wr.heap.size L[k] V (.slice c1 n1 m1) (.slice c2 n2 m2) (.slice c3 n3 m3) y) := by
              rw [hV]; exact ⟨HR.out.alloc _, heap_alloc_new wr _, blk_lt HR.out.bx⟩
            have hsz : Hid (L[k].sh.size ≤ 9223372036854775807) := HSZ.out _ (List.getElem_mem hkL)
            clear hV HP HR HSZ
            generalize L[k] = p at *
            obtain ⟨⟨g0, g1, g2⟩, g3, g4, g5, g6, g7⟩ := P0.out.cells
            have hk63 : k < 9223372036854775807 := by omega
            have HRT := P0.out.rs.fn.rt.ct
            by_cases h5 : k % 5 = 4
            · have h5i : ((k : Int).tmod 5 == 4) = true := by rw [Int.tmod_eq_emod_of_nonneg (by omega)]; simp; omega
              have C28 : Hid (Calls Tryz.prog 28 #[.agg #[.slice c1 n1 m1, .slice c2 n2 m2, .slice c3 n3 m3], .string p.sh, .int .i64 p.at1, .slice none 0 0] V (PutP V (addE y p.sh p.at1 []) (addAt y p.at1.toNat ⟨p.sh, []⟩))) := P0.out.rs.add HT.out p.sh hsz.out p.at1
              have HFA : Hid (addE y p.sh p.at1 [] = 0 → Fine (addAt y p.at1.toNat ⟨p.sh, []⟩)) := fun e => P0.out.rs.fn.add hsz.out e
              generalize addAt y p.at1.toNat ⟨p.sh, []⟩ = z at *
              generalize addE y p.sh p.at1 [] = er at *
              by_cases h2 : k % 2 = 1
              · have h2i : ((k : Int).tmod 2 == 1) = true := by rw [Int.tmod_eq_emod_of_nonneg (by omega)]; simp; omega
                clear HFA
                have C30 : Hid (∀ v c1' c2' c3', Below V.heap.size V v → _) := fun v c1' c2' c3' hv => P0.out.dropped hv c1' c2' c3'
                by_cases hd : dropE y p.sh = 0
                · rw [hd] at C30
                  go_wp2_with (first
                    | ((with_reducible show wpList _ _ _ ({ dst := _, op := Op.load 29 _, type := _, pos := _, after := _, guard := none } :: _) _ _); refine wpList_load_run rfl 29 _ rfl _ _ rfl R1.out ?_; clear R1)
                    | ((with_reducible show wpList _ _ _ ({ dst := _, op := Op.store 29 _ _, type := _, pos := _, after := _, guard := none } :: _) _ _); refine wpList_store_run rfl 29 _ _ rfl _ _ _ rfl rfl R2.out ?_; clear R2)
                    | (go_at_call 28; refine C28.out.mono ?_; clear C28 g0 g1 g2 g3 g4 g5 g6 g7; rintro e v3 hp; obtain ⟨o1, p1, q1, o2, p2, q2, o3, p3, q3, rfl, HO, HB3⟩ := PutP.any hp; have P4 : Hid _ := (P0.out.step HB3.out).alloc (bkO (.slice o1 p1 q1) (.slice o2 p2 q2) (.slice o3 p3 q3)); obtain ⟨⟨g0, g1, g2⟩, g3, g4, g5, g6, g7⟩ := P4.out.cells; have C31 : Hid _ := C30.out _ (.slice o1 p1 q1) (.slice o2 p2 q2) (.slice o3 p3 q3) HB3.out; clear hp HO HB3 P0 C30)
                    | (go_at_call 30; refine Calls.mono C31.out ?_; clear C31 P4 g0 g1 g2 g3 g4 g5 g6 g7; rintro e v4 ⟨o4, p4, q4, o5, p5, q5, o6, p6, q6, Z1, rfl, RS1, HX1, P4, HD⟩; obtain ⟨⟨g0, g1, g2⟩, g3, g4, g5, g6, g7⟩ := P4.out.cells; obtain ⟨k0, k1, k2⟩ := b_cells HX1.out; obtain ⟨RST, P6⟩ := HD.out trivial; have P6 : Hid _ := P6; clear HD P4; clear g3 g4 g5 g6 g7; obtain ⟨⟨j0, j1, j2⟩, -⟩ := P6.out.cells)
                    | ((with_reducible show wpList _ _ _ ({ dst := _, op := Op.store 26 _ _, type := _, pos := _, after := _, guard := none } :: _) _ _); refine wpList_store_run rfl 26 _ _ rfl _ _ _ rfl rfl RS1.out ?_; clear RS1)
                    | ((with_reducible show wpList _ _ _ ({ dst := _, op := Op.store 26 _ _, type := _, pos := _, after := _, guard := none } :: _) _ _); refine wpList_store_run rfl 26 _ _ rfl _ _ _ rfl rfl RST.out ?_; clear RST; generalize World.setRow _ _ _ = Z at *)
                    | (go_at_call 11; refine (P6.out.rs.check HT.out).mono ?_; rintro e u4 ⟨rfl, hbb⟩; have P5 : Hid _ := P6.out.rs.step hbb; clear hbb))
                  go_roundw
                  case rel => exact ⟨k + 1, _, _, _, _, _, _, _, _, _, _, by omega, by go_num, P5.out⟩
                  case measure => simp [intOf]; omega
                · have hd2 : (dropE y p.sh == 0) = false := by simpa using hd
                  generalize dropE y p.sh = ed at *
                  go_wp2_with (first
                    | ((with_reducible show wpList _ _ _ ({ dst := _, op := Op.load 29 _, type := _, pos := _, after := _, guard := none } :: _) _ _); refine wpList_load_run rfl 29 _ rfl _ _ rfl R1.out ?_; clear R1)
                    | ((with_reducible show wpList _ _ _ ({ dst := _, op := Op.store 29 _ _, type := _, pos := _, after := _, guard := none } :: _) _ _); refine wpList_store_run rfl 29 _ _ rfl _ _ _ rfl rfl R2.out ?_; clear R2)
                    | (go_at_call 28; refine C28.out.mono ?_; clear C28 g0 g1 g2 g3 g4 g5 g6 g7; rintro e v3 hp; obtain ⟨o1, p1, q1, o2, p2, q2, o3, p3, q3, rfl, HO, HB3⟩ := PutP.any hp; have P4 : Hid _ := (P0.out.step HB3.out).alloc (bkO (.slice o1 p1 q1) (.slice o2 p2 q2) (.slice o3 p3 q3)); obtain ⟨⟨g0, g1, g2⟩, g3, g4, g5, g6, g7⟩ := P4.out.cells; have C31 : Hid _ := C30.out _ (.slice o1 p1 q1) (.slice o2 p2 q2) (.slice o3 p3 q3) HB3.out; clear hp HO HB3 P0 C30)
                    | (go_at_call 30; refine Calls.mono C31.out ?_; clear C31 P4 g0 g1 g2 g3 g4 g5 g6 g7; rintro e v4 ⟨o4, p4, q4, o5, p5, q5, o6, p6, q6, Z1, rfl, RS1, HX1, P4, HD⟩; obtain ⟨⟨g0, g1, g2⟩, g3, g4, g5, g6, g7⟩ := P4.out.cells; obtain ⟨k0, k1, k2⟩ := b_cells HX1.out; clear HD)
                    | ((with_reducible show wpList _ _ _ ({ dst := _, op := Op.store 26 _ _, type := _, pos := _, after := _, guard := none } :: _) _ _); refine wpList_store_run rfl 26 _ _ rfl _ _ _ rfl rfl RS1.out ?_; clear RS1)
                    | (go_at_call 11; refine (P4.out.rs.check HT.out).mono ?_; rintro e u4 ⟨rfl, hbb⟩; have P5 : Hid _ := P4.out.rs.step hbb; clear hbb))
                  go_roundw
                  case rel => exact ⟨k + 1, _, _, _, _, _, _, _, _, _, _, by omega, by go_num, P5.out⟩
                  case measure => simp [intOf]; omega
              · have h2i : ((k : Int).tmod 2 == 1) = false := by rw [Int.tmod_eq_emod_of_nonneg (by omega)]; simp; omega
                by_cases ha : er = 0
                · subst ha
                  have HF : Hid (Fine z) := HFA.out rfl
                  clear HFA
                  go_wp2_with (first
                    | ((with_reducible show wpList _ _ _ ({ dst := _, op := Op.load 29 _, type := _, pos := _, after := _, guard := none } :: _) _ _); refine wpList_load_run rfl 29 _ rfl _ _ rfl R1.out ?_; clear R1)
                    | ((with_reducible show wpList _ _ _ ({ dst := _, op := Op.store 29 _ _, type := _, pos := _, after := _, guard := none } :: _) _ _); refine wpList_store_run rfl 29 _ _ rfl _ _ _ rfl rfl R2.out ?_; clear R2)
                    | (go_at_call 28; refine C28.out.mono ?_; clear C28 g0 g1 g2 g3 g4 g5 g6 g7; rintro e v3 hp; obtain ⟨o1, p1, q1, o2, p2, q2, o3, p3, q3, rfl, HO, HB3⟩ := PutP.any hp; obtain ⟨RST, P4⟩ := P0.out.store HF.out (HO.out rfl) HB3.out (z := v3.alloc (bkO (.slice o1 p1 q1) (.slice o2 p2 q2) (.slice o3 p3 q3))) (Sh.bel_alloc (Below.refl _ _) (Nat.le_refl _) _) (by simp [Value.oneCell']); have P4 : Hid _ := P4; obtain ⟨⟨g0, g1, g2⟩, g3, g4, g5, g6, g7⟩ := P4.out.cells; clear hp HO HB3 P0)
                    | ((with_reducible show wpList _ _ _ ({ dst := _, op := Op.store 26 _ _, type := _, pos := _, after := _, guard := none } :: _) _ _); refine wpList_store_run rfl 26 _ _ rfl _ _ _ rfl rfl RST.out ?_; clear RST; generalize World.setRow _ _ _ = Z at *)
                    | (go_at_call 11; refine (P4.out.rs.check HT.out).mono ?_; rintro e u4 ⟨rfl, hbb⟩; have P5 : Hid _ := P4.out.rs.step hbb; clear hbb))
                  go_roundw
                  case rel => exact ⟨k + 1, _, _, _, _, _, _, _, _, _, _, by omega, by go_num, P5.out⟩
                  case measure => simp [intOf]; omega
                · have ha2 : (er == 0) = false := by simpa using ha
                  clear HFA
                  go_wp2_with (first
                    | ((with_reducible show wpList _ _ _ ({ dst := _, op := Op.load 29 _, type := _, pos := _, after := _, guard := none } :: _) _ _); refine wpList_load_run rfl 29 _ rfl _ _ rfl R1.out ?_; clear R1)
                    | ((with_reducible show wpList _ _ _ ({ dst := _, op := Op.store 29 _ _, type := _, pos := _, after := _, guard := none } :: _) _ _); refine wpList_store_run rfl 29 _ _ rfl _ _ _ rfl rfl R2.out ?_; clear R2)
                    | (go_at_call 28; refine C28.out.mono ?_; clear C28 g0 g1 g2 g3 g4 g5 g6 g7; rintro e v3 hp; obtain ⟨o1, p1, q1, o2, p2, q2, o3, p3, q3, rfl, HO, HB3⟩ := PutP.any hp; have P4 : Hid _ := (P0.out.step HB3.out).alloc (bkO (.slice o1 p1 q1) (.slice o2 p2 q2) (.slice o3 p3 q3)); obtain ⟨⟨g0, g1, g2⟩, g3, g4, g5, g6, g7⟩ := P4.out.cells; clear hp HO HB3 P0)
                    | (go_at_call 11; refine (P4.out.rs.check HT.out).mono ?_; rintro e u4 ⟨rfl, hbb⟩; have P5 : Hid _ := P4.out.rs.step hbb; clear hbb))
                  go_roundw
                  case rel => exact ⟨k + 1, _, _, _, _, _, _, _, _, _, _, by omega, by go_num, P5.out⟩
                  case measure => simp [intOf]; omega
            · have h5i : ((k : Int).tmod 5 == 4) = false := by rw [Int.tmod_eq_emod_of_nonneg (by omega)]; simp; omega
              by_cases he : putE y p.sh p.r p.c p.t = 0
              · obtain ⟨hf, ht, hct⟩ := put_all P0.out.rs.fn he
                have HF : Hid _ := hf
                clear hf
                have C13 : Hid (∀ u, RP w wr.heap.size p u (.slice c1 n1 m1) (.slice c2 n2 m2) (.slice c3 n3 m3) y → Calls Tryz.prog 13 #[.agg #[.slice c1 n1 m1, .slice c2 n2 m2, .slice c3 n3 m3], .string p.sh, .int .i64 p.r, .int .i64 p.c, .string p.t] u (PutP u (putE y p.sh p.r p.c p.t) (putAt y ((idxN y.sheets p.sh).getD 0) ⟨p.r, p.c, p.t⟩))) := fun u hu => hu.rs.put HT.out p.sh p.r p.c p.t
                rw [he] at C13
                have C22 : Hid (∀ u, RP w wr.heap.size p u (.slice c1 n1 m1) (.slice c2 n2 m2) (.slice c3 n3 m3) y → Calls Tryz.prog 22 #[.agg #[.slice c1 n1 m1, .slice c2 n2 m2, .slice c3 n3 m3], .string p.sh, .int .i64 p.r, .int .i64 p.c] u fun e v => e = .returned (.string (getL (cellsO y.sheets p.sh) p.r p.c)) ∧ Below u.heap.size u v) := fun u hu => hu.rs.get p.sh p.r p.c
                have C24 : Hid (∀ u, RP w wr.heap.size p u (.slice c1 n1 m1) (.slice c2 n2 m2) (.slice c3 n3 m3) y → Calls Tryz.prog 24 #[.agg #[.slice c1 n1 m1, .slice c2 n2 m2, .slice c3 n3 m3]] u fun e v => e = .returned (.int .i64 (cntL y.sheets : Nat)) ∧ Below u.heap.size u v) := fun u hu => hu.rs.count
                generalize putAt y ((idxN y.sheets p.sh).getD 0) ⟨p.r, p.c, p.t⟩ = z at *
                have D22 : Hid (∀ u a1 a2 a3, RP w wr.heap.size p u a1 a2 a3 z → Calls Tryz.prog 22 #[.agg #[a1, a2, a3], .string p.sh, .int .i64 p.r, .int .i64 p.c] u fun e v => e = .returned (.string p.t) ∧ Hid (RP w wr.heap.size p v a1 a2 a3 z)) := fun u a1 a2 a3 hu => (hu.rs.get p.sh p.r p.c).mono fun e v hh => ⟨by rw [hh.1, ht], hu.step hh.2⟩
                have D24 : Hid (∀ u a1 a2 a3, RP w wr.heap.size p u a1 a2 a3 z → Calls Tryz.prog 24 #[.agg #[a1, a2, a3]] u fun e v => e = .returned (.int .i64 (cntL z.sheets : Nat)) ∧ Hid (RP w wr.heap.size p v a1 a2 a3 z)) := fun u a1 a2 a3 hu => hu.rs.count.mono fun e v hh => ⟨hh.1, hu.step hh.2⟩
                clear ht
                have HZT := HF.out.rt.ct
                generalize getL (cellsO y.sheets p.sh) p.r p.c = wz at *
                generalize cntL y.sheets = cn at *
                generalize cntL z.sheets = cz at *
                rcases Bool.eq_false_or_eq_true (wz.toList == []) with hw | hw <;> rcases Bool.eq_false_or_eq_true (p.t.toList == []) with ht | ht
                · have hw : (wz.toList == []) = true := hw
                  have ht : (p.t.toList == []) = true := ht
                  rw [hw, ht] at hct
                  obtain rfl : cn = cz := by simp at hct; omega
                  have e2 : IntKind.i64.wrap (cn : Int) = (cn : Int) := by rw [IntKind.wrap_i64]; omega
                  clear hct
                  go_wp2_with (first
                    | ((with_reducible show wpList _ _ _ ({ dst := _, op := Op.load 29 _, type := _, pos := _, after := _, guard := none } :: _) _ _); refine wpList_load_run rfl 29 _ rfl _ _ rfl R1.out ?_; clear R1)
                    | ((with_reducible show wpList _ _ _ ({ dst := _, op := Op.store 29 _ _, type := _, pos := _, after := _, guard := none } :: _) _ _); refine wpList_store_run rfl 29 _ _ rfl _ _ _ rfl rfl R2.out ?_; clear R2)
                    | (go_at_call 24; refine (C24.out _ P0.out).mono ?_; clear C24 g0 g1 g2 g3 g4 g5 g6 g7; rintro e v1 ⟨rfl, hbb⟩; have P1 : Hid _ := P0.out.step hbb; clear hbb P0; obtain ⟨⟨g0, g1, g2⟩, g3, g4, g5, g6, g7⟩ := P1.out.cells)
                    | (go_at_call 22; refine (C22.out _ P1.out).mono ?_; clear C22 g0 g1 g2 g3 g4 g5 g6 g7; rintro e v2 ⟨rfl, hbb⟩; have P2 : Hid _ := P1.out.step hbb; clear hbb P1; obtain ⟨⟨g0, g1, g2⟩, g3, g4, g5, g6, g7⟩ := P2.out.cells)
                    | (go_at_call 13; refine (C13.out _ P2.out).mono ?_; clear C13 g0 g1 g2 g3 g4 g5 g6 g7; rintro e v3 hp; obtain ⟨o1, p1, q1, o2, p2, q2, o3, p3, q3, rfl, HO, HB3⟩ := PutP.any hp; obtain ⟨RST, P4⟩ := P2.out.store HF.out (HO.out rfl) HB3.out (z := v3.alloc (bkO (.slice o1 p1 q1) (.slice o2 p2 q2) (.slice o3 p3 q3))) (Sh.bel_alloc (Below.refl _ _) (Nat.le_refl _) _) (by simp [Value.oneCell']); have P4 : Hid _ := P4; obtain ⟨⟨g0, g1, g2⟩, g3, g4, g5, g6, g7⟩ := P4.out.cells; clear hp HO HB3 P2)
                    | ((with_reducible show wpList _ _ _ ({ dst := _, op := Op.store 26 _ _, type := _, pos := _, after := _, guard := none } :: _) _ _); refine wpList_store_run rfl 26 _ _ rfl _ _ _ rfl rfl RST.out ?_; clear RST; generalize World.setRow _ _ _ = Z at *))
                  have HS : Hid _ := P4.out.step (Below.refl _ _).drew
                  refine wp_region_d (fun u => RP w wr.heap.size p u (.slice o1 p1 q1) (.slice o2 p2 q2) (.slice o3 p3 q3) z) (fun j => false) (by kernel_rfl) ?_
                  refine wpAnyD_loadd (i := 0) (v := (.agg #[.slice o1 p1 q1, .slice o2 p2 q2, .slice o3 p3 q3])) rfl rfl (by kernel_rfl) (by kernel_rfl) (by kernel_rfl) (by kernel_rfl) (fun _ _ _ h => h) (by go_simp) (fun u hSu => exec_load rfl rfl (ldB hSu.rs.bx)) HS.out ?_
                  try simp only [Act.put, List.setIfInBounds_toArray, List.set_cons_zero, List.set_cons_succ]
                  refine wpAnyD_pured (i := 1) (v := (.pointer (some ⟨wr.heap.size, 0, none⟩))) rfl rfl (by kernel_rfl) (by kernel_rfl) (by kernel_rfl) (fun _ _ _ h => h) (by go_simp) (by intro u; go_simp) ?_
                  try simp only [Act.put, List.setIfInBounds_toArray, List.set_cons_zero, List.set_cons_succ]
                  refine wpAnyD_loadd (i := 2) (v := (.string p.sh)) rfl rfl (by kernel_rfl) (by kernel_rfl) (by kernel_rfl) (by kernel_rfl) (fun _ _ _ h => h) (by go_simp) (fun u hSu => exec_load rfl rfl (ld1 hSu.cells.2.1 (Tryz.isAgg9 _))) HS.out ?_
                  try simp only [Act.put, List.setIfInBounds_toArray, List.set_cons_zero, List.set_cons_succ]
                  refine wpAnyD_pured (i := 3) (v := (.pointer (some ⟨wr.heap.size, 1, none⟩))) rfl rfl (by kernel_rfl) (by kernel_rfl) (by kernel_rfl) (fun _ _ _ h => h) (by go_simp) (by intro u; go_simp) ?_
                  try simp only [Act.put, List.setIfInBounds_toArray, List.set_cons_zero, List.set_cons_succ]
                  refine wpAnyD_loadd (i := 4) (v := (.int .i64 p.r)) rfl rfl (by kernel_rfl) (by kernel_rfl) (by kernel_rfl) (by kernel_rfl) (fun _ _ _ h => h) (by go_simp) (fun u hSu => exec_load rfl rfl (ld1 hSu.cells.2.2.1 (Tryz.isAgg3 _))) HS.out ?_
                  try simp only [Act.put, List.setIfInBounds_toArray, List.set_cons_zero, List.set_cons_succ]
                  refine wpAnyD_pured (i := 5) (v := (.pointer (some ⟨wr.heap.size, 2, none⟩))) rfl rfl (by kernel_rfl) (by kernel_rfl) (by kernel_rfl) (fun _ _ _ h => h) (by go_simp) (by intro u; go_simp) ?_
                  try simp only [Act.put, List.setIfInBounds_toArray, List.set_cons_zero, List.set_cons_succ]
                  refine wpAnyD_loadd (i := 6) (v := (.int .i64 p.c)) rfl rfl (by kernel_rfl) (by kernel_rfl) (by kernel_rfl) (by kernel_rfl) (fun _ _ _ h => h) (by go_simp) (fun u hSu => exec_load rfl rfl (ld1 hSu.cells.2.2.2.1 (Tryz.isAgg3 _))) HS.out ?_
                  try simp only [Act.put, List.setIfInBounds_toArray, List.set_cons_zero, List.set_cons_succ]
                  refine wpAnyD_pured (i := 8) (v := (.pointer (some ⟨wr.heap.size, 3, none⟩))) rfl rfl (by kernel_rfl) (by kernel_rfl) (by kernel_rfl) (fun _ _ _ h => h) (by go_simp) (by intro u; go_simp) ?_
                  try simp only [Act.put, List.setIfInBounds_toArray, List.set_cons_zero, List.set_cons_succ]
                  refine wpAnyD_loadd (i := 9) (v := (.string p.t)) rfl rfl (by kernel_rfl) (by kernel_rfl) (by kernel_rfl) (by kernel_rfl) (fun _ _ _ h => h) (by go_simp) (fun u hSu => exec_load rfl rfl (ld1 hSu.cells.2.2.2.2.1 (Tryz.isAgg9 _))) HS.out ?_
                  try simp only [Act.put, List.setIfInBounds_toArray, List.set_cons_zero, List.set_cons_succ]
                  refine wpAnyD_one (i := 7) (by kernel_rfl) rfl ?_
                  intro K' hK'
                  go_simp
                  refine (D22.out _ _ _ _ HS.out).mono ?_
                  clear D22 HS
                  rintro e u2 ⟨rfl, HS⟩
                  refine hK' _ _ (.inr fun _ => HS) ?_
                  clear hK'
                  try simp only [Act.put, List.setIfInBounds_toArray, List.set_cons_zero, List.set_cons_succ]
                  refine wpAnyD_pured (i := 10) (v := (.bool false)) rfl rfl (by kernel_rfl) (by kernel_rfl) (by kernel_rfl) (fun _ _ _ h => h) (by go_simp) (by intro u; go_simp) ?_
                  try simp only [Act.put, List.setIfInBounds_toArray, List.set_cons_zero, List.set_cons_succ]
                  refine wpAnyD_pured (i := 11) (v := (.bool false)) rfl rfl (by kernel_rfl) (by kernel_rfl) (by kernel_rfl) (fun _ _ _ h => h) (by go_simp) (by intro u; go_simp) ?_
                  try simp only [Act.put, List.setIfInBounds_toArray, List.set_cons_zero, List.set_cons_succ]
                  refine wpAnyD_loadd (i := 12) (v := (.agg #[.slice o1 p1 q1, .slice o2 p2 q2, .slice o3 p3 q3])) rfl rfl (by kernel_rfl) (by kernel_rfl) (by kernel_rfl) (by kernel_rfl) (fun _ _ _ h => h) (by go_simp) (fun u hSu => exec_load rfl rfl (ldB hSu.rs.bx)) HS.out ?_
                  try simp only [Act.put, List.setIfInBounds_toArray, List.set_cons_zero, List.set_cons_succ]
                  refine wpAnyD_pured (i := 14) (v := (.int .i64 (cn : Nat))) rfl rfl (by kernel_rfl) (by kernel_rfl) (by kernel_rfl) (fun _ _ _ h => h) (by go_simp) (by intro u; go_simp) ?_
                  try simp only [Act.put, List.setIfInBounds_toArray, List.set_cons_zero, List.set_cons_succ]
                  refine wpAnyD_one (i := 13) (by kernel_rfl) rfl ?_
                  intro K' hK'
                  go_simp
                  refine (D24.out _ _ _ _ HS.out).mono ?_
                  clear D24 HS
                  rintro e u3 ⟨rfl, HS⟩
                  refine hK' _ _ (.inr fun _ => HS) ?_
                  clear hK'
                  try simp only [Act.put, List.setIfInBounds_toArray, List.set_cons_zero, List.set_cons_succ]
                  refine wpAnyD_pured (i := 15) (v := (.bool false)) rfl rfl (by kernel_rfl) (by kernel_rfl) (by kernel_rfl) (fun _ _ _ h => h) (by go_simp) (by intro u; go_simp) ?_
                  try simp only [Act.put, List.setIfInBounds_toArray, List.set_cons_zero, List.set_cons_succ]
                  refine wpAnyD_pured (i := 16) (v := (.bool false)) rfl rfl (by kernel_rfl) (by kernel_rfl) (by kernel_rfl) (fun _ _ _ h => h) (by go_simp) (by intro u; go_simp) ?_
                  try simp only [Act.put, List.setIfInBounds_toArray, List.set_cons_zero, List.set_cons_succ]
                  refine wpAnyD_done (by kernel_rfl) ?_ _
                  obtain ⟨⟨g0, g1, g2⟩, g3, g4, g5, g6, g7⟩ := HS.out.cells
                  go_wp2_with (first
                    | (go_at_call 11; refine (HS.out.rs.check HT.out).mono ?_; rintro e u4 ⟨rfl, hbb⟩; have P5 : Hid _ := HS.out.rs.step hbb; clear hbb))
                  go_roundw
                  case rel => exact ⟨k + 1, z, _, _, _, _, _, _, _, _, _, by omega, by go_num, P5.out⟩
                  case measure => simp [intOf]; omega
                · have hw : (wz.toList == []) = true := hw
                  have ht : (p.t.toList == []) = false := ht
                  rw [hw, ht] at hct
                  have e1 : (cn : Int) + 1 = (cz : Int) := by simpa using hct.symm
                  have e2 : IntKind.i64.wrap (cz : Int) = (cz : Int) := by rw [IntKind.wrap_i64]; omega
                  clear hct
                  go_wp2_with (first
                    | ((with_reducible show wpList _ _ _ ({ dst := _, op := Op.load 29 _, type := _, pos := _, after := _, guard := none } :: _) _ _); refine wpList_load_run rfl 29 _ rfl _ _ rfl R1.out ?_; clear R1)
                    | ((with_reducible show wpList _ _ _ ({ dst := _, op := Op.store 29 _ _, type := _, pos := _, after := _, guard := none } :: _) _ _); refine wpList_store_run rfl 29 _ _ rfl _ _ _ rfl rfl R2.out ?_; clear R2)
                    | (go_at_call 24; refine (C24.out _ P0.out).mono ?_; clear C24 g0 g1 g2 g3 g4 g5 g6 g7; rintro e v1 ⟨rfl, hbb⟩; have P1 : Hid _ := P0.out.step hbb; clear hbb P0; obtain ⟨⟨g0, g1, g2⟩, g3, g4, g5, g6, g7⟩ := P1.out.cells)
                    | (go_at_call 22; refine (C22.out _ P1.out).mono ?_; clear C22 g0 g1 g2 g3 g4 g5 g6 g7; rintro e v2 ⟨rfl, hbb⟩; have P2 : Hid _ := P1.out.step hbb; clear hbb P1; obtain ⟨⟨g0, g1, g2⟩, g3, g4, g5, g6, g7⟩ := P2.out.cells)
                    | (go_at_call 13; refine (C13.out _ P2.out).mono ?_; clear C13 g0 g1 g2 g3 g4 g5 g6 g7; rintro e v3 hp; obtain ⟨o1, p1, q1, o2, p2, q2, o3, p3, q3, rfl, HO, HB3⟩ := PutP.any hp; obtain ⟨RST, P4⟩ := P2.out.store HF.out (HO.out rfl) HB3.out (z := v3.alloc (bkO (.slice o1 p1 q1) (.slice o2 p2 q2) (.slice o3 p3 q3))) (Sh.bel_alloc (Below.refl _ _) (Nat.le_refl _) _) (by simp [Value.oneCell']); have P4 : Hid _ := P4; obtain ⟨⟨g0, g1, g2⟩, g3, g4, g5, g6, g7⟩ := P4.out.cells; clear hp HO HB3 P2)
                    | ((with_reducible show wpList _ _ _ ({ dst := _, op := Op.store 26 _ _, type := _, pos := _, after := _, guard := none } :: _) _ _); refine wpList_store_run rfl 26 _ _ rfl _ _ _ rfl rfl RST.out ?_; clear RST; generalize World.setRow _ _ _ = Z at *))
                  have HS : Hid _ := P4.out.step (Below.refl _ _).drew
                  refine wp_region_d (fun u => RP w wr.heap.size p u (.slice o1 p1 q1) (.slice o2 p2 q2) (.slice o3 p3 q3) z) (fun j => false) (by kernel_rfl) ?_
                  refine wpAnyD_loadd (i := 0) (v := (.agg #[.slice o1 p1 q1, .slice o2 p2 q2, .slice o3 p3 q3])) rfl rfl (by kernel_rfl) (by kernel_rfl) (by kernel_rfl) (by kernel_rfl) (fun _ _ _ h => h) (by go_simp) (fun u hSu => exec_load rfl rfl (ldB hSu.rs.bx)) HS.out ?_
                  try simp only [Act.put, List.setIfInBounds_toArray, List.set_cons_zero, List.set_cons_succ]
                  refine wpAnyD_pured (i := 1) (v := (.pointer (some ⟨wr.heap.size, 0, none⟩))) rfl rfl (by kernel_rfl) (by kernel_rfl) (by kernel_rfl) (fun _ _ _ h => h) (by go_simp) (by intro u; go_simp) ?_
                  try simp only [Act.put, List.setIfInBounds_toArray, List.set_cons_zero, List.set_cons_succ]
                  refine wpAnyD_loadd (i := 2) (v := (.string p.sh)) rfl rfl (by kernel_rfl) (by kernel_rfl) (by kernel_rfl) (by kernel_rfl) (fun _ _ _ h => h) (by go_simp) (fun u hSu => exec_load rfl rfl (ld1 hSu.cells.2.1 (Tryz.isAgg9 _))) HS.out ?_
                  try simp only [Act.put, List.setIfInBounds_toArray, List.set_cons_zero, List.set_cons_succ]
                  refine wpAnyD_pured (i := 3) (v := (.pointer (some ⟨wr.heap.size, 1, none⟩))) rfl rfl (by kernel_rfl) (by kernel_rfl) (by kernel_rfl) (fun _ _ _ h => h) (by go_simp) (by intro u; go_simp) ?_
                  try simp only [Act.put, List.setIfInBounds_toArray, List.set_cons_zero, List.set_cons_succ]
                  refine wpAnyD_loadd (i := 4) (v := (.int .i64 p.r)) rfl rfl (by kernel_rfl) (by kernel_rfl) (by kernel_rfl) (by kernel_rfl) (fun _ _ _ h => h) (by go_simp) (fun u hSu => exec_load rfl rfl (ld1 hSu.cells.2.2.1 (Tryz.isAgg3 _))) HS.out ?_
                  try simp only [Act.put, List.setIfInBounds_toArray, List.set_cons_zero, List.set_cons_succ]
                  refine wpAnyD_pured (i := 5) (v := (.pointer (some ⟨wr.heap.size, 2, none⟩))) rfl rfl (by kernel_rfl) (by kernel_rfl) (by kernel_rfl) (fun _ _ _ h => h) (by go_simp) (by intro u; go_simp) ?_
                  try simp only [Act.put, List.setIfInBounds_toArray, List.set_cons_zero, List.set_cons_succ]
                  refine wpAnyD_loadd (i := 6) (v := (.int .i64 p.c)) rfl rfl (by kernel_rfl) (by kernel_rfl) (by kernel_rfl) (by kernel_rfl) (fun _ _ _ h => h) (by go_simp) (fun u hSu => exec_load rfl rfl (ld1 hSu.cells.2.2.2.1 (Tryz.isAgg3 _))) HS.out ?_
                  try simp only [Act.put, List.setIfInBounds_toArray, List.set_cons_zero, List.set_cons_succ]
                  refine wpAnyD_pured (i := 8) (v := (.pointer (some ⟨wr.heap.size, 3, none⟩))) rfl rfl (by kernel_rfl) (by kernel_rfl) (by kernel_rfl) (fun _ _ _ h => h) (by go_simp) (by intro u; go_simp) ?_
                  try simp only [Act.put, List.setIfInBounds_toArray, List.set_cons_zero, List.set_cons_succ]
                  refine wpAnyD_loadd (i := 9) (v := (.string p.t)) rfl rfl (by kernel_rfl) (by kernel_rfl) (by kernel_rfl) (by kernel_rfl) (fun _ _ _ h => h) (by go_simp) (fun u hSu => exec_load rfl rfl (ld1 hSu.cells.2.2.2.2.1 (Tryz.isAgg9 _))) HS.out ?_
                  try simp only [Act.put, List.setIfInBounds_toArray, List.set_cons_zero, List.set_cons_succ]
                  refine wpAnyD_one (i := 7) (by kernel_rfl) rfl ?_
                  intro K' hK'
                  go_simp
                  refine (D22.out _ _ _ _ HS.out).mono ?_
                  clear D22 HS
                  rintro e u2 ⟨rfl, HS⟩
                  refine hK' _ _ (.inr fun _ => HS) ?_
                  clear hK'
                  try simp only [Act.put, List.setIfInBounds_toArray, List.set_cons_zero, List.set_cons_succ]
                  refine wpAnyD_pured (i := 10) (v := (.bool false)) rfl rfl (by kernel_rfl) (by kernel_rfl) (by kernel_rfl) (fun _ _ _ h => h) (by go_simp) (by intro u; go_simp) ?_
                  try simp only [Act.put, List.setIfInBounds_toArray, List.set_cons_zero, List.set_cons_succ]
                  refine wpAnyD_pured (i := 11) (v := (.bool false)) rfl rfl (by kernel_rfl) (by kernel_rfl) (by kernel_rfl) (fun _ _ _ h => h) (by go_simp) (by intro u; go_simp) ?_
                  try simp only [Act.put, List.setIfInBounds_toArray, List.set_cons_zero, List.set_cons_succ]
                  refine wpAnyD_loadd (i := 12) (v := (.agg #[.slice o1 p1 q1, .slice o2 p2 q2, .slice o3 p3 q3])) rfl rfl (by kernel_rfl) (by kernel_rfl) (by kernel_rfl) (by kernel_rfl) (fun _ _ _ h => h) (by go_simp) (fun u hSu => exec_load rfl rfl (ldB hSu.rs.bx)) HS.out ?_
                  try simp only [Act.put, List.setIfInBounds_toArray, List.set_cons_zero, List.set_cons_succ]
                  refine wpAnyD_pured (i := 14) (v := (.int .i64 (cz : Nat))) rfl rfl (by kernel_rfl) (by kernel_rfl) (by kernel_rfl) (fun _ _ _ h => h) (by go_simp) (by intro u; go_simp) ?_
                  try simp only [Act.put, List.setIfInBounds_toArray, List.set_cons_zero, List.set_cons_succ]
                  refine wpAnyD_one (i := 13) (by kernel_rfl) rfl ?_
                  intro K' hK'
                  go_simp
                  refine (D24.out _ _ _ _ HS.out).mono ?_
                  clear D24 HS
                  rintro e u3 ⟨rfl, HS⟩
                  refine hK' _ _ (.inr fun _ => HS) ?_
                  clear hK'
                  try simp only [Act.put, List.setIfInBounds_toArray, List.set_cons_zero, List.set_cons_succ]
                  refine wpAnyD_pured (i := 15) (v := (.bool false)) rfl rfl (by kernel_rfl) (by kernel_rfl) (by kernel_rfl) (fun _ _ _ h => h) (by go_simp) (by intro u; go_simp) ?_
                  try simp only [Act.put, List.setIfInBounds_toArray, List.set_cons_zero, List.set_cons_succ]
                  refine wpAnyD_pured (i := 16) (v := (.bool false)) rfl rfl (by kernel_rfl) (by kernel_rfl) (by kernel_rfl) (fun _ _ _ h => h) (by go_simp) (by intro u; go_simp) ?_
                  try simp only [Act.put, List.setIfInBounds_toArray, List.set_cons_zero, List.set_cons_succ]
                  refine wpAnyD_done (by kernel_rfl) ?_ _
                  obtain ⟨⟨g0, g1, g2⟩, g3, g4, g5, g6, g7⟩ := HS.out.cells
                  go_wp2_with (first
                    | (go_at_call 11; refine (HS.out.rs.check HT.out).mono ?_; rintro e u4 ⟨rfl, hbb⟩; have P5 : Hid _ := HS.out.rs.step hbb; clear hbb))
                  go_roundw
                  case rel => exact ⟨k + 1, z, _, _, _, _, _, _, _, _, _, by omega, by go_num, P5.out⟩
                  case measure => simp [intOf]; omega
                · have hw : (wz.toList == []) = false := hw
                  have ht : (p.t.toList == []) = true := ht
                  rw [hw, ht] at hct
                  have e1 : (cn : Int) - 1 = (cz : Int) := by simpa using hct.symm
                  have e2 : IntKind.i64.wrap (cz : Int) = (cz : Int) := by rw [IntKind.wrap_i64]; omega
                  clear hct
                  go_wp2_with (first
                    | ((with_reducible show wpList _ _ _ ({ dst := _, op := Op.load 29 _, type := _, pos := _, after := _, guard := none } :: _) _ _); refine wpList_load_run rfl 29 _ rfl _ _ rfl R1.out ?_; clear R1)
                    | ((with_reducible show wpList _ _ _ ({ dst := _, op := Op.store 29 _ _, type := _, pos := _, after := _, guard := none } :: _) _ _); refine wpList_store_run rfl 29 _ _ rfl _ _ _ rfl rfl R2.out ?_; clear R2)
                    | (go_at_call 24; refine (C24.out _ P0.out).mono ?_; clear C24 g0 g1 g2 g3 g4 g5 g6 g7; rintro e v1 ⟨rfl, hbb⟩; have P1 : Hid _ := P0.out.step hbb; clear hbb P0; obtain ⟨⟨g0, g1, g2⟩, g3, g4, g5, g6, g7⟩ := P1.out.cells)
                    | (go_at_call 22; refine (C22.out _ P1.out).mono ?_; clear C22 g0 g1 g2 g3 g4 g5 g6 g7; rintro e v2 ⟨rfl, hbb⟩; have P2 : Hid _ := P1.out.step hbb; clear hbb P1; obtain ⟨⟨g0, g1, g2⟩, g3, g4, g5, g6, g7⟩ := P2.out.cells)
                    | (go_at_call 13; refine (C13.out _ P2.out).mono ?_; clear C13 g0 g1 g2 g3 g4 g5 g6 g7; rintro e v3 hp; obtain ⟨o1, p1, q1, o2, p2, q2, o3, p3, q3, rfl, HO, HB3⟩ := PutP.any hp; obtain ⟨RST, P4⟩ := P2.out.store HF.out (HO.out rfl) HB3.out (z := v3.alloc (bkO (.slice o1 p1 q1) (.slice o2 p2 q2) (.slice o3 p3 q3))) (Sh.bel_alloc (Below.refl _ _) (Nat.le_refl _) _) (by simp [Value.oneCell']); have P4 : Hid _ := P4; obtain ⟨⟨g0, g1, g2⟩, g3, g4, g5, g6, g7⟩ := P4.out.cells; clear hp HO HB3 P2)
                    | ((with_reducible show wpList _ _ _ ({ dst := _, op := Op.store 26 _ _, type := _, pos := _, after := _, guard := none } :: _) _ _); refine wpList_store_run rfl 26 _ _ rfl _ _ _ rfl rfl RST.out ?_; clear RST; generalize World.setRow _ _ _ = Z at *))
                  have HS : Hid _ := P4.out.step (Below.refl _ _).drew
                  refine wp_region_d (fun u => RP w wr.heap.size p u (.slice o1 p1 q1) (.slice o2 p2 q2) (.slice o3 p3 q3) z) (fun j => false) (by kernel_rfl) ?_
                  refine wpAnyD_loadd (i := 0) (v := (.agg #[.slice o1 p1 q1, .slice o2 p2 q2, .slice o3 p3 q3])) rfl rfl (by kernel_rfl) (by kernel_rfl) (by kernel_rfl) (by kernel_rfl) (fun _ _ _ h => h) (by go_simp) (fun u hSu => exec_load rfl rfl (ldB hSu.rs.bx)) HS.out ?_
                  try simp only [Act.put, List.setIfInBounds_toArray, List.set_cons_zero, List.set_cons_succ]
                  refine wpAnyD_pured (i := 1) (v := (.pointer (some ⟨wr.heap.size, 0, none⟩))) rfl rfl (by kernel_rfl) (by kernel_rfl) (by kernel_rfl) (fun _ _ _ h => h) (by go_simp) (by intro u; go_simp) ?_
                  try simp only [Act.put, List.setIfInBounds_toArray, List.set_cons_zero, List.set_cons_succ]
                  refine wpAnyD_loadd (i := 2) (v := (.string p.sh)) rfl rfl (by kernel_rfl) (by kernel_rfl) (by kernel_rfl) (by kernel_rfl) (fun _ _ _ h => h) (by go_simp) (fun u hSu => exec_load rfl rfl (ld1 hSu.cells.2.1 (Tryz.isAgg9 _))) HS.out ?_
                  try simp only [Act.put, List.setIfInBounds_toArray, List.set_cons_zero, List.set_cons_succ]
                  refine wpAnyD_pured (i := 3) (v := (.pointer (some ⟨wr.heap.size, 1, none⟩))) rfl rfl (by kernel_rfl) (by kernel_rfl) (by kernel_rfl) (fun _ _ _ h => h) (by go_simp) (by intro u; go_simp) ?_
                  try simp only [Act.put, List.setIfInBounds_toArray, List.set_cons_zero, List.set_cons_succ]
                  refine wpAnyD_loadd (i := 4) (v := (.int .i64 p.r)) rfl rfl (by kernel_rfl) (by kernel_rfl) (by kernel_rfl) (by kernel_rfl) (fun _ _ _ h => h) (by go_simp) (fun u hSu => exec_load rfl rfl (ld1 hSu.cells.2.2.1 (Tryz.isAgg3 _))) HS.out ?_
                  try simp only [Act.put, List.setIfInBounds_toArray, List.set_cons_zero, List.set_cons_succ]
                  refine wpAnyD_pured (i := 5) (v := (.pointer (some ⟨wr.heap.size, 2, none⟩))) rfl rfl (by kernel_rfl) (by kernel_rfl) (by kernel_rfl) (fun _ _ _ h => h) (by go_simp) (by intro u; go_simp) ?_
                  try simp only [Act.put, List.setIfInBounds_toArray, List.set_cons_zero, List.set_cons_succ]
                  refine wpAnyD_loadd (i := 6) (v := (.int .i64 p.c)) rfl rfl (by kernel_rfl) (by kernel_rfl) (by kernel_rfl) (by kernel_rfl) (fun _ _ _ h => h) (by go_simp) (fun u hSu => exec_load rfl rfl (ld1 hSu.cells.2.2.2.1 (Tryz.isAgg3 _))) HS.out ?_
                  try simp only [Act.put, List.setIfInBounds_toArray, List.set_cons_zero, List.set_cons_succ]
                  refine wpAnyD_pured (i := 8) (v := (.pointer (some ⟨wr.heap.size, 3, none⟩))) rfl rfl (by kernel_rfl) (by kernel_rfl) (by kernel_rfl) (fun _ _ _ h => h) (by go_simp) (by intro u; go_simp) ?_
                  try simp only [Act.put, List.setIfInBounds_toArray, List.set_cons_zero, List.set_cons_succ]
                  refine wpAnyD_loadd (i := 9) (v := (.string p.t)) rfl rfl (by kernel_rfl) (by kernel_rfl) (by kernel_rfl) (by kernel_rfl) (fun _ _ _ h => h) (by go_simp) (fun u hSu => exec_load rfl rfl (ld1 hSu.cells.2.2.2.2.1 (Tryz.isAgg9 _))) HS.out ?_
                  try simp only [Act.put, List.setIfInBounds_toArray, List.set_cons_zero, List.set_cons_succ]
                  refine wpAnyD_one (i := 7) (by kernel_rfl) rfl ?_
                  intro K' hK'
                  go_simp
                  refine (D22.out _ _ _ _ HS.out).mono ?_
                  clear D22 HS
                  rintro e u2 ⟨rfl, HS⟩
                  refine hK' _ _ (.inr fun _ => HS) ?_
                  clear hK'
                  try simp only [Act.put, List.setIfInBounds_toArray, List.set_cons_zero, List.set_cons_succ]
                  refine wpAnyD_pured (i := 10) (v := (.bool false)) rfl rfl (by kernel_rfl) (by kernel_rfl) (by kernel_rfl) (fun _ _ _ h => h) (by go_simp) (by intro u; go_simp) ?_
                  try simp only [Act.put, List.setIfInBounds_toArray, List.set_cons_zero, List.set_cons_succ]
                  refine wpAnyD_pured (i := 11) (v := (.bool false)) rfl rfl (by kernel_rfl) (by kernel_rfl) (by kernel_rfl) (fun _ _ _ h => h) (by go_simp) (by intro u; go_simp) ?_
                  try simp only [Act.put, List.setIfInBounds_toArray, List.set_cons_zero, List.set_cons_succ]
                  refine wpAnyD_loadd (i := 12) (v := (.agg #[.slice o1 p1 q1, .slice o2 p2 q2, .slice o3 p3 q3])) rfl rfl (by kernel_rfl) (by kernel_rfl) (by kernel_rfl) (by kernel_rfl) (fun _ _ _ h => h) (by go_simp) (fun u hSu => exec_load rfl rfl (ldB hSu.rs.bx)) HS.out ?_
                  try simp only [Act.put, List.setIfInBounds_toArray, List.set_cons_zero, List.set_cons_succ]
                  refine wpAnyD_pured (i := 14) (v := (.int .i64 (cz : Nat))) rfl rfl (by kernel_rfl) (by kernel_rfl) (by kernel_rfl) (fun _ _ _ h => h) (by go_simp) (by intro u; go_simp) ?_
                  try simp only [Act.put, List.setIfInBounds_toArray, List.set_cons_zero, List.set_cons_succ]
                  refine wpAnyD_one (i := 13) (by kernel_rfl) rfl ?_
                  intro K' hK'
                  go_simp
                  refine (D24.out _ _ _ _ HS.out).mono ?_
                  clear D24 HS
                  rintro e u3 ⟨rfl, HS⟩
                  refine hK' _ _ (.inr fun _ => HS) ?_
                  clear hK'
                  try simp only [Act.put, List.setIfInBounds_toArray, List.set_cons_zero, List.set_cons_succ]
                  refine wpAnyD_pured (i := 15) (v := (.bool false)) rfl rfl (by kernel_rfl) (by kernel_rfl) (by kernel_rfl) (fun _ _ _ h => h) (by go_simp) (by intro u; go_simp) ?_
                  try simp only [Act.put, List.setIfInBounds_toArray, List.set_cons_zero, List.set_cons_succ]
                  refine wpAnyD_pured (i := 16) (v := (.bool false)) rfl rfl (by kernel_rfl) (by kernel_rfl) (by kernel_rfl) (fun _ _ _ h => h) (by go_simp) (by intro u; go_simp) ?_
                  try simp only [Act.put, List.setIfInBounds_toArray, List.set_cons_zero, List.set_cons_succ]
                  refine wpAnyD_done (by kernel_rfl) ?_ _
                  obtain ⟨⟨g0, g1, g2⟩, g3, g4, g5, g6, g7⟩ := HS.out.cells
                  go_wp2_with (first
                    | (go_at_call 11; refine (HS.out.rs.check HT.out).mono ?_; rintro e u4 ⟨rfl, hbb⟩; have P5 : Hid _ := HS.out.rs.step hbb; clear hbb))
                  go_roundw
                  case rel => exact ⟨k + 1, z, _, _, _, _, _, _, _, _, _, by omega, by go_num, P5.out⟩
                  case measure => simp [intOf]; omega
                · have hw : (wz.toList == []) = false := hw
                  have ht : (p.t.toList == []) = false := ht
                  rw [hw, ht] at hct
                  obtain rfl : cn = cz := by simp at hct; omega
                  have e2 : IntKind.i64.wrap (cn : Int) = (cn : Int) := by rw [IntKind.wrap_i64]; omega
                  clear hct
                  go_wp2_with (first
                    | ((with_reducible show wpList _ _ _ ({ dst := _, op := Op.load 29 _, type := _, pos := _, after := _, guard := none } :: _) _ _); refine wpList_load_run rfl 29 _ rfl _ _ rfl R1.out ?_; clear R1)
                    | ((with_reducible show wpList _ _ _ ({ dst := _, op := Op.store 29 _ _, type := _, pos := _, after := _, guard := none } :: _) _ _); refine wpList_store_run rfl 29 _ _ rfl _ _ _ rfl rfl R2.out ?_; clear R2)
                    | (go_at_call 24; refine (C24.out _ P0.out).mono ?_; clear C24 g0 g1 g2 g3 g4 g5 g6 g7; rintro e v1 ⟨rfl, hbb⟩; have P1 : Hid _ := P0.out.step hbb; clear hbb P0; obtain ⟨⟨g0, g1, g2⟩, g3, g4, g5, g6, g7⟩ := P1.out.cells)
                    | (go_at_call 22; refine (C22.out _ P1.out).mono ?_; clear C22 g0 g1 g2 g3 g4 g5 g6 g7; rintro e v2 ⟨rfl, hbb⟩; have P2 : Hid _ := P1.out.step hbb; clear hbb P1; obtain ⟨⟨g0, g1, g2⟩, g3, g4, g5, g6, g7⟩ := P2.out.cells)
                    | (go_at_call 13; refine (C13.out _ P2.out).mono ?_; clear C13 g0 g1 g2 g3 g4 g5 g6 g7; rintro e v3 hp; obtain ⟨o1, p1, q1, o2, p2, q2, o3, p3, q3, rfl, HO, HB3⟩ := PutP.any hp; obtain ⟨RST, P4⟩ := P2.out.store HF.out (HO.out rfl) HB3.out (z := v3.alloc (bkO (.slice o1 p1 q1) (.slice o2 p2 q2) (.slice o3 p3 q3))) (Sh.bel_alloc (Below.refl _ _) (Nat.le_refl _) _) (by simp [Value.oneCell']); have P4 : Hid _ := P4; obtain ⟨⟨g0, g1, g2⟩, g3, g4, g5, g6, g7⟩ := P4.out.cells; clear hp HO HB3 P2)
                    | ((with_reducible show wpList _ _ _ ({ dst := _, op := Op.store 26 _ _, type := _, pos := _, after := _, guard := none } :: _) _ _); refine wpList_store_run rfl 26 _ _ rfl _ _ _ rfl rfl RST.out ?_; clear RST; generalize World.setRow _ _ _ = Z at *))
                  have HS : Hid _ := P4.out.step (Below.refl _ _).drew
                  refine wp_region_d (fun u => RP w wr.heap.size p u (.slice o1 p1 q1) (.slice o2 p2 q2) (.slice o3 p3 q3) z) (fun j => false) (by kernel_rfl) ?_
                  refine wpAnyD_loadd (i := 0) (v := (.agg #[.slice o1 p1 q1, .slice o2 p2 q2, .slice o3 p3 q3])) rfl rfl (by kernel_rfl) (by kernel_rfl) (by kernel_rfl) (by kernel_rfl) (fun _ _ _ h => h) (by go_simp) (fun u hSu => exec_load rfl rfl (ldB hSu.rs.bx)) HS.out ?_
                  try simp only [Act.put, List.setIfInBounds_toArray, List.set_cons_zero, List.set_cons_succ]
                  refine wpAnyD_pured (i := 1) (v := (.pointer (some ⟨wr.heap.size, 0, none⟩))) rfl rfl (by kernel_rfl) (by kernel_rfl) (by kernel_rfl) (fun _ _ _ h => h) (by go_simp) (by intro u; go_simp) ?_
                  try simp only [Act.put, List.setIfInBounds_toArray, List.set_cons_zero, List.set_cons_succ]
                  refine wpAnyD_loadd (i := 2) (v := (.string p.sh)) rfl rfl (by kernel_rfl) (by kernel_rfl) (by kernel_rfl) (by kernel_rfl) (fun _ _ _ h => h) (by go_simp) (fun u hSu => exec_load rfl rfl (ld1 hSu.cells.2.1 (Tryz.isAgg9 _))) HS.out ?_
                  try simp only [Act.put, List.setIfInBounds_toArray, List.set_cons_zero, List.set_cons_succ]
                  refine wpAnyD_pured (i := 3) (v := (.pointer (some ⟨wr.heap.size, 1, none⟩))) rfl rfl (by kernel_rfl) (by kernel_rfl) (by kernel_rfl) (fun _ _ _ h => h) (by go_simp) (by intro u; go_simp) ?_
                  try simp only [Act.put, List.setIfInBounds_toArray, List.set_cons_zero, List.set_cons_succ]
                  refine wpAnyD_loadd (i := 4) (v := (.int .i64 p.r)) rfl rfl (by kernel_rfl) (by kernel_rfl) (by kernel_rfl) (by kernel_rfl) (fun _ _ _ h => h) (by go_simp) (fun u hSu => exec_load rfl rfl (ld1 hSu.cells.2.2.1 (Tryz.isAgg3 _))) HS.out ?_
                  try simp only [Act.put, List.setIfInBounds_toArray, List.set_cons_zero, List.set_cons_succ]
                  refine wpAnyD_pured (i := 5) (v := (.pointer (some ⟨wr.heap.size, 2, none⟩))) rfl rfl (by kernel_rfl) (by kernel_rfl) (by kernel_rfl) (fun _ _ _ h => h) (by go_simp) (by intro u; go_simp) ?_
                  try simp only [Act.put, List.setIfInBounds_toArray, List.set_cons_zero, List.set_cons_succ]
                  refine wpAnyD_loadd (i := 6) (v := (.int .i64 p.c)) rfl rfl (by kernel_rfl) (by kernel_rfl) (by kernel_rfl) (by kernel_rfl) (fun _ _ _ h => h) (by go_simp) (fun u hSu => exec_load rfl rfl (ld1 hSu.cells.2.2.2.1 (Tryz.isAgg3 _))) HS.out ?_
                  try simp only [Act.put, List.setIfInBounds_toArray, List.set_cons_zero, List.set_cons_succ]
                  refine wpAnyD_pured (i := 8) (v := (.pointer (some ⟨wr.heap.size, 3, none⟩))) rfl rfl (by kernel_rfl) (by kernel_rfl) (by kernel_rfl) (fun _ _ _ h => h) (by go_simp) (by intro u; go_simp) ?_
                  try simp only [Act.put, List.setIfInBounds_toArray, List.set_cons_zero, List.set_cons_succ]
                  refine wpAnyD_loadd (i := 9) (v := (.string p.t)) rfl rfl (by kernel_rfl) (by kernel_rfl) (by kernel_rfl) (by kernel_rfl) (fun _ _ _ h => h) (by go_simp) (fun u hSu => exec_load rfl rfl (ld1 hSu.cells.2.2.2.2.1 (Tryz.isAgg9 _))) HS.out ?_
                  try simp only [Act.put, List.setIfInBounds_toArray, List.set_cons_zero, List.set_cons_succ]
                  refine wpAnyD_one (i := 7) (by kernel_rfl) rfl ?_
                  intro K' hK'
                  go_simp
                  refine (D22.out _ _ _ _ HS.out).mono ?_
                  clear D22 HS
                  rintro e u2 ⟨rfl, HS⟩
                  refine hK' _ _ (.inr fun _ => HS) ?_
                  clear hK'
                  try simp only [Act.put, List.setIfInBounds_toArray, List.set_cons_zero, List.set_cons_succ]
                  refine wpAnyD_pured (i := 10) (v := (.bool false)) rfl rfl (by kernel_rfl) (by kernel_rfl) (by kernel_rfl) (fun _ _ _ h => h) (by go_simp) (by intro u; go_simp) ?_
                  try simp only [Act.put, List.setIfInBounds_toArray, List.set_cons_zero, List.set_cons_succ]
                  refine wpAnyD_pured (i := 11) (v := (.bool false)) rfl rfl (by kernel_rfl) (by kernel_rfl) (by kernel_rfl) (fun _ _ _ h => h) (by go_simp) (by intro u; go_simp) ?_
                  try simp only [Act.put, List.setIfInBounds_toArray, List.set_cons_zero, List.set_cons_succ]
                  refine wpAnyD_loadd (i := 12) (v := (.agg #[.slice o1 p1 q1, .slice o2 p2 q2, .slice o3 p3 q3])) rfl rfl (by kernel_rfl) (by kernel_rfl) (by kernel_rfl) (by kernel_rfl) (fun _ _ _ h => h) (by go_simp) (fun u hSu => exec_load rfl rfl (ldB hSu.rs.bx)) HS.out ?_
                  try simp only [Act.put, List.setIfInBounds_toArray, List.set_cons_zero, List.set_cons_succ]
                  refine wpAnyD_pured (i := 14) (v := (.int .i64 (cn : Nat))) rfl rfl (by kernel_rfl) (by kernel_rfl) (by kernel_rfl) (fun _ _ _ h => h) (by go_simp) (by intro u; go_simp) ?_
                  try simp only [Act.put, List.setIfInBounds_toArray, List.set_cons_zero, List.set_cons_succ]
                  refine wpAnyD_one (i := 13) (by kernel_rfl) rfl ?_
                  intro K' hK'
                  go_simp
                  refine (D24.out _ _ _ _ HS.out).mono ?_
                  clear D24 HS
                  rintro e u3 ⟨rfl, HS⟩
                  refine hK' _ _ (.inr fun _ => HS) ?_
                  clear hK'
                  try simp only [Act.put, List.setIfInBounds_toArray, List.set_cons_zero, List.set_cons_succ]
                  refine wpAnyD_pured (i := 15) (v := (.bool false)) rfl rfl (by kernel_rfl) (by kernel_rfl) (by kernel_rfl) (fun _ _ _ h => h) (by go_simp) (by intro u; go_simp) ?_
                  try simp only [Act.put, List.setIfInBounds_toArray, List.set_cons_zero, List.set_cons_succ]
                  refine wpAnyD_pured (i := 16) (v := (.bool false)) rfl rfl (by kernel_rfl) (by kernel_rfl) (by kernel_rfl) (fun _ _ _ h => h) (by go_simp) (by intro u; go_simp) ?_
                  try simp only [Act.put, List.setIfInBounds_toArray, List.set_cons_zero, List.set_cons_succ]
                  refine wpAnyD_done (by kernel_rfl) ?_ _
                  obtain ⟨⟨g0, g1, g2⟩, g3, g4, g5, g6, g7⟩ := HS.out.cells
                  go_wp2_with (first
                    | (go_at_call 11; refine (HS.out.rs.check HT.out).mono ?_; rintro e u4 ⟨rfl, hbb⟩; have P5 : Hid _ := HS.out.rs.step hbb; clear hbb))
                  go_roundw
                  case rel => exact ⟨k + 1, z, _, _, _, _, _, _, _, _, _, by omega, by go_num, P5.out⟩
                  case measure => simp [intOf]; omega
              · have he2 : (putE y p.sh p.r p.c p.t != 0) = true := by simpa using he
                have C13 : Hid (∀ u, RP w wr.heap.size p u (.slice c1 n1 m1) (.slice c2 n2 m2) (.slice c3 n3 m3) y → Calls Tryz.prog 13 #[.agg #[.slice c1 n1 m1, .slice c2 n2 m2, .slice c3 n3 m3], .string p.sh, .int .i64 p.r, .int .i64 p.c, .string p.t] u (PutP u (putE y p.sh p.r p.c p.t) (putAt y ((idxN y.sheets p.sh).getD 0) ⟨p.r, p.c, p.t⟩))) := fun u hu => hu.rs.put HT.out p.sh p.r p.c p.t
                generalize putE y p.sh p.r p.c p.t = er at *
                go_wp2_with (first
                  | ((with_reducible show wpList _ _ _ ({ dst := _, op := Op.load 29 _, type := _, pos := _, after := _, guard := none } :: _) _ _); refine wpList_load_run rfl 29 _ rfl _ _ rfl R1.out ?_; clear R1)
                  | ((with_reducible show wpList _ _ _ ({ dst := _, op := Op.store 29 _ _, type := _, pos := _, after := _, guard := none } :: _) _ _); refine wpList_store_run rfl 29 _ _ rfl _ _ _ rfl rfl R2.out ?_; clear R2)
                  | (go_at_call 24; refine (P0.out.rs.count).mono ?_; clear g0 g1 g2 g3 g4 g5 g6 g7; rintro e v1 ⟨rfl, hbb⟩; have P1 : Hid _ := P0.out.step hbb; clear hbb P0; obtain ⟨⟨g0, g1, g2⟩, g3, g4, g5, g6, g7⟩ := P1.out.cells)
                  | (go_at_call 22; refine (P1.out.rs.get p.sh p.r p.c).mono ?_; clear g0 g1 g2 g3 g4 g5 g6 g7; rintro e v2 ⟨rfl, hbb⟩; have P2 : Hid _ := P1.out.step hbb; clear hbb P1; obtain ⟨⟨g0, g1, g2⟩, g3, g4, g5, g6, g7⟩ := P2.out.cells)
                  | (go_at_call 13; refine (C13.out _ P2.out).mono ?_; clear C13 g0 g1 g2 g3 g4 g5 g6 g7; rintro e v3 hp; obtain ⟨o1, p1, q1, o2, p2, q2, o3, p3, q3, rfl, HO, HB3⟩ := PutP.any hp; have P3 : Hid _ := P2.out.rs.step HB3.out; clear hp HO HB3 P2))
                go_roundw
                case rel => exact ⟨k + 1, y, _, _, _, _, _, _, _, _, _, by omega, by go_num, P3.out.alloc _⟩
                case measure => simp [intOf]; omega
          · have hki : ¬ (k : Int) < L.length := by omega
            have C9 := lives_any wr (HR.out.tab HT.out)
            go_wp2_with (first
              | (go_at_call 9; refine C9.mono ?_; clear C9; rintro e v2 ⟨rfl, HV2⟩; have HV2 : Hid _ := HV2))
            go_ret
            exact ⟨rfl, Sh.bel_step HR.out.bl HR.out.bl.size HV2.out⟩
      · have hck2 : ¬ checkF x.sheets = 0 := hck
        generalize checkF x.sheets = ck at *
        have hck3 : (ck != 0) = true := by simpa using hck
        clear HFI HKI HP HB1
        go_wp2_with (first
          | (go_at_call 11; refine (HC11.out _ HV.out).mono ?_; clear HC11; rintro e v2 ⟨rfl, HV2⟩)
          | (go_at_call 9; refine (HC9.out _ HV2.out).mono ?_; clear HC9; rintro e v3 ⟨rfl, HV3⟩))
        go_ret
        exact ⟨rfl, HV3.out⟩
end Go.Proofs.YtpafokmkcblcnaaGreatDoor.Sh
