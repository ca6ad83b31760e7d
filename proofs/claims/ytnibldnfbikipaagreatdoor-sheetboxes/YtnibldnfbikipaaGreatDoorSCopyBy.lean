/- SCopy. -/
import Derived.Test.YtnibldnfbikipaaGreatDoorSCopBy
set_option linter.unusedVariables false
set_option linter.unusedSimpArgs false
set_option maxHeartbeats 16000000
set_option maxRecDepth 100000
namespace Go.Proofs.YtnibldnfbikipaaGreatDoor.Sh
open Go.RowKit
structure Small (x : BookT) : Prop where
 sh : x.sheets.length ≤ 1000
 cl : ∀ s ∈ x.sheets, s.cells.length ≤ 1000
 nm : x.names.length ≤ 1000
 lk : x.links.length ≤ 1000
abbrev newS (g n : Nat) : Value := .slice (some ⟨g, 0, none⟩) n n
structure CpB (base : Nat) (w : World) (gs gn gl : Nat) (x : BookT) : Prop where
 row : ∃ cur, w.heap[gs]? = some (.cells cur 78) ∧ cur.size = x.sheets.length * 2 ∧ ∀ j (hj : j < x.sheets.length), cur[j * 2]? = some (.string x.sheets[j].name) ∧ cur[j * 2 + 1]? = some (newS (gs + 1 + j) x.sheets[j].cells.length)
 cls : ∀ j (hj : j < x.sheets.length), w.heap[gs + 1 + j]? = some (.cells (x.sheets[j].cells.flatMap cellC).toArray 57)
 nms : w.heap[gn]? = some (.cells (x.names.flatMap nameC).toArray 89)
 lks : w.heap[gl]? = some (.cells (x.links.flatMap linkC).toArray 91)
 b1 : base ≤ gs
 b2 : gs + 1 + x.sheets.length ≤ gn
 b3 : gs + 1 + x.sheets.length ≤ gl
theorem cls_of {w : World} {g : Nat} {cap : Nat} {cur : Array Value} {z : Nat × Nat} {L : List CellT} (hg : w.heap[g]? = some (.cells cur 57 z)) (hc : cur.toList.take (L.length * 3) = L.flatMap cellC) (hn : L.length ≤ cap) (hm : cap ≤ maxLen) : Cls g (g + 1) w (.slice (some ⟨g, 0, none⟩) L.length cap) L := rws_of cellC_len hg hc hn hm
theorem cls_whole {w : World} {g : Nat} {z : Nat × Nat} {L : List CellT} (hg : w.heap[g]? = some (.cells (L.flatMap cellC).toArray 57 z)) (hm : L.length ≤ maxLen) : Cls g (g + 1) w (newS g L.length) L :=
 cls_of hg (by rw [List.toList_toArray]; exact List.take_of_length_le (by rw [fl_len cellC_len]; omega)) (Nat.le_refl _) hm
theorem le_maxLen {n : Nat} (h : n ≤ 1000) : n ≤ maxLen := by unfold maxLen; omega
theorem row_rws {w : World} {gs cap : Nat} {cur : Array Value} {z : Nat × Nat} {L : List SheetT} {cv : Nat → Value} (hg : w.heap[gs]? = some (.cells cur 78 z)) (hc : ∀ j (hj : j < L.length), cur[j * 2]? = some (.string L[j].name) ∧ cur[j * 2 + 1]? = some (cv j)) (hn : L.length ≤ cap) (hm : cap ≤ maxLen) :
  Rws gs (gs + 1) 2 w (.slice (some ⟨gs, 0, none⟩) L.length cap) L.length (sheetsC L cv) := by
 refine .inr ⟨_, _, rfl, hn, hm, fun _ => ⟨Nat.le_refl _, Nat.lt_succ_self _⟩, fun j i u hj hu => ?_⟩
 have hadd : (⟨gs, 0, none⟩ : Addr).add (j * 2 + i) = ⟨gs, j * 2 + i, none⟩ := by unfold Addr.add; split <;> simp_all
 rw [hadd, cell_of_row w gs _ _ _ _ hg]
 simp only [sheetsC, List.getElem?_eq_getElem hj, Option.map_some, Option.getD_some, sheetC] at hu
 match i, hu with
 | 0, hu => simp at hu; rw [← hu]; exact (hc j hj).1
 | 1, hu => simp at hu; rw [← hu]; exact (hc j hj).2
theorem src_of {α : Type} {enc : α → List Value} {sz lo hi : Nat} {w : World} {a : Option Addr} {c : Nat} {L : List α} (he : ∀ x, (enc x).length = sz) (hsz : 0 < sz) (h : Rws lo hi sz w (.slice a L.length c) L.length fun j => (L[j]?.map enc).getD []) : Src w a L.length c (L.flatMap enc) := by
 rcases a with _ | ad
 ·left
  rcases h with ⟨e, h0⟩ | ⟨_, _, e, _⟩
  ·simp only [Value.slice.injEq] at e
   refine ⟨rfl, h0, e.2.2, ?_⟩
   rw [List.eq_nil_of_length_eq_zero h0]
   rfl
  ·cases e
 ·exact .inr ⟨ad, rfl, Rws.flat he hsz h⟩
theorem Cls.src {lo hi : Nat} {w : World} {a : Option Addr} {c : Nat} {L : List CellT} (h : Cls lo hi w (.slice a L.length c) L) : Src w a L.length c (L.flatMap cellC) := src_of cellC_len (by decide) h
theorem Nms.src {lo hi : Nat} {w : World} {a : Option Addr} {c : Nat} {L : List NameT} (h : Nms lo hi w (.slice a L.length c) L) : Src w a L.length c (L.flatMap nameC) := src_of nameC_len (by decide) h
theorem Lks.src {lo hi : Nat} {w : World} {a : Option Addr} {c : Nat} {L : List LinkT} (h : Lks lo hi w (.slice a L.length c) L) : Src w a L.length c (L.flatMap linkC) := src_of linkC_len (by decide) h
theorem row_at {L : List (SheetT × Value)} {j : Nat} (hj : j < L.length) : (L.flatMap fun p => sheetC p.1 p.2).toArray[j * 2]? = some (.string L[j].1.name) ∧ (L.flatMap fun p => sheetC p.1 p.2).toArray[j * 2 + 1]? = some L[j].2 := by
 have h0 := fl_at (enc := fun p : SheetT × Value => sheetC p.1 p.2) pairC_len L j 0 hj (by decide)
 have h1 := fl_at (enc := fun p : SheetT × Value => sheetC p.1 p.2) pairC_len L j 1 hj (by decide)
 simp only [List.getElem?_toArray]
 exact ⟨h0, h1⟩
theorem set_at {w : World} {g i : Nat} {cur : Array Value} {t : TypeId} {v : Value} (hg : w.heap[g]? = some (.cells cur t (0, 0))) : w.setCell ⟨g, i, none⟩ v = w.setRow g (cur.setIfInBounds i v) := setCell_eq_setRow w g i cur t (0, 0) v hg
theorem ld1 {u : World} {p : Addr} {v : Value} {t : TypeId} (h : u.cell? p = some v) (ht : (isAgg t).run Tryz.prog u = .ok false u) : (Instr.loadAt t (.pointer (some p))).run Tryz.prog u = .ok v u := by
 simp [Instr.loadAt, Instr.sureAddr, loadVar, Sem.run_bind, ht, run_load, h]
theorem bbuild (u : World) (a1 a2 a3 : Option Addr) (n1 c1 n2 c2 n3 c3 : Nat) : (Instr.build 26 #[(0, .slice a1 n1 c1), (1, .slice a2 n2 c2), (2, .slice a3 n3 c3)]).run Tryz.prog u = .ok (.agg #[.slice a1 n1 c1, .slice a2 n2 c2, .slice a3 n3 c3]) u := by kernel_rfl
theorem exec_build {P : Program} {ev : Operand → Value} {o : Oper} {ty : TypeId} {xs : Array (Nat × Operand)} {ps : Array (Nat × Value)} {v : Value} {u : World} (ho : o.op = .build ty xs) (hx : (xs.map fun (i, x) => (i, ev x)) = ps) (hrun : (Instr.build ty ps).run P u = .ok v u) : (execOp ev o).run P u = .ok (.value v) u := by
 unfold execOp
 simp only [ho, hx, Sem.run_bind, Sem.run_pure, hrun, Result.andThen_ok]
theorem op_store {P : Program} {o : Oper} {a : Act} {w w' : World} {K : Act → World → Prop} {Q : Exit → Act → World → Prop} {ty : TypeId} {x y : Operand} {p v : Value} (ho : o.op = .store ty x y) (hx : a.eval x = p) (hy : a.eval y = v) (hrun : (Instr.storeAt ty p v).run P w = .ok () w') (h : K (a.put o.dst undef) w') : Oper.wp P o a w K Q := by
 unfold Oper.wp execOp
 simp only [ho, hx, hy, Sem.run_bind, Sem.run_pure, hrun, Result.andThen_ok]
 exact h
theorem stBk {u : World} {g : Nat} {x y : Array Value} (hg : u.heap[g]? = some (.cells x 26)) (hx : x.size = 3) (hy : y.size = 3) (h1 : y.all (·.oneCell') = true) : (Instr.storeAt 26 (.pointer (some ⟨g, 0, none⟩)) (.agg y)).run Tryz.prog u = .ok () (u.setRow g y) := by
 have hi : (Tryz.prog.info? 26).map (·.size) = some y.size := by rw [hy]; kernel_rfl
 have hr := run_storeVar_row (P := Tryz.prog) u g 26 26 x y hg hi (by omega) h1
 simp only [Instr.storeAt, Instr.sureAddr, Sem.run_bind, Sem.run_pure, Result.andThen_ok, hr]
theorem resBk {fn : Func} {p : Tmp} (h : fn.results = #[.cell p 26]) {tmps : Array Value} {w : World} {g : Nat} {y : Array Value} (hp : tmps.getD p undef = .pointer (some ⟨g, 0, none⟩)) (hg : w.heap[g]? = some (.cells y 26)) (hy : y.size = 3 := by rfl) : (results fn tmps).run Tryz.prog w = .ok (.agg y) w := by
 have hi : (Tryz.prog.info? 26).map (·.size) = some y.size := by rw [hy]; kernel_rfl
 exact results_cell_row h tmps w g 26 y (0, 0) _ hp hg Tryz.underlying26 rfl hi
theorem copy_any {lo hi : Nat} {w : World} {sv nv lv : Value} {x : BookT} (h : BkM lo hi w sv nv lv x) (hhi : hi ≤ w.heap.size) (hz : Small x) :
  Calls Tryz.prog 17 #[.agg #[sv, nv, lv]] w fun e w' => (∃ gs gn gl, e = .returned (.agg #[newS gs x.sheets.length, newS gn x.names.length, newS gl x.links.length]) ∧ CpB w.heap.size w' gs gn gl x) ∧ Below w.heap.size w w' := by
 obtain ⟨sa, sc, rfl, hs1, hs2⟩ := h.sh.slice
 obtain ⟨na, nc, rfl, _, _⟩ := h.nm.slice
 obtain ⟨la, lc, rfl, _, _⟩ := h.lk.slice
 have HZ : Hid (Small x) := hz
 have HH : Hid (BkM lo hi w (.slice sa x.sheets.length sc) (.slice na x.names.length nc) (.slice la x.links.length lc) x) := h
 obtain ⟨W, hW⟩ : ∃ W, W = (w.alloc (bkO (.slice sa x.sheets.length sc) (.slice na x.names.length nc) (.slice la x.links.length lc))).alloc (.cells #[.slice none 0 0, .slice none 0 0, .slice none 0 0] 26) := ⟨_, rfl⟩
 have hWs : W.heap.size = w.heap.size + 2 := by rw [hW]; simp
 have HB : Below w.heap.size w W := by rw [hW]; exact Sh.bel_alloc (Sh.bel_alloc (Below.refl _ _) (Nat.le_refl _) _) (Nat.le_refl _) _
 have hG0 : W.heap[w.heap.size]? = some (bkO (.slice sa x.sheets.length sc) (.slice na x.names.length nc) (.slice la x.links.length lc)) := by rw [hW, Below.heap_alloc _ _ _ (by simp)]; exact heap_alloc_new w _
 have hG1 : W.heap[w.heap.size + 1]? = some (.cells #[.slice none 0 0, .slice none 0 0, .slice none 0 0] 26) := by rw [hW]; simpa using heap_alloc_new (w.alloc (bkO (.slice sa x.sheets.length sc) (.slice na x.names.length nc) (.slice la x.links.length lc))) (.cells #[.slice none 0 0, .slice none 0 0, .slice none 0 0] 26)
 obtain ⟨cv, hr0, hcc0⟩ := h.sh
 have hr := hr0.kept (w' := W) fun i _ hi => HB.block i (by omega)
 have hcc : ∀ u, Below w.heap.size w u → ∀ j o, x.sheets[j]? = some o → Cls lo hi u (cv j) o.cells := fun u hu j o hj => (hcc0 j o hj).below hhi hu
 have hPl : (x.sheets.mapIdx fun j s => (s, cv j)).length = x.sheets.length := by simp
 have hsrc : Src W sa x.sheets.length sc ((x.sheets.mapIdx fun j s => (s, cv j)).flatMap fun p => sheetC p.1 p.2) := by
  have := src_of (enc := fun p : SheetT × Value => sheetC p.1 p.2) (lo := lo) (hi := hi) (w := W) (a := sa) (c := sc) (L := x.sheets.mapIdx fun j s => (s, cv j)) pairC_len (by decide) (by
   rw [hPl]
   refine hr.congr fun j hj => ?_
   simp [sheetsC, List.getElem?_eq_getElem hj])
  rwa [hPl] at this
 have hone : ∀ u ∈ (x.sheets.mapIdx fun j s => (s, cv j)).flatMap fun p => sheetC p.1 p.2, u.oneCell' = true := by
  intro u hu
  obtain ⟨p, hp, hu⟩ := List.mem_flatMap.1 hu
  obtain ⟨j, hj, rfl⟩ := List.mem_mapIdx.1 hp
  obtain ⟨q, d, e, _, _⟩ := (hcc0 j _ (List.getElem?_eq_getElem hj)).slice
  simp only [sheetC, e, List.mem_cons, List.not_mem_nil, or_false] at hu
  rcases hu with rfl | rfl <;> rfl
 have C1 : Calls Tryz.prog 61 _ _ fun e w1 => e = .returned (newS (w.heap.size + 2) x.sheets.length) ∧ Hid (∃ cur, w1.heap[w.heap.size + 2]? = some (.cells cur 78) ∧ cur.size = x.sheets.length * 2 ∧ ∀ j (hj : j < x.sheets.length), cur[j * 2]? = some (.string x.sheets[j].name) ∧ cur[j * 2 + 1]? = some (cv j)) ∧ Hid (w1.heap.size = w.heap.size + 3) ∧ Hid (Below w.heap.size w w1) ∧ Hid (w1.heap[w.heap.size]? = some (bkO (.slice sa x.sheets.length sc) (.slice na x.names.length nc) (.slice la x.links.length lc))) ∧ Hid (w1.heap[w.heap.size + 1]? = some (.cells #[.slice none 0 0, .slice none 0 0, .slice none 0 0] 26)) :=
  (copied_61 hsrc (by rw [fl_len (enc := fun p : SheetT × Value => sheetC p.1 p.2) pairC_len, hPl]) hone (by have := hz.sh; omega)).mono (by
   rintro e w1 ⟨rfl, h1, h2, h3⟩
   rw [hWs] at h1 h2
   refine ⟨by rw [hWs], ⟨_, h1, ?_, fun j hj => ?_⟩, by show _ = _; omega, Sh.bel_step HB HB.size h3, (h3.block _ (blk_lt hG0)).trans hG0, (h3.block _ (blk_lt hG1)).trans hG1⟩
   ·rw [List.size_toArray, fl_len (enc := fun p : SheetT × Value => sheetC p.1 p.2) pairC_len, hPl]
   ·have := row_at (L := x.sheets.mapIdx fun j s => (s, cv j)) (j := j) (by rw [hPl]; exact hj)
    simpa using this)
 rw [hW] at C1
 have HCC : Hid (∀ u, Below w.heap.size w u → ∀ j o, x.sheets[j]? = some o → Cls lo hi u (cv j) o.cells) := hcc
 have hc0 := cell_heap hG0 (j := 0) rfl
 rw [hW] at hc0
 have hlen : x.sheets.length ≤ 9223372036854775807 := by unfold maxLen at hs2; omega
 clear h hz hs1 hs2 hr hcc hPl hsrc hone HB hG0 hG1 hWs hr0 hcc0
 go_enter Tryz.func17, Tryz.ntmps17
 go_wp2_with (go_at_call 61; refine C1.mono ?_; clear C1; rintro e w1 ⟨rfl, HR, HSZ, HB, HG0, HG1⟩)
 go_loopw [10] (fun i wr => ∃ (k : Nat), k ≤ x.sheets.length ∧ i = .int .i64 (k : Nat) ∧ Hid (∃ cur, wr.heap[w.heap.size + 2]? = some (.cells cur 78) ∧ cur.size = x.sheets.length * 2 ∧ ∀ j (hj : j < x.sheets.length), cur[j * 2]? = some (.string x.sheets[j].name) ∧ cur[j * 2 + 1]? = some (if j < k then newS (w.heap.size + 3 + j) x.sheets[j].cells.length else cv j)) ∧ Hid (∀ j (hj : j < x.sheets.length), j < k → wr.heap[w.heap.size + 3 + j]? = some (.cells (x.sheets[j].cells.flatMap cellC).toArray 57)) ∧ Hid (wr.heap.size = w.heap.size + 3 + k) ∧ Hid (Below w.heap.size w wr) ∧ Hid (wr.heap[w.heap.size]? = some (bkO (.slice sa x.sheets.length sc) (.slice na x.names.length nc) (.slice la x.links.length lc))) ∧ Hid (wr.heap[w.heap.size + 1]? = some (.cells #[.slice none 0 0, .slice none 0 0, .slice none 0 0] 26))) (fun i _ => x.sheets.length - (intOf i).toNat)
 case atStart =>
  refine ⟨0, Nat.zero_le _, rfl, ?_, fun j _ h => by omega, HSZ, HB, HG0, HG1⟩
  obtain ⟨cur, h1, h2, h3⟩ := HR.out
  exact ⟨cur, h1, h2, fun j hj => by simpa using h3 j hj⟩
 case round =>
  obtain ⟨k, hk, rfl, HR, HCL, HSZ, HB, HG0, HG1⟩ := hrel
  by_cases hkL : k < x.sheets.length
  ·have hki : (k : Int) < x.sheets.length := by omega
   have hk63 : k < 9223372036854775807 := by omega
   obtain ⟨cur, hcur, hcs, hcp⟩ := HR.out
   have hcl := HCC.out wr HB.out k _ (List.getElem?_eq_getElem hkL)
   obtain ⟨q, d, hcv, _, _⟩ := hcl.slice
   have ck : wr.cell? ⟨w.heap.size + 2, k * 2 + 1, none⟩ = some (.slice q x.sheets[k].cells.length d) := by
    refine cell_heap hcur ?_
    rw [(hcp k hkL).2, if_neg (by omega), hcv]
   rw [hcv] at hcl
   have C2 := copied_62 hcl.src (by rw [fl_len cellC_len]) (fl_one cellC_one _) (by have := HZ.out.cl _ (List.getElem_mem hkL); omega)
   have C : Calls Tryz.prog 62 _ _ fun e w2 => e = .returned (newS (w.heap.size + 3 + k) x.sheets[k].cells.length) ∧ w2.cell? ⟨w.heap.size + 2, k * 2 + 1, none⟩ = some (.slice q x.sheets[k].cells.length d) ∧ w2.frozen? ⟨w.heap.size + 2, k * 2 + 1, none⟩ = false ∧ Hid (w2.heap[w.heap.size + 2]? = some (.cells cur 78)) ∧ Hid (∀ j (hj : j < x.sheets.length), j < k + 1 → w2.heap[w.heap.size + 3 + j]? = some (.cells (x.sheets[j].cells.flatMap cellC).toArray 57)) ∧ Hid (w2.heap.size = w.heap.size + 3 + (k + 1)) ∧ Hid (Below w.heap.size w w2) ∧ Hid (w2.heap[w.heap.size]? = some (bkO (.slice sa x.sheets.length sc) (.slice na x.names.length nc) (.slice la x.links.length lc))) ∧ Hid (w2.heap[w.heap.size + 1]? = some (.cells #[.slice none 0 0, .slice none 0 0, .slice none 0 0] 26)) := C2.mono (by
    rintro e w2 ⟨rfl, h1, h2, h3⟩
    have hg2 : w2.heap[w.heap.size + 2]? = some (.cells cur 78) := (h3.block _ (blk_lt hcur)).trans hcur
    have hsz : wr.heap.size = w.heap.size + 3 + k := HSZ.out
    refine ⟨by rw [hsz], (World.cell?_of_block (h3.block _ (blk_lt hcur))).trans ck, by simp [World.frozen?, hg2], hg2, fun j hj hjk => ?_, by show _ = _; omega, Sh.bel_step HB.out HB.out.size h3, (h3.block _ (blk_lt HG0.out)).trans HG0.out, (h3.block _ (blk_lt HG1.out)).trans HG1.out⟩
    by_cases e : j = k
    ·subst e
     rw [hsz] at h1
     exact h1
    ·have := HCL.out j hj (by omega)
     exact (h3.block _ (blk_lt this)).trans this)
   have Hcs : Hid (cur.size = x.sheets.length * 2) := hcs
   have Hcp : Hid _ := hcp
   clear hcl hcur hcs hcp C2 HR HCL HSZ HB HG0 HG1 hcv
   go_wp2_with (go_at_call 62; refine C.mono ?_; clear C; rintro e w2 ⟨rfl, g1, g2, HCU, HCL, HSZ, HB, HG0, HG1⟩)
   go_roundw
   case rel =>
    have hsame : (w2.setCell ⟨w.heap.size + 2, k * 2 + 1, none⟩ (newS (w.heap.size + 3 + k) x.sheets[k].cells.length)) = w2.setRow (w.heap.size + 2) (cur.setIfInBounds (k * 2 + 1) (newS (w.heap.size + 3 + k) x.sheets[k].cells.length)) := set_at HCU.out
    rw [hsame]
    have hcsz := Hcs.out
    refine ⟨k + 1, by omega, by go_num, ⟨_, setRow_heap _ _ _ _ _ _ HCU.out, by simpa using hcsz, fun j hj => ?_⟩, fun j hj hjk => ?_, by show _ = _; rw [setRow_size]; exact HSZ.out, below_setRow HB.out (by omega) _, ?_, ?_⟩
    ·have h0 := Hcp.out j hj
     rw [Array.getElem?_setIfInBounds_ne (by omega)]
     refine ⟨h0.1, ?_⟩
     by_cases e : j = k
     ·subst e
      rw [Array.getElem?_setIfInBounds_self_of_lt (by omega), if_pos (by omega)]
     ·rw [Array.getElem?_setIfInBounds_ne (by omega), h0.2]
      by_cases e2 : j < k
      ·rw [if_pos e2, if_pos (by omega)]
      ·rw [if_neg e2, if_neg (by omega)]
    ·rw [setRow_other _ _ _ _ (by omega)]
     exact HCL.out j hj hjk
    ·show _ = _
     rw [setRow_other _ _ _ _ (by omega)]
     exact HG0.out
    ·show _ = _
     rw [setRow_other _ _ _ _ (by omega)]
     exact HG1.out
   case measure => simp [intOf]; omega
  ·have hki : ¬ (k : Int) < x.sheets.length := by omega
   obtain rfl : k = x.sheets.length := by omega
   have Hd : Hid (Below w.heap.size w wr.drew) := HB.out.drew
   have HS : Hid (wr.drew.cell? ⟨w.heap.size, 1, none⟩ = some (.slice na x.names.length nc) ∧ wr.drew.cell? ⟨w.heap.size, 2, none⟩ = some (.slice la x.links.length lc)) := ⟨cell_heap HG0.out rfl, cell_heap HG0.out rfl⟩
   obtain ⟨cur, hcur, hcs, hcp⟩ := HR.out
   have CN := copied_63 (HH.out.nm.below hhi Hd.out).src (by rw [fl_len nameC_len]) (fl_one nameC_one _) (by have := HZ.out.nm; omega)
   have CL : ∀ u, Below w.heap.size w u → _ := fun u hu => copied_64 (HH.out.lk.below hhi hu).src (by rw [fl_len linkC_len]) (fl_one linkC_one _) (by have := HZ.out.lk; omega)
   have HKEEP : Hid (∀ u, Below wr.heap.size wr u → (∃ cur, u.heap[w.heap.size + 2]? = some (.cells cur 78) ∧ cur.size = x.sheets.length * 2 ∧ ∀ j (hj : j < x.sheets.length), cur[j * 2]? = some (.string x.sheets[j].name) ∧ cur[j * 2 + 1]? = some (newS (w.heap.size + 2 + 1 + j) x.sheets[j].cells.length)) ∧ (∀ j (hj : j < x.sheets.length), u.heap[w.heap.size + 2 + 1 + j]? = some (.cells (x.sheets[j].cells.flatMap cellC).toArray 57)) ∧ u.heap[w.heap.size + 1]? = some (.cells #[.slice none 0 0, .slice none 0 0, .slice none 0 0] 26)) := by
    intro u hu
    refine ⟨⟨cur, (hu.block _ (blk_lt hcur)).trans hcur, hcs, fun j hj => ?_⟩, fun j hj => ?_, (hu.block _ (blk_lt HG1.out)).trans HG1.out⟩
    ·have := hcp j hj
     rw [if_pos hj] at this
     exact this
    ·have := HCL.out j hj hj
     exact (hu.block _ (blk_lt this)).trans this
   have HCLh : Hid _ := CL
   have HDD : Hid (Below wr.heap.size wr wr.drew) := (Below.refl _ _).drew
   clear hcur hcs hcp HR HCL HCC CL HG0 HG1
   go_wp2
   refine wp_region_d (fun u => u.cell? ⟨w.heap.size, 1, none⟩ = some (.slice na x.names.length nc) ∧ u.cell? ⟨w.heap.size, 2, none⟩ = some (.slice la x.links.length lc)) (fun j => j == 8) (by kernel_rfl) ?_
   refine dwp 0 ((newS (w.heap.size + 2) x.sheets.length)) (h := ?_)
   refine dwp 1 ((.pointer (some ⟨w.heap.size, 1, none⟩))) (h := ?_)
   refine dwl 2 ((.slice na x.names.length nc)) (hS := HS.out) (hy := (fun u hSu => exec_load rfl rfl (ld1 hSu.1 (Tryz.isAgg23 _)))) (h := ?_)
   refine dwp 4 ((.pointer (some ⟨w.heap.size, 2, none⟩))) (h := ?_)
   refine dwl 5 ((.slice la x.links.length lc)) (hS := HS.out) (hy := (fun u hSu => exec_load rfl rfl (ld1 hSu.2 (Tryz.isAgg24 _)))) (h := ?_)
   refine wpAnyD_one (i := 3) (by kernel_rfl) rfl ?_
   intro K' hK'
   go_simp
   refine CN.mono ?_
   clear CN
   rintro e w2 ⟨rfl, N1, N2, N3⟩
   have HN1 : Hid _ := N1
   have HN2 : Hid _ := N2
   have HB2 : Hid (Below w.heap.size w w2) := Sh.bel_step Hd.out Hd.out.size N3
   have HD2 : Hid (Below wr.heap.size wr w2) := Sh.bel_step HDD.out HDD.out.size N3
   have CL := HCLh.out w2 HB2.out
   have HS2 : w2.cell? ⟨w.heap.size, 1, none⟩ = some (.slice na x.names.length nc) ∧ w2.cell? ⟨w.heap.size, 2, none⟩ = some (.slice la x.links.length lc) := ⟨(World.cell?_of_block (N3.block _ (World.block_lt_of_cell? _ _ HS.out.1))).trans HS.out.1, (World.cell?_of_block (N3.block _ (World.block_lt_of_cell? _ _ HS.out.2))).trans HS.out.2⟩
   clear N1 N2 N3
   refine hK' _ _ (.inr fun _ => HS2) ?_
   clear hK'
   try simp only [Act.put, List.setIfInBounds_toArray, List.set_cons_zero, List.set_cons_succ]
   refine wpAnyD_one (i := 6) (by kernel_rfl) rfl ?_
   intro K' hK'
   go_simp
   refine CL.mono ?_
   clear CL
   rintro e w3 ⟨rfl, L1, L2, L3⟩
   have HL1 : Hid _ := L1
   have HN3 : Hid _ := (L3.block _ (blk_lt HN1.out)).trans HN1.out
   have HB3 : Hid (Below w.heap.size w w3) := Sh.bel_step HB2.out HB2.out.size L3
   have HD3 : Hid (Below wr.heap.size wr w3) := Sh.bel_step HD2.out HD2.out.size L3
   have HS3 : w3.cell? ⟨w.heap.size, 1, none⟩ = some (.slice na x.names.length nc) ∧ w3.cell? ⟨w.heap.size, 2, none⟩ = some (.slice la x.links.length lc) := ⟨(World.cell?_of_block (L3.block _ (World.block_lt_of_cell? _ _ HS2.1))).trans HS2.1, (World.cell?_of_block (L3.block _ (World.block_lt_of_cell? _ _ HS2.2))).trans HS2.2⟩
   clear L1 L2 L3
   refine hK' _ _ (.inr fun _ => HS3) ?_
   clear hK'
   try simp only [Act.put, List.setIfInBounds_toArray, List.set_cons_zero, List.set_cons_succ]
   refine dwp 7 ((.agg #[newS (w.heap.size + 2) x.sheets.length, newS wr.drew.heap.size x.names.length, newS w2.heap.size x.links.length])) (hy := (fun u => exec_build rfl (by go_simp) (bbuild u _ _ _ _ _ _ _ _ _))) (h := ?_)
   refine wpAnyD_one (i := 8) (by kernel_rfl) rfl ?_
   intro K' hK'
   rw [if_pos (by rfl)]
   have KP := HKEEP.out w3 HD3.out
   have RS := stBk (y := #[newS (w.heap.size + 2) x.sheets.length, newS wr.drew.heap.size x.names.length, newS w2.heap.size x.links.length]) KP.2.2 rfl rfl (by simp [Value.oneCell'])
   refine op_store rfl rfl rfl RS ?_
   refine hK' _ _ (.inl rfl) ?_
   clear hK'
   try simp only [Act.put, List.setIfInBounds_toArray, List.set_cons_zero, List.set_cons_succ]
   refine wpAnyD_done (by kernel_rfl) ?_ _
   go_wp2
   refine bodyPost_ret (resBk rfl rfl (setRow_heap _ _ _ _ _ _ KP.2.2)) rfl ?_
   have hw2 : w2.heap.size = wr.drew.heap.size + 1 := HN2.out
   have hwr : wr.drew.heap.size = w.heap.size + 3 + x.sheets.length := HSZ.out
   refine ⟨⟨w.heap.size + 2, wr.drew.heap.size, w2.heap.size, rfl, ⟨?_, fun j hj => ?_, ?_, ?_, by omega, by omega, by omega⟩⟩, below_setRow HB3.out (by omega) _⟩
   ·obtain ⟨cur, k1, k2, k3⟩ := KP.1
    exact ⟨cur, by rw [setRow_other _ _ _ _ (by omega)]; exact k1, k2, k3⟩
   ·rw [setRow_other _ _ _ _ (by omega)]
    exact KP.2.1 j hj
   ·rw [setRow_other _ _ _ _ (by omega)]
    exact HN3.out
   ·rw [setRow_other _ _ _ _ (by omega)]
    exact HL1.out
end Go.Proofs.YtnibldnfbikipaaGreatDoor.Sh
