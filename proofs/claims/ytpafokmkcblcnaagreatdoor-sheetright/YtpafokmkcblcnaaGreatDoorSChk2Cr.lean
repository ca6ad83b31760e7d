/- SChk, SChk2. -/
import Derived.Test.YtpafokmkcblcnaaGreatDoorSMayCr
import Derived.Test.YtpafokmkcblcnaaGreatDoorARowCr
import Derived.Test.YtpafokmkcblcnaaGreatDoorSCopyCr
set_option linter.unusedVariables false
set_option linter.unusedSimpArgs false
namespace Go.Proofs.YtpafokmkcblcnaaGreatDoor.Sh
open Go.RowKit Go.Fm
set_option maxRecDepth 100000
def misB (s : SheetT) : Bool := !gnF s.name.data.toList
def mlB (s : SheetT) : Bool := !laidB s.cells
def twAt (L : List SheetT) (i : Nat) : Bool := match L[i]? with
  | none => false
  | some s => !(idxI (idxN L s.name) == (i : Int))
def twB (L : List SheetT) : Bool := (List.range L.length).any (twAt L)
def textsS : List SheetT → Int
  | [] => 0
  | s :: r => if textsF s.cells ≠ 0 then textsF s.cells else textsS r
def checkF (L : List SheetT) : Int :=
  if L.length = 0 ∨ 4 < L.length then 15 else if 0 ≤ idxI (L.findIdx? misB) then 8 else if twB L = true then 7 else if 0 ≤ idxI (L.findIdx? mlB) then 9 else if textsS L ≠ 0 then textsS L else if 200 < cntL L then 5 else 0
def NamesOk (L : List SheetT) : Prop := ∀ s ∈ L, s.name.size ≤ 9223372036854775807
theorem tw_no {L : List SheetT} (h : ∀ i, i < L.length → twAt L i = false) : twB L = false := by
  unfold twB
  rw [List.any_eq_false]
  intro i hi
  simp [h i (List.mem_range.1 hi)]
theorem tw_yes {L : List SheetT} {i : Nat} (hi : i < L.length) (h : twAt L i = true) : twB L = true := by
  unfold twB
  rw [List.any_eq_true]
  exact ⟨i, List.mem_range.2 hi, h⟩
set_option maxHeartbeats 2000000 in
theorem misnamed_any (t : ByteArray) (p : Option Addr) (n c : Nat) (ht : t.size ≤ 9223372036854775807) (w : World) (T : Tab9 w) :
    Calls Tryz.prog 52 #[.agg #[.string t, .slice p n c]] w fun e w' => e = .returned (.bool (!gnF t.data.toList)) ∧ Below w.heap.size w w' := by
  have HB : Below w.heap.size w (w.alloc (.cells #[.string t, .slice p n c] 78)) := Sh.bel_alloc (Below.refl _ _) (Nat.le_refl _) _
  have c0 := cell_heap (heap_alloc_new w (.cells #[.string t, .slice p n c] 78)) (j := 0) rfl
  have C := goodname_any t ht _ (T.below HB).t.t
  have HBh : Hid _ := HB
  generalize gnF t.data.toList = b at *
  clear T HB
  go_enter Tryz.func52, Tryz.ntmps52
  go_wp2_with (go_at_call 76; refine C.mono ?_; clear C; rintro e w1 ⟨rfl, hb⟩; have HB1 : Hid _ := Sh.bel_step HBh.out HBh.out.size hb; clear hb)
  go_ret
  exact ⟨rfl, HB1.out⟩
set_option maxHeartbeats 2000000 in
theorem mislaid_any {lo hi : Nat} (t : ByteArray) (p : Option Addr) (n c : Nat) {L : List CellT} {w : World} (h : Cls lo hi w (.slice p n c) L) (hhi : hi ≤ w.heap.size) :
    Calls Tryz.prog 54 #[.agg #[.string t, .slice p n c]] w fun e w' => e = .returned (.bool (!laidB L)) ∧ Below w.heap.size w w' := by
  obtain ⟨_, _, he, _, _⟩ := h.slice
  cases he
  have HB : Below w.heap.size w (w.alloc (.cells #[.string t, .slice p L.length c] 78)) := Sh.bel_alloc (Below.refl _ _) (Nat.le_refl _) _
  have c1 := cell_heap (heap_alloc_new w (.cells #[.string t, .slice p L.length c] 78)) (j := 1) rfl
  have C := laid_any (h.below hhi HB) (Nat.le_trans hhi HB.size)
  have HBh : Hid _ := HB
  generalize laidB L = b at *
  clear HB h
  go_enter Tryz.func54, Tryz.ntmps54
  go_wp2_with (go_at_call 77; refine C.mono ?_; clear C; rintro e w1 ⟨rfl, hb⟩; have HB1 : Hid _ := Sh.bel_step HBh.out HBh.out.size hb; clear hb)
  go_ret
  exact ⟨rfl, HB1.out⟩
set_option maxHeartbeats 2000000 in
theorem contains_52 {lo hi : Nat} {w : World} {a : Option Addr} {c : Nat} {L : List SheetT} (h : Shs lo hi w (.slice a L.length c) L) (hhi : hi ≤ w.heap.size) (hN : NamesOk L) (T : Tab9 w) :
    Calls Tryz.prog 51 #[.slice a L.length c, .func (.func 52) #[] #[]] w fun e w' => e = .returned (.bool (decide (0 ≤ idxI (L.findIdx? misB)))) ∧ Below w.heap.size w w' := by
  have C := idxf_52 h hhi misB (fun k hk u q m d hu hc => misnamed_any _ q m d (hN _ (List.getElem_mem hk)) u (T.below hu))
  generalize idxI (L.findIdx? misB) = o at *
  clear h
  go_enter Tryz.func51, Tryz.ntmps51
  go_wp2_with (go_at_call 70; refine C.mono ?_; clear C; rintro e w1 ⟨rfl, hb⟩; have HB1 : Hid _ := hb; clear hb)
  go_ret
  exact ⟨rfl, HB1.out⟩
set_option maxHeartbeats 2000000 in
theorem contains_54 {lo hi : Nat} {w : World} {a : Option Addr} {c : Nat} {L : List SheetT} (h : Shs lo hi w (.slice a L.length c) L) (hhi : hi ≤ w.heap.size) :
    Calls Tryz.prog 51 #[.slice a L.length c, .func (.func 54) #[] #[]] w fun e w' => e = .returned (.bool (decide (0 ≤ idxI (L.findIdx? mlB)))) ∧ Below w.heap.size w w' := by
  have C := idxf_54 h hhi mlB (fun k hk u q m d hu hc => mislaid_any _ q m d hc (Nat.le_trans hhi hu.size))
  generalize idxI (L.findIdx? mlB) = o at *
  clear h
  go_enter Tryz.func51, Tryz.ntmps51
  go_wp2_with (go_at_call 70; refine C.mono ?_; clear C; rintro e w1 ⟨rfl, hb⟩; have HB1 : Hid _ := hb; clear hb)
  go_ret
  exact ⟨rfl, HB1.out⟩
set_option maxHeartbeats 8000000 in
theorem twice_any {lo hi : Nat} {w : World} {sv nv lv : Value} {x : BookT} (h : BkM lo hi w sv nv lv x) (hhi : hi ≤ w.heap.size) :
    Calls Tryz.prog 53 #[.agg #[sv, nv, lv]] w fun e w' => e = .returned (.bool (twB x.sheets)) ∧ Below w.heap.size w w' := by
  obtain ⟨sa, sc, rfl, hs1, hs2⟩ := h.sh.slice
  obtain ⟨na, nc, rfl, _, _⟩ := h.nm.slice
  obtain ⟨la, lc, rfl, _, _⟩ := h.lk.slice
  have HB0 : Hid (Below w.heap.size w (w.alloc (bkO (.slice sa x.sheets.length sc) (.slice na x.names.length nc) (.slice la x.links.length lc)))) := Sh.bel_alloc (Below.refl _ _) (Nat.le_refl _) _
  have c0 := cell_heap (heap_alloc_new w (bkO (.slice sa x.sheets.length sc) (.slice na x.names.length nc) (.slice la x.links.length lc))) (j := 0) rfl
  have HX0 : Hid ((w.alloc (bkO (.slice sa x.sheets.length sc) (.slice na x.names.length nc) (.slice la x.links.length lc))).heap[w.heap.size]? = some (bkO (.slice sa x.sheets.length sc) (.slice na x.names.length nc) (.slice la x.links.length lc))) := heap_alloc_new w _
  have HH : Hid (BkM lo hi w (.slice sa x.sheets.length sc) (.slice na x.names.length nc) (.slice la x.links.length lc) x) := h
  have hlen : x.sheets.length ≤ 9223372036854775807 := by unfold maxLen at hs2; omega
  generalize hT : twB x.sheets = tb at *
  have HT : Hid (twB x.sheets = tb) := hT
  clear h hs1 hs2 hT
  go_enter Tryz.func53, Tryz.ntmps53
  go_wp2
  go_loopw [8] (fun i wr => ∃ (k : Nat), k ≤ x.sheets.length ∧ i = .int .i64 (k : Nat) ∧ Hid (∀ j, j < k → twAt x.sheets j = false) ∧ Hid (Below w.heap.size w wr) ∧ Hid (wr.heap[w.heap.size]? = some (bkO (.slice sa x.sheets.length sc) (.slice na x.names.length nc) (.slice la x.links.length lc)))) (fun i _ => x.sheets.length - (intOf i).toNat)
  case atStart => exact ⟨0, Nat.zero_le _, rfl, fun j hj => by omega, HB0, HX0⟩
  case round =>
    obtain ⟨k, hk, rfl, HA, HD, HX⟩ := hrel
    clear HB0 HX0
    by_cases hkL : k < x.sheets.length
    · have hki : (k : Int) < x.sheets.length := by omega
      obtain ⟨a', cv, ov, W, rfl, rfl, hcl, hW, R1, R2, -⟩ := (HH.out.sh.below hhi HD.out).runs hkL
      obtain ⟨ca, cc, rfl, _, _⟩ := hcl.slice
      have cn := cell_heap (show W.heap[wr.heap.size]? = some (.cells #[.string x.sheets[k].name, .slice ca x.sheets[k].cells.length cc] 78) by rw [hW]; exact heap_alloc_new wr _) (j := 0) rfl
      have HD2 : Hid (Below w.heap.size w W) := by rw [hW]; exact Sh.bel_alloc HD.out (Nat.le_refl _) _
      have hX2 : W.heap[w.heap.size]? = some (bkO (.slice (some a') x.sheets.length sc) (.slice na x.names.length nc) (.slice la x.links.length lc)) := by rw [hW]; exact (Below.heap_alloc wr _ _ (blk_lt HX.out)).trans HX.out
      have RL : Hid _ := ldB hX2
      have HX2 : Hid (W.heap[w.heap.size]? = some (bkO (.slice (some a') x.sheets.length sc) (.slice na x.names.length nc) (.slice la x.links.length lc))) := hX2
      have C := index_any (HH.out.below hhi HD2.out) (Nat.le_trans hhi HD2.out.size) x.sheets[k].name
      have hk63 : k < 9223372036854775807 := by omega
      have hat : twAt x.sheets k = !(idxI (idxN x.sheets x.sheets[k].name) == (k : Int)) := by unfold twAt; simp only [List.getElem?_eq_getElem hkL]
      have HYES : Hid (twAt x.sheets k = true → tb = true) := fun e => by rw [← HT.out]; exact tw_yes hkL e
      have HNO : Hid (twAt x.sheets k = false → ∀ j, j < k + 1 → twAt x.sheets j = false) := fun e j hj => by
        by_cases hjk : j = k
        · subst hjk; exact e
        · exact HA.out j (by omega)
      have HAT : Hid _ := hat
      clear hcl hW hX2 hat
      generalize idxI (idxN x.sheets x.sheets[k].name) = o at *
      generalize x.sheets[k] = y at *
      obtain ⟨yn, yc⟩ := y
      dsimp only at *
      by_cases e1 : o = (k : Int)
      · have HN2 : Hid _ := HNO.out (by rw [HAT.out]; simp [e1])
        subst e1
        clear HYES HNO
        go_wp2_with (first
          | (refine wpList_load_run rfl 78 _ rfl _ _ rfl R1.out ?_; clear R1)
          | (refine wpList_store_run rfl 78 _ _ rfl _ _ _ rfl rfl R2.out ?_; clear R2)
          | (refine wpList_load_run rfl 26 _ rfl _ _ rfl RL.out ?_; clear RL)
          | (go_at_call 20; refine C.mono ?_; clear C; rintro e w1 ⟨rfl, hb⟩; have HB1 : Hid _ := Sh.bel_step HD2.out HD2.out.size hb; have HX3 : Hid _ := (hb.block _ (blk_lt HX2.out)).trans HX2.out; clear hb))
        go_roundw
        case rel => exact ⟨k + 1, by omega, by go_num, HN2, HB1, HX3⟩
        case measure => simp [intOf]; omega
      · obtain rfl := HYES.out (by rw [HAT.out]; simp [e1])
        have hob : (o != (k : Int)) = true := by simpa using e1
        clear HYES HNO
        go_wp2_with (first
          | (refine wpList_load_run rfl 78 _ rfl _ _ rfl R1.out ?_; clear R1)
          | (refine wpList_store_run rfl 78 _ _ rfl _ _ _ rfl rfl R2.out ?_; clear R2)
          | (refine wpList_load_run rfl 26 _ rfl _ _ rfl RL.out ?_; clear RL)
          | (go_at_call 20; refine C.mono ?_; clear C; rintro e w1 ⟨rfl, hb⟩; have HB1 : Hid _ := Sh.bel_step HD2.out HD2.out.size hb; clear hb))
        go_ret
        exact ⟨rfl, HB1.out⟩
    · have hki : ¬ (k : Int) < x.sheets.length := by omega
      obtain rfl : tb = false := by rw [← HT.out]; exact tw_no fun i hi => HA.out i (by omega)
      go_wp2
      go_ret
      exact ⟨rfl, HD.out⟩
end Go.Proofs.YtpafokmkcblcnaaGreatDoor.Sh

namespace Go.Proofs.YtpafokmkcblcnaaGreatDoor.Sh
open Go.RowKit Go.Fm
set_option maxRecDepth 100000
def CellsOk (L : List SheetT) : Prop := ∀ s ∈ L, s.cells.length ≤ 1125899906842624
theorem cnt_four {L : List SheetT} (h : CellsOk L) (hn : L.length ≤ 4) : cntL L ≤ 4503599627370496 := by
  have : ∀ (L : List SheetT), CellsOk L → cntL L ≤ L.length * 1125899906842624 := by
    intro L
    induction L with
    | nil => intro _; simp [cntL]
    | cons s r ih =>
      intro h
      have h1 := h s (by simp)
      have h2 := ih (fun t ht => h t (by simp [ht]))
      unfold cntL at *
      simp only [List.map_cons, List.sum_cons, List.length_cons]
      omega
  have := this L h
  omega
set_option maxHeartbeats 16000000 in
theorem check_any {lo hi : Nat} {w : World} {sv nv lv : Value} {x : BookT} (h : BkM lo hi w sv nv lv x) (hhi : hi ≤ w.heap.size) (hN : NamesOk x.sheets) (hC : CellsOk x.sheets) (T : Tab9 w) :
    Calls Tryz.prog 11 #[.agg #[sv, nv, lv]] w fun e w' => e = .returned (.int .i64 (checkF x.sheets)) ∧ Below w.heap.size w w' := by
  obtain ⟨sa, sc, rfl, hs1, hs2⟩ := h.sh.slice
  obtain ⟨na, nc, rfl, _, _⟩ := h.nm.slice
  obtain ⟨la, lc, rfl, _, _⟩ := h.lk.slice
  obtain ⟨W, hW⟩ : ∃ W, W = w.alloc (bkO (.slice sa x.sheets.length sc) (.slice na x.names.length nc) (.slice la x.links.length lc)) := ⟨_, rfl⟩
  have HB0 : Below w.heap.size w W := by rw [hW]; exact Sh.bel_alloc (Below.refl _ _) (Nat.le_refl _) _
  have hX0 : W.heap[w.heap.size]? = some (bkO (.slice sa x.sheets.length sc) (.slice na x.names.length nc) (.slice la x.links.length lc)) := by rw [hW]; exact heap_alloc_new w _
  have hlen : x.sheets.length ≤ 9223372036854775807 := by unfold maxLen at hs2; omega
  have c0 := cell_heap hX0 (j := 0) rfl
  unfold checkF
  by_cases hz : x.sheets.length = 0 ∨ 4 < x.sheets.length
  · rw [if_pos hz]
    have HB0h : Hid _ := HB0
    rw [hW] at c0 HB0h
    generalize hl : x.sheets.length = n at *
    clear h HB0 hX0 hW hN hC T hs1 hs2 hl
    by_cases hz0 : n = 0
    · subst hz0
      go_enter Tryz.func11, Tryz.ntmps11
      go_wp2
      go_ret
      exact ⟨rfl, HB0h.out⟩
    · have h4 : (4 : Int) < n := by omega
      have h0 : ((n : Int) == 0) = false := by simpa using hz0
      clear hz
      go_enter Tryz.func11, Tryz.ntmps11
      go_wp2
      go_ret
      exact ⟨rfl, HB0h.out⟩
  · rw [if_neg hz]
    have hn1 : ¬ (4 : Int) < x.sheets.length := by omega
    have hn0 : ((x.sheets.length : Int) == 0) = false := by simp only [beq_eq_false_iff_ne]; omega
    have hcz := cnt_four hC (by omega)
    -- what each step does
    have KX : ∀ u, Below W.heap.size W u → u.heap[w.heap.size]? = some (bkO (.slice sa x.sheets.length sc) (.slice na x.names.length nc) (.slice la x.links.length lc)) ∧ Below w.heap.size w u := fun u hu => ⟨(hu.block _ (blk_lt hX0)).trans hX0, Sh.bel_step HB0 HB0.size hu⟩
    have C1 : Calls Tryz.prog 51 _ W fun e u => e = .returned (.bool (decide (0 ≤ idxI (x.sheets.findIdx? misB)))) ∧ Hid (Below W.heap.size W u) ∧ u.cell? ⟨w.heap.size, 0, none⟩ = some (.slice sa x.sheets.length sc) ∧ Hid ((Instr.loadAt 26 (.pointer (some ⟨w.heap.size, 0, none⟩))).run Tryz.prog u = .ok (.agg #[.slice sa x.sheets.length sc, .slice na x.names.length nc, .slice la x.links.length lc]) u) :=
      (contains_52 (h.sh.below hhi HB0) (Nat.le_trans hhi HB0.size) hN (T.below HB0)).mono (by
        rintro e u ⟨rfl, hu⟩
        exact ⟨rfl, hu, cell_heap (KX u hu).1 rfl, ldB (KX u hu).1⟩)
    have C2 : Hid (∀ u, Below W.heap.size W u → Calls Tryz.prog 53 #[.agg #[.slice sa x.sheets.length sc, .slice na x.names.length nc, .slice la x.links.length lc]] u fun e v => e = .returned (.bool (twB x.sheets)) ∧ Hid (Below W.heap.size W v) ∧ v.cell? ⟨w.heap.size, 0, none⟩ = some (.slice sa x.sheets.length sc)) := fun u hu =>
      (twice_any (h.below hhi (KX u hu).2) (Nat.le_trans hhi (KX u hu).2.size)).mono (by
        rintro e v ⟨rfl, hv⟩
        have hv2 := Sh.bel_step hu hu.size hv
        exact ⟨rfl, hv2, cell_heap (KX v hv2).1 rfl⟩)
    have C3 : Hid (∀ u, Below W.heap.size W u → Calls Tryz.prog 51 #[.slice sa x.sheets.length sc, .func (.func 54) #[] #[]] u fun e v => e = .returned (.bool (decide (0 ≤ idxI (x.sheets.findIdx? mlB)))) ∧ Hid (Below W.heap.size W v) ∧ v.cell? ⟨w.heap.size, 0, none⟩ = some (.slice sa x.sheets.length sc)) := fun u hu =>
      (contains_54 (h.sh.below hhi (KX u hu).2) (Nat.le_trans hhi (KX u hu).2.size)).mono (by
        rintro e v ⟨rfl, hv⟩
        have hv2 := Sh.bel_step hu hu.size hv
        exact ⟨rfl, hv2, cell_heap (KX v hv2).1 rfl⟩)
    have C4 : Hid (∀ u, Below W.heap.size W u → Calls Tryz.prog 24 #[.agg #[.slice sa x.sheets.length sc, .slice na x.names.length nc, .slice la x.links.length lc]] u fun e v => e = .returned (.int .i64 (cntL x.sheets : Nat)) ∧ Hid (Below w.heap.size w v)) := fun u hu =>
      (count_any (h.below hhi (KX u hu).2) (Nat.le_trans hhi (KX u hu).2.size) (by omega)).mono (by
        rintro e v ⟨rfl, hv⟩
        exact ⟨rfl, Sh.bel_step (KX u hu).2 (KX u hu).2.size hv⟩)
    have HKX : Hid _ := KX
    have HH : Hid (BkM lo hi w (.slice sa x.sheets.length sc) (.slice na x.names.length nc) (.slice la x.links.length lc) x) := h
    have HT : Hid (Tab9 w) := T
    rw [hW] at C1 c0
    rw [← hW] at C1
    have HW : Hid (w.alloc (bkO (.slice sa x.sheets.length sc) (.slice na x.names.length nc) (.slice la x.links.length lc)) = W) := hW.symm
    clear h HB0 hX0 hW hN hC T hs1 hs2 KX hz
    by_cases h8 : 0 ≤ idxI (x.sheets.findIdx? misB)
    · rw [if_pos h8]
      have hd : decide (0 ≤ idxI (x.sheets.findIdx? misB)) = true := by simpa using h8
      rw [hd] at C1
      clear h8 hd
      go_enter Tryz.func11, Tryz.ntmps11
      go_wp2_with (go_at_call 51; rw [HW.out]; refine C1.mono ?_; clear C1; rintro e w1 ⟨rfl, HB1, c1, R1⟩)
      go_ret
      exact ⟨rfl, (HKX.out _ HB1.out).2⟩
    · rw [if_neg h8]
      have hd : decide (0 ≤ idxI (x.sheets.findIdx? misB)) = false := by simpa using h8
      rw [hd] at C1
      clear h8 hd
      by_cases h7 : twB x.sheets = true
      · rw [if_pos h7]
        rw [h7] at C2
        go_enter Tryz.func11, Tryz.ntmps11
        go_wp2_with (first
          | (go_at_call 51; rw [HW.out]; refine C1.mono ?_; clear C1; rintro e w1 ⟨rfl, HB1, c1, R1⟩)
          | (refine wpList_load_run rfl 26 _ rfl _ _ rfl R1.out ?_; clear R1)
          | (go_at_call 53; refine (C2.out _ HB1.out).mono ?_; clear C2; rintro e w2 ⟨rfl, HB2, c2⟩))
        go_ret
        exact ⟨rfl, (HKX.out _ HB2.out).2⟩
      · rw [if_neg h7]
        rw [show twB x.sheets = false by simpa using h7] at C2
        by_cases h9 : 0 ≤ idxI (x.sheets.findIdx? mlB)
        · rw [if_pos h9]
          rw [show decide (0 ≤ idxI (x.sheets.findIdx? mlB)) = true by simpa using h9] at C3
          clear h9
          go_enter Tryz.func11, Tryz.ntmps11
          go_wp2_with (first
            | (go_at_call 51; rw [HW.out]; refine C1.mono ?_; clear C1; rintro e w1 ⟨rfl, HB1, c1, R1⟩)
            | (refine wpList_load_run rfl 26 _ rfl _ _ rfl R1.out ?_; clear R1)
            | (go_at_call 53; refine (C2.out _ HB1.out).mono ?_; clear C2; rintro e w2 ⟨rfl, HB2, c2⟩)
            | (go_at_call 51; refine (C3.out _ HB2.out).mono ?_; clear C3; rintro e w3 ⟨rfl, HB3, c3⟩))
          go_ret
          exact ⟨rfl, (HKX.out _ HB3.out).2⟩
        · rw [if_neg h9]
          rw [show decide (0 ≤ idxI (x.sheets.findIdx? mlB)) = false by simpa using h9] at C3
          clear h9 h7
          obtain ⟨tf, htf⟩ : ∃ tf, tf = textsS x.sheets := ⟨_, rfl⟩
          have HTF : Hid (textsS (x.sheets.drop 0) = tf) := by show _ = _; rw [List.drop_zero]; exact htf.symm
          rw [← htf]
          generalize hr : (if tf ≠ 0 then tf else if 200 < cntL x.sheets then (5 : Int) else 0) = rr
          have HRR : Hid ((if tf ≠ 0 then tf else if 200 < cntL x.sheets then (5 : Int) else 0) = rr) := hr
          clear htf hr
          go_enter Tryz.func11, Tryz.ntmps11
          go_wp2_with (first
            | (go_at_call 51; rw [HW.out]; refine C1.mono ?_; clear C1; rintro e w1 ⟨rfl, HB1, c1, R1⟩)
            | (refine wpList_load_run rfl 26 _ rfl _ _ rfl R1.out ?_; clear R1)
            | (go_at_call 53; refine (C2.out _ HB1.out).mono ?_; clear C2; rintro e w2 ⟨rfl, HB2, c2⟩)
            | (go_at_call 51; refine (C3.out _ HB2.out).mono ?_; clear C3; rintro e w3 ⟨rfl, HB3, c3⟩))
          go_loopw [31] (fun i wr => ∃ (k : Nat), k ≤ x.sheets.length ∧ i = .int .i64 (k : Nat) ∧ Hid (textsS (x.sheets.drop k) = tf) ∧ Hid (Below W.heap.size W wr)) (fun i _ => x.sheets.length - (intOf i).toNat)
          case atStart => exact ⟨0, Nat.zero_le _, rfl, HTF, HB3⟩
          case round =>
            obtain ⟨k, hk, rfl, HA, HD⟩ := hrel
            clear HTF HB3
            by_cases hkL : k < x.sheets.length
            · have hki : (k : Int) < x.sheets.length := by omega
              have HDw := (HKX.out wr HD.out).2
              obtain ⟨a', cv, ov, V, rfl, rfl, hcl, hV, RA, RB, -⟩ := (HH.out.sh.below hhi HDw).runs hkL
              obtain ⟨ca, cc, rfl, _, _⟩ := hcl.slice
              have cn := cell_heap (show V.heap[wr.heap.size]? = some (.cells #[.string x.sheets[k].name, .slice ca x.sheets[k].cells.length cc] 78) by rw [hV]; exact heap_alloc_new wr _) (j := 1) rfl
              have HD2 : Hid (Below W.heap.size W V) := by rw [hV]; exact Sh.bel_alloc HD.out (Nat.le_refl _) _
              have hV2 : Below wr.heap.size wr V := by rw [hV]; exact Sh.bel_alloc (Below.refl _ _) (Nat.le_refl _) _
              have C := texts_any (hcl.below (Nat.le_trans hhi HDw.size) hV2) (Nat.le_trans (Nat.le_trans hhi HDw.size) hV2.size) (HT.out.below (HKX.out V HD2.out).2)
              have hk63 : k < 9223372036854775807 := by omega
              have HXX : Hid (textsF x.sheets[k].cells ≠ 0 → tf = textsF x.sheets[k].cells) := fun e => by rw [← HA.out, List.drop_eq_getElem_cons hkL, textsS, if_pos e]
              have HYY : Hid (textsF x.sheets[k].cells = 0 → textsS (x.sheets.drop (k + 1)) = tf) := fun e => by rw [← HA.out, List.drop_eq_getElem_cons hkL, textsS, if_neg (by simpa using e)]
              clear hcl hV hV2 HDw
              generalize textsF x.sheets[k].cells = me at *
              generalize x.sheets[k] = y at *
              obtain ⟨yn, yc⟩ := y
              dsimp only at *
              by_cases e1 : me = 0
              · have HY2 : Hid _ := HYY.out e1
                subst e1
                clear HXX HYY
                go_wp2_with (first
                  | (refine wpList_load_run rfl 78 _ rfl _ _ rfl RA.out ?_; clear RA)
                  | (refine wpList_store_run rfl 78 _ _ rfl _ _ _ rfl rfl RB.out ?_; clear RB)
                  | (go_at_call 55; refine C.mono ?_; clear C; rintro e w4 ⟨rfl, hb⟩; have HB4 : Hid _ := Sh.bel_step HD2.out HD2.out.size hb; clear hb))
                go_roundw
                case rel => exact ⟨k + 1, by omega, by go_num, HY2, HB4⟩
                case measure => simp [intOf]; omega
              · have hpb : (me != 0) = true := by simpa using e1
                obtain rfl := HXX.out e1
                obtain rfl : tf = rr := by rw [← HRR.out, if_pos e1]
                clear HXX HYY e1 HRR
                go_wp2_with (first
                  | (refine wpList_load_run rfl 78 _ rfl _ _ rfl RA.out ?_; clear RA)
                  | (refine wpList_store_run rfl 78 _ _ rfl _ _ _ rfl rfl RB.out ?_; clear RB)
                  | (go_at_call 55; refine C.mono ?_; clear C; rintro e w4 ⟨rfl, hb⟩; have HB4 : Hid _ := Sh.bel_step HD2.out HD2.out.size hb; clear hb))
                go_ret
                exact ⟨rfl, (HKX.out _ HB4.out).2⟩
            · have hki : ¬ (k : Int) < x.sheets.length := by omega
              obtain rfl : tf = 0 := by rw [← HA.out, List.drop_of_length_le (by omega)]; rfl
              have RL : Hid _ := ldB (HKX.out wr HD.out).1
              have C := C4.out wr HD.out
              clear C4
              generalize cntL x.sheets = m at *
              by_cases h5 : 200 < m
              · have h5i : (200 : Int) < m := by omega
                obtain rfl : 5 = rr := by rw [← HRR.out, if_neg (by simp), if_pos h5]
                clear HRR
                go_wp2_with (first
                  | (refine wpList_load_run rfl 26 _ rfl _ _ rfl RL.out ?_; clear RL)
                  | (go_at_call 24; refine C.mono ?_; clear C; rintro e w4 ⟨rfl, HB4⟩))
                go_ret
                exact ⟨rfl, HB4.out⟩
              · have h5i : ¬ (200 : Int) < m := by omega
                obtain rfl : 0 = rr := by rw [← HRR.out, if_neg (by simp), if_neg h5]
                clear HRR
                go_wp2_with (first
                  | (refine wpList_load_run rfl 26 _ rfl _ _ rfl RL.out ?_; clear RL)
                  | (go_at_call 24; refine C.mono ?_; clear C; rintro e w4 ⟨rfl, HB4⟩))
                go_ret
                exact ⟨rfl, HB4.out⟩
end Go.Proofs.YtpafokmkcblcnaaGreatDoor.Sh
