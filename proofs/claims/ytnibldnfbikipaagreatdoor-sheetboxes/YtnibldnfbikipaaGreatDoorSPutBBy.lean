/- SSm, SLv0, SPutB. -/
import Derived.Test.YtnibldnfbikipaaGreatDoorSEqualBy
set_option linter.unusedVariables false
set_option linter.unusedSimpArgs false
set_option maxHeartbeats 16000000
set_option maxRecDepth 100000
namespace Go.Proofs.YtnibldnfbikipaaGreatDoor.Sh
open Go.RowKit
def sheetEq (a b : SheetT) : Bool := a.name.toList == b.name.toList && eqL cellEq a.cells b.cells
def bookEq (x y : BookT) : Bool := eqL sheetEq x.sheets y.sheets && (eqL nameEq x.names y.names && eqL linkEq x.links y.links)
abbrev shO (n : ByteArray) (a : Option Addr) (l c : Nat) : Obj := .cells #[.string n, .slice a l c] 78
theorem ldS {u : World} {g : Nat} {y : SheetT} {v : Value} {z : Nat × Nat} (h : u.heap[g]? = some (.cells (sheetC y v).toArray 78 z)) : (Instr.loadAt 78 (.pointer (some ⟨g, 0, none⟩))).run Tryz.prog u = .ok (sheetV y v) u := by
 have hi : (Tryz.prog.info? 78).map (·.size) = some (sheetC y v).toArray.size := by show _ = some 2; kernel_rfl
 simp only [Instr.loadAt, Instr.sureAddr, Sem.run_bind, Sem.run_pure, Result.andThen_ok, run_loadVar_row u g 78 78 _ z _ h Tryz.underlying78 rfl hi]
 rfl
theorem alike_any {lo hi lo2 hi2 : Nat} {w : World} {n m : ByteArray} {a b : Option Addr} {c d : Nat} {L M : List CellT} (h : Cls lo hi w (.slice a L.length c) L) (hhi : hi ≤ w.heap.size) (h2 : Cls lo2 hi2 w (.slice b M.length d) M) (hhi2 : hi2 ≤ w.heap.size) :
  Calls Tryz.prog 67 #[.agg #[.string n, .slice a L.length c], .agg #[.string m, .slice b M.length d]] w fun e w' => e = .returned (.bool (n.toList == m.toList && eqL cellEq L M)) ∧ Below w.heap.size w w' := by
 obtain ⟨W, hW⟩ : ∃ W, W = (w.alloc (shO n a L.length c)).alloc (shO m b M.length d) := ⟨_, rfl⟩
 have HB : Below w.heap.size w W := by rw [hW]; exact Sh.bel_alloc (Sh.bel_alloc (Below.refl _ _) (Nat.le_refl _) _) (Nat.le_refl _) _
 have hX0 : W.heap[w.heap.size]? = some (shO n a L.length c) := by rw [hW, Below.heap_alloc _ _ _ (by simp)]; exact heap_alloc_new w _
 have hX1 : W.heap[w.heap.size + 1]? = some (shO m b M.length d) := by rw [hW]; simpa using heap_alloc_new (w.alloc (shO n a L.length c)) (shO m b M.length d)
 have C := equal_103 (h.below hhi HB) (Nat.le_trans hhi HB.size) (h2.below hhi2 HB) (Nat.le_trans hhi2 HB.size)
 have c00 := cell_heap hX0 (j := 0) rfl
 have c01 := cell_heap hX0 (j := 1) rfl
 have c10 := cell_heap hX1 (j := 0) rfl
 have c11 := cell_heap hX1 (j := 1) rfl
 have HBh : Hid _ := HB
 rw [hW] at c00 c01 c10 c11
 have HW : Hid ((w.alloc (shO n a L.length c)).alloc (shO m b M.length d) = W) := hW.symm
 generalize eqL cellEq L M = eb at *
 clear h h2 HB hX0 hX1 hW
 cases hn : n.toList == m.toList with
 | false =>
  go_enter Tryz.func67, Tryz.ntmps67
  go_wp2
  go_ret
  exact ⟨rfl, by rw [HW.out]; exact HBh.out⟩
 | true =>
  go_enter Tryz.func67, Tryz.ntmps67
  go_wp2_with (go_at_call 103; rw [HW.out]; refine C.mono ?_; clear C; rintro e w1 ⟨rfl, hb⟩; have HB1 : Hid _ := Sh.bel_step HBh.out HBh.out.size hb; clear hb)
  go_ret
  exact ⟨rfl, HB1.out⟩
theorem equalFunc_any {lo hi lo2 hi2 : Nat} {w : World} {a b : Option Addr} {c d : Nat} {L M : List SheetT} (h : Shs lo hi w (.slice a L.length c) L) (hhi : hi ≤ w.heap.size) (h2 : Shs lo2 hi2 w (.slice b M.length d) M) (hhi2 : hi2 ≤ w.heap.size) :
  Calls Tryz.prog 66 #[.slice a L.length c, .slice b M.length d, .func (.func 67) #[] #[]] w fun e w' => e = .returned (.bool (eqL sheetEq L M)) ∧ Below w.heap.size w w' := by
 obtain ⟨_, _, he, hz1, hz2⟩ := h.slice
 cases he
 have hlen : L.length ≤ 9223372036854775807 := by unfold maxLen at hz2; omega
 have H1 : Hid (Shs lo hi w (.slice a L.length c) L) := h
 have H2 : Hid (Shs lo2 hi2 w (.slice b M.length d) M) := h2
 have HEA : Hid (∀ k (hk : k < L.length) (hm : k < M.length), eqAt sheetEq L M k = sheetEq L[k] M[k]) := fun k hk hm => by
  unfold eqAt
  simp only [List.getElem?_eq_getElem hk, List.getElem?_eq_getElem hm]
 generalize hO : eqL sheetEq L M = eb
 have HO : Hid (eqL sheetEq L M = eb) := hO
 clear h h2 hz1 hz2 hO
 by_cases hlm : L.length = M.length
 ·have hne : ((L.length : Int) != (M.length : Int)) = false := by simp [hlm]
  have HLM : Hid (L.length = M.length) := hlm
  clear hlm
  go_enter Tryz.func66, Tryz.ntmps66
  go_wp2
  go_loopw [17] (fun i wr => ∃ (k : Nat), k ≤ L.length ∧ i = .int .i64 (k : Nat) ∧ Hid (∀ j, j < k → eqAt sheetEq L M j = true) ∧ Hid (Below w.heap.size w wr)) (fun i _ => L.length - (intOf i).toNat)
  case atStart => exact ⟨0, Nat.zero_le _, rfl, fun j hj => by omega, Below.refl _ _⟩
  case round =>
   obtain ⟨k, hk, rfl, HA, HD⟩ := hrel
   by_cases hkL : k < L.length
   ·have hki : (k : Int) < L.length := by omega
    have hkM : k < M.length := by rw [← HLM.out]; exact hkL
    have hkm : (k : Int) < M.length := by omega
    have hk63 : k < 9223372036854775807 := by omega
    obtain ⟨a', cv, _, W, rfl, rfl, hcl, hW, R1, R2, -⟩ := (H1.out.below hhi HD.out).runs hkL
    obtain ⟨q, e0, rfl, _, _⟩ := hcl.slice
    have hbW : Below wr.heap.size wr W := by rw [hW]; exact Sh.bel_alloc (Below.refl _ _) (Nat.le_refl _) _
    have HDW : Below w.heap.size w W := Sh.bel_step HD.out HD.out.size hbW
    obtain ⟨b', cv2, _, W2, rfl, rfl, hcl2, hW2, R3, R4, -⟩ := (H2.out.below hhi2 HDW).runs hkM
    obtain ⟨q2, e2, rfl, _, _⟩ := hcl2.slice
    have hbW2 : Below W.heap.size W W2 := by rw [hW2]; exact Sh.bel_alloc (Below.refl _ _) (Nat.le_refl _) _
    have HD2 : Hid (Below w.heap.size w W2) := Sh.bel_step HDW HDW.size hbW2
    have hs1 : W.heap.size = wr.heap.size + 1 := by rw [hW]; simp
    have hx1 : W2.heap[wr.heap.size]? = some (.cells (sheetC L[k] (.slice q L[k].cells.length e0)).toArray 78) := by
     rw [hbW2.block _ (by omega), hW]
     exact heap_alloc_new wr _
    have hx2 : W2.heap[W.heap.size]? = some (.cells (sheetC M[k] (.slice q2 M[k].cells.length e2)).toArray 78) := by
     rw [hW2]
     exact heap_alloc_new W _
    have R5 : Hid _ := ldS hx1
    have R6 : Hid _ := ldS hx2
    have hw1 := Nat.le_trans hhi HD.out.size
    have hw2 := Nat.le_trans hhi2 HDW.size
    have C := alike_any (n := L[k].name) (m := M[k].name) ((hcl.below hw1 hbW).below (Nat.le_trans hw1 hbW.size) hbW2) (Nat.le_trans (Nat.le_trans hw1 hbW.size) hbW2.size) (hcl2.below hw2 hbW2) (Nat.le_trans hw2 hbW2.size)
    have HX : Hid (sheetEq L[k] M[k] = true → ∀ j, j < k + 1 → eqAt sheetEq L M j = true) := fun e j hj => by
     by_cases hjk : j = k
     ·subst hjk; rw [HEA.out j hkL hkM]; exact e
     ·exact HA.out j (by omega)
    have HY : Hid (sheetEq L[k] M[k] = false → eb = false) := fun e => by rw [← HO.out]; exact eqL_no hkL (by rw [HEA.out k hkL hkM]; exact e)
    have HC : Hid (Calls Tryz.prog 67 #[.agg #[.string L[k].name, .slice q L[k].cells.length e0], .agg #[.string M[k].name, .slice q2 M[k].cells.length e2]] W2 fun e w' => e = .returned (.bool (sheetEq L[k] M[k])) ∧ Below W2.heap.size W2 w') := C
    clear hcl hcl2 hW hW2 hbW hbW2 hx1 hx2 C hs1 hw1 hw2 HDW
    generalize sheetEq L[k] M[k] = sq at *
    generalize L[k] = x at *
    generalize M[k] = y at *
    obtain ⟨xn, xc⟩ := x
    obtain ⟨yn, yc⟩ := y
    dsimp only [sheetV, sheetC] at *
    cases sq with
    | true =>
     have HX2 : Hid _ := HX.out rfl
     clear HX HY
     go_wp2_with (first
      | ((with_reducible show wpList _ _ _ ({ dst := _, op := Op.load 78 _, type := _, pos := _, after := _, guard := none } :: _) _ _); refine wpList_load_run rfl 78 _ rfl _ _ rfl R1.out ?_; clear R1)
      | ((with_reducible show wpList _ _ _ ({ dst := _, op := Op.store 78 _ _, type := _, pos := _, after := _, guard := none } :: _) _ _); refine wpList_store_run rfl 78 _ _ rfl _ _ _ rfl rfl R2.out ?_; clear R2)
      | ((with_reducible show wpList _ _ _ ({ dst := _, op := Op.load 78 _, type := _, pos := _, after := _, guard := none } :: _) _ _); refine wpList_load_run rfl 78 _ rfl _ _ rfl R3.out ?_; clear R3)
      | ((with_reducible show wpList _ _ _ ({ dst := _, op := Op.store 78 _ _, type := _, pos := _, after := _, guard := none } :: _) _ _); refine wpList_store_run rfl 78 _ _ rfl _ _ _ rfl rfl R4.out ?_; clear R4)
      | ((with_reducible show wpList _ _ _ ({ dst := _, op := Op.load 78 _, type := _, pos := _, after := _, guard := none } :: _) _ _); refine wpList_load_run rfl 78 _ rfl _ _ rfl R5.out ?_; clear R5)
      | ((with_reducible show wpList _ _ _ ({ dst := _, op := Op.load 78 _, type := _, pos := _, after := _, guard := none } :: _) _ _); refine wpList_load_run rfl 78 _ rfl _ _ rfl R6.out ?_; clear R6)
      | (go_at_call 67; refine HC.out.mono ?_; clear HC; rintro e w1 ⟨rfl, hb⟩; have HB1 : Hid _ := Sh.bel_step HD2.out HD2.out.size hb; clear hb))
     go_roundw
     case rel => exact ⟨k + 1, by omega, by go_num, HX2, HB1⟩
     case measure => simp [intOf]; omega
    | false =>
     obtain rfl := HY.out rfl
     clear HX HY
     go_wp2_with (first
      | ((with_reducible show wpList _ _ _ ({ dst := _, op := Op.load 78 _, type := _, pos := _, after := _, guard := none } :: _) _ _); refine wpList_load_run rfl 78 _ rfl _ _ rfl R1.out ?_; clear R1)
      | ((with_reducible show wpList _ _ _ ({ dst := _, op := Op.store 78 _ _, type := _, pos := _, after := _, guard := none } :: _) _ _); refine wpList_store_run rfl 78 _ _ rfl _ _ _ rfl rfl R2.out ?_; clear R2)
      | ((with_reducible show wpList _ _ _ ({ dst := _, op := Op.load 78 _, type := _, pos := _, after := _, guard := none } :: _) _ _); refine wpList_load_run rfl 78 _ rfl _ _ rfl R3.out ?_; clear R3)
      | ((with_reducible show wpList _ _ _ ({ dst := _, op := Op.store 78 _ _, type := _, pos := _, after := _, guard := none } :: _) _ _); refine wpList_store_run rfl 78 _ _ rfl _ _ _ rfl rfl R4.out ?_; clear R4)
      | ((with_reducible show wpList _ _ _ ({ dst := _, op := Op.load 78 _, type := _, pos := _, after := _, guard := none } :: _) _ _); refine wpList_load_run rfl 78 _ rfl _ _ rfl R5.out ?_; clear R5)
      | ((with_reducible show wpList _ _ _ ({ dst := _, op := Op.load 78 _, type := _, pos := _, after := _, guard := none } :: _) _ _); refine wpList_load_run rfl 78 _ rfl _ _ rfl R6.out ?_; clear R6)
      | (go_at_call 67; refine HC.out.mono ?_; clear HC; rintro e w1 ⟨rfl, hb⟩; have HB1 : Hid _ := Sh.bel_step HD2.out HD2.out.size hb; clear hb))
     go_ret
     exact ⟨rfl, HB1.out⟩
   ·have hki : ¬ (k : Int) < L.length := by omega
    obtain rfl : eb = true := by rw [← HO.out]; exact eqL_yes HLM.out fun i hi => HA.out i (by omega)
    go_wp2
    go_ret
    exact ⟨rfl, HD.out⟩
 ·have hne : ((L.length : Int) != (M.length : Int)) = true := by simp only [bne_iff_ne]; omega
  obtain rfl : eb = false := by rw [← HO.out]; exact eqL_len hlm
  clear hlm HEA HO
  go_enter Tryz.func66, Tryz.ntmps66
  go_wp2
  go_ret
  exact ⟨rfl, Below.refl _ _⟩
theorem same_any {lo hi lo2 hi2 : Nat} {w : World} {sv nv lv sv2 nv2 lv2 : Value} {x1 x2 : BookT} (h : BkM lo hi w sv nv lv x1) (hhi : hi ≤ w.heap.size) (h2 : BkM lo2 hi2 w sv2 nv2 lv2 x2) (hhi2 : hi2 ≤ w.heap.size) :
  Calls Tryz.prog 19 #[.agg #[sv, nv, lv], .agg #[sv2, nv2, lv2]] w fun e w' => e = .returned (.bool (bookEq x1 x2)) ∧ Below w.heap.size w w' := by
 obtain ⟨s1, t1, rfl, _, _⟩ := h.sh.slice
 obtain ⟨n1, m1, rfl, _, _⟩ := h.nm.slice
 obtain ⟨l1, k1, rfl, _, _⟩ := h.lk.slice
 obtain ⟨s2, t2, rfl, _, _⟩ := h2.sh.slice
 obtain ⟨n2, m2, rfl, _, _⟩ := h2.nm.slice
 obtain ⟨l2, k2, rfl, _, _⟩ := h2.lk.slice
 obtain ⟨W, hW⟩ : ∃ W, W = (w.alloc (bkO (.slice s1 x1.sheets.length t1) (.slice n1 x1.names.length m1) (.slice l1 x1.links.length k1))).alloc (bkO (.slice s2 x2.sheets.length t2) (.slice n2 x2.names.length m2) (.slice l2 x2.links.length k2)) := ⟨_, rfl⟩
 have HB : Below w.heap.size w W := by rw [hW]; exact Sh.bel_alloc (Sh.bel_alloc (Below.refl _ _) (Nat.le_refl _) _) (Nat.le_refl _) _
 have hX0 : W.heap[w.heap.size]? = some (bkO (.slice s1 x1.sheets.length t1) (.slice n1 x1.names.length m1) (.slice l1 x1.links.length k1)) := by rw [hW, Below.heap_alloc _ _ _ (by simp)]; exact heap_alloc_new w _
 have hX1 : W.heap[w.heap.size + 1]? = some (bkO (.slice s2 x2.sheets.length t2) (.slice n2 x2.names.length m2) (.slice l2 x2.links.length k2)) := by rw [hW]; simpa using heap_alloc_new (w.alloc (bkO (.slice s1 x1.sheets.length t1) (.slice n1 x1.names.length m1) (.slice l1 x1.links.length k1))) (bkO (.slice s2 x2.sheets.length t2) (.slice n2 x2.names.length m2) (.slice l2 x2.links.length k2))
 have KX : ∀ u, Below W.heap.size W u → (u.cell? ⟨w.heap.size, 1, none⟩ = some (.slice n1 x1.names.length m1) ∧ u.cell? ⟨w.heap.size, 2, none⟩ = some (.slice l1 x1.links.length k1)) ∧ (u.cell? ⟨w.heap.size + 1, 1, none⟩ = some (.slice n2 x2.names.length m2) ∧ u.cell? ⟨w.heap.size + 1, 2, none⟩ = some (.slice l2 x2.links.length k2)) ∧ Below w.heap.size w u := fun u hu => by
  have q0 := b_cells ((hu.block _ (blk_lt hX0)).trans hX0)
  have q1 := b_cells ((hu.block _ (blk_lt hX1)).trans hX1)
  exact ⟨q0.2, q1.2, Sh.bel_step HB HB.size hu⟩
 have c0 := (b_cells hX0).1
 have c1 := (b_cells hX1).1
 have C1 : Calls Tryz.prog 66 _ W fun e u => e = .returned (.bool (eqL sheetEq x1.sheets x2.sheets)) ∧ u.cell? ⟨w.heap.size, 1, none⟩ = some (.slice n1 x1.names.length m1) ∧ u.cell? ⟨w.heap.size + 1, 1, none⟩ = some (.slice n2 x2.names.length m2) ∧ Hid (Below W.heap.size W u) := (equalFunc_any (h.sh.below hhi HB) (Nat.le_trans hhi HB.size) (h2.sh.below hhi2 HB) (Nat.le_trans hhi2 HB.size)).mono (by
  rintro e u ⟨rfl, hu⟩
  obtain ⟨q0, q1, q2⟩ := KX u hu
  exact ⟨rfl, q0.1, q1.1, hu⟩)
 have C2 : Hid (∀ u, Below W.heap.size W u → Calls Tryz.prog 68 #[.slice n1 x1.names.length m1, .slice n2 x2.names.length m2] u fun e v => e = .returned (.bool (eqL nameEq x1.names x2.names)) ∧ v.cell? ⟨w.heap.size, 2, none⟩ = some (.slice l1 x1.links.length k1) ∧ v.cell? ⟨w.heap.size + 1, 2, none⟩ = some (.slice l2 x2.links.length k2) ∧ Hid (Below W.heap.size W v)) := fun u hu => by
  have hub := (KX u hu).2.2
  refine (equal_68 (h.nm.below hhi hub) (Nat.le_trans hhi hub.size) (h2.nm.below hhi2 hub) (Nat.le_trans hhi2 hub.size)).mono ?_
  rintro e v ⟨rfl, hv⟩
  have hv2 := Sh.bel_step hu hu.size hv
  obtain ⟨q0, q1, q2⟩ := KX v hv2
  exact ⟨rfl, q0.2, q1.2, hv2⟩
 have C3 : Hid (∀ u, Below W.heap.size W u → Calls Tryz.prog 69 #[.slice l1 x1.links.length k1, .slice l2 x2.links.length k2] u fun e v => e = .returned (.bool (eqL linkEq x1.links x2.links)) ∧ Hid (Below w.heap.size w v)) := fun u hu => by
  have hub := (KX u hu).2.2
  refine (equal_69 (h.lk.below hhi hub) (Nat.le_trans hhi hub.size) (h2.lk.below hhi2 hub) (Nat.le_trans hhi2 hub.size)).mono ?_
  rintro e v ⟨rfl, hv⟩
  exact ⟨rfl, Sh.bel_step hub hub.size hv⟩
 have HKX : Hid (∀ u, Below W.heap.size W u → Below w.heap.size w u) := fun u hu => (KX u hu).2.2
 rw [hW] at c0 c1
 have HW : Hid ((w.alloc (bkO (.slice s1 x1.sheets.length t1) (.slice n1 x1.names.length m1) (.slice l1 x1.links.length k1))).alloc (bkO (.slice s2 x2.sheets.length t2) (.slice n2 x2.names.length m2) (.slice l2 x2.links.length k2)) = W) := hW.symm
 unfold bookEq
 generalize eqL sheetEq x1.sheets x2.sheets = e1 at *
 generalize eqL nameEq x1.names x2.names = e2 at *
 generalize eqL linkEq x1.links x2.links = e3 at *
 clear h h2 HB hX0 hX1 hW KX
 cases e1 with
 | false =>
  go_enter Tryz.func19, Tryz.ntmps19
  go_wp2_with (go_at_call 66; rw [HW.out]; refine C1.mono ?_; clear C1; rintro e w1 ⟨rfl, d0, d1, HB1⟩)
  go_ret
  exact ⟨rfl, HKX.out _ HB1.out⟩
 | true =>
  cases e2 with
  | false =>
   go_enter Tryz.func19, Tryz.ntmps19
   go_wp2_with (first
    | (go_at_call 66; rw [HW.out]; refine C1.mono ?_; clear C1; rintro e w1 ⟨rfl, d0, d1, HB1⟩)
    | (go_at_call 68; refine (C2.out _ HB1.out).mono ?_; clear C2; rintro e w2 ⟨rfl, f0, f1, HB2⟩))
   go_ret
   exact ⟨rfl, HKX.out _ HB2.out⟩
  | true =>
   go_enter Tryz.func19, Tryz.ntmps19
   go_wp2_with (first
    | (go_at_call 66; rw [HW.out]; refine C1.mono ?_; clear C1; rintro e w1 ⟨rfl, d0, d1, HB1⟩)
    | (go_at_call 68; refine (C2.out _ HB1.out).mono ?_; clear C2; rintro e w2 ⟨rfl, f0, f1, HB2⟩)
    | (go_at_call 69; refine (C3.out _ HB2.out).mono ?_; clear C3; rintro e w3 ⟨rfl, HB3⟩))
   go_ret
   exact ⟨rfl, HB3.out⟩
end Go.Proofs.YtnibldnfbikipaaGreatDoor.Sh
namespace Go.Proofs.YtnibldnfbikipaaGreatDoor.Sh
open Go.RowKit Go.Fm
abbrev sS : ByteArray := ⟨#[83]⟩
abbrev bk0 : BookT := ⟨[⟨sS, []⟩], [], []⟩
abbrev tA : ByteArray := ⟨#[61, 65, 50, 43, 49]⟩
abbrev tB : ByteArray := ⟨#[61, 65, 50, 43]⟩
abbrev tC : ByteArray := ⟨#[120]⟩
theorem idx0 : idxN bk0.sheets sS = some 0 := by kernel_rfl
theorem ex1 : putE bk0 sS 1 1 tA = 0 := by kernel_rfl
theorem ex2 : putE bk0 sS 1 1 tB = 10 := by kernel_rfl
theorem ex3 : dropE bk0 sS = 15 := by kernel_rfl
theorem ex4 : putE bk0 sS 65 1 tC = 9 := by kernel_rfl
theorem ex5 : getL (cellsO (putAt bk0 0 ⟨1, 1, tA⟩).sheets sS) 1 1 = tA := by kernel_rfl
theorem ex6 : bookEq (putAt bk0 0 ⟨1, 1, tA⟩) (putAt bk0 0 ⟨1, 1, tA⟩) = true := by kernel_rfl
theorem small0 : Small bk0 := ⟨by decide, by simp, by decide, by decide⟩
theorem rises0 : Rises bk0 := by
 intro s hs
 simp at hs
 rw [hs]
 exact List.Pairwise.nil
theorem bk0_mem {w : World} {g : Nat} (hg : w.heap[g]? = some (.cells #[.string sS, .slice none 0 0] 78)) : BkM g (g + 1) w (newS g 1) (.slice none 0 0) (.slice none 0 0) bk0 := by
 refine ⟨⟨fun _ => .slice none 0 0, ?_, fun j o hj => ?_⟩, .inl ⟨rfl, rfl⟩, .inl ⟨rfl, rfl⟩⟩
 ·refine row_rws (L := bk0.sheets) hg (fun j hj => ?_) (Nat.le_refl _) (by decide)
  obtain rfl : j = 0 := by simpa using hj
  exact ⟨rfl, rfl⟩
 ·obtain ⟨hj1, rfl⟩ := List.getElem?_eq_some_iff.1 hj
  obtain rfl : j = 0 := by simpa using hj1
  exact Cls.nil _ _ _
theorem put_any {lo hi : Nat} {w : World} {sv nv lv : Value} {x : BookT} (h : BkM lo hi w sv nv lv x) (hhi : hi ≤ w.heap.size) (hz : Small x) (hR : Rises x) (T : Tab9 w) (s : ByteArray) (r c : Int) (t : ByteArray) :
  Calls Tryz.prog 13 #[.agg #[sv, nv, lv], .string s, .int .i64 r, .int .i64 c, .string t] w (PutP w (putE x s r c t) (putAt x ((idxN x.sheets s).getD 0) ⟨r, c, t⟩)) := by
 obtain ⟨sa, sc, rfl, hs1, hs2⟩ := h.sh.slice
 obtain ⟨na, nc, rfl, _, _⟩ := h.nm.slice
 obtain ⟨la, lc, rfl, _, _⟩ := h.lk.slice
 obtain ⟨W, hW⟩ : ∃ W, W = (w.alloc (bkO (.slice sa x.sheets.length sc) (.slice na x.names.length nc) (.slice la x.links.length lc))).alloc (.cells #[.slice none 0 0, .slice none 0 0, .slice none 0 0] 26) := ⟨_, rfl⟩
 have HB0 : Below w.heap.size w W := by rw [hW]; exact Sh.bel_alloc (Sh.bel_alloc (Below.refl _ _) (Nat.le_refl _) _) (Nat.le_refl _) _
 have hX0 : W.heap[w.heap.size]? = some (bkO (.slice sa x.sheets.length sc) (.slice na x.names.length nc) (.slice la x.links.length lc)) := by rw [hW, Below.heap_alloc _ _ _ (by simp)]; exact heap_alloc_new w _
 have hX1 : W.heap[w.heap.size + 1]? = some (.cells #[.slice none 0 0, .slice none 0 0, .slice none 0 0] 26) := by rw [hW]; simpa using heap_alloc_new (w.alloc (bkO (.slice sa x.sheets.length sc) (.slice na x.names.length nc) (.slice la x.links.length lc))) (.cells #[.slice none 0 0, .slice none 0 0, .slice none 0 0] 26)
 have hlen : x.sheets.length ≤ 1000 := hz.sh
 have KX : ∀ u, Below W.heap.size W u → u.heap[w.heap.size]? = some (bkO (.slice sa x.sheets.length sc) (.slice na x.names.length nc) (.slice la x.links.length lc)) ∧ u.heap[w.heap.size + 1]? = some (.cells #[.slice none 0 0, .slice none 0 0, .slice none 0 0] 26) ∧ Below w.heap.size w u := fun u hu => ⟨(hu.block _ (blk_lt hX0)).trans hX0, (hu.block _ (blk_lt hX1)).trans hX1, Sh.bel_step HB0 HB0.size hu⟩
 have C1 : Calls Tryz.prog 20 #[.agg #[.slice sa x.sheets.length sc, .slice na x.names.length nc, .slice la x.links.length lc], .string s] W fun e u => e = .returned (.int .i64 (idxI (idxN x.sheets s))) ∧ Hid (Below W.heap.size W u) := (index_any (h.below hhi HB0) (Nat.le_trans hhi HB0.size) s).mono (by
  rintro e u ⟨rfl, hu⟩
  exact ⟨rfl, hu⟩)
 have C2 : Hid (∀ u, Below W.heap.size W u → Calls Tryz.prog 26 #[.string t] u fun e v => e = .returned (.int .i64 (mayF t)) ∧ Hid (Below W.heap.size W v)) := fun u hu => (may_any t u (T.below (KX u hu).2.2)).mono (by
  rintro e v ⟨rfl, hv⟩
  exact ⟨rfl, Sh.bel_step hu hu.size hv⟩)
 have HERR : Hid (∀ u, Below W.heap.size W u → _) := fun u hu => out_err (KX u hu).2.2 (KX u hu).2.1 (by omega)
 have R0 : Hid _ := ldB hX0
 have HKX : Hid _ := KX
 have HH : Hid (BkM lo hi w (.slice sa x.sheets.length sc) (.slice na x.names.length nc) (.slice la x.links.length lc) x) := h
 have HZz : Hid (Small x) := hz
 have HRR : Hid (Rises x) := hR
 rw [hW] at R0 C1
 rw [← hW] at C1 R0
 have HW : Hid ((w.alloc (bkO (.slice sa x.sheets.length sc) (.slice na x.names.length nc) (.slice la x.links.length lc))).alloc (.cells #[.slice none 0 0, .slice none 0 0, .slice none 0 0] 26) = W) := hW.symm
 clear h HB0 hX0 hX1 hW T hs1 hs2 KX hz hR
 unfold putE
 by_cases h3 : mayF t = 3
 ·rw [if_pos h3]
  rw [h3] at C2
  generalize idxI (idxN x.sheets s) = oi at *
  clear h3
  go_enter Tryz.func13, Tryz.ntmps13
  go_wp2_with (first
   | (rw [HW.out]; refine wpList_load_run rfl 26 _ rfl _ _ rfl R0.out ?_)
   | (go_at_call 20; refine C1.mono ?_; clear C1; rintro e w1 ⟨rfl, HB1⟩; have CM := C2.out w1 HB1.out; clear C2)
   | (go_at_call 26; refine CM.mono ?_; clear CM; rintro e w2 ⟨rfl, HB2⟩; obtain ⟨RS, HZ, HBz⟩ := HERR.out w2 HB2.out; clear HERR)
   | (refine wpl_build rfl 26 _ rfl _ _ (by go_simp) (bbuild0 _) ?_)
   | (refine wpList_store_run rfl 26 _ _ rfl _ _ _ rfl rfl RS.out ?_))
  refine bodyPost_ret (res2 rfl rfl HZ.out rfl rfl) rfl ?_
  exact ⟨by rw [if_neg (by decide)]; rfl, HBz.out⟩
 ·rw [if_neg h3]
  cases hO : idxN x.sheets s with
  | none =>
   rw [hO] at C1
   simp only [idxI] at C1
   have h3b : ((mayF t) == 3) = false := by simpa using h3
   clear h3
   generalize mayF t = me at *
   go_enter Tryz.func13, Tryz.ntmps13
   go_wp2_with (first
    | (rw [HW.out]; refine wpList_load_run rfl 26 _ rfl _ _ rfl R0.out ?_)
    | (go_at_call 20; refine C1.mono ?_; clear C1; rintro e w1 ⟨rfl, HB1⟩; have CM := C2.out w1 HB1.out; clear C2)
    | (go_at_call 26; refine CM.mono ?_; clear CM; rintro e w2 ⟨rfl, HB2⟩; obtain ⟨RS, HZ, HBz⟩ := HERR.out w2 HB2.out; clear HERR)
    | (refine wpl_build rfl 26 _ rfl _ _ (by go_simp) (bbuild0 _) ?_)
    | (refine wpList_store_run rfl 26 _ _ rfl _ _ _ rfl rfl RS.out ?_))
   refine bodyPost_ret (res2 rfl rfl HZ.out rfl rfl) rfl ?_
   exact ⟨by rw [if_neg (by decide)]; rfl, HBz.out⟩
  | some i =>
   rw [hO] at C1
   simp only [idxI] at C1
   have hil := idx_lt hO
   have hni : decide ((i : Int) < 0) = false := by simp
   have hii : (i : Int) < x.sheets.length := by omega
   have h3b : ((mayF t) == 3) = false := by simpa using h3
   dsimp only [Option.getD]
   clear hO
   by_cases h9 : insB r c = false
   ·rw [if_pos h9]
    clear h3
    generalize mayF t = me at *
    go_enter Tryz.func13, Tryz.ntmps13
    go_wp2_with (first
     | (rw [HW.out]; refine wpList_load_run rfl 26 _ rfl _ _ rfl R0.out ?_)
     | (go_at_call 20; refine C1.mono ?_; clear C1; rintro e w1 ⟨rfl, HB1⟩; have CM := C2.out w1 HB1.out; clear C2)
     | (go_at_call 26; refine CM.mono ?_; clear CM; rintro e w2 ⟨rfl, HB2⟩; obtain ⟨RS, HZ, HBz⟩ := HERR.out w2 HB2.out; clear HERR)
     | (go_at_call 56; refine (inside_any _ _ _).mono ?_; rintro e w' ⟨rfl, hw⟩; obtain rfl := hw.symm; clear hw)
     | (refine wpl_build rfl 26 _ rfl _ _ (by go_simp) (bbuild0 _) ?_)
     | (refine wpList_store_run rfl 26 _ _ rfl _ _ _ rfl rfl RS.out ?_))
    refine bodyPost_ret (res2 rfl rfl HZ.out rfl rfl) rfl ?_
    exact ⟨by rw [if_neg (by decide)]; rfl, HBz.out⟩
   ·rw [if_neg h9]
    have h9t : insB r c = true := by simpa using h9
    clear h9
    by_cases h10 : mayF t ≠ 0
    ·rw [if_pos h10]
     have h10b : ((mayF t) != 0) = true := by simpa using h10
     have HM : Hid (¬ mayF t = 0) := h10
     clear h3 h10
     generalize mayF t = me at *
     go_enter Tryz.func13, Tryz.ntmps13
     go_wp2_with (first
      | (rw [HW.out]; refine wpList_load_run rfl 26 _ rfl _ _ rfl R0.out ?_)
      | (go_at_call 20; refine C1.mono ?_; clear C1; rintro e w1 ⟨rfl, HB1⟩; have CM := C2.out w1 HB1.out; clear C2)
      | (go_at_call 26; refine CM.mono ?_; clear CM; rintro e w2 ⟨rfl, HB2⟩; obtain ⟨RS, HZ, HBz⟩ := HERR.out w2 HB2.out; clear HERR)
      | (go_at_call 56; refine (inside_any _ _ _).mono ?_; rintro e w' ⟨rfl, hw⟩; obtain rfl := hw.symm; clear hw)
      | (refine wpl_build rfl 26 _ rfl _ _ (by go_simp) (bbuild0 _) ?_)
      | (refine wpList_store_run rfl 26 _ _ rfl _ _ _ rfl rfl RS.out ?_))
     refine bodyPost_ret (res2 rfl rfl HZ.out rfl rfl) rfl ?_
     exact ⟨by rw [if_neg HM.out]; rfl, HBz.out⟩
    ·rw [if_neg h10]
     have h100 : mayF t = 0 := by simpa using h10
     rw [h100] at C2
     clear h3 h3b h10 h100
     obtain ⟨cv, hr, hcc⟩ := HH.out.sh
     obtain ⟨a', rfl, _, _⟩ := Rws.at hr hil
     obtain ⟨q, d, hcv, _, _⟩ := (hcc i _ (List.getElem?_eq_getElem hil)).slice
     have HCE : Hid (∀ u, Below W.heap.size W u → u.cell? ⟨(a'.add (i * 2)).block, (a'.add (i * 2)).off + 1, none⟩ = some (.slice q x.sheets[i].cells.length d) ∧ Cls lo hi u (.slice q x.sheets[i].cells.length d) x.sheets[i].cells) := fun u hu => by
      have hub := (HKX.out u hu).2.2
      have hr2 := hr.kept (w' := u) fun k _ hk => hub.block k (by omega)
      obtain ⟨a2, e2, _, g2⟩ := Rws.at hr2 hil
      cases e2
      refine ⟨g2 1 _ (by omega) (by simp [sheetsC, List.getElem?_eq_getElem hil, sheetC, hcv]), ?_⟩
      have := (hcc i _ (List.getElem?_eq_getElem hil)).below hhi hub
      rw [hcv] at this
      exact this
     have C3 : Hid (∀ u, Below W.heap.size W u → Calls Tryz.prog 24 #[.agg #[.slice (some a') x.sheets.length sc, .slice na x.names.length nc, .slice la x.links.length lc]] u fun e v => e = .returned (.int .i64 (cntL x.sheets : Nat)) ∧ v.cell? ⟨w.heap.size, 0, none⟩ = some (.slice (some a') x.sheets.length sc) ∧ v.cell? ⟨(a'.add (i * 2)).block, (a'.add (i * 2)).off + 1, none⟩ = some (.slice q x.sheets[i].cells.length d) ∧ Hid (Below W.heap.size W v)) := fun u hu =>
      (count_any (HH.out.below hhi (HKX.out u hu).2.2) (Nat.le_trans hhi (HKX.out u hu).2.2.size) (by have := cnt_small HZz.out; omega)).mono (by
       rintro e v ⟨rfl, hv⟩
       have hv2 := Sh.bel_step hu hu.size hv
       exact ⟨rfl, cell_heap (HKX.out v hv2).1 rfl, (HCE.out v hv2).1, hv2⟩)
     have C4 : Hid (∀ u, Below W.heap.size W u → Calls Tryz.prog 57 #[.slice q x.sheets[i].cells.length d, .int .i64 r, .int .i64 c] u fun e v => e = .returned (.bool (x.sheets[i].cells.any (atB r c))) ∧ Hid (Below W.heap.size W v)) := fun u hu =>
      (has_any (HCE.out u hu).2 (Nat.le_trans hhi (HKX.out u hu).2.2.size) (HZz.out.cl _ (List.getElem_mem hil)) (HRR.out _ (List.getElem_mem hil)) r c).mono (by
       rintro e v ⟨rfl, hv⟩
       exact ⟨rfl, Sh.bel_step hu hu.size hv⟩)
     have C5 : Hid (∀ u, Below W.heap.size W u → Calls Tryz.prog 17 #[.agg #[.slice (some a') x.sheets.length sc, .slice na x.names.length nc, .slice la x.links.length lc]] u fun e v => ∃ gs gn gl, e = .returned (.agg #[newS gs x.sheets.length, newS gn x.names.length, newS gl x.links.length]) ∧ (v.alloc (.cells #[newS gs x.sheets.length, newS gn x.names.length, newS gl x.links.length] 26)).cell? ⟨v.heap.size, 0, none⟩ = some (newS gs x.sheets.length) ∧ (v.alloc (.cells #[newS gs x.sheets.length, newS gn x.names.length, newS gl x.links.length] 26)).cell? ⟨gs, i * 2 + 1, none⟩ = some (newS (gs + 1 + i) x.sheets[i].cells.length) ∧
       Hid (Calls Tryz.prog 58 #[newS (gs + 1 + i) x.sheets[i].cells.length, cellV ⟨r, c, t⟩] (v.alloc (.cells #[newS gs x.sheets.length, newS gn x.names.length, newS gl x.links.length] 26)) fun e w4 => ∃ pa pn pc w6, e = .returned (.slice pa pn pc) ∧ w4.cell? ⟨gs, i * 2 + 1, none⟩ = some (newS (gs + 1 + i) x.sheets[i].cells.length) ∧ w4.frozen? ⟨gs, i * 2 + 1, none⟩ = false ∧
        Hid ((Instr.loadAt 26 (.pointer (some ⟨v.heap.size, 0, none⟩))).run Tryz.prog (w4.setCell ⟨gs, i * 2 + 1, none⟩ (.slice pa pn pc)) = .ok (.agg #[newS gs x.sheets.length, newS gn x.names.length, newS gl x.links.length]) (w4.setCell ⟨gs, i * 2 + 1, none⟩ (.slice pa pn pc))) ∧
        Hid ((Instr.storeAt 26 (.pointer (some ⟨w.heap.size + 1, 0, none⟩)) (.agg #[newS gs x.sheets.length, newS gn x.names.length, newS gl x.links.length])).run Tryz.prog (w4.setCell ⟨gs, i * 2 + 1, none⟩ (.slice pa pn pc)) = .ok () w6) ∧
        Hid (w6.heap[w.heap.size + 1]? = some (.cells #[newS gs x.sheets.length, newS gn x.names.length, newS gl x.links.length] 26)) ∧
        Hid (OwnB w.heap.size w6 (newS gs x.sheets.length) (newS gn x.names.length) (newS gl x.links.length) (putAt x i ⟨r, c, t⟩)) ∧ Hid (Below w.heap.size w w6))) := fun u hu =>
      (copy_any (HH.out.below hhi (HKX.out u hu).2.2) (Nat.le_trans hhi (HKX.out u hu).2.2.size) HZz.out).mono (by
       rintro e v ⟨⟨gs, gn, gl, rfl, hC⟩, hv⟩
       have hub := (HKX.out u hu).2.2
       have hb1 := hC.b1
       have hx1 := (HKX.out u hu).2.1
       have hl1 := blk_lt hx1
       obtain ⟨V, hV, c1, c2, CC⟩ := put_tail (w := w) (hC.mono hub.size) HZz.out HRR.out hil (Sh.bel_step hub hub.size hv) (by omega) ((hv.block _ hl1).trans hx1) ⟨r, c, t⟩
       rw [hV] at c1 c2 CC
       exact ⟨gs, gn, gl, rfl, c1, c2, CC⟩)
     have HFU : Hid (full x i r c t = (!(t.toList == []) && (decide (200 ≤ cntL x.sheets) && !(x.sheets[i].cells.any (atB r c))))) := by
      show _ = _
      unfold full
      simp only [List.getElem?_eq_getElem hil, Option.map_some, Option.getD_some]
     generalize hfu : full x i r c t = fu at *
     clear hr hcc hcv hfu HCE HERR
     generalize x.sheets[i].cells.any (atB r c) = an at *
     generalize x.sheets[i].cells.length = ln at *
     generalize cntL x.sheets = ct at *
     have hi2 : i < 9223372036854775807 := by omega
     clear hil HZz HRR HH
     have BU : Hid (∀ u : World, _) := fun u : World => cbuild3 u r c t
     have HOK : Hid (∀ sv nv lv w6, OwnB w.heap.size w6 sv nv lv (putAt x i ⟨r, c, t⟩) → Below w.heap.size w w6 → PutP w 0 (putAt x i ⟨r, c, t⟩) (.returned (.tuple #[.agg #[sv, nv, lv], .int .i64 0])) w6) := fun sv nv lv w6 h1 h2 => ⟨by rw [if_pos rfl]; exact ⟨_, _, _, rfl, h1⟩, h2⟩
     cases ht : t.toList == [] with
     | true =>
      rw [ht] at HFU
      obtain rfl : fu = false := HFU.out
      clear HFU C3 C4
      rw [if_neg (by decide)]
      generalize PutP w 0 (putAt x i ⟨r, c, t⟩) = Q0 at *
      go_enter Tryz.func13, Tryz.ntmps13
      go_wp2_with (first
       | (rw [HW.out]; refine wpList_load_run rfl 26 _ rfl _ _ rfl R0.out ?_; clear R0)
       | (go_at_call 20; refine C1.mono ?_; clear C1; rintro e w1 ⟨rfl, HB1⟩; have CM := C2.out w1 HB1.out; clear C2)
       | (go_at_call 26; refine CM.mono ?_; clear CM; rintro e w2 ⟨rfl, HB2⟩; obtain ⟨c20, c21, c22⟩ := b_cells (HKX.out _ HB2.out).1)
       | (go_at_call 56; refine (inside_any _ _ _).mono ?_; rintro e w' ⟨rfl, hw⟩; obtain rfl := hw.symm; clear hw)
       | (go_at_call 17; refine (C5.out _ HB2.out).mono ?_; clear C5; rintro e v ⟨gs, gn, gl, rfl, cV, cW, CW⟩)
       | (go_at_call 58; refine CW.out.mono ?_; clear CW; rintro e w5 ⟨pa, pn, pc, w6, rfl, c50, f50, RL6, RS6, HG6, HO6, HB6⟩)
       | ((with_reducible show wpList _ _ _ ({ dst := _, op := Op.load 26 _, type := _, pos := _, after := _, guard := none } :: _) _ _); refine wpList_load_run rfl 26 _ rfl _ _ rfl RL6.out ?_; clear RL6)
       | ((with_reducible show wpList _ _ _ ({ dst := _, op := Op.store 26 _ _, type := _, pos := _, after := _, guard := none } :: _) _ _); refine wpList_store_run rfl 26 _ _ rfl _ _ _ rfl rfl RS6.out ?_; clear RS6))
      refine bodyPost_ret (res2 rfl rfl HG6.out rfl rfl) rfl ?_
      exact HOK.out _ _ _ _ HO6.out HB6.out
     | false =>
      rw [ht] at HFU
      by_cases hct : 200 ≤ ct
      ·have hcti : (200 : Int) ≤ ct := by omega
       cases han : an with
       | true =>
        rw [han] at HFU C4
        obtain rfl : fu = false := by rw [HFU.out]; simp
        clear HFU
        rw [if_neg (by decide)]
        generalize PutP w 0 (putAt x i ⟨r, c, t⟩) = Q0 at *
        go_enter Tryz.func13, Tryz.ntmps13
        go_wp2_with (first
         | (rw [HW.out]; refine wpList_load_run rfl 26 _ rfl _ _ rfl R0.out ?_; clear R0)
         | (go_at_call 20; refine C1.mono ?_; clear C1; rintro e w1 ⟨rfl, HB1⟩; have CM := C2.out w1 HB1.out; clear C2)
         | (go_at_call 26; refine CM.mono ?_; clear CM; rintro e w2 ⟨rfl, HB2⟩; obtain ⟨c20, c21, c22⟩ := b_cells (HKX.out _ HB2.out).1)
         | (go_at_call 56; refine (inside_any _ _ _).mono ?_; rintro e w' ⟨rfl, hw⟩; obtain rfl := hw.symm; clear hw)
         | (go_at_call 24; refine (C3.out _ HB2.out).mono ?_; clear C3; rintro e w3 ⟨rfl, c30, c31, HB3⟩; obtain ⟨_, c32, c33⟩ := b_cells (HKX.out _ HB3.out).1)
         | (go_at_call 57; refine (C4.out _ HB3.out).mono ?_; clear C4; rintro e w4 ⟨rfl, HB4⟩; obtain ⟨c40, c41, c42⟩ := b_cells (HKX.out _ HB4.out).1)
         | (go_at_call 17; refine (C5.out _ HB4.out).mono ?_; clear C5; rintro e v ⟨gs, gn, gl, rfl, cV, cW, CW⟩)
         | (go_at_call 58; refine CW.out.mono ?_; clear CW; rintro e w5 ⟨pa, pn, pc, w6, rfl, c50, f50, RL6, RS6, HG6, HO6, HB6⟩)
         | ((with_reducible show wpList _ _ _ ({ dst := _, op := Op.load 26 _, type := _, pos := _, after := _, guard := none } :: _) _ _); refine wpList_load_run rfl 26 _ rfl _ _ rfl RL6.out ?_; clear RL6)
         | ((with_reducible show wpList _ _ _ ({ dst := _, op := Op.store 26 _ _, type := _, pos := _, after := _, guard := none } :: _) _ _); refine wpList_store_run rfl 26 _ _ rfl _ _ _ rfl rfl RS6.out ?_; clear RS6))
        refine bodyPost_ret (res2 rfl rfl HG6.out rfl rfl) rfl ?_
        exact HOK.out _ _ _ _ HO6.out HB6.out
       | false =>
        rw [han] at HFU C4
        obtain rfl : fu = true := by rw [HFU.out]; simp [hct]
        clear HFU
        rw [if_pos rfl]
        have HERR : Hid (∀ u, Below W.heap.size W u → _) := fun u hu => out_err (HKX.out u hu).2.2 (HKX.out u hu).2.1 (Nat.le_succ _)
        go_enter Tryz.func13, Tryz.ntmps13
        go_wp2_with (first
         | (rw [HW.out]; refine wpList_load_run rfl 26 _ rfl _ _ rfl R0.out ?_)
         | (go_at_call 20; refine C1.mono ?_; clear C1; rintro e w1 ⟨rfl, HB1⟩; have CM := C2.out w1 HB1.out; clear C2)
         | (go_at_call 26; refine CM.mono ?_; clear CM; rintro e w2 ⟨rfl, HB2⟩; obtain ⟨c20, c21, c22⟩ := b_cells (HKX.out _ HB2.out).1)
         | (go_at_call 56; refine (inside_any _ _ _).mono ?_; rintro e w' ⟨rfl, hw⟩; obtain rfl := hw.symm; clear hw)
         | (go_at_call 24; refine (C3.out _ HB2.out).mono ?_; clear C3; rintro e w3 ⟨rfl, c30, c31, HB3⟩)
         | (go_at_call 57; refine (C4.out _ HB3.out).mono ?_; clear C4; rintro e w4 ⟨rfl, HB4⟩; obtain ⟨RS, HZ, HBz⟩ := HERR.out w4 HB4.out; clear HERR)
         | (refine wpl_build rfl 26 _ rfl _ _ (by go_simp) (bbuild0 _) ?_)
         | (refine wpList_store_run rfl 26 _ _ rfl _ _ _ rfl rfl RS.out ?_))
        refine bodyPost_ret (res2 rfl rfl HZ.out rfl rfl) rfl ?_
        exact ⟨by rw [if_neg (by decide)]; rfl, HBz.out⟩
      ·have hcti : ¬ (200 : Int) ≤ ct := by omega
       obtain rfl : fu = false := by rw [HFU.out]; simp [hct]
       clear HFU C4
       rw [if_neg (by decide)]
       generalize PutP w 0 (putAt x i ⟨r, c, t⟩) = Q0 at *
       go_enter Tryz.func13, Tryz.ntmps13
       go_wp2_with (first
        | (rw [HW.out]; refine wpList_load_run rfl 26 _ rfl _ _ rfl R0.out ?_; clear R0)
        | (go_at_call 20; refine C1.mono ?_; clear C1; rintro e w1 ⟨rfl, HB1⟩; have CM := C2.out w1 HB1.out; clear C2)
        | (go_at_call 26; refine CM.mono ?_; clear CM; rintro e w2 ⟨rfl, HB2⟩; obtain ⟨c20, c21, c22⟩ := b_cells (HKX.out _ HB2.out).1)
        | (go_at_call 56; refine (inside_any _ _ _).mono ?_; rintro e w' ⟨rfl, hw⟩; obtain rfl := hw.symm; clear hw)
        | (go_at_call 24; refine (C3.out _ HB2.out).mono ?_; clear C3; rintro e w3 ⟨rfl, c30, c31, HB3⟩; obtain ⟨_, c32, c33⟩ := b_cells (HKX.out _ HB3.out).1)
        | (go_at_call 17; refine (C5.out _ HB3.out).mono ?_; clear C5; rintro e v ⟨gs, gn, gl, rfl, cV, cW, CW⟩)
        | (go_at_call 58; refine CW.out.mono ?_; clear CW; rintro e w5 ⟨pa, pn, pc, w6, rfl, c50, f50, RL6, RS6, HG6, HO6, HB6⟩)
        | ((with_reducible show wpList _ _ _ ({ dst := _, op := Op.load 26 _, type := _, pos := _, after := _, guard := none } :: _) _ _); refine wpList_load_run rfl 26 _ rfl _ _ rfl RL6.out ?_; clear RL6)
        | ((with_reducible show wpList _ _ _ ({ dst := _, op := Op.store 26 _ _, type := _, pos := _, after := _, guard := none } :: _) _ _); refine wpList_store_run rfl 26 _ _ rfl _ _ _ rfl rfl RS6.out ?_; clear RS6))
       refine bodyPost_ret (res2 rfl rfl HG6.out rfl rfl) rfl ?_
       exact HOK.out _ _ _ _ HO6.out HB6.out
end Go.Proofs.YtnibldnfbikipaaGreatDoor.Sh
