/- SBin, SPut, SRow, SCop. -/
import Derived.Laws.CopyRow
import Derived.Laws.MakeOwn
import Derived.Test.YtnibldnfbikipaaGreatDoorVDrawBy
set_option linter.unusedVariables false
set_option linter.unusedSimpArgs false
set_option maxHeartbeats 16000000
set_option maxRecDepth 100000
namespace Go.Proofs.YtnibldnfbikipaaGreatDoor.Sh
open Go.RowKit
theorem exec_load {P : Program} {ev : Operand → Value} {o : Oper} {ty : TypeId} {x : Operand} {p v : Value} {u : World} (ho : o.op = .load ty x) (hx : ev x = p) (hrun : (Instr.loadAt ty p).run P u = .ok v u) : (execOp ev o).run P u = .ok (.value v) u := by
 unfold execOp
 simp only [ho, hx, Sem.run_bind, Sem.run_pure, hrun, Result.andThen_ok]
theorem ldC {u : World} {g : Nat} {y : CellT} {z : Nat × Nat} (h : u.heap[g]? = some (.cells (cellC y).toArray 57 z)) : (Instr.loadAt 57 (.pointer (some ⟨g, 0, none⟩))).run Tryz.prog u = .ok (cellV y) u := by
 have hi : (Tryz.prog.info? 57).map (·.size) = some (cellC y).toArray.size := by show _ = some 3; kernel_rfl
 simp only [Instr.loadAt, Instr.sureAddr, Sem.run_bind, Sem.run_pure, Result.andThen_ok, run_loadVar_row u g 57 57 _ z _ h Tryz.underlying57 rfl hi]
 rfl
def BsR (L : List CellT) (t : CellT) (i : Nat) (b : Bool) : Prop :=
 i ≤ L.length ∧ (∀ h : i - 1 < L.length, 0 < i → ordC L[i - 1] t < 0) ∧ (∀ h : i < L.length, 0 ≤ ordC L[i] t) ∧ (b = true ↔ ∃ h : i < L.length, ordC L[i] t = 0)
theorem bin_any {lo hi : Nat} {w : World} {a : Option Addr} {c : Nat} {L : List CellT} (h : Cls lo hi w (.slice a L.length c) L) (hhi : hi ≤ w.heap.size) (hlen : L.length ≤ 4611686018427387903) (t : CellT) :
  Calls Tryz.prog 117 #[.slice a L.length c, cellV t, .func (.func 113) #[] #[]] w fun e w' => (∃ (i : Nat) (b : Bool), e = .returned (.tuple #[.int .i64 (i : Nat), .bool b]) ∧ BsR L t i b) ∧ Below w.heap.size w w' := by
 have HS : Hid (Cls lo hi w (.slice a L.length c) L) := h
 have HB0 : Hid (Below w.heap.size w (w.alloc (ceO t))) := Sh.bel_alloc (Below.refl _ _) (Nat.le_refl _) _
 have HX0 : Hid ((w.alloc (ceO t)).heap[w.heap.size]? = some (ceO t)) := heap_alloc_new w _
 simp only [ceO, cellC] at HB0 HX0
 clear h
 go_enter Tryz.func117, Tryz.ntmps117
 go_wp2
 go_loopw [9, 10] (fun i j wr => ∃ (p q : Nat), p ≤ q ∧ q ≤ L.length ∧ i = .int .i64 (p : Nat) ∧ j = .int .i64 (q : Nat) ∧ Hid (∀ h : p - 1 < L.length, 0 < p → ordC L[p - 1] t < 0) ∧ Hid (∀ h : q < L.length, 0 ≤ ordC L[q] t) ∧ Hid (Below w.heap.size w wr) ∧ Hid (wr.heap[w.heap.size]? = some (ceO t))) (fun i j _ => (intOf j).toNat - (intOf i).toNat)
 case atStart => exact ⟨0, L.length, Nat.zero_le _, Nat.le_refl _, rfl, rfl, fun _ h => by omega, fun h => by omega, HB0, HX0⟩
 case round =>
  obtain ⟨p, q, hpq, hqL, rfl, rfl, HP, HQ, HB, HX⟩ := hrel
  clear HB0 HX0
  have HBd : Hid (Below w.heap.size w wr.drew) := HB.out.drew
  have HXd : Hid (wr.drew.heap[w.heap.size]? = some (ceO t)) := HX.out
  have hLX := ldC HXd.out
  by_cases hlt : p < q
  ·have hpi : (p : Int) < q := by omega
   obtain ⟨m, hm⟩ : ∃ m, m = (p + q) / 2 := ⟨_, rfl⟩
   have hmL : m < L.length := by omega
   obtain ⟨a', _, _, rfl, rfl, _, R2, -, -⟩ := (HS.out.below hhi HBd.out).runs hmL
   have s1 : (p : Int) + (q : Int) = ((p + q : Nat) : Int) := by omega
   have s2 : IntKind.i64.wrap ((p + q : Nat) : Int) = ((p + q : Nat) : Int) := by rw [IntKind.wrap_i64]; omega
   have s3 : IntKind.u64.wrap ((p + q : Nat) : Int) = ((p + q : Nat) : Int) := by rw [IntKind.wrap_u64]; omega
   have s4 : ((p + q : Nat) : Int) / 2 = (m : Int) := by omega
   have s5 : IntKind.i64.wrap (m : Int) = (m : Int) := by rw [IntKind.wrap_i64]; omega
   have s6 : IntKind.u64.wrap (m : Int) = (m : Int) := by rw [IntKind.wrap_u64]; omega
   have s7 : (m : Int) < L.length := by omega
   have hm1 : p ≤ m := by omega
   have hm2 : m < q := by omega
   have HS : Hid ((Instr.loadAt 57 (.pointer (some (a'.add (m * 3))))).run Tryz.prog wr.drew = .ok (cellV L[m]) wr.drew ∧ (Instr.loadAt 57 (.pointer (some ⟨w.heap.size, 0, none⟩))).run Tryz.prog wr.drew = .ok (cellV t) wr.drew) := ⟨R2.out, hLX⟩
   have C := order_any L[m] t wr.drew
   have HLs : Hid (ordC L[m] t < 0 → ∀ h : m + 1 - 1 < L.length, 0 < m + 1 → ordC L[m + 1 - 1] t < 0) := fun e _ _ => e
   have HGe : Hid (0 ≤ ordC L[m] t → ∀ h : m < L.length, 0 ≤ ordC L[m] t) := fun e _ => e
   generalize hpq2 : p + q = pq at *
   clear R2 hLX hm hpq2
   generalize L[m] = y at *
   generalize ordC y t = cv at *
   by_cases hc : cv < 0
   ·have HLs2 : Hid _ := HLs.out hc
    clear HLs HGe
    go_wp2
    refine wp_region_d (fun u => (Instr.loadAt 57 (.pointer (some (a'.add (m * 3))))).run Tryz.prog u = .ok (cellV y) u ∧ (Instr.loadAt 57 (.pointer (some ⟨w.heap.size, 0, none⟩))).run Tryz.prog u = .ok (cellV t) u) (fun j => j == 6) (by kernel_rfl) ?_
    refine dwp 0 ((.func (.func 113) #[] #[])) (h := ?_)
    refine dwp 1 ((.slice (some a') L.length c)) (h := ?_)
    refine dwp 2 ((.int .i64 (m : Int))) (h := ?_)
    refine dwp 3 ((.pointer (some (a'.add (m * 3))))) (h := ?_)
    refine dwl 4 ((cellV y)) (hS := HS.out) (hy := (fun u hSu => exec_load rfl rfl hSu.1)) (h := ?_)
    refine dwl 5 ((cellV t)) (hS := HS.out) (hy := (fun u hSu => exec_load rfl rfl hSu.2)) (h := ?_)
    refine wpAnyD_one (i := 6) (by kernel_rfl) rfl ?_
    intro K' hK'
    go_simp
    refine C.mono ?_
    rintro e w1 ⟨rfl, hb1⟩
    have HB1 : Hid (Below w.heap.size w w1) := Sh.bel_step HBd.out HBd.out.size hb1
    have HX1 : Hid (w1.heap[w.heap.size]? = some (ceO t)) := (hb1.block _ (blk_lt HXd.out)).trans HXd.out
    clear hb1
    refine hK' _ _ (.inl rfl) ?_
    clear hK'
    try simp only [Act.put, List.setIfInBounds_toArray, List.set_cons_zero, List.set_cons_succ]
    refine dwp 7 ((.bool true)) (h := ?_)
    refine wpAnyD_done (by kernel_rfl) ?_ _
    go_wp2
    go_roundw
    case rel => exact ⟨m + 1, q, by omega, hqL, by go_num, rfl, HLs2, HQ, HB1, HX1⟩
    case measure => simp [intOf]; omega
   ·have HGe2 : Hid _ := HGe.out (by omega)
    clear HLs HGe
    go_wp2
    refine wp_region_d (fun u => (Instr.loadAt 57 (.pointer (some (a'.add (m * 3))))).run Tryz.prog u = .ok (cellV y) u ∧ (Instr.loadAt 57 (.pointer (some ⟨w.heap.size, 0, none⟩))).run Tryz.prog u = .ok (cellV t) u) (fun j => j == 6) (by kernel_rfl) ?_
    refine dwp 0 ((.func (.func 113) #[] #[])) (h := ?_)
    refine dwp 1 ((.slice (some a') L.length c)) (h := ?_)
    refine dwp 2 ((.int .i64 (m : Int))) (h := ?_)
    refine dwp 3 ((.pointer (some (a'.add (m * 3))))) (h := ?_)
    refine dwl 4 ((cellV y)) (hS := HS.out) (hy := (fun u hSu => exec_load rfl rfl hSu.1)) (h := ?_)
    refine dwl 5 ((cellV t)) (hS := HS.out) (hy := (fun u hSu => exec_load rfl rfl hSu.2)) (h := ?_)
    refine wpAnyD_one (i := 6) (by kernel_rfl) rfl ?_
    intro K' hK'
    go_simp
    refine C.mono ?_
    rintro e w1 ⟨rfl, hb1⟩
    have HB1 : Hid (Below w.heap.size w w1) := Sh.bel_step HBd.out HBd.out.size hb1
    have HX1 : Hid (w1.heap[w.heap.size]? = some (ceO t)) := (hb1.block _ (blk_lt HXd.out)).trans HXd.out
    clear hb1
    refine hK' _ _ (.inl rfl) ?_
    clear hK'
    try simp only [Act.put, List.setIfInBounds_toArray, List.set_cons_zero, List.set_cons_succ]
    refine dwp 7 ((.bool false)) (h := ?_)
    refine wpAnyD_done (by kernel_rfl) ?_ _
    go_wp2
    go_roundw
    case rel => exact ⟨p, m, by omega, by omega, rfl, by go_num, HP, HGe2, HB1, HX1⟩
    case measure => simp [intOf]; omega
  ·obtain rfl : p = q := by omega
   have hpi : ¬ (p : Int) < p := by omega
   by_cases hpL : p < L.length
   ·have hpn : (p : Int) < L.length := by omega
    obtain ⟨a', _, _, rfl, rfl, _, R2, -, -⟩ := (HS.out.below hhi HBd.out).runs hpL
    have HS : Hid ((Instr.loadAt 57 (.pointer (some (a'.add (p * 3))))).run Tryz.prog wr.drew = .ok (cellV L[p]) wr.drew ∧ (Instr.loadAt 57 (.pointer (some ⟨w.heap.size, 0, none⟩))).run Tryz.prog wr.drew = .ok (cellV t) wr.drew) := ⟨R2.out, hLX⟩
    have C := order_any L[p] t wr.drew
    have HE : Hid (∀ b : Bool, (b = true ↔ ordC L[p] t = 0) → BsR L t p b) := fun b hb => ⟨hqL, HP.out, HQ.out, hb.trans ⟨fun e => ⟨hpL, e⟩, fun e => e.2⟩⟩
    clear R2 hLX
    generalize L[p] = y at *
    generalize ordC y t = cv at *
    by_cases hc : cv = 0
    ·subst hc
     have HE2 : Hid (BsR L t p true) := HE.out true (by simp)
     clear HE
     go_wp2
     refine wp_region_d (fun u => (Instr.loadAt 57 (.pointer (some (a'.add (p * 3))))).run Tryz.prog u = .ok (cellV y) u ∧ (Instr.loadAt 57 (.pointer (some ⟨w.heap.size, 0, none⟩))).run Tryz.prog u = .ok (cellV t) u) (fun j => j == 11) (by kernel_rfl) ?_
     refine dwp 0 ((.int .i64 (p : Int))) (h := ?_)
     refine dwp 1 ((.int .i64 (p : Int))) (h := ?_)
     refine dwp 2 ((.int .i64 (L.length : Int))) (h := ?_)
     refine dwp 3 ((.bool true)) (h := ?_)
     refine dwp 4 ((.bool true)) (h := ?_)
     refine dwp 5 ((.func (.func 113) #[] #[])) (h := ?_)
     refine dwp 6 ((.slice (some a') L.length c)) (h := ?_)
     refine dwp 7 ((.int .i64 (p : Int))) (h := ?_)
     refine dwp 8 ((.pointer (some (a'.add (p * 3))))) (h := ?_)
     refine dwl 9 ((cellV y)) (hS := HS.out) (hy := (fun u hSu => exec_load rfl rfl hSu.1)) (h := ?_)
     refine dwl 10 ((cellV t)) (hS := HS.out) (hy := (fun u hSu => exec_load rfl rfl hSu.2)) (h := ?_)
     refine wpAnyD_one (i := 11) (by kernel_rfl) rfl ?_
     intro K' hK'
     go_simp
     refine C.mono ?_
     rintro e w1 ⟨rfl, hb1⟩
     have HB1 : Hid (Below w.heap.size w w1) := Sh.bel_step HBd.out HBd.out.size hb1
     have HX1 : Hid (w1.heap[w.heap.size]? = some (ceO t)) := (hb1.block _ (blk_lt HXd.out)).trans HXd.out
     clear hb1
     refine hK' _ _ (.inl rfl) ?_
     clear hK'
     try simp only [Act.put, List.setIfInBounds_toArray, List.set_cons_zero, List.set_cons_succ]
     refine dwp 14 ((.int .i64 (p : Int))) (h := ?_)
     refine dwp 12 ((.bool true)) (h := ?_)
     refine dwp 13 ((.bool true)) (h := ?_)
     refine dwp 15 ((.bool true)) (h := ?_)
     refine wpAnyD_done (by kernel_rfl) ?_ _
     go_wp2
     go_ret2
     exact ⟨⟨p, true, rfl, HE2.out⟩, HB1.out⟩
    ·have HE2 : Hid (BsR L t p false) := HE.out false (by simp [hc])
     clear HE
     go_wp2
     refine wp_region_d (fun u => (Instr.loadAt 57 (.pointer (some (a'.add (p * 3))))).run Tryz.prog u = .ok (cellV y) u ∧ (Instr.loadAt 57 (.pointer (some ⟨w.heap.size, 0, none⟩))).run Tryz.prog u = .ok (cellV t) u) (fun j => j == 11) (by kernel_rfl) ?_
     refine dwp 0 ((.int .i64 (p : Int))) (h := ?_)
     refine dwp 1 ((.int .i64 (p : Int))) (h := ?_)
     refine dwp 2 ((.int .i64 (L.length : Int))) (h := ?_)
     refine dwp 3 ((.bool true)) (h := ?_)
     refine dwp 4 ((.bool true)) (h := ?_)
     refine dwp 5 ((.func (.func 113) #[] #[])) (h := ?_)
     refine dwp 6 ((.slice (some a') L.length c)) (h := ?_)
     refine dwp 7 ((.int .i64 (p : Int))) (h := ?_)
     refine dwp 8 ((.pointer (some (a'.add (p * 3))))) (h := ?_)
     refine dwl 9 ((cellV y)) (hS := HS.out) (hy := (fun u hSu => exec_load rfl rfl hSu.1)) (h := ?_)
     refine dwl 10 ((cellV t)) (hS := HS.out) (hy := (fun u hSu => exec_load rfl rfl hSu.2)) (h := ?_)
     refine wpAnyD_one (i := 11) (by kernel_rfl) rfl ?_
     intro K' hK'
     go_simp
     refine C.mono ?_
     rintro e w1 ⟨rfl, hb1⟩
     have HB1 : Hid (Below w.heap.size w w1) := Sh.bel_step HBd.out HBd.out.size hb1
     have HX1 : Hid (w1.heap[w.heap.size]? = some (ceO t)) := (hb1.block _ (blk_lt HXd.out)).trans HXd.out
     clear hb1
     refine hK' _ _ (.inl rfl) ?_
     clear hK'
     try simp only [Act.put, List.setIfInBounds_toArray, List.set_cons_zero, List.set_cons_succ]
     refine dwp 14 ((.int .i64 (p : Int))) (h := ?_)
     refine dwp 12 ((.bool false)) (h := ?_)
     refine dwp 13 ((.bool false)) (h := ?_)
     refine dwp 15 ((.bool false)) (h := ?_)
     refine wpAnyD_done (by kernel_rfl) ?_ _
     go_wp2
     go_ret2
     exact ⟨⟨p, false, rfl, HE2.out⟩, HB1.out⟩
   ·have hpn : ¬ (p : Int) < L.length := by omega
    have HE2 : Hid (BsR L t p false) := ⟨hqL, HP.out, HQ.out, ⟨fun e => (by cases e), fun e => absurd e.1 hpL⟩⟩
    go_wp2
    refine wp_region_d (fun u => True) (fun j => false) (by kernel_rfl) ?_
    refine dwp 0 ((.int .i64 (p : Int))) (h := ?_)
    refine dwp 1 ((.int .i64 (p : Int))) (h := ?_)
    refine dwp 2 ((.int .i64 (L.length : Int))) (h := ?_)
    refine dwp 3 ((.bool false)) (h := ?_)
    refine dwp 4 ((.bool false)) (h := ?_)
    refine wpAnyD_skipd (i := 5) rfl rfl (by kernel_rfl) (by kernel_rfl) (by kernel_rfl) (fun _ _ _ h => h) (by go_simp) ?_
    try simp only [Act.put, List.setIfInBounds_toArray, List.set_cons_zero, List.set_cons_succ]
    refine wpAnyD_skipd (i := 6) rfl rfl (by kernel_rfl) (by kernel_rfl) (by kernel_rfl) (fun _ _ _ h => h) (by go_simp) ?_
    try simp only [Act.put, List.setIfInBounds_toArray, List.set_cons_zero, List.set_cons_succ]
    refine wpAnyD_skipd (i := 7) rfl rfl (by kernel_rfl) (by kernel_rfl) (by kernel_rfl) (fun _ _ _ h => h) (by go_simp) ?_
    try simp only [Act.put, List.setIfInBounds_toArray, List.set_cons_zero, List.set_cons_succ]
    refine wpAnyD_skipd (i := 8) rfl rfl (by kernel_rfl) (by kernel_rfl) (by kernel_rfl) (fun _ _ _ h => h) (by go_simp) ?_
    try simp only [Act.put, List.setIfInBounds_toArray, List.set_cons_zero, List.set_cons_succ]
    refine wpAnyD_skipd (i := 9) rfl rfl (by kernel_rfl) (by kernel_rfl) (by kernel_rfl) (fun _ _ _ h => h) (by go_simp) ?_
    try simp only [Act.put, List.setIfInBounds_toArray, List.set_cons_zero, List.set_cons_succ]
    refine wpAnyD_skipd (i := 10) rfl rfl (by kernel_rfl) (by kernel_rfl) (by kernel_rfl) (fun _ _ _ h => h) (by go_simp) ?_
    try simp only [Act.put, List.setIfInBounds_toArray, List.set_cons_zero, List.set_cons_succ]
    refine wpAnyD_skipd (i := 11) rfl rfl (by kernel_rfl) (by kernel_rfl) (by kernel_rfl) (fun _ _ _ h => h) (by go_simp) ?_
    try simp only [Act.put, List.setIfInBounds_toArray, List.set_cons_zero, List.set_cons_succ]
    refine dwp 14 ((.int .i64 (p : Int))) (h := ?_)
    refine wpAnyD_skipd (i := 12) rfl rfl (by kernel_rfl) (by kernel_rfl) (by kernel_rfl) (fun _ _ _ h => h) (by go_simp) ?_
    try simp only [Act.put, List.setIfInBounds_toArray, List.set_cons_zero, List.set_cons_succ]
    refine dwp 13 ((.bool false)) (h := ?_)
    refine dwp 15 ((.bool false)) (h := ?_)
    refine wpAnyD_done (by kernel_rfl) ?_ _
    go_wp2
    go_ret2
    exact ⟨⟨p, false, rfl, HE2.out⟩, HBd.out⟩
def ltB (a b : CellT) : Bool := decide (a.row < b.row ∨ a.row = b.row ∧ a.col < b.col)
theorem ltB_iff {a b : CellT} : ltB a b = true ↔ Lt a b := by unfold ltB Lt; simp
def putC (L : List CellT) (t : CellT) : List CellT := L.filter (fun d => ltB d t) ++ ((if t.text.toList == [] then [] else [t]) ++ L.filter (fun d => ltB t d))
theorem bs_parts {L : List CellT} {t : CellT} {i : Nat} {b : Bool} (hR : Rise L) (h : BsR L t i b) :
  (∀ d ∈ L.take i, Lt d t) ∧ (∀ d ∈ L.drop (i + 1), Lt t d) ∧ (∀ hi : i < L.length, (b = true → L[i].row = t.row ∧ L[i].col = t.col) ∧ (b = false → Lt t L[i])) := by
 obtain ⟨h1, h2, h3, h4⟩ := h
 unfold Rise at hR
 rw [List.pairwise_iff_getElem] at hR
 refine ⟨fun d hd => ?_, fun d hd => ?_, fun hi => ⟨fun hb => ?_, fun hb => ?_⟩⟩
 ·obtain ⟨j, hj, rfl⟩ := List.mem_iff_getElem.1 hd
  rw [List.length_take] at hj
  rw [List.getElem_take]
  have hlt := ord_neg.1 (h2 (by omega) (by omega))
  by_cases e : j = i - 1
  ·subst e; exact hlt
  ·exact (hR j (i - 1) (by omega) (by omega) (by omega)).trans hlt
 ·obtain ⟨j, hj, rfl⟩ := List.mem_iff_getElem.1 hd
  rw [List.length_drop] at hj
  rw [List.getElem_drop]
  have hge := h3 (by omega)
  have hlt := hR i (i + 1 + j) (by omega) (by omega) (by omega)
  rcases ordC_ways L[i] t with ⟨e, _⟩ | ⟨_, e1, e2⟩ | ⟨_, e⟩
  ·omega
  ·unfold Lt at *; omega
  ·exact e.trans hlt
 ·obtain ⟨_, e⟩ := h4.1 hb
  exact ord_zero.1 e
 ·rcases ordC_ways L[i] t with ⟨e, _⟩ | ⟨e, _⟩ | ⟨_, e⟩
  ·have := h3 hi; omega
  ·have := h4.2 ⟨hi, e⟩
   rw [hb] at this; cases this
  ·exact e
theorem filter_all {α : Type} {p : α → Bool} {L : List α} (h : ∀ d ∈ L, p d = true) : L.filter p = L := List.filter_eq_self.2 h
theorem filter_no {α : Type} {p : α → Bool} {L : List α} (h : ∀ d ∈ L, p d = false) : L.filter p = [] := by
 rw [List.filter_eq_nil_iff]
 intro d hd
 simp [h d hd]
theorem ltB_no {a b : CellT} (h : ¬ Lt a b) : ltB a b = false := by
 cases e : ltB a b with
 | false => rfl
 | true => exact absurd (ltB_iff.1 e) h
theorem Lt.ne {a b : CellT} (h : Lt a b) : ¬ Lt b a := h.irrefl
theorem put_found {L : List CellT} {t : CellT} {i : Nat} (hR : Rise L) (h : BsR L t i true) : i < L.length ∧ putC L t = L.take i ++ ((if t.text.toList == [] then [] else [t]) ++ L.drop (i + 1)) := by
 obtain ⟨p1, p2, p3⟩ := bs_parts hR h
 obtain ⟨hi, _⟩ := h.2.2.2.1 rfl
 obtain ⟨e1, _⟩ := p3 hi
 obtain ⟨er, ec⟩ := e1 rfl
 have e : L = L.take i ++ L[i] :: L.drop (i + 1) := by rw [← List.drop_eq_getElem_cons hi, List.take_append_drop]
 have f1 : L.filter (fun d => ltB d t) = L.take i := by
  conv => lhs; rw [e]
  rw [List.filter_append, filter_all fun d hd => ltB_iff.2 (p1 d hd), filter_no fun d hd => ?_, List.append_nil]
  refine ltB_no ?_
  rcases List.mem_cons.1 hd with rfl | hd
  ·unfold Lt; omega
  ·exact (p2 d hd).ne
 have f2 : L.filter (fun d => ltB t d) = L.drop (i + 1) := by
  conv => lhs; rw [e]
  rw [List.filter_append, filter_no fun d hd => ltB_no (p1 d hd).ne, List.nil_append, List.filter_cons, if_neg, filter_all fun d hd => ltB_iff.2 (p2 d hd)]
  rw [ltB_no (by unfold Lt; omega)]
  decide
 refine ⟨hi, ?_⟩
 unfold putC
 rw [f1, f2]
theorem put_none {L : List CellT} {t : CellT} {i : Nat} (hR : Rise L) (h : BsR L t i false) : i ≤ L.length ∧ putC L t = L.take i ++ ((if t.text.toList == [] then [] else [t]) ++ L.drop i) := by
 obtain ⟨p1, p2, p3⟩ := bs_parts hR h
 have hd' : ∀ d ∈ L.drop i, Lt t d := by
  intro d hd
  by_cases hi : i < L.length
  ·rw [List.drop_eq_getElem_cons hi] at hd
   rcases List.mem_cons.1 hd with rfl | hd
   ·exact (p3 hi).2 rfl
   ·exact p2 d hd
  ·rw [List.drop_of_length_le (by omega)] at hd
   cases hd
 have f1 : L.filter (fun d => ltB d t) = L.take i := by
  conv => lhs; rw [← List.take_append_drop i L]
  rw [List.filter_append, filter_all fun d hd => ltB_iff.2 (p1 d hd), filter_no fun d hd => ltB_no (hd' d hd).ne, List.append_nil]
 have f2 : L.filter (fun d => ltB t d) = L.drop i := by
  conv => lhs; rw [← List.take_append_drop i L]
  rw [List.filter_append, filter_no fun d hd => ltB_no (p1 d hd).ne, filter_all fun d hd => ltB_iff.2 (hd' d hd), List.nil_append]
 refine ⟨h.1, ?_⟩
 unfold putC
 rw [f1, f2]
theorem has_bs {L : List CellT} {t : CellT} {i : Nat} {b : Bool} (hR : Rise L) (h : BsR L t i b) : b = L.any (atB t.row t.col) := by
 obtain ⟨p1, p2, p3⟩ := bs_parts hR h
 cases b with
 | true =>
  obtain ⟨hi, _⟩ := h.2.2.2.1 rfl
  obtain ⟨e1, _⟩ := p3 hi
  obtain ⟨er, ec⟩ := e1 rfl
  symm
  rw [List.any_eq_true]
  exact ⟨_, List.getElem_mem hi, by simp [atB, er, ec]⟩
 | false =>
  symm
  rw [List.any_eq_false]
  intro d hd
  rw [← List.take_append_drop i L, List.mem_append] at hd
  rcases hd with hd | hd
  ·have := p1 d hd
   unfold Lt at this
   simp [atB]
   omega
  ·by_cases hi : i < L.length
   ·rw [List.drop_eq_getElem_cons hi] at hd
    have hl : Lt t d := by
     rcases List.mem_cons.1 hd with rfl | hd
     ·exact (p3 hi).2 rfl
     ·exact p2 d hd
    unfold Lt at hl
    simp [atB]
    omega
   ·rw [List.drop_of_length_le (by omega)] at hd
    cases hd
structure RT (S t : TypeId) (sz bytes : Nat) (zv : Value) : Prop where
 st : Tryz.prog.underlying S = some (.slice t)
 inf : (Tryz.prog.info? t).map (fun i => (i.zero, i.size, i.bytes)) = some (some zv, sz, bytes)
 zs : zv.cells.size = sz
 pos : 0 < sz
 z1 : ∀ u ∈ zv.cells.toList, u.oneCell' = true
 zr : ∀ w, (zeroValue t).run Tryz.prog w = .ok zv w
theorem rtC : RT 27 57 3 32 (.agg #[int0, int0, strE]) := ⟨Tryz.underlying27, by kernel_rfl, rfl, by decide, by simp [Value.cells, Value.oneCell'], fun w => by kernel_rfl⟩
theorem rtS : RT 22 78 2 40 (.agg #[strE, .slice none 0 0]) := ⟨Tryz.underlying22, by kernel_rfl, rfl, by decide, by simp [Value.cells, Value.oneCell'], fun w => by kernel_rfl⟩
theorem rtN : RT 23 89 3 48 (.agg #[strE, strE, strE]) := ⟨Tryz.underlying23, by kernel_rfl, rfl, by decide, by simp [Value.cells, Value.oneCell'], fun w => by kernel_rfl⟩
theorem rtL : RT 24 91 7 80 (.agg #[strE, strE, int0, int0, int0, int0, strE]) := ⟨Tryz.underlying24, by kernel_rfl, rfl, by decide, by simp [Value.cells, Value.oneCell'], fun w => by kernel_rfl⟩
section
variable {S t : TypeId} {sz bytes : Nat} {zv : Value}
theorem RT.size (R : RT S t sz bytes zv) : ∃ i, Tryz.prog.info? t = some i ∧ i.zero = some zv ∧ i.size = sz ∧ i.bytes = bytes := by
 obtain ⟨i, hi, h⟩ := Option.map_eq_some_iff.1 R.inf
 simp only [Prod.mk.injEq] at h
 exact ⟨i, hi, h.1, h.2.1, h.2.2⟩
theorem make_run (R : RT S t sz bytes zv) (n : Nat) (hb : bytes * n ≤ 281474976710656) (h63 : n ≤ 9223372036854775807) (w : World) :
  (Instr.makeSlice S (.int .i64 (n : Int)) (.int .i64 (n : Int))).run Tryz.prog w = .ok (.slice (some ⟨w.heap.size, 0, none⟩) n n) (w.alloc (.cells (madeCells zv.cells (n * sz)) t)) := by
 obtain ⟨i, hi, hz, hs, hby⟩ := R.size
 have hb' : (i.bytes : Int) * (n : Int) ≤ 281474976710656 := by
  have h : ((i.bytes * n : Nat) : Int) ≤ 281474976710656 := by rw [hby]; omega
  rwa [Int.natCast_mul] at h
 have hr := run_make (P := Tryz.prog) w S t i zv R.st hi hz .i64 .i64 n n (by omega) (Int.le_refl _) hb' (by omega)
 simp only [Int.toNat_natCast, hs] at hr
 exact hr
theorem copy_run (R : RT S t sz bytes zv) (w : World) (ty : TypeId) (g o dLen dCap : Nat) (a : Addr) (sLen sCap : Nat) (cur : Array Value) (t' : TypeId) (cs : List Value)
  (hg : w.heap[g]? = some (.cells cur t' (0, 0))) (hn : cs.length = Nat.min sLen dLen * sz)
  (hsrc : ∀ j v, cs[j]? = some v → w.cell? (a.add j) = some v) (hfit : o + cs.length ≤ cur.size) (h1 : ∀ v ∈ cs, v.oneCell' = true) :
  (Builtin.copy_ #[S, S] ty #[.slice (some ⟨g, o, none⟩) dLen dCap, .slice (some a) sLen sCap]).run Tryz.prog w =
   .ok (goInt (Nat.min sLen dLen)) (w.setRow g (cur.toList.take o ++ cs ++ cur.toList.drop (o + cs.length)).toArray) := by
 have hl := run_loadCells_list (P := Tryz.prog) w a cs hsrc
 have hst := run_storeCells_at Tryz.prog g o t' cs 0 cur w hg (by simpa using hfit) h1
 obtain ⟨i, hi, hz, hs, hby⟩ := R.size
 simp [Builtin.copy_, run_underlying R.st, Builtin.lenOf, Builtin.firstCells, sizeOf, typeInfo, hi, hs, ← hn, hl, hst]
theorem copy_nil (R : RT S t sz bytes zv) (w : World) (ty : TypeId) (a : Addr) (dLen dCap : Nat) :
  (Builtin.copy_ #[S, S] ty #[.slice (some a) dLen dCap, .slice none 0 0]).run Tryz.prog w = .ok (goInt 0) w := by
 obtain ⟨i, hi, hz, hs, hby⟩ := R.size
 simp [Builtin.copy_, run_underlying R.st, Builtin.lenOf, Builtin.firstCells, sizeOf, typeInfo, hi, storeCells]
theorem clear_run (R : RT S t sz bytes zv) (w : World) (ty : TypeId) (g o n c : Nat) (cur : Array Value) (t' : TypeId) (hg : w.heap[g]? = some (.cells cur t' (0, 0))) (hn : 0 < n) (hfit : o + n * sz ≤ cur.size) :
  ∃ zs : List Value, zs.length = n * sz ∧ (Builtin.clear_ #[S] ty #[.slice (some ⟨g, o, none⟩) n c]).run Tryz.prog w = .ok (.tuple #[]) (w.setRow g (cur.toList.take o ++ zs ++ cur.toList.drop (o + zs.length)).toArray) := by
 have hzl : (Builtin.zeroCells zv.cells n).toList.length = n * sz := by simp [Builtin.zeroCells, R.zs]
 have hz1 : ∀ v ∈ (Builtin.zeroCells zv.cells n).toList, v.oneCell' = true := by
  intro v hv
  simp only [Builtin.zeroCells, Array.toList_map, List.mem_map] at hv
  obtain ⟨k, hk, rfl⟩ := hv
  have hlt : k % zv.cells.size < zv.cells.size := Nat.mod_lt _ (by rw [R.zs]; exact R.pos)
  have hgp : zv.cells[k % zv.cells.size]! = zv.cells[k % zv.cells.size] := getElem!_pos zv.cells _ hlt
  rw [hgp]
  exact R.z1 _ (by simp)
 have hst := run_storeCells_at Tryz.prog g o t' (Builtin.zeroCells zv.cells n).toList 0 cur w hg (by rw [hzl]; simpa using hfit) hz1
 refine ⟨_, hzl, ?_⟩
 obtain ⟨m, rfl⟩ : ∃ m, n = m + 1 := ⟨n - 1, by omega⟩
 simp only [Nat.add_zero] at hst
 simp [Builtin.clear_, run_underlying R.st, R.zr, hst]
end
section
variable {α : Type} {enc : α → List Value} {sz : Nat}
theorem fl_len (he : ∀ x, (enc x).length = sz) : ∀ L : List α, (L.flatMap enc).length = L.length * sz
 | [] => by simp
 | x :: L => by rw [List.flatMap_cons, List.length_append, fl_len he L, he, List.length_cons, Nat.add_mul]; omega
theorem fl_at (he : ∀ x, (enc x).length = sz) : ∀ (L : List α) (i j : Nat) (hi : i < L.length), j < sz → (L.flatMap enc)[i * sz + j]? = (enc L[i])[j]?
 | x :: L, 0, j, _, h => by rw [List.flatMap_cons, Nat.zero_mul, Nat.zero_add, List.getElem?_append_left (by rw [he]; exact h)]; rfl
 | x :: L, i + 1, j, hi, h => by
  rw [List.flatMap_cons, List.getElem?_append_right (by rw [he, Nat.add_mul]; omega), show (i + 1) * sz + j - (enc x).length = i * sz + j by rw [he, Nat.add_mul]; omega]
  exact fl_at he L i j (by simpa using hi) h
theorem fl_drop (he : ∀ x, (enc x).length = sz) : ∀ (L : List α) (k : Nat), (L.drop k).flatMap enc = (L.flatMap enc).drop (k * sz)
 | L, 0 => by simp
 | [], k + 1 => by simp
 | x :: L, k + 1 => by
  have e : (k + 1) * sz = (enc x).length + k * sz := by rw [he, Nat.add_mul]; omega
  rw [List.drop_succ_cons, fl_drop he L k, List.flatMap_cons, e, ← List.drop_drop, List.drop_left]
theorem fl_take (he : ∀ x, (enc x).length = sz) : ∀ (L : List α) (k : Nat), (L.take k).flatMap enc = (L.flatMap enc).take (k * sz)
 | L, 0 => by simp
 | [], k + 1 => by simp
 | x :: L, k + 1 => by
  have e : (k + 1) * sz = (enc x).length + k * sz := by rw [he, Nat.add_mul]; omega
  rw [List.take_succ_cons, List.flatMap_cons, fl_take he L k, List.flatMap_cons, e, List.take_length_add_append]
theorem Rws.flat {lo hi : Nat} {w : World} {a : Addr} {n c : Nat} {L : List α} (he : ∀ x, (enc x).length = sz) (hsz : 0 < sz) (h : Rws lo hi sz w (.slice (some a) n c) L.length fun j => (L[j]?.map enc).getD []) :
  ∀ j u, (L.flatMap enc)[j]? = some u → w.cell? (a.add j) = some u := by
 intro j u hj
 rcases h with ⟨e, _⟩ | ⟨a', cap, e, h2, h3, h4, h5⟩
 ·cases e
 ·cases e
  have hlt : j < (L.flatMap enc).length := (List.getElem?_eq_some_iff.1 hj).1
  rw [fl_len he] at hlt
  have hq : j / sz < L.length := (Nat.div_lt_iff_lt_mul hsz).2 hlt
  have hr : j % sz < sz := Nat.mod_lt _ hsz
  have hd : j / sz * sz + j % sz = j := by rw [Nat.mul_comm]; exact Nat.div_add_mod j sz
  have := fl_at he L (j / sz) (j % sz) hq hr
  rw [hd, hj] at this
  have h6 := h5 (j / sz) (j % sz) u hq (by simp only [List.getElem?_eq_getElem hq, Option.map_some, Option.getD_some]; exact this.symm)
  rwa [hd] at h6
theorem rws_of {w : World} {g : Nat} {cap : Nat} {cur : Array Value} {t : TypeId} {z : Nat × Nat} {L : List α} (he : ∀ x, (enc x).length = sz) (hg : w.heap[g]? = some (.cells cur t z)) (hc : cur.toList.take (L.length * sz) = L.flatMap enc) (hn : L.length ≤ cap) (hm : cap ≤ maxLen) :
  Rws g (g + 1) sz w (.slice (some ⟨g, 0, none⟩) L.length cap) L.length fun j => (L[j]?.map enc).getD [] := by
 refine .inr ⟨_, _, rfl, hn, hm, fun _ => ⟨Nat.le_refl _, Nat.lt_succ_self _⟩, fun j i u hj hu => ?_⟩
 simp only [List.getElem?_eq_getElem hj, Option.map_some, Option.getD_some] at hu
 have hi : i < sz := by rw [← he L[j]]; exact (List.getElem?_eq_some_iff.1 hu).1
 have hadd : (⟨g, 0, none⟩ : Addr).add (j * sz + i) = ⟨g, j * sz + i, none⟩ := by unfold Addr.add; split <;> simp_all
 rw [hadd, cell_of_row w g _ _ _ _ hg, ← hu, ← fl_at he L j i hj hi, ← hc, List.getElem?_take_of_lt]
 ·simp
 ·have : (j + 1) * sz ≤ L.length * sz := Nat.mul_le_mul_right _ hj
  rw [Nat.add_mul] at this
  omega
end
theorem cellC_len (c : CellT) : (cellC c).length = 3 := rfl
theorem nameC_len (c : NameT) : (nameC c).length = 3 := rfl
theorem linkC_len (c : LinkT) : (linkC c).length = 7 := rfl
theorem pairC_len (c : SheetT × Value) : (sheetC c.1 c.2).length = 2 := rfl
theorem fl_one {α : Type} {enc : α → List Value} (h : ∀ x, ∀ u ∈ enc x, u.oneCell' = true) (L : List α) : ∀ u ∈ L.flatMap enc, u.oneCell' = true := by
 intro u hu
 obtain ⟨x, _, hx⟩ := List.mem_flatMap.1 hu
 exact h x u hx
theorem cellC_one (c : CellT) : ∀ u ∈ cellC c, u.oneCell' = true := by
 intro u hu
 simp only [cellC, List.mem_cons, List.not_mem_nil, or_false] at hu
 rcases hu with rfl | rfl | rfl <;> rfl
theorem nameC_one (c : NameT) : ∀ u ∈ nameC c, u.oneCell' = true := by
 intro u hu
 simp only [nameC, List.mem_cons, List.not_mem_nil, or_false] at hu
 rcases hu with rfl | rfl | rfl <;> rfl
theorem linkC_one (c : LinkT) : ∀ u ∈ linkC c, u.oneCell' = true := by
 intro u hu
 simp only [linkC, List.mem_cons, List.not_mem_nil, or_false] at hu
 rcases hu with rfl | rfl | rfl | rfl | rfl | rfl | rfl <;> rfl
section
variable {P : Program} {ops : Array Oper} {rest : List Oper} {o : Oper} {a : Act} {w : World} {Q : Exit → Act → World → Prop}
theorem wpl_make (hgd : o.guard = none) (ty : TypeId) (x y : Operand) (ho : o.op = .makeSlice ty x y) (vx vy v : Value) (w' : World) (hx : a.eval x = vx) (hy : a.eval y = vy) (hrun : (Instr.makeSlice ty vx vy).run P w = .ok v w')
  (h : wpList P ops Q rest (a.put o.dst v) w') : wpList P ops Q (o :: rest) a w := by
 refine wpList_plain hgd fun K hK => ?_
 unfold Oper.wp execOp
 simp only [ho, hx, hy, Sem.run_bind, Sem.run_pure, hrun, Result.andThen_ok]
 exact hK _ _ h
theorem wpl_append (hgd : o.guard = none) (s x : Operand) (t t2 : TypeId) (ho : o.op = .call { callee := .builtin .append, args := #[s, x], argTypes := #[t, t2] }) (v bv v' : Value) (w' : World) (hs : a.eval s = v) (hx : a.eval x = bv) (hrun : (Builtin.append_ #[t, t2] o.type #[v, bv]).run P w = .ok v' w')
  (h : wpList P ops Q rest (a.put o.dst v') w') : wpList P ops Q (o :: rest) a w := by
 refine wpList_plain hgd fun K hK => ?_
 unfold Oper.wp
 simp [execOp, ho, resolve, invoke, builtin, hs, hx, hrun, Result.andThen]
 exact hK _ _ h
end
def Src (w : World) (a : Option Addr) (n c : Nat) (cs : List Value) : Prop := (a = none ∧ n = 0 ∧ c = 0 ∧ cs = []) ∨ ∃ ad, a = some ad ∧ ∀ j v, cs[j]? = some v → w.cell? (ad.add j) = some v
theorem setRow_size (w : World) (g : Nat) (es : Array Value) : (w.setRow g es).heap.size = w.heap.size := by simp [World.setRow]
theorem below_setRow {B g : Nat} {w0 w : World} (hb : Below B w0 w) (hBg : B ≤ g) (cs : Array Value) : Below B w0 (w.setRow g cs) :=
 hb.trans ⟨rfl, rfl, rfl, by simp [World.setRow], fun k hk => setRow_other w g k cs (by omega)⟩
theorem copied_runs {S t : TypeId} {sz bytes : Nat} {zv : Value} (R : RT S t sz bytes zv) {w : World} {a : Option Addr} {n c : Nat} {cs : List Value} (h : Src w a n c cs) (hl : cs.length = n * sz) (h1 : ∀ u ∈ cs, u.oneCell' = true) (hb : bytes * n ≤ 281474976710656) (h63 : n ≤ 9223372036854775807) :
  ∃ w1 w2 r, (Instr.makeSlice S (.int .i64 (n : Int)) (.int .i64 (n : Int))).run Tryz.prog w = .ok (.slice (some ⟨w.heap.size, 0, none⟩) n n) w1 ∧
   (∀ ty, (Builtin.copy_ #[S, S] ty #[.slice (some ⟨w.heap.size, 0, none⟩) n n, .slice a n c]).run Tryz.prog w1 = .ok r w2) ∧
   w2.heap[w.heap.size]? = some (.cells cs.toArray t) ∧ w2.heap.size = w.heap.size + 1 ∧ Below w.heap.size w w2 := by
 have hm := make_run R n hb h63 w
 have hB : Below w.heap.size w (w.alloc (.cells (madeCells zv.cells (n * sz)) t)) := bel_alloc (Below.refl _ _) (Nat.le_refl _) _
 rcases h with ⟨rfl, rfl, rfl, rfl⟩ | ⟨ad, rfl, hc⟩
 ·refine ⟨_, _, _, hm, fun ty => copy_nil R _ _ _ _ _, ?_, by simp, hB⟩
  rw [heap_alloc_new]
  simp [madeCells]
 ·refine ⟨_, _, _, hm, fun ty => copy_run R _ _ w.heap.size 0 n n ad n c (madeCells zv.cells (n * sz)) t cs (heap_alloc_new w _) (by rw [show Nat.min n n = n from Nat.min_self n]; exact hl) (fun j v hj => ?_) (by rw [size_madeCells]; omega) h1, ?_, by rw [setRow_size]; simp, below_setRow hB (Nat.le_refl _) _⟩
  ·rw [← hc j v hj]
   exact World.cell?_of_block (Below.heap_alloc w _ _ (World.block_lt_of_cell? w _ (hc j v hj)))
  ·rw [setRow_heap _ _ _ _ _ _ (heap_alloc_new w _)]
   have e : (madeCells zv.cells (n * sz)).toList.drop (0 + cs.length) = [] := List.drop_of_length_le (by rw [Array.length_toList, size_madeCells]; omega)
   rw [e]
   simp
theorem copied_61 {w : World} {a : Option Addr} {n c : Nat} {cs : List Value} (h : Src w a n c cs) (hl : cs.length = n * 2) (h1 : ∀ u ∈ cs, u.oneCell' = true) (hb : 40 * n ≤ 281474976710656) :
  Calls Tryz.prog 61 #[.slice a n c] w fun e w' => e = .returned (.slice (some ⟨w.heap.size, 0, none⟩) n n) ∧ w'.heap[w.heap.size]? = some (.cells cs.toArray 78) ∧ w'.heap.size = w.heap.size + 1 ∧ Below w.heap.size w w' := by
 obtain ⟨w1, w2, r, R1, R2, h3, h4, h5⟩ := copied_runs rtS h hl h1 hb (by omega)
 have R1h : Hid _ := R1
 have R2 := R2 3
 have h3h : Hid _ := h3
 have h4h : Hid _ := h4
 have h5h : Hid _ := h5
 clear h hl h1 hb R1 h3 h4 h5
 go_enter Tryz.func61, Tryz.ntmps61
 go_wp2_with (refine wpl_make rfl 22 _ _ rfl _ _ _ _ rfl rfl R1h.out ?_; clear R1h)
 go_ret
 exact ⟨rfl, h3h.out, h4h.out, h5h.out⟩
theorem copied_62 {w : World} {a : Option Addr} {n c : Nat} {cs : List Value} (h : Src w a n c cs) (hl : cs.length = n * 3) (h1 : ∀ u ∈ cs, u.oneCell' = true) (hb : 32 * n ≤ 281474976710656) :
  Calls Tryz.prog 62 #[.slice a n c] w fun e w' => e = .returned (.slice (some ⟨w.heap.size, 0, none⟩) n n) ∧ w'.heap[w.heap.size]? = some (.cells cs.toArray 57) ∧ w'.heap.size = w.heap.size + 1 ∧ Below w.heap.size w w' := by
 obtain ⟨w1, w2, r, R1, R2, h3, h4, h5⟩ := copied_runs rtC h hl h1 hb (by omega)
 have R1h : Hid _ := R1
 have R2 := R2 3
 have h3h : Hid _ := h3
 have h4h : Hid _ := h4
 have h5h : Hid _ := h5
 clear h hl h1 hb R1 h3 h4 h5
 go_enter Tryz.func62, Tryz.ntmps62
 go_wp2_with (refine wpl_make rfl 27 _ _ rfl _ _ _ _ rfl rfl R1h.out ?_; clear R1h)
 go_ret
 exact ⟨rfl, h3h.out, h4h.out, h5h.out⟩
theorem copied_63 {w : World} {a : Option Addr} {n c : Nat} {cs : List Value} (h : Src w a n c cs) (hl : cs.length = n * 3) (h1 : ∀ u ∈ cs, u.oneCell' = true) (hb : 48 * n ≤ 281474976710656) :
  Calls Tryz.prog 63 #[.slice a n c] w fun e w' => e = .returned (.slice (some ⟨w.heap.size, 0, none⟩) n n) ∧ w'.heap[w.heap.size]? = some (.cells cs.toArray 89) ∧ w'.heap.size = w.heap.size + 1 ∧ Below w.heap.size w w' := by
 obtain ⟨w1, w2, r, R1, R2, h3, h4, h5⟩ := copied_runs rtN h hl h1 hb (by omega)
 have R1h : Hid _ := R1
 have R2 := R2 3
 have h3h : Hid _ := h3
 have h4h : Hid _ := h4
 have h5h : Hid _ := h5
 clear h hl h1 hb R1 h3 h4 h5
 go_enter Tryz.func63, Tryz.ntmps63
 go_wp2_with (refine wpl_make rfl 23 _ _ rfl _ _ _ _ rfl rfl R1h.out ?_; clear R1h)
 go_ret
 exact ⟨rfl, h3h.out, h4h.out, h5h.out⟩
theorem copied_64 {w : World} {a : Option Addr} {n c : Nat} {cs : List Value} (h : Src w a n c cs) (hl : cs.length = n * 7) (h1 : ∀ u ∈ cs, u.oneCell' = true) (hb : 80 * n ≤ 281474976710656) :
  Calls Tryz.prog 64 #[.slice a n c] w fun e w' => e = .returned (.slice (some ⟨w.heap.size, 0, none⟩) n n) ∧ w'.heap[w.heap.size]? = some (.cells cs.toArray 91) ∧ w'.heap.size = w.heap.size + 1 ∧ Below w.heap.size w w' := by
 obtain ⟨w1, w2, r, R1, R2, h3, h4, h5⟩ := copied_runs rtL h hl h1 hb (by omega)
 have R1h : Hid _ := R1
 have R2 := R2 3
 have h3h : Hid _ := h3
 have h4h : Hid _ := h4
 have h5h : Hid _ := h5
 clear h hl h1 hb R1 h3 h4 h5
 go_enter Tryz.func64, Tryz.ntmps64
 go_wp2_with (refine wpl_make rfl 24 _ _ rfl _ _ _ _ rfl rfl R1h.out ?_; clear R1h)
 go_ret
 exact ⟨rfl, h3h.out, h4h.out, h5h.out⟩
end Go.Proofs.YtnibldnfbikipaaGreatDoor.Sh
