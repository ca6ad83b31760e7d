/- SBin. -/
import Derived.Test.YtpafokmkcblcnaaGreatDoorVDrawCr
set_option linter.unusedVariables false
set_option linter.unusedSimpArgs false
namespace Go.Proofs.YtpafokmkcblcnaaGreatDoor.Sh
open Go.RowKit
set_option maxRecDepth 100000
theorem exec_load {P : Program} {ev : Operand → Value} {o : Oper} {ty : TypeId} {x : Operand} {p v : Value} {u : World} (ho : o.op = .load ty x) (hx : ev x = p) (hrun : (Instr.loadAt ty p).run P u = .ok v u) : (execOp ev o).run P u = .ok (.value v) u := by
  unfold execOp
  simp only [ho, hx, Sem.run_bind, Sem.run_pure, hrun, Result.andThen_ok]
theorem ldC {u : World} {g : Nat} {y : CellT} {z : Nat × Nat} (h : u.heap[g]? = some (.cells (cellC y).toArray 57 z)) : (Instr.loadAt 57 (.pointer (some ⟨g, 0, none⟩))).run Tryz.prog u = .ok (cellV y) u := by
  have hi : (Tryz.prog.info? 57).map (·.size) = some (cellC y).toArray.size := by show _ = some 3; kernel_rfl
  simp only [Instr.loadAt, Instr.sureAddr, Sem.run_bind, Sem.run_pure, Result.andThen_ok, run_loadVar_row u g 57 57 _ z _ h Tryz.underlying57 rfl hi]
  rfl
def BsR (L : List CellT) (t : CellT) (i : Nat) (b : Bool) : Prop :=
  i ≤ L.length ∧ (∀ h : i - 1 < L.length, 0 < i → ordC L[i - 1] t < 0) ∧ (∀ h : i < L.length, 0 ≤ ordC L[i] t) ∧ (b = true ↔ ∃ h : i < L.length, ordC L[i] t = 0)
set_option maxHeartbeats 16000000 in
theorem bin_any {lo hi : Nat} {w : World} {a : Option Addr} {c : Nat} {L : List CellT} (h : Cls lo hi w (.slice a L.length c) L) (hhi : hi ≤ w.heap.size) (hlen : L.length ≤ 4611686018427387903) (t : CellT) :
    Calls Tryz.prog 117 #[.slice a L.length c, cellV t, .func (.func 113) #[] #[]] w fun e w' => (∃ (i : Nat) (b : Bool), e = .returned (.tuple #[.int .i64 (i : Nat), .bool b]) ∧ BsR L t i b) ∧ Below w.heap.size w w' := by
  have HS : Hid (Cls lo hi w (.slice a L.length c) L) := h
  have HB0 : Hid (Below w.heap.size w (w.alloc (ceO t))) := Sh.bel_alloc (Below.refl _ _) (Nat.le_refl _) _
  have HX0 : Hid ((w.alloc (ceO t)).heap[w.heap.size]? = some (ceO t)) := heap_alloc_new w _
  simp only [ceO, cellC] at HB0 HX0
  clear h
  go_enter Tryz.func117, Tryz.ntmps117
  go_wp2
  go_loopw [9, 10] (fun i j wr => ∃ (p q : Nat), p ≤ q ∧ q ≤ L.length ∧ i = .int .i64 (p : Nat) ∧ j = .int .i64 (q : Nat) ∧ Hid (∀ h : p - 1 < L.length, 0 < p → ordC L[p - 1] t < 0) ∧ Hid (∀ h : q < L.length, 0 ≤ ordC L[q] t) ∧ Hid (Below w.heap.size w wr) ∧ Hid (wr.heap[w.heap.size]? = some (ceO t))) (fun i j _ => (intOf j).toNat - (intOf i).toNat)
  case atStart => exact ⟨0, L.length, Nat.zero_le _, Nat.le_refl _, rfl, rfl, fun _ h => by omega, fun h => by omega, HB0, HX0⟩
  case round =>
    obtain ⟨p, q, hpq, hqL, rfl, rfl, HP, HQ, HB, HX⟩ := hrel
    clear HB0 HX0
    have HBd : Hid (Below w.heap.size w wr.drew) := HB.out.drew
    have HXd : Hid (wr.drew.heap[w.heap.size]? = some (ceO t)) := HX.out
    have hLX := ldC HXd.out
    by_cases hlt : p < q
    · have hpi : (p : Int) < q := by omega
      obtain ⟨m, hm⟩ : ∃ m, m = (p + q) / 2 := ⟨_, rfl⟩
      have hmL : m < L.length := by omega
      obtain ⟨a', _, _, rfl, rfl, _, R2, -, -⟩ := (HS.out.below hhi HBd.out).runs hmL
      have s1 : (p : Int) + (q : Int) = ((p + q : Nat) : Int) := by omega
      have s2 : IntKind.i64.wrap ((p + q : Nat) : Int) = ((p + q : Nat) : Int) := by rw [IntKind.wrap_i64]; omega
      have s3 : IntKind.u64.wrap ((p + q : Nat) : Int) = ((p + q : Nat) : Int) := by rw [IntKind.wrap_u64]; omega
      have s4 : ((p + q : Nat) : Int) / 2 = (m : Int) := by omega
      have s5 : IntKind.i64.wrap (m : Int) = (m : Int) := by rw [IntKind.wrap_i64]; omega
      have s6 : IntKind.u64.wrap (m : Int) = (m : Int) := by rw [IntKind.wrap_u64]; omega
      have s7 : (m : Int) < L.length := by omega
      have hm1 : p ≤ m := by omega
      have hm2 : m < q := by omega
      have HS : Hid ((Instr.loadAt 57 (.pointer (some (a'.add (m * 3))))).run Tryz.prog wr.drew = .ok (cellV L[m]) wr.drew ∧ (Instr.loadAt 57 (.pointer (some ⟨w.heap.size, 0, none⟩))).run Tryz.prog wr.drew = .ok (cellV t) wr.drew) := ⟨R2.out, hLX⟩
      have C := order_any L[m] t wr.drew
      have HLs : Hid (ordC L[m] t < 0 → ∀ h : m + 1 - 1 < L.length, 0 < m + 1 → ordC L[m + 1 - 1] t < 0) := fun e _ _ => e
      have HGe : Hid (0 ≤ ordC L[m] t → ∀ h : m < L.length, 0 ≤ ordC L[m] t) := fun e _ => e
      generalize hpq2 : p + q = pq at *
      clear R2 hLX hm hpq2
      generalize L[m] = y at *
      generalize ordC y t = cv at *
      by_cases hc : cv < 0
      · have HLs2 : Hid _ := HLs.out hc
        clear HLs HGe
        go_wp2
        refine wp_region_d (fun u => (Instr.loadAt 57 (.pointer (some (a'.add (m * 3))))).run Tryz.prog u = .ok (cellV y) u ∧ (Instr.loadAt 57 (.pointer (some ⟨w.heap.size, 0, none⟩))).run Tryz.prog u = .ok (cellV t) u) (fun j => j == 6) (by kernel_rfl) ?_
        refine wpAnyD_pured (i := 0) (v := (.func (.func 113) #[] #[])) rfl rfl (by kernel_rfl) (by kernel_rfl) (by kernel_rfl) (fun _ _ _ h => h) (by go_simp) (by intro u; go_simp) ?_
        try simp only [Act.put, List.setIfInBounds_toArray, List.set_cons_zero, List.set_cons_succ]
        refine wpAnyD_pured (i := 1) (v := (.slice (some a') L.length c)) rfl rfl (by kernel_rfl) (by kernel_rfl) (by kernel_rfl) (fun _ _ _ h => h) (by go_simp) (by intro u; go_simp) ?_
        try simp only [Act.put, List.setIfInBounds_toArray, List.set_cons_zero, List.set_cons_succ]
        refine wpAnyD_pured (i := 2) (v := (.int .i64 (m : Int))) rfl rfl (by kernel_rfl) (by kernel_rfl) (by kernel_rfl) (fun _ _ _ h => h) (by go_simp) (by intro u; go_simp) ?_
        try simp only [Act.put, List.setIfInBounds_toArray, List.set_cons_zero, List.set_cons_succ]
        refine wpAnyD_pured (i := 3) (v := (.pointer (some (a'.add (m * 3))))) rfl rfl (by kernel_rfl) (by kernel_rfl) (by kernel_rfl) (fun _ _ _ h => h) (by go_simp) (by intro u; go_simp) ?_
        try simp only [Act.put, List.setIfInBounds_toArray, List.set_cons_zero, List.set_cons_succ]
        refine wpAnyD_loadd (i := 4) (v := (cellV y)) rfl rfl (by kernel_rfl) (by kernel_rfl) (by kernel_rfl) (by kernel_rfl) (fun _ _ _ h => h) (by go_simp) (fun u hSu => exec_load rfl rfl hSu.1) HS.out ?_
        try simp only [Act.put, List.setIfInBounds_toArray, List.set_cons_zero, List.set_cons_succ]
        refine wpAnyD_loadd (i := 5) (v := (cellV t)) rfl rfl (by kernel_rfl) (by kernel_rfl) (by kernel_rfl) (by kernel_rfl) (fun _ _ _ h => h) (by go_simp) (fun u hSu => exec_load rfl rfl hSu.2) HS.out ?_
        try simp only [Act.put, List.setIfInBounds_toArray, List.set_cons_zero, List.set_cons_succ]
        refine wpAnyD_one (i := 6) (by kernel_rfl) rfl ?_
        intro K' hK'
        go_simp
        refine C.mono ?_
        rintro e w1 ⟨rfl, hb1⟩
        have HB1 : Hid (Below w.heap.size w w1) := Sh.bel_step HBd.out HBd.out.size hb1
        have HX1 : Hid (w1.heap[w.heap.size]? = some (ceO t)) := (hb1.block _ (blk_lt HXd.out)).trans HXd.out
        clear hb1
        refine hK' _ _ (.inl rfl) ?_
        clear hK'
        try simp only [Act.put, List.setIfInBounds_toArray, List.set_cons_zero, List.set_cons_succ]
        refine wpAnyD_pured (i := 7) (v := (.bool true)) rfl rfl (by kernel_rfl) (by kernel_rfl) (by kernel_rfl) (fun _ _ _ h => h) (by go_simp) (by intro u; go_simp) ?_
        try simp only [Act.put, List.setIfInBounds_toArray, List.set_cons_zero, List.set_cons_succ]
        refine wpAnyD_done (by kernel_rfl) ?_ _
        go_wp2
        go_roundw
        case rel => exact ⟨m + 1, q, by omega, hqL, by go_num, rfl, HLs2, HQ, HB1, HX1⟩
        case measure => simp [intOf]; omega
      · have HGe2 : Hid _ := HGe.out (by omega)
        clear HLs HGe
        go_wp2
        refine wp_region_d (fun u => (Instr.loadAt 57 (.pointer (some (a'.add (m * 3))))).run Tryz.prog u = .ok (cellV y) u ∧ (Instr.loadAt 57 (.pointer (some ⟨w.heap.size, 0, none⟩))).run Tryz.prog u = .ok (cellV t) u) (fun j => j == 6) (by kernel_rfl) ?_
        refine wpAnyD_pured (i := 0) (v := (.func (.func 113) #[] #[])) rfl rfl (by kernel_rfl) (by kernel_rfl) (by kernel_rfl) (fun _ _ _ h => h) (by go_simp) (by intro u; go_simp) ?_
        try simp only [Act.put, List.setIfInBounds_toArray, List.set_cons_zero, List.set_cons_succ]
        refine wpAnyD_pured (i := 1) (v := (.slice (some a') L.length c)) rfl rfl (by kernel_rfl) (by kernel_rfl) (by kernel_rfl) (fun _ _ _ h => h) (by go_simp) (by intro u; go_simp) ?_
        try simp only [Act.put, List.setIfInBounds_toArray, List.set_cons_zero, List.set_cons_succ]
        refine wpAnyD_pured (i := 2) (v := (.int .i64 (m : Int))) rfl rfl (by kernel_rfl) (by kernel_rfl) (by kernel_rfl) (fun _ _ _ h => h) (by go_simp) (by intro u; go_simp) ?_
        try simp only [Act.put, List.setIfInBounds_toArray, List.set_cons_zero, List.set_cons_succ]
        refine wpAnyD_pured (i := 3) (v := (.pointer (some (a'.add (m * 3))))) rfl rfl (by kernel_rfl) (by kernel_rfl) (by kernel_rfl) (fun _ _ _ h => h) (by go_simp) (by intro u; go_simp) ?_
        try simp only [Act.put, List.setIfInBounds_toArray, List.set_cons_zero, List.set_cons_succ]
        refine wpAnyD_loadd (i := 4) (v := (cellV y)) rfl rfl (by kernel_rfl) (by kernel_rfl) (by kernel_rfl) (by kernel_rfl) (fun _ _ _ h => h) (by go_simp) (fun u hSu => exec_load rfl rfl hSu.1) HS.out ?_
        try simp only [Act.put, List.setIfInBounds_toArray, List.set_cons_zero, List.set_cons_succ]
        refine wpAnyD_loadd (i := 5) (v := (cellV t)) rfl rfl (by kernel_rfl) (by kernel_rfl) (by kernel_rfl) (by kernel_rfl) (fun _ _ _ h => h) (by go_simp) (fun u hSu => exec_load rfl rfl hSu.2) HS.out ?_
        try simp only [Act.put, List.setIfInBounds_toArray, List.set_cons_zero, List.set_cons_succ]
        refine wpAnyD_one (i := 6) (by kernel_rfl) rfl ?_
        intro K' hK'
        go_simp
        refine C.mono ?_
        rintro e w1 ⟨rfl, hb1⟩
        have HB1 : Hid (Below w.heap.size w w1) := Sh.bel_step HBd.out HBd.out.size hb1
        have HX1 : Hid (w1.heap[w.heap.size]? = some (ceO t)) := (hb1.block _ (blk_lt HXd.out)).trans HXd.out
        clear hb1
        refine hK' _ _ (.inl rfl) ?_
        clear hK'
        try simp only [Act.put, List.setIfInBounds_toArray, List.set_cons_zero, List.set_cons_succ]
        refine wpAnyD_pured (i := 7) (v := (.bool false)) rfl rfl (by kernel_rfl) (by kernel_rfl) (by kernel_rfl) (fun _ _ _ h => h) (by go_simp) (by intro u; go_simp) ?_
        try simp only [Act.put, List.setIfInBounds_toArray, List.set_cons_zero, List.set_cons_succ]
        refine wpAnyD_done (by kernel_rfl) ?_ _
        go_wp2
        go_roundw
        case rel => exact ⟨p, m, by omega, by omega, rfl, by go_num, HP, HGe2, HB1, HX1⟩
        case measure => simp [intOf]; omega
    · obtain rfl : p = q := by omega
      have hpi : ¬ (p : Int) < p := by omega
      by_cases hpL : p < L.length
      · have hpn : (p : Int) < L.length := by omega
        obtain ⟨a', _, _, rfl, rfl, _, R2, -, -⟩ := (HS.out.below hhi HBd.out).runs hpL
        have HS : Hid ((Instr.loadAt 57 (.pointer (some (a'.add (p * 3))))).run Tryz.prog wr.drew = .ok (cellV L[p]) wr.drew ∧ (Instr.loadAt 57 (.pointer (some ⟨w.heap.size, 0, none⟩))).run Tryz.prog wr.drew = .ok (cellV t) wr.drew) := ⟨R2.out, hLX⟩
        have C := order_any L[p] t wr.drew
        have HE : Hid (∀ b : Bool, (b = true ↔ ordC L[p] t = 0) → BsR L t p b) := fun b hb => ⟨hqL, HP.out, HQ.out, hb.trans ⟨fun e => ⟨hpL, e⟩, fun e => e.2⟩⟩
        clear R2 hLX
        generalize L[p] = y at *
        generalize ordC y t = cv at *
        by_cases hc : cv = 0
        · subst hc
          have HE2 : Hid (BsR L t p true) := HE.out true (by simp)
          clear HE
          go_wp2
          refine wp_region_d (fun u => (Instr.loadAt 57 (.pointer (some (a'.add (p * 3))))).run Tryz.prog u = .ok (cellV y) u ∧ (Instr.loadAt 57 (.pointer (some ⟨w.heap.size, 0, none⟩))).run Tryz.prog u = .ok (cellV t) u) (fun j => j == 11) (by kernel_rfl) ?_
          refine wpAnyD_pured (i := 0) (v := (.int .i64 (p : Int))) rfl rfl (by kernel_rfl) (by kernel_rfl) (by kernel_rfl) (fun _ _ _ h => h) (by go_simp) (by intro u; go_simp) ?_
          try simp only [Act.put, List.setIfInBounds_toArray, List.set_cons_zero, List.set_cons_succ]
          refine wpAnyD_pured (i := 1) (v := (.int .i64 (p : Int))) rfl rfl (by kernel_rfl) (by kernel_rfl) (by kernel_rfl) (fun _ _ _ h => h) (by go_simp) (by intro u; go_simp) ?_
          try simp only [Act.put, List.setIfInBounds_toArray, List.set_cons_zero, List.set_cons_succ]
          refine wpAnyD_pured (i := 2) (v := (.int .i64 (L.length : Int))) rfl rfl (by kernel_rfl) (by kernel_rfl) (by kernel_rfl) (fun _ _ _ h => h) (by go_simp) (by intro u; go_simp) ?_
          try simp only [Act.put, List.setIfInBounds_toArray, List.set_cons_zero, List.set_cons_succ]
          refine wpAnyD_pured (i := 3) (v := (.bool true)) rfl rfl (by kernel_rfl) (by kernel_rfl) (by kernel_rfl) (fun _ _ _ h => h) (by go_simp) (by intro u; go_simp) ?_
          try simp only [Act.put, List.setIfInBounds_toArray, List.set_cons_zero, List.set_cons_succ]
          refine wpAnyD_pured (i := 4) (v := (.bool true)) rfl rfl (by kernel_rfl) (by kernel_rfl) (by kernel_rfl) (fun _ _ _ h => h) (by go_simp) (by intro u; go_simp) ?_
          try simp only [Act.put, List.setIfInBounds_toArray, List.set_cons_zero, List.set_cons_succ]
          refine wpAnyD_pured (i := 5) (v := (.func (.func 113) #[] #[])) rfl rfl (by kernel_rfl) (by kernel_rfl) (by kernel_rfl) (fun _ _ _ h => h) (by go_simp) (by intro u; go_simp) ?_
          try simp only [Act.put, List.setIfInBounds_toArray, List.set_cons_zero, List.set_cons_succ]
          refine wpAnyD_pured (i := 6) (v := (.slice (some a') L.length c)) rfl rfl (by kernel_rfl) (by kernel_rfl) (by kernel_rfl) (fun _ _ _ h => h) (by go_simp) (by intro u; go_simp) ?_
          try simp only [Act.put, List.setIfInBounds_toArray, List.set_cons_zero, List.set_cons_succ]
          refine wpAnyD_pured (i := 7) (v := (.int .i64 (p : Int))) rfl rfl (by kernel_rfl) (by kernel_rfl) (by kernel_rfl) (fun _ _ _ h => h) (by go_simp) (by intro u; go_simp) ?_
          try simp only [Act.put, List.setIfInBounds_toArray, List.set_cons_zero, List.set_cons_succ]
          refine wpAnyD_pured (i := 8) (v := (.pointer (some (a'.add (p * 3))))) rfl rfl (by kernel_rfl) (by kernel_rfl) (by kernel_rfl) (fun _ _ _ h => h) (by go_simp) (by intro u; go_simp) ?_
          try simp only [Act.put, List.setIfInBounds_toArray, List.set_cons_zero, List.set_cons_succ]
          refine wpAnyD_loadd (i := 9) (v := (cellV y)) rfl rfl (by kernel_rfl) (by kernel_rfl) (by kernel_rfl) (by kernel_rfl) (fun _ _ _ h => h) (by go_simp) (fun u hSu => exec_load rfl rfl hSu.1) HS.out ?_
          try simp only [Act.put, List.setIfInBounds_toArray, List.set_cons_zero, List.set_cons_succ]
          refine wpAnyD_loadd (i := 10) (v := (cellV t)) rfl rfl (by kernel_rfl) (by kernel_rfl) (by kernel_rfl) (by kernel_rfl) (fun _ _ _ h => h) (by go_simp) (fun u hSu => exec_load rfl rfl hSu.2) HS.out ?_
          try simp only [Act.put, List.setIfInBounds_toArray, List.set_cons_zero, List.set_cons_succ]
          refine wpAnyD_one (i := 11) (by kernel_rfl) rfl ?_
          intro K' hK'
          go_simp
          refine C.mono ?_
          rintro e w1 ⟨rfl, hb1⟩
          have HB1 : Hid (Below w.heap.size w w1) := Sh.bel_step HBd.out HBd.out.size hb1
          have HX1 : Hid (w1.heap[w.heap.size]? = some (ceO t)) := (hb1.block _ (blk_lt HXd.out)).trans HXd.out
          clear hb1
          refine hK' _ _ (.inl rfl) ?_
          clear hK'
          try simp only [Act.put, List.setIfInBounds_toArray, List.set_cons_zero, List.set_cons_succ]
          refine wpAnyD_pured (i := 14) (v := (.int .i64 (p : Int))) rfl rfl (by kernel_rfl) (by kernel_rfl) (by kernel_rfl) (fun _ _ _ h => h) (by go_simp) (by intro u; go_simp) ?_
          try simp only [Act.put, List.setIfInBounds_toArray, List.set_cons_zero, List.set_cons_succ]
          refine wpAnyD_pured (i := 12) (v := (.bool true)) rfl rfl (by kernel_rfl) (by kernel_rfl) (by kernel_rfl) (fun _ _ _ h => h) (by go_simp) (by intro u; go_simp) ?_
          try simp only [Act.put, List.setIfInBounds_toArray, List.set_cons_zero, List.set_cons_succ]
          refine wpAnyD_pured (i := 13) (v := (.bool true)) rfl rfl (by kernel_rfl) (by kernel_rfl) (by kernel_rfl) (fun _ _ _ h => h) (by go_simp) (by intro u; go_simp) ?_
          try simp only [Act.put, List.setIfInBounds_toArray, List.set_cons_zero, List.set_cons_succ]
          refine wpAnyD_pured (i := 15) (v := (.bool true)) rfl rfl (by kernel_rfl) (by kernel_rfl) (by kernel_rfl) (fun _ _ _ h => h) (by go_simp) (by intro u; go_simp) ?_
          try simp only [Act.put, List.setIfInBounds_toArray, List.set_cons_zero, List.set_cons_succ]
          refine wpAnyD_done (by kernel_rfl) ?_ _
          go_wp2
          go_ret2
          exact ⟨⟨p, true, rfl, HE2.out⟩, HB1.out⟩
        · have HE2 : Hid (BsR L t p false) := HE.out false (by simp [hc])
          clear HE
          go_wp2
          refine wp_region_d (fun u => (Instr.loadAt 57 (.pointer (some (a'.add (p * 3))))).run Tryz.prog u = .ok (cellV y) u ∧ (Instr.loadAt 57 (.pointer (some ⟨w.heap.size, 0, none⟩))).run Tryz.prog u = .ok (cellV t) u) (fun j => j == 11) (by kernel_rfl) ?_
          refine wpAnyD_pured (i := 0) (v := (.int .i64 (p : Int))) rfl rfl (by kernel_rfl) (by kernel_rfl) (by kernel_rfl) (fun _ _ _ h => h) (by go_simp) (by intro u; go_simp) ?_
          try simp only [Act.put, List.setIfInBounds_toArray, List.set_cons_zero, List.set_cons_succ]
          refine wpAnyD_pured (i := 1) (v := (.int .i64 (p : Int))) rfl rfl (by kernel_rfl) (by kernel_rfl) (by kernel_rfl) (fun _ _ _ h => h) (by go_simp) (by intro u; go_simp) ?_
          try simp only [Act.put, List.setIfInBounds_toArray, List.set_cons_zero, List.set_cons_succ]
          refine wpAnyD_pured (i := 2) (v := (.int .i64 (L.length : Int))) rfl rfl (by kernel_rfl) (by kernel_rfl) (by kernel_rfl) (fun _ _ _ h => h) (by go_simp) (by intro u; go_simp) ?_
          try simp only [Act.put, List.setIfInBounds_toArray, List.set_cons_zero, List.set_cons_succ]
          refine wpAnyD_pured (i := 3) (v := (.bool true)) rfl rfl (by kernel_rfl) (by kernel_rfl) (by kernel_rfl) (fun _ _ _ h => h) (by go_simp) (by intro u; go_simp) ?_
          try simp only [Act.put, List.setIfInBounds_toArray, List.set_cons_zero, List.set_cons_succ]
          refine wpAnyD_pured (i := 4) (v := (.bool true)) rfl rfl (by kernel_rfl) (by kernel_rfl) (by kernel_rfl) (fun _ _ _ h => h) (by go_simp) (by intro u; go_simp) ?_
          try simp only [Act.put, List.setIfInBounds_toArray, List.set_cons_zero, List.set_cons_succ]
          refine wpAnyD_pured (i := 5) (v := (.func (.func 113) #[] #[])) rfl rfl (by kernel_rfl) (by kernel_rfl) (by kernel_rfl) (fun _ _ _ h => h) (by go_simp) (by intro u; go_simp) ?_
          try simp only [Act.put, List.setIfInBounds_toArray, List.set_cons_zero, List.set_cons_succ]
          refine wpAnyD_pured (i := 6) (v := (.slice (some a') L.length c)) rfl rfl (by kernel_rfl) (by kernel_rfl) (by kernel_rfl) (fun _ _ _ h => h) (by go_simp) (by intro u; go_simp) ?_
          try simp only [Act.put, List.setIfInBounds_toArray, List.set_cons_zero, List.set_cons_succ]
          refine wpAnyD_pured (i := 7) (v := (.int .i64 (p : Int))) rfl rfl (by kernel_rfl) (by kernel_rfl) (by kernel_rfl) (fun _ _ _ h => h) (by go_simp) (by intro u; go_simp) ?_
          try simp only [Act.put, List.setIfInBounds_toArray, List.set_cons_zero, List.set_cons_succ]
          refine wpAnyD_pured (i := 8) (v := (.pointer (some (a'.add (p * 3))))) rfl rfl (by kernel_rfl) (by kernel_rfl) (by kernel_rfl) (fun _ _ _ h => h) (by go_simp) (by intro u; go_simp) ?_
          try simp only [Act.put, List.setIfInBounds_toArray, List.set_cons_zero, List.set_cons_succ]
          refine wpAnyD_loadd (i := 9) (v := (cellV y)) rfl rfl (by kernel_rfl) (by kernel_rfl) (by kernel_rfl) (by kernel_rfl) (fun _ _ _ h => h) (by go_simp) (fun u hSu => exec_load rfl rfl hSu.1) HS.out ?_
          try simp only [Act.put, List.setIfInBounds_toArray, List.set_cons_zero, List.set_cons_succ]
          refine wpAnyD_loadd (i := 10) (v := (cellV t)) rfl rfl (by kernel_rfl) (by kernel_rfl) (by kernel_rfl) (by kernel_rfl) (fun _ _ _ h => h) (by go_simp) (fun u hSu => exec_load rfl rfl hSu.2) HS.out ?_
          try simp only [Act.put, List.setIfInBounds_toArray, List.set_cons_zero, List.set_cons_succ]
          refine wpAnyD_one (i := 11) (by kernel_rfl) rfl ?_
          intro K' hK'
          go_simp
          refine C.mono ?_
          rintro e w1 ⟨rfl, hb1⟩
          have HB1 : Hid (Below w.heap.size w w1) := Sh.bel_step HBd.out HBd.out.size hb1
          have HX1 : Hid (w1.heap[w.heap.size]? = some (ceO t)) := (hb1.block _ (blk_lt HXd.out)).trans HXd.out
          clear hb1
          refine hK' _ _ (.inl rfl) ?_
          clear hK'
          try simp only [Act.put, List.setIfInBounds_toArray, List.set_cons_zero, List.set_cons_succ]
          refine wpAnyD_pured (i := 14) (v := (.int .i64 (p : Int))) rfl rfl (by kernel_rfl) (by kernel_rfl) (by kernel_rfl) (fun _ _ _ h => h) (by go_simp) (by intro u; go_simp) ?_
          try simp only [Act.put, List.setIfInBounds_toArray, List.set_cons_zero, List.set_cons_succ]
          refine wpAnyD_pured (i := 12) (v := (.bool false)) rfl rfl (by kernel_rfl) (by kernel_rfl) (by kernel_rfl) (fun _ _ _ h => h) (by go_simp) (by intro u; go_simp) ?_
          try simp only [Act.put, List.setIfInBounds_toArray, List.set_cons_zero, List.set_cons_succ]
          refine wpAnyD_pured (i := 13) (v := (.bool false)) rfl rfl (by kernel_rfl) (by kernel_rfl) (by kernel_rfl) (fun _ _ _ h => h) (by go_simp) (by intro u; go_simp) ?_
          try simp only [Act.put, List.setIfInBounds_toArray, List.set_cons_zero, List.set_cons_succ]
          refine wpAnyD_pured (i := 15) (v := (.bool false)) rfl rfl (by kernel_rfl) (by kernel_rfl) (by kernel_rfl) (fun _ _ _ h => h) (by go_simp) (by intro u; go_simp) ?_
          try simp only [Act.put, List.setIfInBounds_toArray, List.set_cons_zero, List.set_cons_succ]
          refine wpAnyD_done (by kernel_rfl) ?_ _
          go_wp2
          go_ret2
          exact ⟨⟨p, false, rfl, HE2.out⟩, HB1.out⟩
      · have hpn : ¬ (p : Int) < L.length := by omega
        have HE2 : Hid (BsR L t p false) := ⟨hqL, HP.out, HQ.out, ⟨fun e => (by cases e), fun e => absurd e.1 hpL⟩⟩
        go_wp2
        refine wp_region_d (fun u => True) (fun j => false) (by kernel_rfl) ?_
        refine wpAnyD_pured (i := 0) (v := (.int .i64 (p : Int))) rfl rfl (by kernel_rfl) (by kernel_rfl) (by kernel_rfl) (fun _ _ _ h => h) (by go_simp) (by intro u; go_simp) ?_
        try simp only [Act.put, List.setIfInBounds_toArray, List.set_cons_zero, List.set_cons_succ]
        refine wpAnyD_pured (i := 1) (v := (.int .i64 (p : Int))) rfl rfl (by kernel_rfl) (by kernel_rfl) (by kernel_rfl) (fun _ _ _ h => h) (by go_simp) (by intro u; go_simp) ?_
        try simp only [Act.put, List.setIfInBounds_toArray, List.set_cons_zero, List.set_cons_succ]
        refine wpAnyD_pured (i := 2) (v := (.int .i64 (L.length : Int))) rfl rfl (by kernel_rfl) (by kernel_rfl) (by kernel_rfl) (fun _ _ _ h => h) (by go_simp) (by intro u; go_simp) ?_
        try simp only [Act.put, List.setIfInBounds_toArray, List.set_cons_zero, List.set_cons_succ]
        refine wpAnyD_pured (i := 3) (v := (.bool false)) rfl rfl (by kernel_rfl) (by kernel_rfl) (by kernel_rfl) (fun _ _ _ h => h) (by go_simp) (by intro u; go_simp) ?_
        try simp only [Act.put, List.setIfInBounds_toArray, List.set_cons_zero, List.set_cons_succ]
        refine wpAnyD_pured (i := 4) (v := (.bool false)) rfl rfl (by kernel_rfl) (by kernel_rfl) (by kernel_rfl) (fun _ _ _ h => h) (by go_simp) (by intro u; go_simp) ?_
        try simp only [Act.put, List.setIfInBounds_toArray, List.set_cons_zero, List.set_cons_succ]
        refine wpAnyD_skipd (i := 5) rfl rfl (by kernel_rfl) (by kernel_rfl) (by kernel_rfl) (fun _ _ _ h => h) (by go_simp) ?_
        try simp only [Act.put, List.setIfInBounds_toArray, List.set_cons_zero, List.set_cons_succ]
        refine wpAnyD_skipd (i := 6) rfl rfl (by kernel_rfl) (by kernel_rfl) (by kernel_rfl) (fun _ _ _ h => h) (by go_simp) ?_
        try simp only [Act.put, List.setIfInBounds_toArray, List.set_cons_zero, List.set_cons_succ]
        refine wpAnyD_skipd (i := 7) rfl rfl (by kernel_rfl) (by kernel_rfl) (by kernel_rfl) (fun _ _ _ h => h) (by go_simp) ?_
        try simp only [Act.put, List.setIfInBounds_toArray, List.set_cons_zero, List.set_cons_succ]
        refine wpAnyD_skipd (i := 8) rfl rfl (by kernel_rfl) (by kernel_rfl) (by kernel_rfl) (fun _ _ _ h => h) (by go_simp) ?_
        try simp only [Act.put, List.setIfInBounds_toArray, List.set_cons_zero, List.set_cons_succ]
        refine wpAnyD_skipd (i := 9) rfl rfl (by kernel_rfl) (by kernel_rfl) (by kernel_rfl) (fun _ _ _ h => h) (by go_simp) ?_
        try simp only [Act.put, List.setIfInBounds_toArray, List.set_cons_zero, List.set_cons_succ]
        refine wpAnyD_skipd (i := 10) rfl rfl (by kernel_rfl) (by kernel_rfl) (by kernel_rfl) (fun _ _ _ h => h) (by go_simp) ?_
        try simp only [Act.put, List.setIfInBounds_toArray, List.set_cons_zero, List.set_cons_succ]
        refine wpAnyD_skipd (i := 11) rfl rfl (by kernel_rfl) (by kernel_rfl) (by kernel_rfl) (fun _ _ _ h => h) (by go_simp) ?_
        try simp only [Act.put, List.setIfInBounds_toArray, List.set_cons_zero, List.set_cons_succ]
        refine wpAnyD_pured (i := 14) (v := (.int .i64 (p : Int))) rfl rfl (by kernel_rfl) (by kernel_rfl) (by kernel_rfl) (fun _ _ _ h => h) (by go_simp) (by intro u; go_simp) ?_
        try simp only [Act.put, List.setIfInBounds_toArray, List.set_cons_zero, List.set_cons_succ]
        refine wpAnyD_skipd (i := 12) rfl rfl (by kernel_rfl) (by kernel_rfl) (by kernel_rfl) (fun _ _ _ h => h) (by go_simp) ?_
        try simp only [Act.put, List.setIfInBounds_toArray, List.set_cons_zero, List.set_cons_succ]
        refine wpAnyD_pured (i := 13) (v := (.bool false)) rfl rfl (by kernel_rfl) (by kernel_rfl) (by kernel_rfl) (fun _ _ _ h => h) (by go_simp) (by intro u; go_simp) ?_
        try simp only [Act.put, List.setIfInBounds_toArray, List.set_cons_zero, List.set_cons_succ]
        refine wpAnyD_pured (i := 15) (v := (.bool false)) rfl rfl (by kernel_rfl) (by kernel_rfl) (by kernel_rfl) (fun _ _ _ h => h) (by go_simp) (by intro u; go_simp) ?_
        try simp only [Act.put, List.setIfInBounds_toArray, List.set_cons_zero, List.set_cons_succ]
        refine wpAnyD_done (by kernel_rfl) ?_ _
        go_wp2
        go_ret2
        exact ⟨⟨p, false, rfl, HE2.out⟩, HBd.out⟩
end Go.Proofs.YtpafokmkcblcnaaGreatDoor.Sh
