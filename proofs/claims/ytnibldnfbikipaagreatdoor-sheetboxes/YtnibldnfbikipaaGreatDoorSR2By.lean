/- SR2. -/
import Derived.Test.YtnibldnfbikipaaGreatDoorSR1By
set_option linter.unusedVariables false
set_option linter.unusedSimpArgs false
set_option maxHeartbeats 16000000
set_option maxRecDepth 100000
namespace Go.Proofs.YtnibldnfbikipaaGreatDoor.Sh
open Go.RowKit Go.Fm
def rlF (L : List CellT) : Int := if laidB L = true then 0 else 9
theorem rcells_any {lo hi : Nat} {w : World} {a : Option Addr} {c : Nat} {L : List CellT} (h : Cls lo hi w (.slice a L.length c) L) (hhi : hi ≤ w.heap.size) :
  Calls Tryz.prog 49 #[.slice a L.length c] w fun e w' => e = .returned (.int .i64 (rlF L)) ∧ Below w.heap.size w w' := by
 obtain ⟨_, _, he, hz1, hz2⟩ := h.slice
 cases he
 have hlen : L.length ≤ 9223372036854775807 := by unfold maxLen at hz2; omega
 have HS0 : Hid (Cls lo hi w (.slice a L.length c) L) := h
 generalize hO : rlF L = lb
 have HO : Hid (rlF L = lb) := hO
 clear h hz1 hz2 hO
 go_enter Tryz.func49, Tryz.ntmps49
 go_wp2
 go_loopw [7] (fun i wr => ∃ (k : Nat), k ≤ L.length ∧ i = .int .i64 (k : Nat) ∧ Hid (∀ j, j < k → stB L j = true) ∧ Hid (Below w.heap.size w wr)) (fun i _ => L.length - (intOf i).toNat)
 case atStart => exact ⟨0, Nat.zero_le _, rfl, fun j hj => by omega, Below.refl _ _⟩
 case round =>
  obtain ⟨k, hk, rfl, HA, HD⟩ := hrel
  by_cases hkL : k < L.length
  ·have hki : (k : Int) < L.length := by omega
   have HF := HS0.out.below hhi HD.out
   obtain ⟨a', ov, W', rfl, rfl, hW', R2, R3, R4⟩ := HF.runs hkL
   have HD2 : Hid (Below w.heap.size w W') := by rw [hW']; exact Sh.bel_alloc HD.out (Nat.le_refl _) _
   have HDd : Hid (Below w.heap.size w W'.drew) := HD2.out.drew
   have hX : W'.drew.heap[wr.heap.size]? = some (.cells (cellC L[k]).toArray 57) := by rw [hW']; exact heap_alloc_new wr _
   obtain ⟨c0, c1, c2⟩ := c_cells hX
   have C1 := rinside_any L[k].row L[k].col W'.drew
   have hk63 : k < 9223372036854775807 := by omega
   have HNO : Hid (stB L k = false → lb = 9) := fun e => by rw [← HO.out]; unfold rlF; rw [laid_no hkL e]; rfl
   have HYES : Hid (stB L k = true → ∀ j, j < k + 1 → stB L j = true) := fun e j hj => by
    by_cases hjk : j = k
    ·subst hjk; exact e
    ·exact HA.out j (by omega)
   have hLX := ldC hX
   by_cases hk0 : k = 0
   ·have hkz : decide ((0 : Int) < (k : Int)) = false := by simpa using hk0
    have hst2 := stB_zero hkL hk0
    have HST : Hid (stB L k = (insB L[k].row L[k].col && !(L[k].text.toList == []))) := hst2
    have HK0 : Hid (k = 0) := hk0
    have HKEEP : Hid (∀ u, Below W'.drew.heap.size W'.drew u → u.cell? ⟨wr.heap.size, 0, none⟩ = some (.int .i64 L[k].row) ∧ u.cell? ⟨wr.heap.size, 1, none⟩ = some (.int .i64 L[k].col) ∧ u.cell? ⟨wr.heap.size, 2, none⟩ = some (.string L[k].text) ∧ (Instr.loadAt 57 (.pointer (some ⟨wr.heap.size, 0, none⟩))).run Tryz.prog u = .ok (cellV L[k]) u) := fun u hu => by
     have hXu := (hu.block _ (blk_lt hX)).trans hX
     obtain ⟨q0, q1, q2⟩ := c_cells hXu
     exact ⟨q0, q1, q2, ldC hXu⟩
    clear hst2 HF hW' R4 hX hk0
    generalize L[k] = y at *
    obtain ⟨yr, yc, yt⟩ := y
    dsimp only at *
    have HS : Hid (W'.drew.cell? ⟨wr.heap.size, 0, none⟩ = some (.int .i64 yr) ∧ W'.drew.cell? ⟨wr.heap.size, 1, none⟩ = some (.int .i64 yc) ∧ W'.drew.cell? ⟨wr.heap.size, 2, none⟩ = some (.string yt) ∧ (Instr.loadAt 57 (.pointer (some ⟨wr.heap.size, 0, none⟩))).run Tryz.prog W'.drew = .ok (cellV ⟨yr, yc, yt⟩) W'.drew) := ⟨c0, c1, c2, hLX⟩
    clear c0 c1 c2 hLX
    cases hin : insB yr yc with
    | false =>
     rw [hin] at C1 HST
     obtain rfl := HNO.out (by rw [HST.out]; rfl)
     clear HNO HYES
     go_wp2_with (first
      | (refine wpList_load_run rfl 57 _ rfl _ _ rfl R2.out ?_; clear R2)
      | (refine wpList_store_run rfl 57 _ _ rfl _ _ _ rfl rfl R3.out ?_; clear R3))
     refine wp_region_d (fun u => u.cell? ⟨wr.heap.size, 0, none⟩ = some (.int .i64 yr) ∧ u.cell? ⟨wr.heap.size, 1, none⟩ = some (.int .i64 yc) ∧ u.cell? ⟨wr.heap.size, 2, none⟩ = some (.string yt) ∧ (Instr.loadAt 57 (.pointer (some ⟨wr.heap.size, 0, none⟩))).run Tryz.prog u = .ok (cellV ⟨yr, yc, yt⟩) u) (fun j => false) (by kernel_rfl) ?_
     refine dwp 0 ((.pointer (some ⟨wr.heap.size, 0, none⟩))) (h := ?_)
     refine dwl 1 ((.int .i64 yr)) (hS := HS.out) (hy := (fun u hSu => exec_load rfl rfl (ld1 hSu.1 (Tryz.isAgg3 _)))) (h := ?_)
     refine dwp 2 ((.pointer (some ⟨wr.heap.size, 1, none⟩))) (h := ?_)
     refine dwl 3 ((.int .i64 yc)) (hS := HS.out) (hy := (fun u hSu => exec_load rfl rfl (ld1 hSu.2.1 (Tryz.isAgg3 _)))) (h := ?_)
     refine wpAnyD_one (i := 4) (by kernel_rfl) rfl ?_
     intro K' hK'
     go_simp
     refine C1.mono ?_
     clear C1
     rintro e w1 ⟨rfl, hb⟩
     have HB1 : Hid (Below w.heap.size w w1) := Sh.bel_step HDd.out HDd.out.size hb
     have HBW : Hid (Below W'.drew.heap.size W'.drew w1) := hb
     have HKP := HKEEP.out w1 hb
     clear hb HS
     have HS : Hid (w1.cell? ⟨wr.heap.size, 0, none⟩ = some (.int .i64 yr) ∧ w1.cell? ⟨wr.heap.size, 1, none⟩ = some (.int .i64 yc) ∧ w1.cell? ⟨wr.heap.size, 2, none⟩ = some (.string yt) ∧ (Instr.loadAt 57 (.pointer (some ⟨wr.heap.size, 0, none⟩))).run Tryz.prog w1 = .ok (cellV ⟨yr, yc, yt⟩) w1) := HKP
     refine hK' _ _ (.inr fun _ => HKP) ?_
     clear hK'
     try simp only [Act.put, List.setIfInBounds_toArray, List.set_cons_zero, List.set_cons_succ]
     refine dwp 5 ((.bool true)) (h := ?_)
     refine dwp 6 ((.bool true)) (h := ?_)
     refine dws 7 (h := ?_)
     refine dws 8 (h := ?_)
     refine dws 9 (h := ?_)
     refine dwp 10 ((.bool true)) (h := ?_)
     refine dwp 11 ((.bool true)) (h := ?_)
     refine dws 12 (h := ?_)
     refine dws 13 (h := ?_)
     refine dws 14 (h := ?_)
     refine dws 15 (h := ?_)
     refine dws 16 (h := ?_)
     refine dws 17 (h := ?_)
     refine dws 18 (h := ?_)
     refine dws 19 (h := ?_)
     refine dws 20 (h := ?_)
     refine dws 21 (h := ?_)
     refine dws 22 (h := ?_)
     refine dws 23 (h := ?_)
     refine dwp 24 ((.bool true)) (h := ?_)
     refine wpAnyD_done (by kernel_rfl) ?_ _
     go_wp2
     go_ret
     exact ⟨rfl, HB1.out⟩
    | true =>
     rw [hin] at C1 HST
     cases hte : yt.toList == [] with
     | true =>
      rw [hte] at HST
      obtain rfl := HNO.out (by rw [HST.out]; rfl)
      clear HNO HYES
      go_wp2_with (first
       | (refine wpList_load_run rfl 57 _ rfl _ _ rfl R2.out ?_; clear R2)
       | (refine wpList_store_run rfl 57 _ _ rfl _ _ _ rfl rfl R3.out ?_; clear R3))
      refine wp_region_d (fun u => u.cell? ⟨wr.heap.size, 0, none⟩ = some (.int .i64 yr) ∧ u.cell? ⟨wr.heap.size, 1, none⟩ = some (.int .i64 yc) ∧ u.cell? ⟨wr.heap.size, 2, none⟩ = some (.string yt) ∧ (Instr.loadAt 57 (.pointer (some ⟨wr.heap.size, 0, none⟩))).run Tryz.prog u = .ok (cellV ⟨yr, yc, yt⟩) u) (fun j => false) (by kernel_rfl) ?_
      refine dwp 0 ((.pointer (some ⟨wr.heap.size, 0, none⟩))) (h := ?_)
      refine dwl 1 ((.int .i64 yr)) (hS := HS.out) (hy := (fun u hSu => exec_load rfl rfl (ld1 hSu.1 (Tryz.isAgg3 _)))) (h := ?_)
      refine dwp 2 ((.pointer (some ⟨wr.heap.size, 1, none⟩))) (h := ?_)
      refine dwl 3 ((.int .i64 yc)) (hS := HS.out) (hy := (fun u hSu => exec_load rfl rfl (ld1 hSu.2.1 (Tryz.isAgg3 _)))) (h := ?_)
      refine wpAnyD_one (i := 4) (by kernel_rfl) rfl ?_
      intro K' hK'
      go_simp
      refine C1.mono ?_
      clear C1
      rintro e w1 ⟨rfl, hb⟩
      have HB1 : Hid (Below w.heap.size w w1) := Sh.bel_step HDd.out HDd.out.size hb
      have HBW : Hid (Below W'.drew.heap.size W'.drew w1) := hb
      have HKP := HKEEP.out w1 hb
      clear hb HS
      have HS : Hid (w1.cell? ⟨wr.heap.size, 0, none⟩ = some (.int .i64 yr) ∧ w1.cell? ⟨wr.heap.size, 1, none⟩ = some (.int .i64 yc) ∧ w1.cell? ⟨wr.heap.size, 2, none⟩ = some (.string yt) ∧ (Instr.loadAt 57 (.pointer (some ⟨wr.heap.size, 0, none⟩))).run Tryz.prog w1 = .ok (cellV ⟨yr, yc, yt⟩) w1) := HKP
      refine hK' _ _ (.inr fun _ => HKP) ?_
      clear hK'
      try simp only [Act.put, List.setIfInBounds_toArray, List.set_cons_zero, List.set_cons_succ]
      refine dwp 5 ((.bool false)) (h := ?_)
      refine dwp 6 ((.bool false)) (h := ?_)
      refine dwp 7 ((.pointer (some ⟨wr.heap.size, 2, none⟩))) (h := ?_)
      refine dwl 8 ((.string yt)) (hS := HS.out) (hy := (fun u hSu => exec_load rfl rfl (ld1 hSu.2.2.1 (Tryz.isAgg9 _)))) (h := ?_)
      refine dwp 9 ((.bool true)) (h := ?_)
      refine dwp 10 ((.bool true)) (h := ?_)
      refine dwp 11 ((.bool true)) (h := ?_)
      refine dws 12 (h := ?_)
      refine dws 13 (h := ?_)
      refine dws 14 (h := ?_)
      refine dws 15 (h := ?_)
      refine dws 16 (h := ?_)
      refine dws 17 (h := ?_)
      refine dws 18 (h := ?_)
      refine dws 19 (h := ?_)
      refine dws 20 (h := ?_)
      refine dws 21 (h := ?_)
      refine dws 22 (h := ?_)
      refine dws 23 (h := ?_)
      refine dwp 24 ((.bool true)) (h := ?_)
      refine wpAnyD_done (by kernel_rfl) ?_ _
      go_wp2
      go_ret
      exact ⟨rfl, HB1.out⟩
     | false =>
      rw [hte] at HST
      have HY2 : Hid _ := HYES.out (by rw [HST.out]; rfl)
      clear HNO HYES
      go_wp2_with (first
       | (refine wpList_load_run rfl 57 _ rfl _ _ rfl R2.out ?_; clear R2)
       | (refine wpList_store_run rfl 57 _ _ rfl _ _ _ rfl rfl R3.out ?_; clear R3))
      refine wp_region_d (fun u => u.cell? ⟨wr.heap.size, 0, none⟩ = some (.int .i64 yr) ∧ u.cell? ⟨wr.heap.size, 1, none⟩ = some (.int .i64 yc) ∧ u.cell? ⟨wr.heap.size, 2, none⟩ = some (.string yt) ∧ (Instr.loadAt 57 (.pointer (some ⟨wr.heap.size, 0, none⟩))).run Tryz.prog u = .ok (cellV ⟨yr, yc, yt⟩) u) (fun j => false) (by kernel_rfl) ?_
      refine dwp 0 ((.pointer (some ⟨wr.heap.size, 0, none⟩))) (h := ?_)
      refine dwl 1 ((.int .i64 yr)) (hS := HS.out) (hy := (fun u hSu => exec_load rfl rfl (ld1 hSu.1 (Tryz.isAgg3 _)))) (h := ?_)
      refine dwp 2 ((.pointer (some ⟨wr.heap.size, 1, none⟩))) (h := ?_)
      refine dwl 3 ((.int .i64 yc)) (hS := HS.out) (hy := (fun u hSu => exec_load rfl rfl (ld1 hSu.2.1 (Tryz.isAgg3 _)))) (h := ?_)
      refine wpAnyD_one (i := 4) (by kernel_rfl) rfl ?_
      intro K' hK'
      go_simp
      refine C1.mono ?_
      clear C1
      rintro e w1 ⟨rfl, hb⟩
      have HB1 : Hid (Below w.heap.size w w1) := Sh.bel_step HDd.out HDd.out.size hb
      have HBW : Hid (Below W'.drew.heap.size W'.drew w1) := hb
      have HKP := HKEEP.out w1 hb
      clear hb HS
      have HS : Hid (w1.cell? ⟨wr.heap.size, 0, none⟩ = some (.int .i64 yr) ∧ w1.cell? ⟨wr.heap.size, 1, none⟩ = some (.int .i64 yc) ∧ w1.cell? ⟨wr.heap.size, 2, none⟩ = some (.string yt) ∧ (Instr.loadAt 57 (.pointer (some ⟨wr.heap.size, 0, none⟩))).run Tryz.prog w1 = .ok (cellV ⟨yr, yc, yt⟩) w1) := HKP
      refine hK' _ _ (.inr fun _ => HKP) ?_
      clear hK'
      try simp only [Act.put, List.setIfInBounds_toArray, List.set_cons_zero, List.set_cons_succ]
      refine dwp 5 ((.bool false)) (h := ?_)
      refine dwp 6 ((.bool false)) (h := ?_)
      refine dwp 7 ((.pointer (some ⟨wr.heap.size, 2, none⟩))) (h := ?_)
      refine dwl 8 ((.string yt)) (hS := HS.out) (hy := (fun u hSu => exec_load rfl rfl (ld1 hSu.2.2.1 (Tryz.isAgg9 _)))) (h := ?_)
      refine dwp 9 ((.bool false)) (h := ?_)
      refine dwp 10 ((.bool false)) (h := ?_)
      refine dwp 11 ((.bool false)) (h := ?_)
      refine dwp 12 ((.int .i64 (k : Int))) (h := ?_)
      refine dwp 13 ((.bool false)) (hy := (by intro u; go_simp; have := HK0.out; omega)) (h := ?_)
      refine dwp 14 ((.bool false)) (h := ?_)
      refine dws 15 (h := ?_)
      refine dws 16 (h := ?_)
      refine dws 17 (h := ?_)
      refine dws 18 (h := ?_)
      refine dws 19 (h := ?_)
      refine dws 20 (h := ?_)
      refine dws 21 (h := ?_)
      refine dws 22 (h := ?_)
      refine dwp 23 ((.bool false)) (h := ?_)
      refine dwp 24 ((.bool false)) (h := ?_)
      refine wpAnyD_done (by kernel_rfl) ?_ _
      go_wp2
      go_roundw
      case rel => exact ⟨k + 1, by omega, by go_num, HY2, HB1⟩
      case measure => simp [intOf]; omega
   ·obtain ⟨j, hj⟩ : ∃ j, k = j + 1 := ⟨k - 1, by omega⟩
    have hjL : j < L.length := by omega
    have hkz : (0 : Int) < k := by omega
    have hji : (k : Int) - 1 = (j : Int) := by omega
    have hjw : IntKind.i64.wrap (j : Int) = (j : Int) := by rw [IntKind.wrap_i64]; omega
    have hjn : (j : Int) < L.length := by omega
    have HFd := HS0.out.below hhi HDd.out
    obtain ⟨b', _, _, e2, rfl, _, RJ, -, -⟩ := HFd.runs hjL
    cases e2
    have hst2 := stB_succ hkL hj
    have HST : Hid (stB L k = (insB L[k].row L[k].col && (!(L[k].text.toList == []) && ltB L[j] L[k]))) := by show _ = _; rw [hst2, ord_lt]
    have C2 := fun u => rafter_any L[k] L[j] u
    have HKEEP : Hid (∀ u, Below W'.drew.heap.size W'.drew u → u.cell? ⟨wr.heap.size, 0, none⟩ = some (.int .i64 L[k].row) ∧ u.cell? ⟨wr.heap.size, 1, none⟩ = some (.int .i64 L[k].col) ∧ u.cell? ⟨wr.heap.size, 2, none⟩ = some (.string L[k].text) ∧ (Instr.loadAt 57 (.pointer (some ⟨wr.heap.size, 0, none⟩))).run Tryz.prog u = .ok (cellV L[k]) u ∧ (Instr.loadAt 57 (.pointer (some (a'.add (j * 3))))).run Tryz.prog u = .ok (cellV L[j]) u) := fun u hu => by
     have hXu := (hu.block _ (blk_lt hX)).trans hX
     obtain ⟨q0, q1, q2⟩ := c_cells hXu
     obtain ⟨_, _, _, e3, rfl, _, RJ2, -, -⟩ := (HS0.out.below hhi (Sh.bel_step HDd.out HDd.out.size hu)).runs hjL
     cases e3
     exact ⟨q0, q1, q2, ldC hXu, RJ2.out⟩
    clear hst2 HF HFd hW' R4 hX hk0 hj
    generalize L[j] = p at *
    generalize L[k] = y at *
    obtain ⟨yr, yc, yt⟩ := y
    dsimp only at *
    have HS : Hid (W'.drew.cell? ⟨wr.heap.size, 0, none⟩ = some (.int .i64 yr) ∧ W'.drew.cell? ⟨wr.heap.size, 1, none⟩ = some (.int .i64 yc) ∧ W'.drew.cell? ⟨wr.heap.size, 2, none⟩ = some (.string yt) ∧ (Instr.loadAt 57 (.pointer (some ⟨wr.heap.size, 0, none⟩))).run Tryz.prog W'.drew = .ok (cellV ⟨yr, yc, yt⟩) W'.drew ∧ (Instr.loadAt 57 (.pointer (some (a'.add (j * 3))))).run Tryz.prog W'.drew = .ok (cellV p) W'.drew) := ⟨c0, c1, c2, hLX, RJ.out⟩
    clear c0 c1 c2 hLX RJ
    generalize ltB p ⟨yr, yc, yt⟩ = cv at *
    cases hin : insB yr yc with
    | false =>
     rw [hin] at C1 HST
     obtain rfl := HNO.out (by rw [HST.out]; rfl)
     clear HNO HYES C2
     go_wp2_with (first
      | (refine wpList_load_run rfl 57 _ rfl _ _ rfl R2.out ?_; clear R2)
      | (refine wpList_store_run rfl 57 _ _ rfl _ _ _ rfl rfl R3.out ?_; clear R3))
     refine wp_region_d (fun u => u.cell? ⟨wr.heap.size, 0, none⟩ = some (.int .i64 yr) ∧ u.cell? ⟨wr.heap.size, 1, none⟩ = some (.int .i64 yc) ∧ u.cell? ⟨wr.heap.size, 2, none⟩ = some (.string yt) ∧ (Instr.loadAt 57 (.pointer (some ⟨wr.heap.size, 0, none⟩))).run Tryz.prog u = .ok (cellV ⟨yr, yc, yt⟩) u ∧ (Instr.loadAt 57 (.pointer (some (a'.add (j * 3))))).run Tryz.prog u = .ok (cellV p) u) (fun j => false) (by kernel_rfl) ?_
     refine dwp 0 ((.pointer (some ⟨wr.heap.size, 0, none⟩))) (h := ?_)
     refine dwl 1 ((.int .i64 yr)) (hS := HS.out) (hy := (fun u hSu => exec_load rfl rfl (ld1 hSu.1 (Tryz.isAgg3 _)))) (h := ?_)
     refine dwp 2 ((.pointer (some ⟨wr.heap.size, 1, none⟩))) (h := ?_)
     refine dwl 3 ((.int .i64 yc)) (hS := HS.out) (hy := (fun u hSu => exec_load rfl rfl (ld1 hSu.2.1 (Tryz.isAgg3 _)))) (h := ?_)
     refine wpAnyD_one (i := 4) (by kernel_rfl) rfl ?_
     intro K' hK'
     go_simp
     refine C1.mono ?_
     clear C1
     rintro e w1 ⟨rfl, hb⟩
     have HB1 : Hid (Below w.heap.size w w1) := Sh.bel_step HDd.out HDd.out.size hb
     have HBW : Hid (Below W'.drew.heap.size W'.drew w1) := hb
     have HKP := HKEEP.out w1 hb
     clear hb HS
     have HS : Hid (w1.cell? ⟨wr.heap.size, 0, none⟩ = some (.int .i64 yr) ∧ w1.cell? ⟨wr.heap.size, 1, none⟩ = some (.int .i64 yc) ∧ w1.cell? ⟨wr.heap.size, 2, none⟩ = some (.string yt) ∧ (Instr.loadAt 57 (.pointer (some ⟨wr.heap.size, 0, none⟩))).run Tryz.prog w1 = .ok (cellV ⟨yr, yc, yt⟩) w1 ∧ (Instr.loadAt 57 (.pointer (some (a'.add (j * 3))))).run Tryz.prog w1 = .ok (cellV p) w1) := HKP
     refine hK' _ _ (.inr fun _ => HKP) ?_
     clear hK'
     try simp only [Act.put, List.setIfInBounds_toArray, List.set_cons_zero, List.set_cons_succ]
     refine dwp 5 ((.bool true)) (h := ?_)
     refine dwp 6 ((.bool true)) (h := ?_)
     refine dws 7 (h := ?_)
     refine dws 8 (h := ?_)
     refine dws 9 (h := ?_)
     refine dwp 10 ((.bool true)) (h := ?_)
     refine dwp 11 ((.bool true)) (h := ?_)
     refine dws 12 (h := ?_)
     refine dws 13 (h := ?_)
     refine dws 14 (h := ?_)
     refine dws 15 (h := ?_)
     refine dws 16 (h := ?_)
     refine dws 17 (h := ?_)
     refine dws 18 (h := ?_)
     refine dws 19 (h := ?_)
     refine dws 20 (h := ?_)
     refine dws 21 (h := ?_)
     refine dws 22 (h := ?_)
     refine dws 23 (h := ?_)
     refine dwp 24 ((.bool true)) (h := ?_)
     refine wpAnyD_done (by kernel_rfl) ?_ _
     go_wp2
     go_ret
     exact ⟨rfl, HB1.out⟩
    | true =>
     rw [hin] at C1 HST
     cases hte : yt.toList == [] with
     | true =>
      rw [hte] at HST
      obtain rfl := HNO.out (by rw [HST.out]; rfl)
      clear HNO HYES C2
      go_wp2_with (first
       | (refine wpList_load_run rfl 57 _ rfl _ _ rfl R2.out ?_; clear R2)
       | (refine wpList_store_run rfl 57 _ _ rfl _ _ _ rfl rfl R3.out ?_; clear R3))
      refine wp_region_d (fun u => u.cell? ⟨wr.heap.size, 0, none⟩ = some (.int .i64 yr) ∧ u.cell? ⟨wr.heap.size, 1, none⟩ = some (.int .i64 yc) ∧ u.cell? ⟨wr.heap.size, 2, none⟩ = some (.string yt) ∧ (Instr.loadAt 57 (.pointer (some ⟨wr.heap.size, 0, none⟩))).run Tryz.prog u = .ok (cellV ⟨yr, yc, yt⟩) u ∧ (Instr.loadAt 57 (.pointer (some (a'.add (j * 3))))).run Tryz.prog u = .ok (cellV p) u) (fun j => false) (by kernel_rfl) ?_
      refine dwp 0 ((.pointer (some ⟨wr.heap.size, 0, none⟩))) (h := ?_)
      refine dwl 1 ((.int .i64 yr)) (hS := HS.out) (hy := (fun u hSu => exec_load rfl rfl (ld1 hSu.1 (Tryz.isAgg3 _)))) (h := ?_)
      refine dwp 2 ((.pointer (some ⟨wr.heap.size, 1, none⟩))) (h := ?_)
      refine dwl 3 ((.int .i64 yc)) (hS := HS.out) (hy := (fun u hSu => exec_load rfl rfl (ld1 hSu.2.1 (Tryz.isAgg3 _)))) (h := ?_)
      refine wpAnyD_one (i := 4) (by kernel_rfl) rfl ?_
      intro K' hK'
      go_simp
      refine C1.mono ?_
      clear C1
      rintro e w1 ⟨rfl, hb⟩
      have HB1 : Hid (Below w.heap.size w w1) := Sh.bel_step HDd.out HDd.out.size hb
      have HBW : Hid (Below W'.drew.heap.size W'.drew w1) := hb
      have HKP := HKEEP.out w1 hb
      clear hb HS
      have HS : Hid (w1.cell? ⟨wr.heap.size, 0, none⟩ = some (.int .i64 yr) ∧ w1.cell? ⟨wr.heap.size, 1, none⟩ = some (.int .i64 yc) ∧ w1.cell? ⟨wr.heap.size, 2, none⟩ = some (.string yt) ∧ (Instr.loadAt 57 (.pointer (some ⟨wr.heap.size, 0, none⟩))).run Tryz.prog w1 = .ok (cellV ⟨yr, yc, yt⟩) w1 ∧ (Instr.loadAt 57 (.pointer (some (a'.add (j * 3))))).run Tryz.prog w1 = .ok (cellV p) w1) := HKP
      refine hK' _ _ (.inr fun _ => HKP) ?_
      clear hK'
      try simp only [Act.put, List.setIfInBounds_toArray, List.set_cons_zero, List.set_cons_succ]
      refine dwp 5 ((.bool false)) (h := ?_)
      refine dwp 6 ((.bool false)) (h := ?_)
      refine dwp 7 ((.pointer (some ⟨wr.heap.size, 2, none⟩))) (h := ?_)
      refine dwl 8 ((.string yt)) (hS := HS.out) (hy := (fun u hSu => exec_load rfl rfl (ld1 hSu.2.2.1 (Tryz.isAgg9 _)))) (h := ?_)
      refine dwp 9 ((.bool true)) (h := ?_)
      refine dwp 10 ((.bool true)) (h := ?_)
      refine dwp 11 ((.bool true)) (h := ?_)
      refine dws 12 (h := ?_)
      refine dws 13 (h := ?_)
      refine dws 14 (h := ?_)
      refine dws 15 (h := ?_)
      refine dws 16 (h := ?_)
      refine dws 17 (h := ?_)
      refine dws 18 (h := ?_)
      refine dws 19 (h := ?_)
      refine dws 20 (h := ?_)
      refine dws 21 (h := ?_)
      refine dws 22 (h := ?_)
      refine dws 23 (h := ?_)
      refine dwp 24 ((.bool true)) (h := ?_)
      refine wpAnyD_done (by kernel_rfl) ?_ _
      go_wp2
      go_ret
      exact ⟨rfl, HB1.out⟩
     | false =>
      rw [hte] at HST
      cases cv with
      | true =>
       have HY2 : Hid _ := HYES.out (by rw [HST.out]; rfl)
       clear HNO HYES
       go_wp2_with (first
        | (refine wpList_load_run rfl 57 _ rfl _ _ rfl R2.out ?_; clear R2)
        | (refine wpList_store_run rfl 57 _ _ rfl _ _ _ rfl rfl R3.out ?_; clear R3))
       refine wp_region_d (fun u => u.cell? ⟨wr.heap.size, 0, none⟩ = some (.int .i64 yr) ∧ u.cell? ⟨wr.heap.size, 1, none⟩ = some (.int .i64 yc) ∧ u.cell? ⟨wr.heap.size, 2, none⟩ = some (.string yt) ∧ (Instr.loadAt 57 (.pointer (some ⟨wr.heap.size, 0, none⟩))).run Tryz.prog u = .ok (cellV ⟨yr, yc, yt⟩) u ∧ (Instr.loadAt 57 (.pointer (some (a'.add (j * 3))))).run Tryz.prog u = .ok (cellV p) u) (fun j => false) (by kernel_rfl) ?_
       refine dwp 0 ((.pointer (some ⟨wr.heap.size, 0, none⟩))) (h := ?_)
       refine dwl 1 ((.int .i64 yr)) (hS := HS.out) (hy := (fun u hSu => exec_load rfl rfl (ld1 hSu.1 (Tryz.isAgg3 _)))) (h := ?_)
       refine dwp 2 ((.pointer (some ⟨wr.heap.size, 1, none⟩))) (h := ?_)
       refine dwl 3 ((.int .i64 yc)) (hS := HS.out) (hy := (fun u hSu => exec_load rfl rfl (ld1 hSu.2.1 (Tryz.isAgg3 _)))) (h := ?_)
       refine wpAnyD_one (i := 4) (by kernel_rfl) rfl ?_
       intro K' hK'
       go_simp
       refine C1.mono ?_
       clear C1
       rintro e w1 ⟨rfl, hb⟩
       have HB1 : Hid (Below w.heap.size w w1) := Sh.bel_step HDd.out HDd.out.size hb
       have HBW : Hid (Below W'.drew.heap.size W'.drew w1) := hb
       have HKP := HKEEP.out w1 hb
       clear hb HS
       have HS : Hid (w1.cell? ⟨wr.heap.size, 0, none⟩ = some (.int .i64 yr) ∧ w1.cell? ⟨wr.heap.size, 1, none⟩ = some (.int .i64 yc) ∧ w1.cell? ⟨wr.heap.size, 2, none⟩ = some (.string yt) ∧ (Instr.loadAt 57 (.pointer (some ⟨wr.heap.size, 0, none⟩))).run Tryz.prog w1 = .ok (cellV ⟨yr, yc, yt⟩) w1 ∧ (Instr.loadAt 57 (.pointer (some (a'.add (j * 3))))).run Tryz.prog w1 = .ok (cellV p) w1) := HKP
       refine hK' _ _ (.inr fun _ => HKP) ?_
       clear hK'
       try simp only [Act.put, List.setIfInBounds_toArray, List.set_cons_zero, List.set_cons_succ]
       refine dwp 5 ((.bool false)) (h := ?_)
       refine dwp 6 ((.bool false)) (h := ?_)
       refine dwp 7 ((.pointer (some ⟨wr.heap.size, 2, none⟩))) (h := ?_)
       refine dwl 8 ((.string yt)) (hS := HS.out) (hy := (fun u hSu => exec_load rfl rfl (ld1 hSu.2.2.1 (Tryz.isAgg9 _)))) (h := ?_)
       refine dwp 9 ((.bool false)) (h := ?_)
       refine dwp 10 ((.bool false)) (h := ?_)
       refine dwp 11 ((.bool false)) (h := ?_)
       refine dwp 12 ((.int .i64 (k : Int))) (h := ?_)
       refine dwp 13 ((.bool true)) (hy := (by intro u; go_simp; omega)) (h := ?_)
       refine dwp 14 ((.bool true)) (h := ?_)
       refine dwl 15 ((cellV ⟨yr, yc, yt⟩)) (hS := HS.out) (hy := (fun u hSu => exec_load rfl rfl hSu.2.2.2.1)) (h := ?_)
       refine dwp 16 ((.slice (some a') L.length c)) (h := ?_)
       refine dwp 17 ((.int .i64 (k : Int))) (h := ?_)
       refine dwp 18 ((.int .i64 (j : Int))) (h := ?_)
       refine dwp 19 ((.pointer (some (a'.add (j * 3))))) (h := ?_)
       refine dwl 20 ((cellV p)) (hS := HS.out) (hy := (fun u hSu => exec_load rfl rfl hSu.2.2.2.2)) (h := ?_)
       refine wpAnyD_one (i := 21) (by kernel_rfl) rfl ?_
       intro K' hK'
       go_simp
       refine (C2 _).mono ?_
       clear C2
       rintro e w2 ⟨rfl, hb⟩
       have HB2 : Hid (Below w.heap.size w w2) := Sh.bel_step HB1.out HB1.out.size hb
       have HKP2 := HKEEP.out w2 (Sh.bel_step HBW.out HBW.out.size hb)
       clear hb
       refine hK' _ _ (.inr fun _ => HKP2) ?_
       clear hK'
       try simp only [Act.put, List.setIfInBounds_toArray, List.set_cons_zero, List.set_cons_succ]
       refine dwp 22 ((.bool false)) (h := ?_)
       refine dwp 23 ((.bool false)) (h := ?_)
       refine dwp 24 ((.bool false)) (h := ?_)
       refine wpAnyD_done (by kernel_rfl) ?_ _
       go_wp2
       go_roundw
       case rel => exact ⟨k + 1, by omega, by go_num, HY2, HB2⟩
       case measure => simp [intOf]; omega
      | false =>
       obtain rfl := HNO.out (by rw [HST.out]; rfl)
       clear HNO HYES
       go_wp2_with (first
        | (refine wpList_load_run rfl 57 _ rfl _ _ rfl R2.out ?_; clear R2)
        | (refine wpList_store_run rfl 57 _ _ rfl _ _ _ rfl rfl R3.out ?_; clear R3))
       refine wp_region_d (fun u => u.cell? ⟨wr.heap.size, 0, none⟩ = some (.int .i64 yr) ∧ u.cell? ⟨wr.heap.size, 1, none⟩ = some (.int .i64 yc) ∧ u.cell? ⟨wr.heap.size, 2, none⟩ = some (.string yt) ∧ (Instr.loadAt 57 (.pointer (some ⟨wr.heap.size, 0, none⟩))).run Tryz.prog u = .ok (cellV ⟨yr, yc, yt⟩) u ∧ (Instr.loadAt 57 (.pointer (some (a'.add (j * 3))))).run Tryz.prog u = .ok (cellV p) u) (fun j => false) (by kernel_rfl) ?_
       refine dwp 0 ((.pointer (some ⟨wr.heap.size, 0, none⟩))) (h := ?_)
       refine dwl 1 ((.int .i64 yr)) (hS := HS.out) (hy := (fun u hSu => exec_load rfl rfl (ld1 hSu.1 (Tryz.isAgg3 _)))) (h := ?_)
       refine dwp 2 ((.pointer (some ⟨wr.heap.size, 1, none⟩))) (h := ?_)
       refine dwl 3 ((.int .i64 yc)) (hS := HS.out) (hy := (fun u hSu => exec_load rfl rfl (ld1 hSu.2.1 (Tryz.isAgg3 _)))) (h := ?_)
       refine wpAnyD_one (i := 4) (by kernel_rfl) rfl ?_
       intro K' hK'
       go_simp
       refine C1.mono ?_
       clear C1
       rintro e w1 ⟨rfl, hb⟩
       have HB1 : Hid (Below w.heap.size w w1) := Sh.bel_step HDd.out HDd.out.size hb
       have HBW : Hid (Below W'.drew.heap.size W'.drew w1) := hb
       have HKP := HKEEP.out w1 hb
       clear hb HS
       have HS : Hid (w1.cell? ⟨wr.heap.size, 0, none⟩ = some (.int .i64 yr) ∧ w1.cell? ⟨wr.heap.size, 1, none⟩ = some (.int .i64 yc) ∧ w1.cell? ⟨wr.heap.size, 2, none⟩ = some (.string yt) ∧ (Instr.loadAt 57 (.pointer (some ⟨wr.heap.size, 0, none⟩))).run Tryz.prog w1 = .ok (cellV ⟨yr, yc, yt⟩) w1 ∧ (Instr.loadAt 57 (.pointer (some (a'.add (j * 3))))).run Tryz.prog w1 = .ok (cellV p) w1) := HKP
       refine hK' _ _ (.inr fun _ => HKP) ?_
       clear hK'
       try simp only [Act.put, List.setIfInBounds_toArray, List.set_cons_zero, List.set_cons_succ]
       refine dwp 5 ((.bool false)) (h := ?_)
       refine dwp 6 ((.bool false)) (h := ?_)
       refine dwp 7 ((.pointer (some ⟨wr.heap.size, 2, none⟩))) (h := ?_)
       refine dwl 8 ((.string yt)) (hS := HS.out) (hy := (fun u hSu => exec_load rfl rfl (ld1 hSu.2.2.1 (Tryz.isAgg9 _)))) (h := ?_)
       refine dwp 9 ((.bool false)) (h := ?_)
       refine dwp 10 ((.bool false)) (h := ?_)
       refine dwp 11 ((.bool false)) (h := ?_)
       refine dwp 12 ((.int .i64 (k : Int))) (h := ?_)
       refine dwp 13 ((.bool true)) (hy := (by intro u; go_simp; omega)) (h := ?_)
       refine dwp 14 ((.bool true)) (h := ?_)
       refine dwl 15 ((cellV ⟨yr, yc, yt⟩)) (hS := HS.out) (hy := (fun u hSu => exec_load rfl rfl hSu.2.2.2.1)) (h := ?_)
       refine dwp 16 ((.slice (some a') L.length c)) (h := ?_)
       refine dwp 17 ((.int .i64 (k : Int))) (h := ?_)
       refine dwp 18 ((.int .i64 (j : Int))) (h := ?_)
       refine dwp 19 ((.pointer (some (a'.add (j * 3))))) (h := ?_)
       refine dwl 20 ((cellV p)) (hS := HS.out) (hy := (fun u hSu => exec_load rfl rfl hSu.2.2.2.2)) (h := ?_)
       refine wpAnyD_one (i := 21) (by kernel_rfl) rfl ?_
       intro K' hK'
       go_simp
       refine (C2 _).mono ?_
       clear C2
       rintro e w2 ⟨rfl, hb⟩
       have HB2 : Hid (Below w.heap.size w w2) := Sh.bel_step HB1.out HB1.out.size hb
       have HKP2 := HKEEP.out w2 (Sh.bel_step HBW.out HBW.out.size hb)
       clear hb
       refine hK' _ _ (.inr fun _ => HKP2) ?_
       clear hK'
       try simp only [Act.put, List.setIfInBounds_toArray, List.set_cons_zero, List.set_cons_succ]
       refine dwp 22 ((.bool true)) (h := ?_)
       refine dwp 23 ((.bool true)) (h := ?_)
       refine dwp 24 ((.bool true)) (h := ?_)
       refine wpAnyD_done (by kernel_rfl) ?_ _
       go_wp2
       go_ret
       exact ⟨rfl, HB2.out⟩
  ·have hki : ¬ (k : Int) < L.length := by omega
   obtain rfl : lb = 0 := by rw [← HO.out]; unfold rlF; rw [laid_yes fun i hi => HA.out i (by omega)]; rfl
   go_wp2
   go_ret
   exact ⟨rfl, HD.out⟩
end Go.Proofs.YtnibldnfbikipaaGreatDoor.Sh
