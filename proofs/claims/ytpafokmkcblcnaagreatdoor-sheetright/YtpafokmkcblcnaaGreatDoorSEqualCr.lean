/- SEqual. -/
import Derived.Test.YtpafokmkcblcnaaGreatDoorSEqCr
import Derived.Test.YtpafokmkcblcnaaGreatDoorSPutB0Cr
set_option linter.unusedVariables false
set_option linter.unusedSimpArgs false
namespace Go.Proofs.YtpafokmkcblcnaaGreatDoor.Sh
open Go.RowKit
set_option maxRecDepth 100000
set_option maxHeartbeats 4000000 in
theorem equal_103 {lo hi lo2 hi2 : Nat} {w : World} {a b : Option Addr} {c d : Nat} {L M : List CellT} (h : Cls lo hi w (.slice a L.length c) L) (hhi : hi ≤ w.heap.size) (h2 : Cls lo2 hi2 w (.slice b M.length d) M) (hhi2 : hi2 ≤ w.heap.size) :
    Calls Tryz.prog 103 #[.slice a L.length c, .slice b M.length d] w fun e w' => e = .returned (.bool (eqL cellEq L M)) ∧ Below w.heap.size w w' := by
  obtain ⟨_, _, he, hz1, hz2⟩ := h.slice
  cases he
  have hlen : L.length ≤ 9223372036854775807 := by unfold maxLen at hz2; omega
  have H1 : Hid (Cls lo hi w (.slice a L.length c) L) := h
  have H2 : Hid (Cls lo2 hi2 w (.slice b M.length d) M) := h2
  have HEA : Hid (∀ k (hk : k < L.length) (hm : k < M.length), eqAt cellEq L M k = cellEq L[k] M[k]) := fun k hk hm => by
    unfold eqAt
    simp only [List.getElem?_eq_getElem hk, List.getElem?_eq_getElem hm]
  generalize hO : eqL cellEq L M = eb
  have HO : Hid (eqL cellEq L M = eb) := hO
  have hgd : Tryz.prog.eqGuardType Tryz.prog.depth 57 = false := by kernel_rfl
  clear h h2 hz1 hz2 hO
  by_cases hlm : L.length = M.length
  · have hne : ((L.length : Int) != (M.length : Int)) = false := by simp [hlm]
    have HLM : Hid (L.length = M.length) := hlm
    clear hlm
    go_enter Tryz.func103, Tryz.ntmps103
    go_wp2
    go_loopw [13] (fun i wr => ∃ (k : Nat), k ≤ L.length ∧ i = .int .i64 (k : Nat) ∧ Hid (∀ j, j < k → eqAt cellEq L M j = true) ∧ Hid (Below w.heap.size w wr)) (fun i _ => L.length - (intOf i).toNat)
    case atStart => exact ⟨0, Nat.zero_le _, rfl, fun j hj => by omega, Below.refl _ _⟩
    case round =>
      obtain ⟨k, hk, rfl, HA, HD⟩ := hrel
      by_cases hkL : k < L.length
      · have hki : (k : Int) < L.length := by omega
        have hkM : k < M.length := by rw [← HLM.out]; exact hkL
        have hkm : (k : Int) < M.length := by omega
        have hk63 : k < 9223372036854775807 := by omega
        have HDd : Hid (Below w.heap.size w wr.drew) := HD.out.drew
        obtain ⟨a', _, _, rfl, rfl, _, R1, -, -⟩ := (H1.out.below hhi HDd.out).runs hkL
        obtain ⟨b', _, _, rfl, rfl, _, R2, -, -⟩ := (H2.out.below hhi2 HDd.out).runs hkM
        have HX : Hid (cellEq L[k] M[k] = true → ∀ j, j < k + 1 → eqAt cellEq L M j = true) := fun e j hj => by
          by_cases hjk : j = k
          · subst hjk; rw [HEA.out j hkL hkM]; exact e
          · exact HA.out j (by omega)
        have HY : Hid (cellEq L[k] M[k] = false → eb = false) := fun e => by rw [← HO.out]; exact eqL_no hkL (by rw [HEA.out k hkL hkM]; exact e)
        have NE := fun W => cne L[k] M[k] W
        have HS : Hid ((Instr.loadAt 57 (.pointer (some (a'.add (k * 3))))).run Tryz.prog wr.drew = .ok (cellV L[k]) wr.drew ∧ (Instr.loadAt 57 (.pointer (some (b'.add (k * 3))))).run Tryz.prog wr.drew = .ok (cellV M[k]) wr.drew) := ⟨R1.out, R2.out⟩
        clear R1 R2
        generalize L[k] = x at *
        generalize M[k] = y at *
        cases hq : cellEq x y with
        | true =>
          rw [hq] at NE
          have HX2 : Hid _ := HX.out hq
          clear HX HY
          go_wp2
          refine wp_region_d (fun u => (Instr.loadAt 57 (.pointer (some (a'.add (k * 3))))).run Tryz.prog u = .ok (cellV x) u ∧ (Instr.loadAt 57 (.pointer (some (b'.add (k * 3))))).run Tryz.prog u = .ok (cellV y) u) (fun j => false) (by kernel_rfl) ?_
          refine wpAnyD_pured (i := 0) (v := (.slice (some a') L.length c)) rfl rfl (by kernel_rfl) (by kernel_rfl) (by kernel_rfl) (fun _ _ _ h => h) (by go_simp) (by intro u; go_simp) ?_
          try simp only [Act.put, List.setIfInBounds_toArray, List.set_cons_zero, List.set_cons_succ]
          refine wpAnyD_pured (i := 1) (v := (.int .i64 (k : Int))) rfl rfl (by kernel_rfl) (by kernel_rfl) (by kernel_rfl) (fun _ _ _ h => h) (by go_simp) (by intro u; go_simp) ?_
          try simp only [Act.put, List.setIfInBounds_toArray, List.set_cons_zero, List.set_cons_succ]
          refine wpAnyD_pured (i := 2) (v := (.pointer (some (a'.add (k * 3))))) rfl rfl (by kernel_rfl) (by kernel_rfl) (by kernel_rfl) (fun _ _ _ h => h) (by go_simp) (by intro u; go_simp) ?_
          try simp only [Act.put, List.setIfInBounds_toArray, List.set_cons_zero, List.set_cons_succ]
          refine wpAnyD_loadd (i := 3) (v := (cellV x)) rfl rfl (by kernel_rfl) (by kernel_rfl) (by kernel_rfl) (by kernel_rfl) (fun _ _ _ h => h) (by go_simp) (fun u hSu => exec_load rfl rfl hSu.1) HS.out ?_
          try simp only [Act.put, List.setIfInBounds_toArray, List.set_cons_zero, List.set_cons_succ]
          refine wpAnyD_pured (i := 4) (v := (.slice (some b') M.length d)) rfl rfl (by kernel_rfl) (by kernel_rfl) (by kernel_rfl) (fun _ _ _ h => h) (by go_simp) (by intro u; go_simp) ?_
          try simp only [Act.put, List.setIfInBounds_toArray, List.set_cons_zero, List.set_cons_succ]
          refine wpAnyD_pured (i := 5) (v := (.int .i64 (k : Int))) rfl rfl (by kernel_rfl) (by kernel_rfl) (by kernel_rfl) (fun _ _ _ h => h) (by go_simp) (by intro u; go_simp) ?_
          try simp only [Act.put, List.setIfInBounds_toArray, List.set_cons_zero, List.set_cons_succ]
          refine wpAnyD_pured (i := 6) (v := (.pointer (some (b'.add (k * 3))))) rfl rfl (by kernel_rfl) (by kernel_rfl) (by kernel_rfl) (fun _ _ _ h => h) (by go_simp) (by intro u; go_simp) ?_
          try simp only [Act.put, List.setIfInBounds_toArray, List.set_cons_zero, List.set_cons_succ]
          refine wpAnyD_loadd (i := 7) (v := (cellV y)) rfl rfl (by kernel_rfl) (by kernel_rfl) (by kernel_rfl) (by kernel_rfl) (fun _ _ _ h => h) (by go_simp) (fun u hSu => exec_load rfl rfl hSu.2) HS.out ?_
          try simp only [Act.put, List.setIfInBounds_toArray, List.set_cons_zero, List.set_cons_succ]
          refine wpAnyD_pured (i := 8) (v := (.bool false)) rfl rfl (by kernel_rfl) (by kernel_rfl) (by kernel_rfl) (fun _ _ _ h => h) (by go_simp) (by intro u; go_simp) ?_
          try simp only [Act.put, List.setIfInBounds_toArray, List.set_cons_zero, List.set_cons_succ]
          refine wpAnyD_done (by kernel_rfl) ?_ _
          go_wp2
          go_roundw
          case rel => exact ⟨k + 1, by omega, by go_num, HX2, HDd⟩
          case measure => simp [intOf]; omega
        | false =>
          rw [hq] at NE
          obtain rfl := HY.out hq
          clear HX HY
          go_wp2
          refine wp_region_d (fun u => (Instr.loadAt 57 (.pointer (some (a'.add (k * 3))))).run Tryz.prog u = .ok (cellV x) u ∧ (Instr.loadAt 57 (.pointer (some (b'.add (k * 3))))).run Tryz.prog u = .ok (cellV y) u) (fun j => false) (by kernel_rfl) ?_
          refine wpAnyD_pured (i := 0) (v := (.slice (some a') L.length c)) rfl rfl (by kernel_rfl) (by kernel_rfl) (by kernel_rfl) (fun _ _ _ h => h) (by go_simp) (by intro u; go_simp) ?_
          try simp only [Act.put, List.setIfInBounds_toArray, List.set_cons_zero, List.set_cons_succ]
          refine wpAnyD_pured (i := 1) (v := (.int .i64 (k : Int))) rfl rfl (by kernel_rfl) (by kernel_rfl) (by kernel_rfl) (fun _ _ _ h => h) (by go_simp) (by intro u; go_simp) ?_
          try simp only [Act.put, List.setIfInBounds_toArray, List.set_cons_zero, List.set_cons_succ]
          refine wpAnyD_pured (i := 2) (v := (.pointer (some (a'.add (k * 3))))) rfl rfl (by kernel_rfl) (by kernel_rfl) (by kernel_rfl) (fun _ _ _ h => h) (by go_simp) (by intro u; go_simp) ?_
          try simp only [Act.put, List.setIfInBounds_toArray, List.set_cons_zero, List.set_cons_succ]
          refine wpAnyD_loadd (i := 3) (v := (cellV x)) rfl rfl (by kernel_rfl) (by kernel_rfl) (by kernel_rfl) (by kernel_rfl) (fun _ _ _ h => h) (by go_simp) (fun u hSu => exec_load rfl rfl hSu.1) HS.out ?_
          try simp only [Act.put, List.setIfInBounds_toArray, List.set_cons_zero, List.set_cons_succ]
          refine wpAnyD_pured (i := 4) (v := (.slice (some b') M.length d)) rfl rfl (by kernel_rfl) (by kernel_rfl) (by kernel_rfl) (fun _ _ _ h => h) (by go_simp) (by intro u; go_simp) ?_
          try simp only [Act.put, List.setIfInBounds_toArray, List.set_cons_zero, List.set_cons_succ]
          refine wpAnyD_pured (i := 5) (v := (.int .i64 (k : Int))) rfl rfl (by kernel_rfl) (by kernel_rfl) (by kernel_rfl) (fun _ _ _ h => h) (by go_simp) (by intro u; go_simp) ?_
          try simp only [Act.put, List.setIfInBounds_toArray, List.set_cons_zero, List.set_cons_succ]
          refine wpAnyD_pured (i := 6) (v := (.pointer (some (b'.add (k * 3))))) rfl rfl (by kernel_rfl) (by kernel_rfl) (by kernel_rfl) (fun _ _ _ h => h) (by go_simp) (by intro u; go_simp) ?_
          try simp only [Act.put, List.setIfInBounds_toArray, List.set_cons_zero, List.set_cons_succ]
          refine wpAnyD_loadd (i := 7) (v := (cellV y)) rfl rfl (by kernel_rfl) (by kernel_rfl) (by kernel_rfl) (by kernel_rfl) (fun _ _ _ h => h) (by go_simp) (fun u hSu => exec_load rfl rfl hSu.2) HS.out ?_
          try simp only [Act.put, List.setIfInBounds_toArray, List.set_cons_zero, List.set_cons_succ]
          refine wpAnyD_pured (i := 8) (v := (.bool true)) rfl rfl (by kernel_rfl) (by kernel_rfl) (by kernel_rfl) (fun _ _ _ h => h) (by go_simp) (by intro u; go_simp) ?_
          try simp only [Act.put, List.setIfInBounds_toArray, List.set_cons_zero, List.set_cons_succ]
          refine wpAnyD_done (by kernel_rfl) ?_ _
          go_wp2
          go_ret
          exact ⟨rfl, HDd.out⟩
      · have hki : ¬ (k : Int) < L.length := by omega
        obtain rfl : eb = true := by rw [← HO.out]; exact eqL_yes HLM.out fun i hi => HA.out i (by omega)
        go_wp2
        go_ret
        exact ⟨rfl, HD.out⟩
  · have hne : ((L.length : Int) != (M.length : Int)) = true := by simp only [bne_iff_ne]; omega
    obtain rfl : eb = false := by rw [← HO.out]; exact eqL_len hlm
    clear hlm HEA HO
    go_enter Tryz.func103, Tryz.ntmps103
    go_wp2
    go_ret
    exact ⟨rfl, Below.refl _ _⟩
set_option maxHeartbeats 4000000 in
theorem equal_68 {lo hi lo2 hi2 : Nat} {w : World} {a b : Option Addr} {c d : Nat} {L M : List NameT} (h : Nms lo hi w (.slice a L.length c) L) (hhi : hi ≤ w.heap.size) (h2 : Nms lo2 hi2 w (.slice b M.length d) M) (hhi2 : hi2 ≤ w.heap.size) :
    Calls Tryz.prog 68 #[.slice a L.length c, .slice b M.length d] w fun e w' => e = .returned (.bool (eqL nameEq L M)) ∧ Below w.heap.size w w' := by
  obtain ⟨_, _, he, hz1, hz2⟩ := h.slice
  cases he
  have hlen : L.length ≤ 9223372036854775807 := by unfold maxLen at hz2; omega
  have H1 : Hid (Nms lo hi w (.slice a L.length c) L) := h
  have H2 : Hid (Nms lo2 hi2 w (.slice b M.length d) M) := h2
  have HEA : Hid (∀ k (hk : k < L.length) (hm : k < M.length), eqAt nameEq L M k = nameEq L[k] M[k]) := fun k hk hm => by
    unfold eqAt
    simp only [List.getElem?_eq_getElem hk, List.getElem?_eq_getElem hm]
  generalize hO : eqL nameEq L M = eb
  have HO : Hid (eqL nameEq L M = eb) := hO
  have hgd : Tryz.prog.eqGuardType Tryz.prog.depth 89 = false := by kernel_rfl
  clear h h2 hz1 hz2 hO
  by_cases hlm : L.length = M.length
  · have hne : ((L.length : Int) != (M.length : Int)) = false := by simp [hlm]
    have HLM : Hid (L.length = M.length) := hlm
    clear hlm
    go_enter Tryz.func68, Tryz.ntmps68
    go_wp2
    go_loopw [13] (fun i wr => ∃ (k : Nat), k ≤ L.length ∧ i = .int .i64 (k : Nat) ∧ Hid (∀ j, j < k → eqAt nameEq L M j = true) ∧ Hid (Below w.heap.size w wr)) (fun i _ => L.length - (intOf i).toNat)
    case atStart => exact ⟨0, Nat.zero_le _, rfl, fun j hj => by omega, Below.refl _ _⟩
    case round =>
      obtain ⟨k, hk, rfl, HA, HD⟩ := hrel
      by_cases hkL : k < L.length
      · have hki : (k : Int) < L.length := by omega
        have hkM : k < M.length := by rw [← HLM.out]; exact hkL
        have hkm : (k : Int) < M.length := by omega
        have hk63 : k < 9223372036854775807 := by omega
        have HDd : Hid (Below w.heap.size w wr.drew) := HD.out.drew
        obtain ⟨a', _, _, rfl, rfl, _, R1, -, -⟩ := (H1.out.below hhi HDd.out).runs hkL
        obtain ⟨b', _, _, rfl, rfl, _, R2, -, -⟩ := (H2.out.below hhi2 HDd.out).runs hkM
        have HX : Hid (nameEq L[k] M[k] = true → ∀ j, j < k + 1 → eqAt nameEq L M j = true) := fun e j hj => by
          by_cases hjk : j = k
          · subst hjk; rw [HEA.out j hkL hkM]; exact e
          · exact HA.out j (by omega)
        have HY : Hid (nameEq L[k] M[k] = false → eb = false) := fun e => by rw [← HO.out]; exact eqL_no hkL (by rw [HEA.out k hkL hkM]; exact e)
        have NE := fun W => nne L[k] M[k] W
        have HS : Hid ((Instr.loadAt 89 (.pointer (some (a'.add (k * 3))))).run Tryz.prog wr.drew = .ok (nameV L[k]) wr.drew ∧ (Instr.loadAt 89 (.pointer (some (b'.add (k * 3))))).run Tryz.prog wr.drew = .ok (nameV M[k]) wr.drew) := ⟨R1.out, R2.out⟩
        clear R1 R2
        generalize L[k] = x at *
        generalize M[k] = y at *
        cases hq : nameEq x y with
        | true =>
          rw [hq] at NE
          have HX2 : Hid _ := HX.out hq
          clear HX HY
          go_wp2
          refine wp_region_d (fun u => (Instr.loadAt 89 (.pointer (some (a'.add (k * 3))))).run Tryz.prog u = .ok (nameV x) u ∧ (Instr.loadAt 89 (.pointer (some (b'.add (k * 3))))).run Tryz.prog u = .ok (nameV y) u) (fun j => false) (by kernel_rfl) ?_
          refine wpAnyD_pured (i := 0) (v := (.slice (some a') L.length c)) rfl rfl (by kernel_rfl) (by kernel_rfl) (by kernel_rfl) (fun _ _ _ h => h) (by go_simp) (by intro u; go_simp) ?_
          try simp only [Act.put, List.setIfInBounds_toArray, List.set_cons_zero, List.set_cons_succ]
          refine wpAnyD_pured (i := 1) (v := (.int .i64 (k : Int))) rfl rfl (by kernel_rfl) (by kernel_rfl) (by kernel_rfl) (fun _ _ _ h => h) (by go_simp) (by intro u; go_simp) ?_
          try simp only [Act.put, List.setIfInBounds_toArray, List.set_cons_zero, List.set_cons_succ]
          refine wpAnyD_pured (i := 2) (v := (.pointer (some (a'.add (k * 3))))) rfl rfl (by kernel_rfl) (by kernel_rfl) (by kernel_rfl) (fun _ _ _ h => h) (by go_simp) (by intro u; go_simp) ?_
          try simp only [Act.put, List.setIfInBounds_toArray, List.set_cons_zero, List.set_cons_succ]
          refine wpAnyD_loadd (i := 3) (v := (nameV x)) rfl rfl (by kernel_rfl) (by kernel_rfl) (by kernel_rfl) (by kernel_rfl) (fun _ _ _ h => h) (by go_simp) (fun u hSu => exec_load rfl rfl hSu.1) HS.out ?_
          try simp only [Act.put, List.setIfInBounds_toArray, List.set_cons_zero, List.set_cons_succ]
          refine wpAnyD_pured (i := 4) (v := (.slice (some b') M.length d)) rfl rfl (by kernel_rfl) (by kernel_rfl) (by kernel_rfl) (fun _ _ _ h => h) (by go_simp) (by intro u; go_simp) ?_
          try simp only [Act.put, List.setIfInBounds_toArray, List.set_cons_zero, List.set_cons_succ]
          refine wpAnyD_pured (i := 5) (v := (.int .i64 (k : Int))) rfl rfl (by kernel_rfl) (by kernel_rfl) (by kernel_rfl) (fun _ _ _ h => h) (by go_simp) (by intro u; go_simp) ?_
          try simp only [Act.put, List.setIfInBounds_toArray, List.set_cons_zero, List.set_cons_succ]
          refine wpAnyD_pured (i := 6) (v := (.pointer (some (b'.add (k * 3))))) rfl rfl (by kernel_rfl) (by kernel_rfl) (by kernel_rfl) (fun _ _ _ h => h) (by go_simp) (by intro u; go_simp) ?_
          try simp only [Act.put, List.setIfInBounds_toArray, List.set_cons_zero, List.set_cons_succ]
          refine wpAnyD_loadd (i := 7) (v := (nameV y)) rfl rfl (by kernel_rfl) (by kernel_rfl) (by kernel_rfl) (by kernel_rfl) (fun _ _ _ h => h) (by go_simp) (fun u hSu => exec_load rfl rfl hSu.2) HS.out ?_
          try simp only [Act.put, List.setIfInBounds_toArray, List.set_cons_zero, List.set_cons_succ]
          refine wpAnyD_pured (i := 8) (v := (.bool false)) rfl rfl (by kernel_rfl) (by kernel_rfl) (by kernel_rfl) (fun _ _ _ h => h) (by go_simp) (by intro u; go_simp) ?_
          try simp only [Act.put, List.setIfInBounds_toArray, List.set_cons_zero, List.set_cons_succ]
          refine wpAnyD_done (by kernel_rfl) ?_ _
          go_wp2
          go_roundw
          case rel => exact ⟨k + 1, by omega, by go_num, HX2, HDd⟩
          case measure => simp [intOf]; omega
        | false =>
          rw [hq] at NE
          obtain rfl := HY.out hq
          clear HX HY
          go_wp2
          refine wp_region_d (fun u => (Instr.loadAt 89 (.pointer (some (a'.add (k * 3))))).run Tryz.prog u = .ok (nameV x) u ∧ (Instr.loadAt 89 (.pointer (some (b'.add (k * 3))))).run Tryz.prog u = .ok (nameV y) u) (fun j => false) (by kernel_rfl) ?_
          refine wpAnyD_pured (i := 0) (v := (.slice (some a') L.length c)) rfl rfl (by kernel_rfl) (by kernel_rfl) (by kernel_rfl) (fun _ _ _ h => h) (by go_simp) (by intro u; go_simp) ?_
          try simp only [Act.put, List.setIfInBounds_toArray, List.set_cons_zero, List.set_cons_succ]
          refine wpAnyD_pured (i := 1) (v := (.int .i64 (k : Int))) rfl rfl (by kernel_rfl) (by kernel_rfl) (by kernel_rfl) (fun _ _ _ h => h) (by go_simp) (by intro u; go_simp) ?_
          try simp only [Act.put, List.setIfInBounds_toArray, List.set_cons_zero, List.set_cons_succ]
          refine wpAnyD_pured (i := 2) (v := (.pointer (some (a'.add (k * 3))))) rfl rfl (by kernel_rfl) (by kernel_rfl) (by kernel_rfl) (fun _ _ _ h => h) (by go_simp) (by intro u; go_simp) ?_
          try simp only [Act.put, List.setIfInBounds_toArray, List.set_cons_zero, List.set_cons_succ]
          refine wpAnyD_loadd (i := 3) (v := (nameV x)) rfl rfl (by kernel_rfl) (by kernel_rfl) (by kernel_rfl) (by kernel_rfl) (fun _ _ _ h => h) (by go_simp) (fun u hSu => exec_load rfl rfl hSu.1) HS.out ?_
          try simp only [Act.put, List.setIfInBounds_toArray, List.set_cons_zero, List.set_cons_succ]
          refine wpAnyD_pured (i := 4) (v := (.slice (some b') M.length d)) rfl rfl (by kernel_rfl) (by kernel_rfl) (by kernel_rfl) (fun _ _ _ h => h) (by go_simp) (by intro u; go_simp) ?_
          try simp only [Act.put, List.setIfInBounds_toArray, List.set_cons_zero, List.set_cons_succ]
          refine wpAnyD_pured (i := 5) (v := (.int .i64 (k : Int))) rfl rfl (by kernel_rfl) (by kernel_rfl) (by kernel_rfl) (fun _ _ _ h => h) (by go_simp) (by intro u; go_simp) ?_
          try simp only [Act.put, List.setIfInBounds_toArray, List.set_cons_zero, List.set_cons_succ]
          refine wpAnyD_pured (i := 6) (v := (.pointer (some (b'.add (k * 3))))) rfl rfl (by kernel_rfl) (by kernel_rfl) (by kernel_rfl) (fun _ _ _ h => h) (by go_simp) (by intro u; go_simp) ?_
          try simp only [Act.put, List.setIfInBounds_toArray, List.set_cons_zero, List.set_cons_succ]
          refine wpAnyD_loadd (i := 7) (v := (nameV y)) rfl rfl (by kernel_rfl) (by kernel_rfl) (by kernel_rfl) (by kernel_rfl) (fun _ _ _ h => h) (by go_simp) (fun u hSu => exec_load rfl rfl hSu.2) HS.out ?_
          try simp only [Act.put, List.setIfInBounds_toArray, List.set_cons_zero, List.set_cons_succ]
          refine wpAnyD_pured (i := 8) (v := (.bool true)) rfl rfl (by kernel_rfl) (by kernel_rfl) (by kernel_rfl) (fun _ _ _ h => h) (by go_simp) (by intro u; go_simp) ?_
          try simp only [Act.put, List.setIfInBounds_toArray, List.set_cons_zero, List.set_cons_succ]
          refine wpAnyD_done (by kernel_rfl) ?_ _
          go_wp2
          go_ret
          exact ⟨rfl, HDd.out⟩
      · have hki : ¬ (k : Int) < L.length := by omega
        obtain rfl : eb = true := by rw [← HO.out]; exact eqL_yes HLM.out fun i hi => HA.out i (by omega)
        go_wp2
        go_ret
        exact ⟨rfl, HD.out⟩
  · have hne : ((L.length : Int) != (M.length : Int)) = true := by simp only [bne_iff_ne]; omega
    obtain rfl : eb = false := by rw [← HO.out]; exact eqL_len hlm
    clear hlm HEA HO
    go_enter Tryz.func68, Tryz.ntmps68
    go_wp2
    go_ret
    exact ⟨rfl, Below.refl _ _⟩
set_option maxHeartbeats 4000000 in
theorem equal_69 {lo hi lo2 hi2 : Nat} {w : World} {a b : Option Addr} {c d : Nat} {L M : List LinkT} (h : Lks lo hi w (.slice a L.length c) L) (hhi : hi ≤ w.heap.size) (h2 : Lks lo2 hi2 w (.slice b M.length d) M) (hhi2 : hi2 ≤ w.heap.size) :
    Calls Tryz.prog 69 #[.slice a L.length c, .slice b M.length d] w fun e w' => e = .returned (.bool (eqL linkEq L M)) ∧ Below w.heap.size w w' := by
  obtain ⟨_, _, he, hz1, hz2⟩ := h.slice
  cases he
  have hlen : L.length ≤ 9223372036854775807 := by unfold maxLen at hz2; omega
  have H1 : Hid (Lks lo hi w (.slice a L.length c) L) := h
  have H2 : Hid (Lks lo2 hi2 w (.slice b M.length d) M) := h2
  have HEA : Hid (∀ k (hk : k < L.length) (hm : k < M.length), eqAt linkEq L M k = linkEq L[k] M[k]) := fun k hk hm => by
    unfold eqAt
    simp only [List.getElem?_eq_getElem hk, List.getElem?_eq_getElem hm]
  generalize hO : eqL linkEq L M = eb
  have HO : Hid (eqL linkEq L M = eb) := hO
  have hgd : Tryz.prog.eqGuardType Tryz.prog.depth 91 = false := by kernel_rfl
  clear h h2 hz1 hz2 hO
  by_cases hlm : L.length = M.length
  · have hne : ((L.length : Int) != (M.length : Int)) = false := by simp [hlm]
    have HLM : Hid (L.length = M.length) := hlm
    clear hlm
    go_enter Tryz.func69, Tryz.ntmps69
    go_wp2
    go_loopw [13] (fun i wr => ∃ (k : Nat), k ≤ L.length ∧ i = .int .i64 (k : Nat) ∧ Hid (∀ j, j < k → eqAt linkEq L M j = true) ∧ Hid (Below w.heap.size w wr)) (fun i _ => L.length - (intOf i).toNat)
    case atStart => exact ⟨0, Nat.zero_le _, rfl, fun j hj => by omega, Below.refl _ _⟩
    case round =>
      obtain ⟨k, hk, rfl, HA, HD⟩ := hrel
      by_cases hkL : k < L.length
      · have hki : (k : Int) < L.length := by omega
        have hkM : k < M.length := by rw [← HLM.out]; exact hkL
        have hkm : (k : Int) < M.length := by omega
        have hk63 : k < 9223372036854775807 := by omega
        have HDd : Hid (Below w.heap.size w wr.drew) := HD.out.drew
        obtain ⟨a', _, _, rfl, rfl, _, R1, -, -⟩ := (H1.out.below hhi HDd.out).runs hkL
        obtain ⟨b', _, _, rfl, rfl, _, R2, -, -⟩ := (H2.out.below hhi2 HDd.out).runs hkM
        have HX : Hid (linkEq L[k] M[k] = true → ∀ j, j < k + 1 → eqAt linkEq L M j = true) := fun e j hj => by
          by_cases hjk : j = k
          · subst hjk; rw [HEA.out j hkL hkM]; exact e
          · exact HA.out j (by omega)
        have HY : Hid (linkEq L[k] M[k] = false → eb = false) := fun e => by rw [← HO.out]; exact eqL_no hkL (by rw [HEA.out k hkL hkM]; exact e)
        have NE := fun W => lne L[k] M[k] W
        have HS : Hid ((Instr.loadAt 91 (.pointer (some (a'.add (k * 7))))).run Tryz.prog wr.drew = .ok (linkV L[k]) wr.drew ∧ (Instr.loadAt 91 (.pointer (some (b'.add (k * 7))))).run Tryz.prog wr.drew = .ok (linkV M[k]) wr.drew) := ⟨R1.out, R2.out⟩
        clear R1 R2
        generalize L[k] = x at *
        generalize M[k] = y at *
        cases hq : linkEq x y with
        | true =>
          rw [hq] at NE
          have HX2 : Hid _ := HX.out hq
          clear HX HY
          go_wp2
          refine wp_region_d (fun u => (Instr.loadAt 91 (.pointer (some (a'.add (k * 7))))).run Tryz.prog u = .ok (linkV x) u ∧ (Instr.loadAt 91 (.pointer (some (b'.add (k * 7))))).run Tryz.prog u = .ok (linkV y) u) (fun j => false) (by kernel_rfl) ?_
          refine wpAnyD_pured (i := 0) (v := (.slice (some a') L.length c)) rfl rfl (by kernel_rfl) (by kernel_rfl) (by kernel_rfl) (fun _ _ _ h => h) (by go_simp) (by intro u; go_simp) ?_
          try simp only [Act.put, List.setIfInBounds_toArray, List.set_cons_zero, List.set_cons_succ]
          refine wpAnyD_pured (i := 1) (v := (.int .i64 (k : Int))) rfl rfl (by kernel_rfl) (by kernel_rfl) (by kernel_rfl) (fun _ _ _ h => h) (by go_simp) (by intro u; go_simp) ?_
          try simp only [Act.put, List.setIfInBounds_toArray, List.set_cons_zero, List.set_cons_succ]
          refine wpAnyD_pured (i := 2) (v := (.pointer (some (a'.add (k * 7))))) rfl rfl (by kernel_rfl) (by kernel_rfl) (by kernel_rfl) (fun _ _ _ h => h) (by go_simp) (by intro u; go_simp) ?_
          try simp only [Act.put, List.setIfInBounds_toArray, List.set_cons_zero, List.set_cons_succ]
          refine wpAnyD_loadd (i := 3) (v := (linkV x)) rfl rfl (by kernel_rfl) (by kernel_rfl) (by kernel_rfl) (by kernel_rfl) (fun _ _ _ h => h) (by go_simp) (fun u hSu => exec_load rfl rfl hSu.1) HS.out ?_
          try simp only [Act.put, List.setIfInBounds_toArray, List.set_cons_zero, List.set_cons_succ]
          refine wpAnyD_pured (i := 4) (v := (.slice (some b') M.length d)) rfl rfl (by kernel_rfl) (by kernel_rfl) (by kernel_rfl) (fun _ _ _ h => h) (by go_simp) (by intro u; go_simp) ?_
          try simp only [Act.put, List.setIfInBounds_toArray, List.set_cons_zero, List.set_cons_succ]
          refine wpAnyD_pured (i := 5) (v := (.int .i64 (k : Int))) rfl rfl (by kernel_rfl) (by kernel_rfl) (by kernel_rfl) (fun _ _ _ h => h) (by go_simp) (by intro u; go_simp) ?_
          try simp only [Act.put, List.setIfInBounds_toArray, List.set_cons_zero, List.set_cons_succ]
          refine wpAnyD_pured (i := 6) (v := (.pointer (some (b'.add (k * 7))))) rfl rfl (by kernel_rfl) (by kernel_rfl) (by kernel_rfl) (fun _ _ _ h => h) (by go_simp) (by intro u; go_simp) ?_
          try simp only [Act.put, List.setIfInBounds_toArray, List.set_cons_zero, List.set_cons_succ]
          refine wpAnyD_loadd (i := 7) (v := (linkV y)) rfl rfl (by kernel_rfl) (by kernel_rfl) (by kernel_rfl) (by kernel_rfl) (fun _ _ _ h => h) (by go_simp) (fun u hSu => exec_load rfl rfl hSu.2) HS.out ?_
          try simp only [Act.put, List.setIfInBounds_toArray, List.set_cons_zero, List.set_cons_succ]
          refine wpAnyD_pured (i := 8) (v := (.bool false)) rfl rfl (by kernel_rfl) (by kernel_rfl) (by kernel_rfl) (fun _ _ _ h => h) (by go_simp) (by intro u; go_simp) ?_
          try simp only [Act.put, List.setIfInBounds_toArray, List.set_cons_zero, List.set_cons_succ]
          refine wpAnyD_done (by kernel_rfl) ?_ _
          go_wp2
          go_roundw
          case rel => exact ⟨k + 1, by omega, by go_num, HX2, HDd⟩
          case measure => simp [intOf]; omega
        | false =>
          rw [hq] at NE
          obtain rfl := HY.out hq
          clear HX HY
          go_wp2
          refine wp_region_d (fun u => (Instr.loadAt 91 (.pointer (some (a'.add (k * 7))))).run Tryz.prog u = .ok (linkV x) u ∧ (Instr.loadAt 91 (.pointer (some (b'.add (k * 7))))).run Tryz.prog u = .ok (linkV y) u) (fun j => false) (by kernel_rfl) ?_
          refine wpAnyD_pured (i := 0) (v := (.slice (some a') L.length c)) rfl rfl (by kernel_rfl) (by kernel_rfl) (by kernel_rfl) (fun _ _ _ h => h) (by go_simp) (by intro u; go_simp) ?_
          try simp only [Act.put, List.setIfInBounds_toArray, List.set_cons_zero, List.set_cons_succ]
          refine wpAnyD_pured (i := 1) (v := (.int .i64 (k : Int))) rfl rfl (by kernel_rfl) (by kernel_rfl) (by kernel_rfl) (fun _ _ _ h => h) (by go_simp) (by intro u; go_simp) ?_
          try simp only [Act.put, List.setIfInBounds_toArray, List.set_cons_zero, List.set_cons_succ]
          refine wpAnyD_pured (i := 2) (v := (.pointer (some (a'.add (k * 7))))) rfl rfl (by kernel_rfl) (by kernel_rfl) (by kernel_rfl) (fun _ _ _ h => h) (by go_simp) (by intro u; go_simp) ?_
          try simp only [Act.put, List.setIfInBounds_toArray, List.set_cons_zero, List.set_cons_succ]
          refine wpAnyD_loadd (i := 3) (v := (linkV x)) rfl rfl (by kernel_rfl) (by kernel_rfl) (by kernel_rfl) (by kernel_rfl) (fun _ _ _ h => h) (by go_simp) (fun u hSu => exec_load rfl rfl hSu.1) HS.out ?_
          try simp only [Act.put, List.setIfInBounds_toArray, List.set_cons_zero, List.set_cons_succ]
          refine wpAnyD_pured (i := 4) (v := (.slice (some b') M.length d)) rfl rfl (by kernel_rfl) (by kernel_rfl) (by kernel_rfl) (fun _ _ _ h => h) (by go_simp) (by intro u; go_simp) ?_
          try simp only [Act.put, List.setIfInBounds_toArray, List.set_cons_zero, List.set_cons_succ]
          refine wpAnyD_pured (i := 5) (v := (.int .i64 (k : Int))) rfl rfl (by kernel_rfl) (by kernel_rfl) (by kernel_rfl) (fun _ _ _ h => h) (by go_simp) (by intro u; go_simp) ?_
          try simp only [Act.put, List.setIfInBounds_toArray, List.set_cons_zero, List.set_cons_succ]
          refine wpAnyD_pured (i := 6) (v := (.pointer (some (b'.add (k * 7))))) rfl rfl (by kernel_rfl) (by kernel_rfl) (by kernel_rfl) (fun _ _ _ h => h) (by go_simp) (by intro u; go_simp) ?_
          try simp only [Act.put, List.setIfInBounds_toArray, List.set_cons_zero, List.set_cons_succ]
          refine wpAnyD_loadd (i := 7) (v := (linkV y)) rfl rfl (by kernel_rfl) (by kernel_rfl) (by kernel_rfl) (by kernel_rfl) (fun _ _ _ h => h) (by go_simp) (fun u hSu => exec_load rfl rfl hSu.2) HS.out ?_
          try simp only [Act.put, List.setIfInBounds_toArray, List.set_cons_zero, List.set_cons_succ]
          refine wpAnyD_pured (i := 8) (v := (.bool true)) rfl rfl (by kernel_rfl) (by kernel_rfl) (by kernel_rfl) (fun _ _ _ h => h) (by go_simp) (by intro u; go_simp) ?_
          try simp only [Act.put, List.setIfInBounds_toArray, List.set_cons_zero, List.set_cons_succ]
          refine wpAnyD_done (by kernel_rfl) ?_ _
          go_wp2
          go_ret
          exact ⟨rfl, HDd.out⟩
      · have hki : ¬ (k : Int) < L.length := by omega
        obtain rfl : eb = true := by rw [← HO.out]; exact eqL_yes HLM.out fun i hi => HA.out i (by omega)
        go_wp2
        go_ret
        exact ⟨rfl, HD.out⟩
  · have hne : ((L.length : Int) != (M.length : Int)) = true := by simp only [bne_iff_ne]; omega
    obtain rfl : eb = false := by rw [← HO.out]; exact eqL_len hlm
    clear hlm HEA HO
    go_enter Tryz.func69, Tryz.ntmps69
    go_wp2
    go_ret
    exact ⟨rfl, Below.refl _ _⟩
end Go.Proofs.YtpafokmkcblcnaaGreatDoor.Sh
