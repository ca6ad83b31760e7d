/- NmRChk. -/
import Derived.Test.YtlndkjcincflpaaGreatDoorNmOpenX
import Derived.Test.YtlndkjcincflpaaGreatDoorNmMayX
set_option linter.unusedVariables false
set_option linter.unusedSimpArgs false
namespace Go.Proofs.YtlndkjcincflpaaGreatDoor
open Go.RowKit Go.Nm
set_option maxRecDepth 100000
set_option maxHeartbeats 8000000 in
theorem rcheck_any (L : List NM) (hn : L.length ≤ 900) (hz : ∀ z ∈ L, ZN z) (b : Bool) (hb : b = true ↔ Rise L) (w : World) (T : Tab9 w) (p : Option Addr) (m c : Nat) (h : Rds w p m L) :
    Calls Tryz.prog 22 #[.slice p m c] w fun e w' => e = .returned (.int .i64 (chkN b L)) ∧ Below w.heap.size w w' := by
  have HR : Hid (Rds w p m L) := h
  have HN : Hid (m = L.length) := h.1
  have hn2 : m ≤ 900 := by rw [h.1]; exact hn
  have HZ : Hid (∀ z ∈ L, ZN z) := hz
  have HT : Hid (Tab9 w) := T
  have Hb : Hid (b = true ↔ Rise L) := hb
  have HRI : Hid (∀ u, Below w.heap.size w u → Calls Tryz.prog 40 #[.slice p m c] u fun e w' => e = .returned (.bool b) ∧ Below u.heap.size u w') := fun u hu => rises_any L (by omega) b hb u p m c (h.below hu)
  clear h hn hb hz T
  go_enter Tryz.func22, Tryz.ntmps22
  go_wp2
  go_loopw [9] (fun i wr => ∃ (k : Nat), k ≤ m ∧ i = .int .i64 (k : Nat) ∧ Hid (∀ z ∈ L.take k, wrN z = 0) ∧ Hid (Below w.heap.size w wr)) (fun i _ => m - (intOf i).toNat)
  case atStart => exact ⟨0, Nat.zero_le _, rfl, fun z hz => by simp at hz, Below.refl _ _⟩
  case round =>
    obtain ⟨k, hk, rfl, HA, HB⟩ := hrel
    by_cases hlt : k < m
    · have hki : (k : Int) < m := by omega
      have hkL : k < L.length := by rw [← HN.out]; exact hlt
      obtain ⟨a', rfl, RL⟩ := (HR.out.below HB.out).load hkL
      have RLh : Hid _ := RL
      have RS : Hid _ := mbox wr L[k]
      have RL2 : Hid _ := nload (heap_alloc_new wr (nmO L[k]))
      have HBa : Hid (Below w.heap.size w (wr.alloc (nmO L[k]))) := bel_alloc HB.out _
      have C := rmay_any L[k] (HZ.out _ (List.getElem_mem hkL)) (wr.alloc (nmO L[k])) (HT.out.below HBa.out)
      have HF : Hid (wrN L[k] ≠ 0 → chkN b L = wrN L[k]) := fun e => chk_first HA.out hkL e
      have HG : Hid (wrN L[k] = 0 → ∀ z ∈ L.take (k + 1), wrN z = 0) := fun e z hz => by
        rcases take_succ_mem hkL hz with hz | rfl
        · exact HA.out z hz
        · exact e
      clear RL HA
      generalize L[k] = y at *
      generalize wrN y = er at *
      by_cases he : er = 0
      · have HG2 : Hid _ := HG.out he
        subst he
        clear HF HG
        go_wp2_with (first
          | (refine nl_load rfl 24 _ rfl _ _ rfl RLh.out ?_; clear RLh)
          | (refine nl_store rfl 24 _ _ rfl _ _ _ rfl rfl RS.out ?_; clear RS)
          | (refine nl_load rfl 24 _ rfl _ _ rfl RL2.out ?_; clear RL2)
          | (go_at_call 39; refine C.mono ?_; rintro e w1 ⟨rfl, hb⟩; have HB1 : Hid (Below w.heap.size w w1) := bel_step HBa.out hb; clear hb))
        go_roundw
        case rel => exact ⟨k + 1, by omega, by go_num, HG2, HB1⟩
        case measure => simp [intOf]; omega
      · have HF2 : Hid _ := HF.out he
        have heb : (er != 0) = true := by simpa using he
        clear HF HG he
        go_wp2_with (first
          | (refine nl_load rfl 24 _ rfl _ _ rfl RLh.out ?_; clear RLh)
          | (refine nl_store rfl 24 _ _ rfl _ _ _ rfl rfl RS.out ?_; clear RS)
          | (refine nl_load rfl 24 _ rfl _ _ rfl RL2.out ?_; clear RL2)
          | (go_at_call 39; refine C.mono ?_; rintro e w1 ⟨rfl, hb⟩; have HB1 : Hid (Below w.heap.size w w1) := bel_step HBa.out hb; clear hb))
        go_ret
        exact ⟨by rw [HF2.out]; rfl, HB1.out⟩
    · have hki : ¬ (k : Int) < m := by omega
      have HA2 : Hid (∀ z ∈ L, wrN z = 0) := by have := HA.out; rw [List.take_of_length_le (by rw [← HN.out]; omega)] at this; exact this
      have HC : Hid (chkN b L = if 32 < m ∨ b = false then 9 else 0) := by show _ = _; rw [chk_last HA2.out, HN.out]
      clear HA
      by_cases hm : 32 < m
      · have hmi : (32 : Int) < m := by omega
        have hR : Hid (chkN _ L = 9) := (show chkN _ L = 9 from by rw [HC.out, if_pos (.inl hm)])
        clear HC
        go_wp2
        go_ret
        exact ⟨by rw [hR.out]; rfl, HB.out⟩
      · have hmi : ¬ (32 : Int) < m := by omega
        have HC2 : Hid (chkN b L = if b = false then 9 else 0) := by
          show _ = _
          rw [HC.out]
          cases b
          · rw [if_pos (.inr rfl), if_pos rfl]
          · rw [if_neg (by simp [hm]), if_neg (by decide)]
        clear HC HRI
        go_wp2
        go_loopw [6] (fun i wz => ∃ (k : Nat), k ≤ m + 1 ∧ 1 ≤ k ∧ i = .int .i64 (k : Nat) ∧ Hid (RiseTo L k) ∧ Hid (Below w.heap.size w wz)) (fun i _ => m + 1 - (intOf i).toNat)
        case atStart => exact ⟨1, by omega, Nat.le_refl _, rfl, RiseTo.begin L, HB⟩
        case round =>
          obtain ⟨k, hk, hk1, rfl, HT1, HBz⟩ := hrel
          clear HB
          by_cases hlt : k < m
          · have hki : (k : Int) < m := by omega
            have hkL : k < L.length := by rw [← HN.out]; exact hlt
            obtain ⟨j, hj⟩ : ∃ j, k = j + 1 := ⟨k - 1, by omega⟩
            have hjL : j < L.length := by omega
            have hji : (k : Int) - 1 = (j : Int) := by omega
            have hjw : IntKind.i64.wrap (j : Int) = (j : Int) := by rw [IntKind.wrap_i64]; omega
            have hjn : (j : Int) < m := by omega
            have HBd : Hid (Below w.heap.size w wr.drew) := HBz.out.drew
            obtain ⟨a', e1, RL⟩ := (HR.out.below HBd.out).load hjL
            subst e1
            obtain ⟨b', e2, RK⟩ := (HR.out.below HBd.out).load hkL
            cases e2
            have HS : Hid ((Instr.loadAt 24 (.pointer (some (a'.add (j * 3))))).run Tryz.prog wr.drew = .ok (nmV L[j]) wr.drew ∧ (Instr.loadAt 24 (.pointer (some (a'.add (k * 3))))).run Tryz.prog wr.drew = .ok (nmV L[k]) wr.drew) := ⟨RL, RK⟩
            have C := rcmp_any L[j] L[k] wr.drew
            have HG : Hid (cmpK L[j] L[k] < 0 → RiseTo L (k + 1)) := fun e => HT1.out.step hj hkL e
            have HF : Hid (¬ cmpK L[j] L[k] < 0 → chkN b L = 9) := fun e => by
              rw [HC2.out]
              cases hbv : b with
              | false => rw [if_pos rfl]
              | true => subst hj; exact absurd (rise_next.1 (Hb.out.1 hbv) j hkL) e
            clear RL RK HT1 hj
            generalize L[j] = x at *
            generalize L[k] = y at *
            generalize cmpK x y = cv at *
            by_cases hc : 0 ≤ cv
            · have hR : Hid _ := HF.out (by omega)
              clear HC2 HF HG
              go_wp2
              refine wp_region_d (fun u => (Instr.loadAt 24 (.pointer (some (a'.add (j * 3))))).run Tryz.prog u = .ok (nmV x) u ∧ (Instr.loadAt 24 (.pointer (some (a'.add (k * 3))))).run Tryz.prog u = .ok (nmV y) u) (fun j => j == 9) (by kernel_rfl) ?_
              refine wpAnyD_pured (i := 0) (v := .slice (some a') m c) rfl rfl (by kernel_rfl) (by kernel_rfl) (by kernel_rfl) (fun _ _ _ h => h) (by go_simp) (by intro u; go_simp) ?_
              try simp only [Act.put, List.setIfInBounds_toArray, List.set_cons_zero, List.set_cons_succ]
              refine wpAnyD_pured (i := 1) (v := .int .i64 (k : Int)) rfl rfl (by kernel_rfl) (by kernel_rfl) (by kernel_rfl) (fun _ _ _ h => h) (by go_simp) (by intro u; go_simp) ?_
              try simp only [Act.put, List.setIfInBounds_toArray, List.set_cons_zero, List.set_cons_succ]
              refine wpAnyD_pured (i := 2) (v := .int .i64 (j : Int)) rfl rfl (by kernel_rfl) (by kernel_rfl) (by kernel_rfl) (fun _ _ _ h => h) (by go_simp) (by intro u; go_simp) ?_
              try simp only [Act.put, List.setIfInBounds_toArray, List.set_cons_zero, List.set_cons_succ]
              refine wpAnyD_pured (i := 3) (v := .pointer (some (a'.add (j * 3)))) rfl rfl (by kernel_rfl) (by kernel_rfl) (by kernel_rfl) (fun _ _ _ h => h) (by go_simp) (by intro u; go_simp) ?_
              try simp only [Act.put, List.setIfInBounds_toArray, List.set_cons_zero, List.set_cons_succ]
              refine wpAnyD_loadd (i := 4) (v := nmV x) rfl rfl (by kernel_rfl) (by kernel_rfl) (by kernel_rfl) (by kernel_rfl) (fun _ _ _ h => h) (by go_simp) (fun u hSu => nexec_load rfl rfl hSu.1) HS.out ?_
              try simp only [Act.put, List.setIfInBounds_toArray, List.set_cons_zero, List.set_cons_succ]
              refine wpAnyD_pured (i := 5) (v := .slice (some a') m c) rfl rfl (by kernel_rfl) (by kernel_rfl) (by kernel_rfl) (fun _ _ _ h => h) (by go_simp) (by intro u; go_simp) ?_
              try simp only [Act.put, List.setIfInBounds_toArray, List.set_cons_zero, List.set_cons_succ]
              refine wpAnyD_pured (i := 6) (v := .int .i64 (k : Int)) rfl rfl (by kernel_rfl) (by kernel_rfl) (by kernel_rfl) (fun _ _ _ h => h) (by go_simp) (by intro u; go_simp) ?_
              try simp only [Act.put, List.setIfInBounds_toArray, List.set_cons_zero, List.set_cons_succ]
              refine wpAnyD_pured (i := 7) (v := .pointer (some (a'.add (k * 3)))) rfl rfl (by kernel_rfl) (by kernel_rfl) (by kernel_rfl) (fun _ _ _ h => h) (by go_simp) (by intro u; go_simp) ?_
              try simp only [Act.put, List.setIfInBounds_toArray, List.set_cons_zero, List.set_cons_succ]
              refine wpAnyD_loadd (i := 8) (v := nmV y) rfl rfl (by kernel_rfl) (by kernel_rfl) (by kernel_rfl) (by kernel_rfl) (fun _ _ _ h => h) (by go_simp) (fun u hSu => nexec_load rfl rfl hSu.2) HS.out ?_
              try simp only [Act.put, List.setIfInBounds_toArray, List.set_cons_zero, List.set_cons_succ]
              refine wpAnyD_one (i := 9) (by kernel_rfl) rfl ?_
              intro K' hK'
              go_simp
              refine C.mono ?_
              rintro e w1 ⟨rfl, hb1⟩
              have HB1 : Hid (Below w.heap.size w w1) := bel_step HBd.out hb1
              clear hb1
              refine hK' _ _ (.inl rfl) ?_
              clear hK'
              try simp only [Act.put, List.setIfInBounds_toArray, List.set_cons_zero, List.set_cons_succ]
              refine wpAnyD_pured (i := 10) (v := .bool true) rfl rfl (by kernel_rfl) (by kernel_rfl) (by kernel_rfl) (fun _ _ _ h => h) (by go_simp) (by intro u; go_simp) ?_
              try simp only [Act.put, List.setIfInBounds_toArray, List.set_cons_zero, List.set_cons_succ]
              refine wpAnyD_done (by kernel_rfl) ?_ _
              go_wp2
              go_ret
              exact ⟨by rw [hR.out]; rfl, HB1.out⟩
            · have HG2 : Hid _ := HG.out (by omega)
              clear HF HG
              go_wp2
              refine wp_region_d (fun u => (Instr.loadAt 24 (.pointer (some (a'.add (j * 3))))).run Tryz.prog u = .ok (nmV x) u ∧ (Instr.loadAt 24 (.pointer (some (a'.add (k * 3))))).run Tryz.prog u = .ok (nmV y) u) (fun j => j == 9) (by kernel_rfl) ?_
              refine wpAnyD_pured (i := 0) (v := .slice (some a') m c) rfl rfl (by kernel_rfl) (by kernel_rfl) (by kernel_rfl) (fun _ _ _ h => h) (by go_simp) (by intro u; go_simp) ?_
              try simp only [Act.put, List.setIfInBounds_toArray, List.set_cons_zero, List.set_cons_succ]
              refine wpAnyD_pured (i := 1) (v := .int .i64 (k : Int)) rfl rfl (by kernel_rfl) (by kernel_rfl) (by kernel_rfl) (fun _ _ _ h => h) (by go_simp) (by intro u; go_simp) ?_
              try simp only [Act.put, List.setIfInBounds_toArray, List.set_cons_zero, List.set_cons_succ]
              refine wpAnyD_pured (i := 2) (v := .int .i64 (j : Int)) rfl rfl (by kernel_rfl) (by kernel_rfl) (by kernel_rfl) (fun _ _ _ h => h) (by go_simp) (by intro u; go_simp) ?_
              try simp only [Act.put, List.setIfInBounds_toArray, List.set_cons_zero, List.set_cons_succ]
              refine wpAnyD_pured (i := 3) (v := .pointer (some (a'.add (j * 3)))) rfl rfl (by kernel_rfl) (by kernel_rfl) (by kernel_rfl) (fun _ _ _ h => h) (by go_simp) (by intro u; go_simp) ?_
              try simp only [Act.put, List.setIfInBounds_toArray, List.set_cons_zero, List.set_cons_succ]
              refine wpAnyD_loadd (i := 4) (v := nmV x) rfl rfl (by kernel_rfl) (by kernel_rfl) (by kernel_rfl) (by kernel_rfl) (fun _ _ _ h => h) (by go_simp) (fun u hSu => nexec_load rfl rfl hSu.1) HS.out ?_
              try simp only [Act.put, List.setIfInBounds_toArray, List.set_cons_zero, List.set_cons_succ]
              refine wpAnyD_pured (i := 5) (v := .slice (some a') m c) rfl rfl (by kernel_rfl) (by kernel_rfl) (by kernel_rfl) (fun _ _ _ h => h) (by go_simp) (by intro u; go_simp) ?_
              try simp only [Act.put, List.setIfInBounds_toArray, List.set_cons_zero, List.set_cons_succ]
              refine wpAnyD_pured (i := 6) (v := .int .i64 (k : Int)) rfl rfl (by kernel_rfl) (by kernel_rfl) (by kernel_rfl) (fun _ _ _ h => h) (by go_simp) (by intro u; go_simp) ?_
              try simp only [Act.put, List.setIfInBounds_toArray, List.set_cons_zero, List.set_cons_succ]
              refine wpAnyD_pured (i := 7) (v := .pointer (some (a'.add (k * 3)))) rfl rfl (by kernel_rfl) (by kernel_rfl) (by kernel_rfl) (fun _ _ _ h => h) (by go_simp) (by intro u; go_simp) ?_
              try simp only [Act.put, List.setIfInBounds_toArray, List.set_cons_zero, List.set_cons_succ]
              refine wpAnyD_loadd (i := 8) (v := nmV y) rfl rfl (by kernel_rfl) (by kernel_rfl) (by kernel_rfl) (by kernel_rfl) (fun _ _ _ h => h) (by go_simp) (fun u hSu => nexec_load rfl rfl hSu.2) HS.out ?_
              try simp only [Act.put, List.setIfInBounds_toArray, List.set_cons_zero, List.set_cons_succ]
              refine wpAnyD_one (i := 9) (by kernel_rfl) rfl ?_
              intro K' hK'
              go_simp
              refine C.mono ?_
              rintro e w1 ⟨rfl, hb1⟩
              have HB1 : Hid (Below w.heap.size w w1) := bel_step HBd.out hb1
              clear hb1
              refine hK' _ _ (.inl rfl) ?_
              clear hK'
              try simp only [Act.put, List.setIfInBounds_toArray, List.set_cons_zero, List.set_cons_succ]
              refine wpAnyD_pured (i := 10) (v := .bool false) rfl rfl (by kernel_rfl) (by kernel_rfl) (by kernel_rfl) (fun _ _ _ h => h) (by go_simp) (by intro u; go_simp) ?_
              try simp only [Act.put, List.setIfInBounds_toArray, List.set_cons_zero, List.set_cons_succ]
              refine wpAnyD_done (by kernel_rfl) ?_ _
              go_wp2
              go_roundw
              case rel => exact ⟨k + 1, by omega, by omega, by go_num, HG2, HB1⟩
              case measure => simp [intOf]; omega
          · have hki : ¬ (k : Int) < m := by omega
            have hb1 : b = true := Hb.out.2 (HT1.out.done (by rw [← HN.out]; omega))
            have hR : Hid (chkN _ L = 0) := (show chkN _ L = 0 from by rw [HC2.out, hb1, if_neg (by decide)])
            clear hb1
            clear HC2
            go_wp2
            go_ret
            exact ⟨by rw [hR.out]; rfl, HBz.out⟩
end Go.Proofs.YtlndkjcincflpaaGreatDoor
