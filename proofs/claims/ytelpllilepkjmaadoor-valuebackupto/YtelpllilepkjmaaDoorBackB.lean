/- The walk of the law ValueBack, a case of the value. -/
import Derived.Test.YtelpllilepkjmaaDoorBackBase
namespace Go.Proofs.YtelpllilepkjmaaDoor
open Go.RowKit
set_option maxRecDepth 100000
set_option linter.unusedVariables false
set_option linter.unusedSimpArgs false
set_option maxHeartbeats 8000000 in
theorem back_BD {k n k' n' : Int} {s s2 s' Tx : ByteArray} {G : Bool} {l : List ByteArray} {w : World} (hs2 : s2.size ≤ 9223372036854775807) (hl : l.length ≤ 9000000000000000)
    (hne : ∀ x ∈ l, 0 < x.size) (hcat : cat l = s2)
    (G1 : RB (w.alloc (.cells #[.int .i64 k, .int .i64 n, .string s] 23)) 14 #[.agg #[.int .i64 k, .int .i64 n, .string s]] (.bool true)) (G2 : RB (w.alloc (.cells #[.int .i64 k, .int .i64 n, .string s] 23)) 15 #[.agg #[.int .i64 k, .int .i64 n, .string s]] (.bool true))
    (hk : (k != 2) = false)
    (H1 : RT (w.alloc (.cells #[.int .i64 k, .int .i64 n, .string s] 23)) 26 #[.string s2] l) (Y2 : RB (w.alloc (.cells #[.int .i64 k, .int .i64 n, .string s] 23)) 19 #[.string s2] (.agg #[.int .i64 k', .int .i64 n', .string s']))
    (hk' : (k' == 2) = false)
    (LV : RB (w.alloc (.cells #[.int .i64 k, .int .i64 n, .string s] 23)) 18 #[] (.bool true)) :
    Calls Tryd.prog 5 #[.agg #[.int .i64 k, .int .i64 n, .string s], .string s2] w fun e w' => e = .returned (.bool true) ∧ Below w.heap.size w w' := by
  have HB : Hid (Below (w.alloc (.cells #[.int .i64 k, .int .i64 n, .string s] 23)).heap.size (w.alloc (.cells #[.int .i64 k, .int .i64 n, .string s] 23)) (w.alloc (.cells #[.int .i64 k, .int .i64 n, .string s] 23))) := Below.refl _ _
  have BC : Hid (∀ u : World, Below (w.alloc (.cells #[.int .i64 k, .int .i64 n, .string s] 23)).heap.size (w.alloc (.cells #[.int .i64 k, .int .i64 n, .string s] 23)) u → u.cell? ⟨w.heap.size, 0, none⟩ = some (.int .i64 k) ∧ u.cell? ⟨w.heap.size, 1, none⟩ = some (.int .i64 n) ∧ u.cell? ⟨w.heap.size, 2, none⟩ = some (.string s)) := fun u hu => (boxcell hu).2
  have HN : Hid (∀ x ∈ l, 0 < x.size) := hne
  have HCAT : Hid (cat l = s2) := hcat
  clear hne hcat
  go_enter Tryd.func5, Tryd.ntmps5
  go_wp2_with fail
  replace HB : Hid (Below (w.alloc (.cells #[.int .i64 k, .int .i64 n, .string s] 23)).heap.size (w.alloc (.cells #[.int .i64 k, .int .i64 n, .string s] 23)) (w.alloc (.cells #[.int .i64 k, .int .i64 n, .string s] 23)).drew) := HB.out.drew
  refine wp_region_d (fun u => u.cell? ⟨w.heap.size, 0, none⟩ = some (.int .i64 k) ∧ u.cell? ⟨w.heap.size, 1, none⟩ = some (.int .i64 n) ∧ u.cell? ⟨w.heap.size, 2, none⟩ = some (.string s)) (fun _ => false) (by kernel_rfl) ?_
  refine wpAnyD_loadd (i := 0) (v := .agg #[.int .i64 k, .int .i64 n, .string s]) rfl rfl (by kernel_rfl) (by kernel_rfl) (by kernel_rfl) (by kernel_rfl) (fun _ _ _ h => h) (by go_simp) (fun u hSu => exec_ld23 rfl rfl hSu) (BC.out _ HB.out) ?_
  try simp only [Act.put, List.setIfInBounds_toArray, List.set_cons_zero, List.set_cons_succ]
  refine wpAnyD_one (i := 1) (by kernel_rfl) rfl ?_
  intro K hK
  go_simp
  refine (G1 _ HB.out).mono ?_
  rintro e w1 ⟨rfl, hb⟩
  replace HB : Hid (Below (w.alloc (.cells #[.int .i64 k, .int .i64 n, .string s] 23)).heap.size (w.alloc (.cells #[.int .i64 k, .int .i64 n, .string s] 23)) w1) := bel_step HB.out hb
  clear hb
  refine hK _ _ (.inr fun _ => BC.out _ HB.out) ?_
  clear hK
  try simp only [Act.put, List.setIfInBounds_toArray, List.set_cons_zero, List.set_cons_succ]
  refine wpAnyD_pured (i := 2) (v := .bool true) rfl rfl (by kernel_rfl) (by kernel_rfl) (by kernel_rfl) (fun _ _ _ h => h) (by go_simp) (by intro u; go_simp) ?_
  try simp only [Act.put, List.setIfInBounds_toArray, List.set_cons_zero, List.set_cons_succ]
  refine wpAnyD_pured (i := 3) (v := .pointer (some ⟨w.heap.size, 0, none⟩)) rfl rfl (by kernel_rfl) (by kernel_rfl) (by kernel_rfl) (fun _ _ _ h => h) (by go_simp) (by intro u; go_simp) ?_
  try simp only [Act.put, List.setIfInBounds_toArray, List.set_cons_zero, List.set_cons_succ]
  refine wpAnyD_loadd (i := 4) (v := .int .i64 k) rfl rfl (by kernel_rfl) (by kernel_rfl) (by kernel_rfl) (by kernel_rfl) (fun _ _ _ h => h) (by go_simp) (fun u hSu => exec_ld3 rfl rfl hSu.1) (BC.out _ HB.out) ?_
  try simp only [Act.put, List.setIfInBounds_toArray, List.set_cons_zero, List.set_cons_succ]
  refine wpAnyD_pured (i := 5) (v := .bool false) rfl rfl (by kernel_rfl) (by kernel_rfl) (by kernel_rfl) (fun _ _ _ h => h) (by go_simp) (by intro u; go_simp) ?_
  try simp only [Act.put, List.setIfInBounds_toArray, List.set_cons_zero, List.set_cons_succ]
  refine wpAnyD_pured (i := 6) (v := .bool false) rfl rfl (by kernel_rfl) (by kernel_rfl) (by kernel_rfl) (fun _ _ _ h => h) (by go_simp) (by intro u; go_simp) ?_
  try simp only [Act.put, List.setIfInBounds_toArray, List.set_cons_zero, List.set_cons_succ]
  refine wpAnyD_pured (i := 7) (v := .bool false) rfl rfl (by kernel_rfl) (by kernel_rfl) (by kernel_rfl) (fun _ _ _ h => h) (by go_simp) (by intro u; go_simp) ?_
  try simp only [Act.put, List.setIfInBounds_toArray, List.set_cons_zero, List.set_cons_succ]
  refine wpAnyD_skipd (i := 8) rfl rfl (by kernel_rfl) (by kernel_rfl) (by kernel_rfl) (fun _ _ _ h => h) (by go_simp) ?_
  try simp only [Act.put, List.setIfInBounds_toArray, List.set_cons_zero, List.set_cons_succ]
  refine wpAnyD_skipd (i := 9) rfl rfl (by kernel_rfl) (by kernel_rfl) (by kernel_rfl) (fun _ _ _ h => h) (by go_simp) ?_
  try simp only [Act.put, List.setIfInBounds_toArray, List.set_cons_zero, List.set_cons_succ]
  refine wpAnyD_skipd (i := 10) rfl rfl (by kernel_rfl) (by kernel_rfl) (by kernel_rfl) (fun _ _ _ h => h) (by go_simp) ?_
  try simp only [Act.put, List.setIfInBounds_toArray, List.set_cons_zero, List.set_cons_succ]
  refine wpAnyD_skipd (i := 11) rfl rfl (by kernel_rfl) (by kernel_rfl) (by kernel_rfl) (fun _ _ _ h => h) (by go_simp) ?_
  try simp only [Act.put, List.setIfInBounds_toArray, List.set_cons_zero, List.set_cons_succ]
  refine wpAnyD_skipd (i := 12) rfl rfl (by kernel_rfl) (by kernel_rfl) (by kernel_rfl) (fun _ _ _ h => h) (by go_simp) ?_
  try simp only [Act.put, List.setIfInBounds_toArray, List.set_cons_zero, List.set_cons_succ]
  refine wpAnyD_pured (i := 13) (v := .bool false) rfl rfl (by kernel_rfl) (by kernel_rfl) (by kernel_rfl) (fun _ _ _ h => h) (by go_simp) (by intro u; go_simp) ?_
  try simp only [Act.put, List.setIfInBounds_toArray, List.set_cons_zero, List.set_cons_succ]
  refine wpAnyD_done (by kernel_rfl) ?_ _
  go_wp2_with fail
  refine (H1 _ HB.out).mono ?_
  rintro e w2 ⟨vs, rfl, hvs, hb⟩
  have HV : Hid (Sts w2 vs l) := hvs
  obtain ⟨a, c, rfl⟩ := hvs.slice
  replace HB : Hid (Below (w.alloc (.cells #[.int .i64 k, .int .i64 n, .string s] 23)).heap.size (w.alloc (.cells #[.int .i64 k, .int .i64 n, .string s] 23)) w2) := bel_step HB.out hb
  clear hb hvs
  go_wp2_with fail
  go_loop [26, 5] (fun i t => ∃ (j : Nat) (acc : ByteArray), i = .int .i64 j ∧ t = .string acc ∧ j ≤ l.length ∧ Hid (acc ++ cat (l.drop j) = s2)) (fun i _ => l.length - (intOf i).toNat)
  case atStart => exact ⟨0, ⟨#[]⟩, rfl, rfl, Nat.zero_le _, by show _ = _; rw [List.drop_zero, HCAT.out]; exact nil_app s2⟩
  case round =>
    obtain ⟨j, acc, rfl, rfl, hj, hacc⟩ := hrel
    by_cases hlt : j < l.length
    · have cx : Hid (∃ a', a = some a' ∧ w2.cell? (a'.add j) = some (.string l[j])) := by
        rcases HV.out with ⟨h1, rfl⟩ | ⟨a', cap, h1, _, _, h4⟩
        · simp at hlt
        · cases h1
          exact ⟨a', rfl, h4 j _ (List.getElem?_eq_getElem hlt)⟩
      obtain ⟨a', rfl, cx⟩ := cx.out
      have hx : (l[j].toList == []) = false := by
        rw [beq_eq_false_iff_ne, ne_eq, nil_iff]
        have := HN.out l[j] (List.getElem_mem _)
        omega
      have HA : Hid ((acc ++ l[j]) ++ cat (l.drop (j + 1)) = s2) := by
        show _ = _
        rw [← hacc.out, List.drop_eq_getElem_cons hlt]
        show _ = acc ++ (l[j] ++ cat _)
        rw [app_assoc]
      have hsz : acc.size + l[j].size ≤ s2.size := by
        rw [← HA.out, app_size, app_size]; omega
      generalize l[j] = x at *
      have hsz2 : acc.size + x.size ≤ 9223372036854775807 := by omega
      clear hacc
      go_wp2
      go_round
      case rel => exact ⟨j + 1, acc ++ x, by go_num, rfl, by omega, HA⟩
      case measure => simp [intOf]; omega
    · have he : acc = s2 := by
        have := hacc.out
        rw [List.drop_eq_nil_of_le (by omega)] at this
        rw [← this]
        exact (app_nil acc).symm
      subst he
      clear hacc
      go_wp2_with fail
      refine (Y2 _ HB.out).mono ?_
      rintro e w3 ⟨rfl, hb⟩
      replace HB : Hid (Below (w.alloc (.cells #[.int .i64 k, .int .i64 n, .string s] 23)).heap.size (w.alloc (.cells #[.int .i64 k, .int .i64 n, .string s] 23)) w3) := bel_step HB.out hb
      clear hb
      go_wp2_with fail
      have HU : Hid (Below (w3.alloc (.cells #[.int .i64 k', .int .i64 n', .string s'] 23)).heap.size (w3.alloc (.cells #[.int .i64 k', .int .i64 n', .string s'] 23)) (w3.alloc (.cells #[.int .i64 k', .int .i64 n', .string s'] 23)).drew) := (Below.refl _ _).drew
      have BU : Hid (∀ u : World, Below (w3.alloc (.cells #[.int .i64 k', .int .i64 n', .string s'] 23)).heap.size (w3.alloc (.cells #[.int .i64 k', .int .i64 n', .string s'] 23)) u → u.cell? ⟨w3.heap.size, 0, none⟩ = some (.int .i64 k') ∧ u.cell? ⟨w3.heap.size, 1, none⟩ = some (.int .i64 n') ∧ u.cell? ⟨w3.heap.size, 2, none⟩ = some (.string s')) := fun u hu => (boxcell hu).2
      have HWU : Hid (∀ u : World, Below (w3.alloc (.cells #[.int .i64 k', .int .i64 n', .string s'] 23)).heap.size (w3.alloc (.cells #[.int .i64 k', .int .i64 n', .string s'] 23)) u → Below (w.alloc (.cells #[.int .i64 k, .int .i64 n, .string s] 23)).heap.size (w.alloc (.cells #[.int .i64 k, .int .i64 n, .string s] 23)) u) := fun u hu => bel_step (bel_alloc HB.out _) hu
      obtain ⟨u0, u1, u2⟩ := BU.out _ HU.out
      go_quiet ((fail))
      go_wp2_with fail
      replace HU : Hid (Below (w3.alloc (.cells #[.int .i64 k', .int .i64 n', .string s'] 23)).heap.size (w3.alloc (.cells #[.int .i64 k', .int .i64 n', .string s'] 23)) ((w3.alloc (.cells #[.int .i64 k', .int .i64 n', .string s'] 23)).drewN nq).drew) := (drewN_below _ _).drew
      go_region_held_law (fun u => u.cell? ⟨w.heap.size, 0, none⟩ = some (.int .i64 k) ∧ u.cell? ⟨w.heap.size, 1, none⟩ = some (.int .i64 n) ∧ u.cell? ⟨w.heap.size, 2, none⟩ = some (.string s)) (exact BC.out _ (HWU.out _ HU.out)) (first
        | (go_at_call 14; refine (G1 _ (HWU.out _ HU.out)).mono ?_; rintro e w4 ⟨rfl, hb⟩; have HU : Hid (Below (w3.alloc (.cells #[.int .i64 k', .int .i64 n', .string s'] 23)).heap.size (w3.alloc (.cells #[.int .i64 k', .int .i64 n', .string s'] 23)) w4) := bel_step HU.out hb; clear hb)
        | (go_at_call 15; refine (G2 _ (HWU.out _ HU.out)).mono ?_; rintro e w4 ⟨rfl, hb⟩; have HU : Hid (Below (w3.alloc (.cells #[.int .i64 k', .int .i64 n', .string s'] 23)).heap.size (w3.alloc (.cells #[.int .i64 k', .int .i64 n', .string s'] 23)) w4) := bel_step HU.out hb; clear hb)
        | (go_at_call 18; refine (LV _ (HWU.out _ HU.out)).mono ?_; rintro e w4 ⟨rfl, hb⟩; have HU : Hid (Below (w3.alloc (.cells #[.int .i64 k', .int .i64 n', .string s'] 23)).heap.size (w3.alloc (.cells #[.int .i64 k', .int .i64 n', .string s'] 23)) w4) := bel_step HU.out hb; clear hb))
      go_wp2
      go_ret
      exact ⟨rfl, bel1 (HWU.out _ HU.out)⟩
set_option maxHeartbeats 8000000 in
theorem back_BE {k n k' n' : Int} {s s2 s' Tx : ByteArray} {G : Bool} {l : List ByteArray} {w : World} (hs2 : s2.size ≤ 9223372036854775807) (hl : l.length ≤ 9000000000000000)
    (hne : ∀ x ∈ l, 0 < x.size) (hcat : cat l = s2)
    (G1 : RB (w.alloc (.cells #[.int .i64 k, .int .i64 n, .string s] 23)) 14 #[.agg #[.int .i64 k, .int .i64 n, .string s]] (.bool true)) (G2 : RB (w.alloc (.cells #[.int .i64 k, .int .i64 n, .string s] 23)) 15 #[.agg #[.int .i64 k, .int .i64 n, .string s]] (.bool true))
    (hk : (k != 2) = false)
    (H1 : RT (w.alloc (.cells #[.int .i64 k, .int .i64 n, .string s] 23)) 26 #[.string s2] l) (Y2 : RB (w.alloc (.cells #[.int .i64 k, .int .i64 n, .string s] 23)) 19 #[.string s2] (.agg #[.int .i64 k', .int .i64 n', .string s']))
    (hk' : (k' == 2) = true) (h0 : 0 < s2.size) (hq : (((s2[0]'h0).toNat : Int) != 39) = false)
    (LV : RB (w.alloc (.cells #[.int .i64 k, .int .i64 n, .string s] 23)) 18 #[] (.bool true)) :
    Calls Tryd.prog 5 #[.agg #[.int .i64 k, .int .i64 n, .string s], .string s2] w fun e w' => e = .returned (.bool true) ∧ Below w.heap.size w w' := by
  have HB : Hid (Below (w.alloc (.cells #[.int .i64 k, .int .i64 n, .string s] 23)).heap.size (w.alloc (.cells #[.int .i64 k, .int .i64 n, .string s] 23)) (w.alloc (.cells #[.int .i64 k, .int .i64 n, .string s] 23))) := Below.refl _ _
  have BC : Hid (∀ u : World, Below (w.alloc (.cells #[.int .i64 k, .int .i64 n, .string s] 23)).heap.size (w.alloc (.cells #[.int .i64 k, .int .i64 n, .string s] 23)) u → u.cell? ⟨w.heap.size, 0, none⟩ = some (.int .i64 k) ∧ u.cell? ⟨w.heap.size, 1, none⟩ = some (.int .i64 n) ∧ u.cell? ⟨w.heap.size, 2, none⟩ = some (.string s)) := fun u hu => (boxcell hu).2
  have HN : Hid (∀ x ∈ l, 0 < x.size) := hne
  have HCAT : Hid (cat l = s2) := hcat
  clear hne hcat
  have h0' : (0 : Int) < (s2.size : Int) := by omega
  go_enter Tryd.func5, Tryd.ntmps5
  go_wp2_with fail
  replace HB : Hid (Below (w.alloc (.cells #[.int .i64 k, .int .i64 n, .string s] 23)).heap.size (w.alloc (.cells #[.int .i64 k, .int .i64 n, .string s] 23)) (w.alloc (.cells #[.int .i64 k, .int .i64 n, .string s] 23)).drew) := HB.out.drew
  refine wp_region_d (fun u => u.cell? ⟨w.heap.size, 0, none⟩ = some (.int .i64 k) ∧ u.cell? ⟨w.heap.size, 1, none⟩ = some (.int .i64 n) ∧ u.cell? ⟨w.heap.size, 2, none⟩ = some (.string s)) (fun _ => false) (by kernel_rfl) ?_
  refine wpAnyD_loadd (i := 0) (v := .agg #[.int .i64 k, .int .i64 n, .string s]) rfl rfl (by kernel_rfl) (by kernel_rfl) (by kernel_rfl) (by kernel_rfl) (fun _ _ _ h => h) (by go_simp) (fun u hSu => exec_ld23 rfl rfl hSu) (BC.out _ HB.out) ?_
  try simp only [Act.put, List.setIfInBounds_toArray, List.set_cons_zero, List.set_cons_succ]
  refine wpAnyD_one (i := 1) (by kernel_rfl) rfl ?_
  intro K hK
  go_simp
  refine (G1 _ HB.out).mono ?_
  rintro e w1 ⟨rfl, hb⟩
  replace HB : Hid (Below (w.alloc (.cells #[.int .i64 k, .int .i64 n, .string s] 23)).heap.size (w.alloc (.cells #[.int .i64 k, .int .i64 n, .string s] 23)) w1) := bel_step HB.out hb
  clear hb
  refine hK _ _ (.inr fun _ => BC.out _ HB.out) ?_
  clear hK
  try simp only [Act.put, List.setIfInBounds_toArray, List.set_cons_zero, List.set_cons_succ]
  refine wpAnyD_pured (i := 2) (v := .bool true) rfl rfl (by kernel_rfl) (by kernel_rfl) (by kernel_rfl) (fun _ _ _ h => h) (by go_simp) (by intro u; go_simp) ?_
  try simp only [Act.put, List.setIfInBounds_toArray, List.set_cons_zero, List.set_cons_succ]
  refine wpAnyD_pured (i := 3) (v := .pointer (some ⟨w.heap.size, 0, none⟩)) rfl rfl (by kernel_rfl) (by kernel_rfl) (by kernel_rfl) (fun _ _ _ h => h) (by go_simp) (by intro u; go_simp) ?_
  try simp only [Act.put, List.setIfInBounds_toArray, List.set_cons_zero, List.set_cons_succ]
  refine wpAnyD_loadd (i := 4) (v := .int .i64 k) rfl rfl (by kernel_rfl) (by kernel_rfl) (by kernel_rfl) (by kernel_rfl) (fun _ _ _ h => h) (by go_simp) (fun u hSu => exec_ld3 rfl rfl hSu.1) (BC.out _ HB.out) ?_
  try simp only [Act.put, List.setIfInBounds_toArray, List.set_cons_zero, List.set_cons_succ]
  refine wpAnyD_pured (i := 5) (v := .bool false) rfl rfl (by kernel_rfl) (by kernel_rfl) (by kernel_rfl) (fun _ _ _ h => h) (by go_simp) (by intro u; go_simp) ?_
  try simp only [Act.put, List.setIfInBounds_toArray, List.set_cons_zero, List.set_cons_succ]
  refine wpAnyD_pured (i := 6) (v := .bool false) rfl rfl (by kernel_rfl) (by kernel_rfl) (by kernel_rfl) (fun _ _ _ h => h) (by go_simp) (by intro u; go_simp) ?_
  try simp only [Act.put, List.setIfInBounds_toArray, List.set_cons_zero, List.set_cons_succ]
  refine wpAnyD_pured (i := 7) (v := .bool false) rfl rfl (by kernel_rfl) (by kernel_rfl) (by kernel_rfl) (fun _ _ _ h => h) (by go_simp) (by intro u; go_simp) ?_
  try simp only [Act.put, List.setIfInBounds_toArray, List.set_cons_zero, List.set_cons_succ]
  refine wpAnyD_skipd (i := 8) rfl rfl (by kernel_rfl) (by kernel_rfl) (by kernel_rfl) (fun _ _ _ h => h) (by go_simp) ?_
  try simp only [Act.put, List.setIfInBounds_toArray, List.set_cons_zero, List.set_cons_succ]
  refine wpAnyD_skipd (i := 9) rfl rfl (by kernel_rfl) (by kernel_rfl) (by kernel_rfl) (fun _ _ _ h => h) (by go_simp) ?_
  try simp only [Act.put, List.setIfInBounds_toArray, List.set_cons_zero, List.set_cons_succ]
  refine wpAnyD_skipd (i := 10) rfl rfl (by kernel_rfl) (by kernel_rfl) (by kernel_rfl) (fun _ _ _ h => h) (by go_simp) ?_
  try simp only [Act.put, List.setIfInBounds_toArray, List.set_cons_zero, List.set_cons_succ]
  refine wpAnyD_skipd (i := 11) rfl rfl (by kernel_rfl) (by kernel_rfl) (by kernel_rfl) (fun _ _ _ h => h) (by go_simp) ?_
  try simp only [Act.put, List.setIfInBounds_toArray, List.set_cons_zero, List.set_cons_succ]
  refine wpAnyD_skipd (i := 12) rfl rfl (by kernel_rfl) (by kernel_rfl) (by kernel_rfl) (fun _ _ _ h => h) (by go_simp) ?_
  try simp only [Act.put, List.setIfInBounds_toArray, List.set_cons_zero, List.set_cons_succ]
  refine wpAnyD_pured (i := 13) (v := .bool false) rfl rfl (by kernel_rfl) (by kernel_rfl) (by kernel_rfl) (fun _ _ _ h => h) (by go_simp) (by intro u; go_simp) ?_
  try simp only [Act.put, List.setIfInBounds_toArray, List.set_cons_zero, List.set_cons_succ]
  refine wpAnyD_done (by kernel_rfl) ?_ _
  go_wp2_with fail
  refine (H1 _ HB.out).mono ?_
  rintro e w2 ⟨vs, rfl, hvs, hb⟩
  have HV : Hid (Sts w2 vs l) := hvs
  obtain ⟨a, c, rfl⟩ := hvs.slice
  replace HB : Hid (Below (w.alloc (.cells #[.int .i64 k, .int .i64 n, .string s] 23)).heap.size (w.alloc (.cells #[.int .i64 k, .int .i64 n, .string s] 23)) w2) := bel_step HB.out hb
  clear hb hvs
  go_wp2_with fail
  go_loop [26, 5] (fun i t => ∃ (j : Nat) (acc : ByteArray), i = .int .i64 j ∧ t = .string acc ∧ j ≤ l.length ∧ Hid (acc ++ cat (l.drop j) = s2)) (fun i _ => l.length - (intOf i).toNat)
  case atStart => exact ⟨0, ⟨#[]⟩, rfl, rfl, Nat.zero_le _, by show _ = _; rw [List.drop_zero, HCAT.out]; exact nil_app s2⟩
  case round =>
    obtain ⟨j, acc, rfl, rfl, hj, hacc⟩ := hrel
    by_cases hlt : j < l.length
    · have cx : Hid (∃ a', a = some a' ∧ w2.cell? (a'.add j) = some (.string l[j])) := by
        rcases HV.out with ⟨h1, rfl⟩ | ⟨a', cap, h1, _, _, h4⟩
        · simp at hlt
        · cases h1
          exact ⟨a', rfl, h4 j _ (List.getElem?_eq_getElem hlt)⟩
      obtain ⟨a', rfl, cx⟩ := cx.out
      have hx : (l[j].toList == []) = false := by
        rw [beq_eq_false_iff_ne, ne_eq, nil_iff]
        have := HN.out l[j] (List.getElem_mem _)
        omega
      have HA : Hid ((acc ++ l[j]) ++ cat (l.drop (j + 1)) = s2) := by
        show _ = _
        rw [← hacc.out, List.drop_eq_getElem_cons hlt]
        show _ = acc ++ (l[j] ++ cat _)
        rw [app_assoc]
      have hsz : acc.size + l[j].size ≤ s2.size := by
        rw [← HA.out, app_size, app_size]; omega
      generalize l[j] = x at *
      have hsz2 : acc.size + x.size ≤ 9223372036854775807 := by omega
      clear hacc
      go_wp2
      go_round
      case rel => exact ⟨j + 1, acc ++ x, by go_num, rfl, by omega, HA⟩
      case measure => simp [intOf]; omega
    · have he : acc = s2 := by
        have := hacc.out
        rw [List.drop_eq_nil_of_le (by omega)] at this
        rw [← this]
        exact (app_nil acc).symm
      subst he
      clear hacc
      go_wp2_with fail
      refine (Y2 _ HB.out).mono ?_
      rintro e w3 ⟨rfl, hb⟩
      replace HB : Hid (Below (w.alloc (.cells #[.int .i64 k, .int .i64 n, .string s] 23)).heap.size (w.alloc (.cells #[.int .i64 k, .int .i64 n, .string s] 23)) w3) := bel_step HB.out hb
      clear hb
      go_wp2_with fail
      have HU : Hid (Below (w3.alloc (.cells #[.int .i64 k', .int .i64 n', .string s'] 23)).heap.size (w3.alloc (.cells #[.int .i64 k', .int .i64 n', .string s'] 23)) (w3.alloc (.cells #[.int .i64 k', .int .i64 n', .string s'] 23)).drew) := (Below.refl _ _).drew
      have BU : Hid (∀ u : World, Below (w3.alloc (.cells #[.int .i64 k', .int .i64 n', .string s'] 23)).heap.size (w3.alloc (.cells #[.int .i64 k', .int .i64 n', .string s'] 23)) u → u.cell? ⟨w3.heap.size, 0, none⟩ = some (.int .i64 k') ∧ u.cell? ⟨w3.heap.size, 1, none⟩ = some (.int .i64 n') ∧ u.cell? ⟨w3.heap.size, 2, none⟩ = some (.string s')) := fun u hu => (boxcell hu).2
      have HWU : Hid (∀ u : World, Below (w3.alloc (.cells #[.int .i64 k', .int .i64 n', .string s'] 23)).heap.size (w3.alloc (.cells #[.int .i64 k', .int .i64 n', .string s'] 23)) u → Below (w.alloc (.cells #[.int .i64 k, .int .i64 n, .string s] 23)).heap.size (w.alloc (.cells #[.int .i64 k, .int .i64 n, .string s] 23)) u) := fun u hu => bel_step (bel_alloc HB.out _) hu
      obtain ⟨u0, u1, u2⟩ := BU.out _ HU.out
      go_quiet ((fail))
      go_wp2_with fail
      replace HU : Hid (Below (w3.alloc (.cells #[.int .i64 k', .int .i64 n', .string s'] 23)).heap.size (w3.alloc (.cells #[.int .i64 k', .int .i64 n', .string s'] 23)) ((w3.alloc (.cells #[.int .i64 k', .int .i64 n', .string s'] 23)).drewN nq).drew) := (drewN_below _ _).drew
      go_region_held_law (fun u => u.cell? ⟨w.heap.size, 0, none⟩ = some (.int .i64 k) ∧ u.cell? ⟨w.heap.size, 1, none⟩ = some (.int .i64 n) ∧ u.cell? ⟨w.heap.size, 2, none⟩ = some (.string s)) (exact BC.out _ (HWU.out _ HU.out)) (first
        | (go_at_call 14; refine (G1 _ (HWU.out _ HU.out)).mono ?_; rintro e w4 ⟨rfl, hb⟩; have HU : Hid (Below (w3.alloc (.cells #[.int .i64 k', .int .i64 n', .string s'] 23)).heap.size (w3.alloc (.cells #[.int .i64 k', .int .i64 n', .string s'] 23)) w4) := bel_step HU.out hb; clear hb)
        | (go_at_call 15; refine (G2 _ (HWU.out _ HU.out)).mono ?_; rintro e w4 ⟨rfl, hb⟩; have HU : Hid (Below (w3.alloc (.cells #[.int .i64 k', .int .i64 n', .string s'] 23)).heap.size (w3.alloc (.cells #[.int .i64 k', .int .i64 n', .string s'] 23)) w4) := bel_step HU.out hb; clear hb)
        | (go_at_call 18; refine (LV _ (HWU.out _ HU.out)).mono ?_; rintro e w4 ⟨rfl, hb⟩; have HU : Hid (Below (w3.alloc (.cells #[.int .i64 k', .int .i64 n', .string s'] 23)).heap.size (w3.alloc (.cells #[.int .i64 k', .int .i64 n', .string s'] 23)) w4) := bel_step HU.out hb; clear hb))
      go_wp2
      go_ret
      exact ⟨rfl, bel1 (HWU.out _ HU.out)⟩
set_option maxHeartbeats 8000000 in
theorem back_BF {k n k' n' : Int} {s s2 s' Tx : ByteArray} {G : Bool} {l : List ByteArray} {w : World} (hs2 : s2.size ≤ 9223372036854775807) (hl : l.length ≤ 9000000000000000)
    (hne : ∀ x ∈ l, 0 < x.size) (hcat : cat l = s2)
    (G1 : RB (w.alloc (.cells #[.int .i64 k, .int .i64 n, .string s] 23)) 14 #[.agg #[.int .i64 k, .int .i64 n, .string s]] (.bool true)) (G2 : RB (w.alloc (.cells #[.int .i64 k, .int .i64 n, .string s] 23)) 15 #[.agg #[.int .i64 k, .int .i64 n, .string s]] (.bool true))
    (hk : (k != 2) = false)
    (H1 : RT (w.alloc (.cells #[.int .i64 k, .int .i64 n, .string s] 23)) 26 #[.string s2] l) (Y2 : RB (w.alloc (.cells #[.int .i64 k, .int .i64 n, .string s] 23)) 19 #[.string s2] (.agg #[.int .i64 k', .int .i64 n', .string s']))
    (hk' : (k' == 2) = true) (h0 : 0 < s2.size) (hq : (((s2[0]'h0).toNat : Int) != 39) = true) (T2 : RB (w.alloc (.cells #[.int .i64 k, .int .i64 n, .string s] 23)) 16 #[.agg #[.int .i64 k', .int .i64 n', .string s']] (.string s2))
    (LV : RB (w.alloc (.cells #[.int .i64 k, .int .i64 n, .string s] 23)) 18 #[] (.bool true)) :
    Calls Tryd.prog 5 #[.agg #[.int .i64 k, .int .i64 n, .string s], .string s2] w fun e w' => e = .returned (.bool true) ∧ Below w.heap.size w w' := by
  have HB : Hid (Below (w.alloc (.cells #[.int .i64 k, .int .i64 n, .string s] 23)).heap.size (w.alloc (.cells #[.int .i64 k, .int .i64 n, .string s] 23)) (w.alloc (.cells #[.int .i64 k, .int .i64 n, .string s] 23))) := Below.refl _ _
  have BC : Hid (∀ u : World, Below (w.alloc (.cells #[.int .i64 k, .int .i64 n, .string s] 23)).heap.size (w.alloc (.cells #[.int .i64 k, .int .i64 n, .string s] 23)) u → u.cell? ⟨w.heap.size, 0, none⟩ = some (.int .i64 k) ∧ u.cell? ⟨w.heap.size, 1, none⟩ = some (.int .i64 n) ∧ u.cell? ⟨w.heap.size, 2, none⟩ = some (.string s)) := fun u hu => (boxcell hu).2
  have HN : Hid (∀ x ∈ l, 0 < x.size) := hne
  have HCAT : Hid (cat l = s2) := hcat
  clear hne hcat
  have h0' : (0 : Int) < (s2.size : Int) := by omega
  go_enter Tryd.func5, Tryd.ntmps5
  go_wp2_with fail
  replace HB : Hid (Below (w.alloc (.cells #[.int .i64 k, .int .i64 n, .string s] 23)).heap.size (w.alloc (.cells #[.int .i64 k, .int .i64 n, .string s] 23)) (w.alloc (.cells #[.int .i64 k, .int .i64 n, .string s] 23)).drew) := HB.out.drew
  refine wp_region_d (fun u => u.cell? ⟨w.heap.size, 0, none⟩ = some (.int .i64 k) ∧ u.cell? ⟨w.heap.size, 1, none⟩ = some (.int .i64 n) ∧ u.cell? ⟨w.heap.size, 2, none⟩ = some (.string s)) (fun _ => false) (by kernel_rfl) ?_
  refine wpAnyD_loadd (i := 0) (v := .agg #[.int .i64 k, .int .i64 n, .string s]) rfl rfl (by kernel_rfl) (by kernel_rfl) (by kernel_rfl) (by kernel_rfl) (fun _ _ _ h => h) (by go_simp) (fun u hSu => exec_ld23 rfl rfl hSu) (BC.out _ HB.out) ?_
  try simp only [Act.put, List.setIfInBounds_toArray, List.set_cons_zero, List.set_cons_succ]
  refine wpAnyD_one (i := 1) (by kernel_rfl) rfl ?_
  intro K hK
  go_simp
  refine (G1 _ HB.out).mono ?_
  rintro e w1 ⟨rfl, hb⟩
  replace HB : Hid (Below (w.alloc (.cells #[.int .i64 k, .int .i64 n, .string s] 23)).heap.size (w.alloc (.cells #[.int .i64 k, .int .i64 n, .string s] 23)) w1) := bel_step HB.out hb
  clear hb
  refine hK _ _ (.inr fun _ => BC.out _ HB.out) ?_
  clear hK
  try simp only [Act.put, List.setIfInBounds_toArray, List.set_cons_zero, List.set_cons_succ]
  refine wpAnyD_pured (i := 2) (v := .bool true) rfl rfl (by kernel_rfl) (by kernel_rfl) (by kernel_rfl) (fun _ _ _ h => h) (by go_simp) (by intro u; go_simp) ?_
  try simp only [Act.put, List.setIfInBounds_toArray, List.set_cons_zero, List.set_cons_succ]
  refine wpAnyD_pured (i := 3) (v := .pointer (some ⟨w.heap.size, 0, none⟩)) rfl rfl (by kernel_rfl) (by kernel_rfl) (by kernel_rfl) (fun _ _ _ h => h) (by go_simp) (by intro u; go_simp) ?_
  try simp only [Act.put, List.setIfInBounds_toArray, List.set_cons_zero, List.set_cons_succ]
  refine wpAnyD_loadd (i := 4) (v := .int .i64 k) rfl rfl (by kernel_rfl) (by kernel_rfl) (by kernel_rfl) (by kernel_rfl) (fun _ _ _ h => h) (by go_simp) (fun u hSu => exec_ld3 rfl rfl hSu.1) (BC.out _ HB.out) ?_
  try simp only [Act.put, List.setIfInBounds_toArray, List.set_cons_zero, List.set_cons_succ]
  refine wpAnyD_pured (i := 5) (v := .bool false) rfl rfl (by kernel_rfl) (by kernel_rfl) (by kernel_rfl) (fun _ _ _ h => h) (by go_simp) (by intro u; go_simp) ?_
  try simp only [Act.put, List.setIfInBounds_toArray, List.set_cons_zero, List.set_cons_succ]
  refine wpAnyD_pured (i := 6) (v := .bool false) rfl rfl (by kernel_rfl) (by kernel_rfl) (by kernel_rfl) (fun _ _ _ h => h) (by go_simp) (by intro u; go_simp) ?_
  try simp only [Act.put, List.setIfInBounds_toArray, List.set_cons_zero, List.set_cons_succ]
  refine wpAnyD_pured (i := 7) (v := .bool false) rfl rfl (by kernel_rfl) (by kernel_rfl) (by kernel_rfl) (fun _ _ _ h => h) (by go_simp) (by intro u; go_simp) ?_
  try simp only [Act.put, List.setIfInBounds_toArray, List.set_cons_zero, List.set_cons_succ]
  refine wpAnyD_skipd (i := 8) rfl rfl (by kernel_rfl) (by kernel_rfl) (by kernel_rfl) (fun _ _ _ h => h) (by go_simp) ?_
  try simp only [Act.put, List.setIfInBounds_toArray, List.set_cons_zero, List.set_cons_succ]
  refine wpAnyD_skipd (i := 9) rfl rfl (by kernel_rfl) (by kernel_rfl) (by kernel_rfl) (fun _ _ _ h => h) (by go_simp) ?_
  try simp only [Act.put, List.setIfInBounds_toArray, List.set_cons_zero, List.set_cons_succ]
  refine wpAnyD_skipd (i := 10) rfl rfl (by kernel_rfl) (by kernel_rfl) (by kernel_rfl) (fun _ _ _ h => h) (by go_simp) ?_
  try simp only [Act.put, List.setIfInBounds_toArray, List.set_cons_zero, List.set_cons_succ]
  refine wpAnyD_skipd (i := 11) rfl rfl (by kernel_rfl) (by kernel_rfl) (by kernel_rfl) (fun _ _ _ h => h) (by go_simp) ?_
  try simp only [Act.put, List.setIfInBounds_toArray, List.set_cons_zero, List.set_cons_succ]
  refine wpAnyD_skipd (i := 12) rfl rfl (by kernel_rfl) (by kernel_rfl) (by kernel_rfl) (fun _ _ _ h => h) (by go_simp) ?_
  try simp only [Act.put, List.setIfInBounds_toArray, List.set_cons_zero, List.set_cons_succ]
  refine wpAnyD_pured (i := 13) (v := .bool false) rfl rfl (by kernel_rfl) (by kernel_rfl) (by kernel_rfl) (fun _ _ _ h => h) (by go_simp) (by intro u; go_simp) ?_
  try simp only [Act.put, List.setIfInBounds_toArray, List.set_cons_zero, List.set_cons_succ]
  refine wpAnyD_done (by kernel_rfl) ?_ _
  go_wp2_with fail
  refine (H1 _ HB.out).mono ?_
  rintro e w2 ⟨vs, rfl, hvs, hb⟩
  have HV : Hid (Sts w2 vs l) := hvs
  obtain ⟨a, c, rfl⟩ := hvs.slice
  replace HB : Hid (Below (w.alloc (.cells #[.int .i64 k, .int .i64 n, .string s] 23)).heap.size (w.alloc (.cells #[.int .i64 k, .int .i64 n, .string s] 23)) w2) := bel_step HB.out hb
  clear hb hvs
  go_wp2_with fail
  go_loop [26, 5] (fun i t => ∃ (j : Nat) (acc : ByteArray), i = .int .i64 j ∧ t = .string acc ∧ j ≤ l.length ∧ Hid (acc ++ cat (l.drop j) = s2)) (fun i _ => l.length - (intOf i).toNat)
  case atStart => exact ⟨0, ⟨#[]⟩, rfl, rfl, Nat.zero_le _, by show _ = _; rw [List.drop_zero, HCAT.out]; exact nil_app s2⟩
  case round =>
    obtain ⟨j, acc, rfl, rfl, hj, hacc⟩ := hrel
    by_cases hlt : j < l.length
    · have cx : Hid (∃ a', a = some a' ∧ w2.cell? (a'.add j) = some (.string l[j])) := by
        rcases HV.out with ⟨h1, rfl⟩ | ⟨a', cap, h1, _, _, h4⟩
        · simp at hlt
        · cases h1
          exact ⟨a', rfl, h4 j _ (List.getElem?_eq_getElem hlt)⟩
      obtain ⟨a', rfl, cx⟩ := cx.out
      have hx : (l[j].toList == []) = false := by
        rw [beq_eq_false_iff_ne, ne_eq, nil_iff]
        have := HN.out l[j] (List.getElem_mem _)
        omega
      have HA : Hid ((acc ++ l[j]) ++ cat (l.drop (j + 1)) = s2) := by
        show _ = _
        rw [← hacc.out, List.drop_eq_getElem_cons hlt]
        show _ = acc ++ (l[j] ++ cat _)
        rw [app_assoc]
      have hsz : acc.size + l[j].size ≤ s2.size := by
        rw [← HA.out, app_size, app_size]; omega
      generalize l[j] = x at *
      have hsz2 : acc.size + x.size ≤ 9223372036854775807 := by omega
      clear hacc
      go_wp2
      go_round
      case rel => exact ⟨j + 1, acc ++ x, by go_num, rfl, by omega, HA⟩
      case measure => simp [intOf]; omega
    · have he : acc = s2 := by
        have := hacc.out
        rw [List.drop_eq_nil_of_le (by omega)] at this
        rw [← this]
        exact (app_nil acc).symm
      subst he
      clear hacc
      go_wp2_with fail
      refine (Y2 _ HB.out).mono ?_
      rintro e w3 ⟨rfl, hb⟩
      replace HB : Hid (Below (w.alloc (.cells #[.int .i64 k, .int .i64 n, .string s] 23)).heap.size (w.alloc (.cells #[.int .i64 k, .int .i64 n, .string s] 23)) w3) := bel_step HB.out hb
      clear hb
      go_wp2_with fail
      have HU : Hid (Below (w3.alloc (.cells #[.int .i64 k', .int .i64 n', .string s'] 23)).heap.size (w3.alloc (.cells #[.int .i64 k', .int .i64 n', .string s'] 23)) (w3.alloc (.cells #[.int .i64 k', .int .i64 n', .string s'] 23)).drew) := (Below.refl _ _).drew
      have BU : Hid (∀ u : World, Below (w3.alloc (.cells #[.int .i64 k', .int .i64 n', .string s'] 23)).heap.size (w3.alloc (.cells #[.int .i64 k', .int .i64 n', .string s'] 23)) u → u.cell? ⟨w3.heap.size, 0, none⟩ = some (.int .i64 k') ∧ u.cell? ⟨w3.heap.size, 1, none⟩ = some (.int .i64 n') ∧ u.cell? ⟨w3.heap.size, 2, none⟩ = some (.string s')) := fun u hu => (boxcell hu).2
      have HWU : Hid (∀ u : World, Below (w3.alloc (.cells #[.int .i64 k', .int .i64 n', .string s'] 23)).heap.size (w3.alloc (.cells #[.int .i64 k', .int .i64 n', .string s'] 23)) u → Below (w.alloc (.cells #[.int .i64 k, .int .i64 n, .string s] 23)).heap.size (w.alloc (.cells #[.int .i64 k, .int .i64 n, .string s] 23)) u) := fun u hu => bel_step (bel_alloc HB.out _) hu
      go_region_held_law (fun u => u.cell? ⟨w3.heap.size, 0, none⟩ = some (.int .i64 k') ∧ u.cell? ⟨w3.heap.size, 1, none⟩ = some (.int .i64 n') ∧ u.cell? ⟨w3.heap.size, 2, none⟩ = some (.string s')) (exact BU.out _ HU.out) (first
        | (go_at_call 16; refine (T2 _ (HWU.out _ HU.out)).mono ?_; rintro e w4 ⟨rfl, hb⟩; have HU : Hid (Below (w3.alloc (.cells #[.int .i64 k', .int .i64 n', .string s'] 23)).heap.size (w3.alloc (.cells #[.int .i64 k', .int .i64 n', .string s'] 23)) w4) := bel_step HU.out hb; clear hb)
        | (go_at_call 19; refine (Y2 _ (HWU.out _ HU.out)).mono ?_; rintro e w4 ⟨rfl, hb⟩; have HU : Hid (Below (w3.alloc (.cells #[.int .i64 k', .int .i64 n', .string s'] 23)).heap.size (w3.alloc (.cells #[.int .i64 k', .int .i64 n', .string s'] 23)) w4) := bel_step HU.out hb; clear hb))
      go_wp2_with fail
      replace HU : Hid (Below (w3.alloc (.cells #[.int .i64 k', .int .i64 n', .string s'] 23)).heap.size (w3.alloc (.cells #[.int .i64 k', .int .i64 n', .string s'] 23)) w4.drew) := HU.out.drew
      go_region_held_law (fun u => u.cell? ⟨w.heap.size, 0, none⟩ = some (.int .i64 k) ∧ u.cell? ⟨w.heap.size, 1, none⟩ = some (.int .i64 n) ∧ u.cell? ⟨w.heap.size, 2, none⟩ = some (.string s)) (exact BC.out _ (HWU.out _ HU.out)) (first
        | (go_at_call 14; refine (G1 _ (HWU.out _ HU.out)).mono ?_; rintro e w4 ⟨rfl, hb⟩; have HU : Hid (Below (w3.alloc (.cells #[.int .i64 k', .int .i64 n', .string s'] 23)).heap.size (w3.alloc (.cells #[.int .i64 k', .int .i64 n', .string s'] 23)) w4) := bel_step HU.out hb; clear hb)
        | (go_at_call 15; refine (G2 _ (HWU.out _ HU.out)).mono ?_; rintro e w4 ⟨rfl, hb⟩; have HU : Hid (Below (w3.alloc (.cells #[.int .i64 k', .int .i64 n', .string s'] 23)).heap.size (w3.alloc (.cells #[.int .i64 k', .int .i64 n', .string s'] 23)) w4) := bel_step HU.out hb; clear hb)
        | (go_at_call 18; refine (LV _ (HWU.out _ HU.out)).mono ?_; rintro e w4 ⟨rfl, hb⟩; have HU : Hid (Below (w3.alloc (.cells #[.int .i64 k', .int .i64 n', .string s'] 23)).heap.size (w3.alloc (.cells #[.int .i64 k', .int .i64 n', .string s'] 23)) w4) := bel_step HU.out hb; clear hb))
      go_wp2
      go_ret
      exact ⟨rfl, bel1 (HWU.out _ HU.out)⟩
end Go.Proofs.YtelpllilepkjmaaDoor
