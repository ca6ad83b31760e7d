/- NamesCmps: both tell which of two names comes first. -/
import Derived.Test.YtlndkjcincflpaaGreatDoorNmOpenX
import Derived.Test.YtlndkjcincflpaaGreatDoorNmSameX
namespace Go.Proofs.YtlndkjcincflpaaGreatDoor
open Go.RowKit Go.Nm
set_option maxRecDepth 100000
set_option linter.unusedVariables false
set_option linter.unusedSimpArgs false
set_option maxHeartbeats 8000000 in
theorem cmps_walk (a b : NM) (w : World) (T : Tab9 w) : Calls Tryz.prog 4 #[nmV a, nmV b] w fun e w' => e = .returned (.bool true) ∧ Below w.heap.size w w' := by
  have CA := fun u => ncmp_any a b u
  have CB := fun u => rcmp_any a b u
  have CC := fun u => ncmp_any b a u
  have CL : Hid (∀ u, Below w.heap.size w u → Calls Tryz.prog 8 #[] u fun e w' => e = .returned (.bool true) ∧ Below u.heap.size u w') := fun u hu => nlives_any u (T.below hu)
  have hneg := cmpK_neg a b
  have HK : Hid (∀ u u' : World, (u.heap[w.heap.size]? = some (nmO a) ∧ u.heap[w.heap.size + 1]? = some (nmO b)) → Below u.heap.size u u' → (u'.heap[w.heap.size]? = some (nmO a) ∧ u'.heap[w.heap.size + 1]? = some (nmO b))) := fun u u' h hb => ⟨(hb.block _ (lt_of h.1)).trans h.1, (hb.block _ (lt_of h.2)).trans h.2⟩
  clear T
  rcases cmpK_ways a b with h | h | h
  · rw [h] at CA CB hneg
    rw [hneg] at CC
    clear h hneg
    go_enter Tryz.func4, Tryz.ntmps4
    go_wp2
    refine wp_region_d (fun u => u.heap[w.heap.size]? = some (nmO a) ∧ u.heap[w.heap.size + 1]? = some (nmO b)) (fun _ => false) (by kernel_rfl) ?_
    have HS : Hid ((((w.alloc (nmO a)).alloc (nmO b)).drew.heap[w.heap.size]? = some (nmO a) ∧ ((w.alloc (nmO a)).alloc (nmO b)).drew.heap[w.heap.size + 1]? = some (nmO b))) := new2 ((Below.refl _ _).drew)
    have HBd : Hid (Below w.heap.size w ((w.alloc (nmO a)).alloc (nmO b)).drew) := bel2 ((Below.refl _ _).drew)
    generalize ((w.alloc (nmO a)).alloc (nmO b)).drew = u0 at *
    refine wpAnyD_loadd (i := 0) (v := nmV a) rfl rfl (by kernel_rfl) (by kernel_rfl) (by kernel_rfl) (by kernel_rfl) (fun _ _ _ h => h) (by go_simp) (fun u hSu => nexec_load rfl rfl (nload hSu.1)) HS.out ?_
    try simp only [Act.put, List.setIfInBounds_toArray, List.set_cons_zero, List.set_cons_succ]
    refine wpAnyD_loadd (i := 1) (v := nmV b) rfl rfl (by kernel_rfl) (by kernel_rfl) (by kernel_rfl) (by kernel_rfl) (fun _ _ _ h => h) (by go_simp) (fun u hSu => nexec_load rfl rfl (nload hSu.2)) HS.out ?_
    try simp only [Act.put, List.setIfInBounds_toArray, List.set_cons_zero, List.set_cons_succ]
    refine wpAnyD_loadd (i := 3) (v := nmV a) rfl rfl (by kernel_rfl) (by kernel_rfl) (by kernel_rfl) (by kernel_rfl) (fun _ _ _ h => h) (by go_simp) (fun u hSu => nexec_load rfl rfl (nload hSu.1)) HS.out ?_
    try simp only [Act.put, List.setIfInBounds_toArray, List.set_cons_zero, List.set_cons_succ]
    refine wpAnyD_loadd (i := 4) (v := nmV b) rfl rfl (by kernel_rfl) (by kernel_rfl) (by kernel_rfl) (by kernel_rfl) (fun _ _ _ h => h) (by go_simp) (fun u hSu => nexec_load rfl rfl (nload hSu.2)) HS.out ?_
    try simp only [Act.put, List.setIfInBounds_toArray, List.set_cons_zero, List.set_cons_succ]
    refine wpAnyD_one (i := 2) (by kernel_rfl) rfl ?_
    intro K' hK'
    go_simp
    refine (CA _).mono ?_
    rintro e w1 ⟨rfl, hb⟩
    have HS2 : Hid _ := HK.out _ _ HS.out hb
    have HB2 : Hid _ := bel_step HBd.out hb
    clear HS HBd hb
    have HS : Hid _ := HS2.out
    have HBd : Hid _ := HB2.out
    clear HS2 HB2
    refine hK' _ _ (.inr fun _ => HS.out) ?_
    clear hK'
    try simp only [Act.put, List.setIfInBounds_toArray, List.set_cons_zero, List.set_cons_succ]
    refine wpAnyD_one (i := 5) (by kernel_rfl) rfl ?_
    intro K' hK'
    go_simp
    refine (CB _).mono ?_
    rintro e w2 ⟨rfl, hb⟩
    have HS2 : Hid _ := HK.out _ _ HS.out hb
    have HB2 : Hid _ := bel_step HBd.out hb
    clear HS HBd hb
    have HS : Hid _ := HS2.out
    have HBd : Hid _ := HB2.out
    clear HS2 HB2
    refine hK' _ _ (.inr fun _ => HS.out) ?_
    clear hK'
    try simp only [Act.put, List.setIfInBounds_toArray, List.set_cons_zero, List.set_cons_succ]
    refine wpAnyD_pured (i := 6) (v := .bool true) rfl rfl (by kernel_rfl) (by kernel_rfl) (by kernel_rfl) (fun _ _ _ h => h) (by go_simp) (by intro u; go_simp) ?_
    try simp only [Act.put, List.setIfInBounds_toArray, List.set_cons_zero, List.set_cons_succ]
    refine wpAnyD_pured (i := 7) (v := .bool true) rfl rfl (by kernel_rfl) (by kernel_rfl) (by kernel_rfl) (fun _ _ _ h => h) (by go_simp) (by intro u; go_simp) ?_
    try simp only [Act.put, List.setIfInBounds_toArray, List.set_cons_zero, List.set_cons_succ]
    refine wpAnyD_loadd (i := 8) (v := nmV a) rfl rfl (by kernel_rfl) (by kernel_rfl) (by kernel_rfl) (by kernel_rfl) (fun _ _ _ h => h) (by go_simp) (fun u hSu => nexec_load rfl rfl (nload hSu.1)) HS.out ?_
    try simp only [Act.put, List.setIfInBounds_toArray, List.set_cons_zero, List.set_cons_succ]
    refine wpAnyD_loadd (i := 9) (v := nmV b) rfl rfl (by kernel_rfl) (by kernel_rfl) (by kernel_rfl) (by kernel_rfl) (fun _ _ _ h => h) (by go_simp) (fun u hSu => nexec_load rfl rfl (nload hSu.2)) HS.out ?_
    try simp only [Act.put, List.setIfInBounds_toArray, List.set_cons_zero, List.set_cons_succ]
    refine wpAnyD_loadd (i := 11) (v := nmV b) rfl rfl (by kernel_rfl) (by kernel_rfl) (by kernel_rfl) (by kernel_rfl) (fun _ _ _ h => h) (by go_simp) (fun u hSu => nexec_load rfl rfl (nload hSu.2)) HS.out ?_
    try simp only [Act.put, List.setIfInBounds_toArray, List.set_cons_zero, List.set_cons_succ]
    refine wpAnyD_loadd (i := 12) (v := nmV a) rfl rfl (by kernel_rfl) (by kernel_rfl) (by kernel_rfl) (by kernel_rfl) (fun _ _ _ h => h) (by go_simp) (fun u hSu => nexec_load rfl rfl (nload hSu.1)) HS.out ?_
    try simp only [Act.put, List.setIfInBounds_toArray, List.set_cons_zero, List.set_cons_succ]
    refine wpAnyD_one (i := 10) (by kernel_rfl) rfl ?_
    intro K' hK'
    go_simp
    refine (CA _).mono ?_
    rintro e w3 ⟨rfl, hb⟩
    have HS2 : Hid _ := HK.out _ _ HS.out hb
    have HB2 : Hid _ := bel_step HBd.out hb
    clear HS HBd hb
    have HS : Hid _ := HS2.out
    have HBd : Hid _ := HB2.out
    clear HS2 HB2
    refine hK' _ _ (.inr fun _ => HS.out) ?_
    clear hK'
    try simp only [Act.put, List.setIfInBounds_toArray, List.set_cons_zero, List.set_cons_succ]
    refine wpAnyD_one (i := 13) (by kernel_rfl) rfl ?_
    intro K' hK'
    go_simp
    refine (CC _).mono ?_
    rintro e w4 ⟨rfl, hb⟩
    have HS2 : Hid _ := HK.out _ _ HS.out hb
    have HB2 : Hid _ := bel_step HBd.out hb
    clear HS HBd hb
    have HS : Hid _ := HS2.out
    have HBd : Hid _ := HB2.out
    clear HS2 HB2
    refine hK' _ _ (.inr fun _ => HS.out) ?_
    clear hK'
    try simp only [Act.put, List.setIfInBounds_toArray, List.set_cons_zero, List.set_cons_succ]
    refine wpAnyD_pured (i := 14) (v := .int .i64 (-1)) rfl rfl (by kernel_rfl) (by kernel_rfl) (by kernel_rfl) (fun _ _ _ h => h) (by go_simp) (by intro u; go_simp; rfl) ?_
    try simp only [Act.put, List.setIfInBounds_toArray, List.set_cons_zero, List.set_cons_succ]
    refine wpAnyD_pured (i := 15) (v := .bool true) rfl rfl (by kernel_rfl) (by kernel_rfl) (by kernel_rfl) (fun _ _ _ h => h) (by go_simp) (by intro u; go_simp) ?_
    try simp only [Act.put, List.setIfInBounds_toArray, List.set_cons_zero, List.set_cons_succ]
    refine wpAnyD_pured (i := 16) (v := .bool true) rfl rfl (by kernel_rfl) (by kernel_rfl) (by kernel_rfl) (fun _ _ _ h => h) (by go_simp) (by intro u; go_simp) ?_
    try simp only [Act.put, List.setIfInBounds_toArray, List.set_cons_zero, List.set_cons_succ]
    refine wpAnyD_pured (i := 17) (v := .bool true) rfl rfl (by kernel_rfl) (by kernel_rfl) (by kernel_rfl) (fun _ _ _ h => h) (by go_simp) (by intro u; go_simp) ?_
    try simp only [Act.put, List.setIfInBounds_toArray, List.set_cons_zero, List.set_cons_succ]
    refine wpAnyD_one (i := 18) (by kernel_rfl) rfl ?_
    intro K' hK'
    go_simp
    refine (CL.out _ HBd.out).mono ?_
    rintro e w5 ⟨rfl, hb⟩
    have HS2 : Hid _ := HK.out _ _ HS.out hb
    have HB2 : Hid _ := bel_step HBd.out hb
    clear HS HBd hb
    have HS : Hid _ := HS2.out
    have HBd : Hid _ := HB2.out
    clear HS2 HB2
    refine hK' _ _ (.inr fun _ => HS.out) ?_
    clear hK'
    try simp only [Act.put, List.setIfInBounds_toArray, List.set_cons_zero, List.set_cons_succ]
    refine wpAnyD_pured (i := 19) (v := .bool true) rfl rfl (by kernel_rfl) (by kernel_rfl) (by kernel_rfl) (fun _ _ _ h => h) (by go_simp) (by intro u; go_simp) ?_
    try simp only [Act.put, List.setIfInBounds_toArray, List.set_cons_zero, List.set_cons_succ]
    refine wpAnyD_pured (i := 20) (v := .bool true) rfl rfl (by kernel_rfl) (by kernel_rfl) (by kernel_rfl) (fun _ _ _ h => h) (by go_simp) (by intro u; go_simp) ?_
    try simp only [Act.put, List.setIfInBounds_toArray, List.set_cons_zero, List.set_cons_succ]
    refine wpAnyD_done (by kernel_rfl) ?_ _
    go_wp2
    go_ret
    exact ⟨rfl, HBd.out⟩
  · rw [h] at CA CB hneg
    rw [hneg] at CC
    clear h hneg
    go_enter Tryz.func4, Tryz.ntmps4
    go_wp2
    refine wp_region_d (fun u => u.heap[w.heap.size]? = some (nmO a) ∧ u.heap[w.heap.size + 1]? = some (nmO b)) (fun _ => false) (by kernel_rfl) ?_
    have HS : Hid ((((w.alloc (nmO a)).alloc (nmO b)).drew.heap[w.heap.size]? = some (nmO a) ∧ ((w.alloc (nmO a)).alloc (nmO b)).drew.heap[w.heap.size + 1]? = some (nmO b))) := new2 ((Below.refl _ _).drew)
    have HBd : Hid (Below w.heap.size w ((w.alloc (nmO a)).alloc (nmO b)).drew) := bel2 ((Below.refl _ _).drew)
    generalize ((w.alloc (nmO a)).alloc (nmO b)).drew = u0 at *
    refine wpAnyD_loadd (i := 0) (v := nmV a) rfl rfl (by kernel_rfl) (by kernel_rfl) (by kernel_rfl) (by kernel_rfl) (fun _ _ _ h => h) (by go_simp) (fun u hSu => nexec_load rfl rfl (nload hSu.1)) HS.out ?_
    try simp only [Act.put, List.setIfInBounds_toArray, List.set_cons_zero, List.set_cons_succ]
    refine wpAnyD_loadd (i := 1) (v := nmV b) rfl rfl (by kernel_rfl) (by kernel_rfl) (by kernel_rfl) (by kernel_rfl) (fun _ _ _ h => h) (by go_simp) (fun u hSu => nexec_load rfl rfl (nload hSu.2)) HS.out ?_
    try simp only [Act.put, List.setIfInBounds_toArray, List.set_cons_zero, List.set_cons_succ]
    refine wpAnyD_loadd (i := 3) (v := nmV a) rfl rfl (by kernel_rfl) (by kernel_rfl) (by kernel_rfl) (by kernel_rfl) (fun _ _ _ h => h) (by go_simp) (fun u hSu => nexec_load rfl rfl (nload hSu.1)) HS.out ?_
    try simp only [Act.put, List.setIfInBounds_toArray, List.set_cons_zero, List.set_cons_succ]
    refine wpAnyD_loadd (i := 4) (v := nmV b) rfl rfl (by kernel_rfl) (by kernel_rfl) (by kernel_rfl) (by kernel_rfl) (fun _ _ _ h => h) (by go_simp) (fun u hSu => nexec_load rfl rfl (nload hSu.2)) HS.out ?_
    try simp only [Act.put, List.setIfInBounds_toArray, List.set_cons_zero, List.set_cons_succ]
    refine wpAnyD_one (i := 2) (by kernel_rfl) rfl ?_
    intro K' hK'
    go_simp
    refine (CA _).mono ?_
    rintro e w1 ⟨rfl, hb⟩
    have HS2 : Hid _ := HK.out _ _ HS.out hb
    have HB2 : Hid _ := bel_step HBd.out hb
    clear HS HBd hb
    have HS : Hid _ := HS2.out
    have HBd : Hid _ := HB2.out
    clear HS2 HB2
    refine hK' _ _ (.inr fun _ => HS.out) ?_
    clear hK'
    try simp only [Act.put, List.setIfInBounds_toArray, List.set_cons_zero, List.set_cons_succ]
    refine wpAnyD_one (i := 5) (by kernel_rfl) rfl ?_
    intro K' hK'
    go_simp
    refine (CB _).mono ?_
    rintro e w2 ⟨rfl, hb⟩
    have HS2 : Hid _ := HK.out _ _ HS.out hb
    have HB2 : Hid _ := bel_step HBd.out hb
    clear HS HBd hb
    have HS : Hid _ := HS2.out
    have HBd : Hid _ := HB2.out
    clear HS2 HB2
    refine hK' _ _ (.inr fun _ => HS.out) ?_
    clear hK'
    try simp only [Act.put, List.setIfInBounds_toArray, List.set_cons_zero, List.set_cons_succ]
    refine wpAnyD_pured (i := 6) (v := .bool true) rfl rfl (by kernel_rfl) (by kernel_rfl) (by kernel_rfl) (fun _ _ _ h => h) (by go_simp) (by intro u; go_simp) ?_
    try simp only [Act.put, List.setIfInBounds_toArray, List.set_cons_zero, List.set_cons_succ]
    refine wpAnyD_pured (i := 7) (v := .bool true) rfl rfl (by kernel_rfl) (by kernel_rfl) (by kernel_rfl) (fun _ _ _ h => h) (by go_simp) (by intro u; go_simp) ?_
    try simp only [Act.put, List.setIfInBounds_toArray, List.set_cons_zero, List.set_cons_succ]
    refine wpAnyD_loadd (i := 8) (v := nmV a) rfl rfl (by kernel_rfl) (by kernel_rfl) (by kernel_rfl) (by kernel_rfl) (fun _ _ _ h => h) (by go_simp) (fun u hSu => nexec_load rfl rfl (nload hSu.1)) HS.out ?_
    try simp only [Act.put, List.setIfInBounds_toArray, List.set_cons_zero, List.set_cons_succ]
    refine wpAnyD_loadd (i := 9) (v := nmV b) rfl rfl (by kernel_rfl) (by kernel_rfl) (by kernel_rfl) (by kernel_rfl) (fun _ _ _ h => h) (by go_simp) (fun u hSu => nexec_load rfl rfl (nload hSu.2)) HS.out ?_
    try simp only [Act.put, List.setIfInBounds_toArray, List.set_cons_zero, List.set_cons_succ]
    refine wpAnyD_loadd (i := 11) (v := nmV b) rfl rfl (by kernel_rfl) (by kernel_rfl) (by kernel_rfl) (by kernel_rfl) (fun _ _ _ h => h) (by go_simp) (fun u hSu => nexec_load rfl rfl (nload hSu.2)) HS.out ?_
    try simp only [Act.put, List.setIfInBounds_toArray, List.set_cons_zero, List.set_cons_succ]
    refine wpAnyD_loadd (i := 12) (v := nmV a) rfl rfl (by kernel_rfl) (by kernel_rfl) (by kernel_rfl) (by kernel_rfl) (fun _ _ _ h => h) (by go_simp) (fun u hSu => nexec_load rfl rfl (nload hSu.1)) HS.out ?_
    try simp only [Act.put, List.setIfInBounds_toArray, List.set_cons_zero, List.set_cons_succ]
    refine wpAnyD_one (i := 10) (by kernel_rfl) rfl ?_
    intro K' hK'
    go_simp
    refine (CA _).mono ?_
    rintro e w3 ⟨rfl, hb⟩
    have HS2 : Hid _ := HK.out _ _ HS.out hb
    have HB2 : Hid _ := bel_step HBd.out hb
    clear HS HBd hb
    have HS : Hid _ := HS2.out
    have HBd : Hid _ := HB2.out
    clear HS2 HB2
    refine hK' _ _ (.inr fun _ => HS.out) ?_
    clear hK'
    try simp only [Act.put, List.setIfInBounds_toArray, List.set_cons_zero, List.set_cons_succ]
    refine wpAnyD_one (i := 13) (by kernel_rfl) rfl ?_
    intro K' hK'
    go_simp
    refine (CC _).mono ?_
    rintro e w4 ⟨rfl, hb⟩
    have HS2 : Hid _ := HK.out _ _ HS.out hb
    have HB2 : Hid _ := bel_step HBd.out hb
    clear HS HBd hb
    have HS : Hid _ := HS2.out
    have HBd : Hid _ := HB2.out
    clear HS2 HB2
    refine hK' _ _ (.inr fun _ => HS.out) ?_
    clear hK'
    try simp only [Act.put, List.setIfInBounds_toArray, List.set_cons_zero, List.set_cons_succ]
    refine wpAnyD_pured (i := 14) (v := .int .i64 (0)) rfl rfl (by kernel_rfl) (by kernel_rfl) (by kernel_rfl) (fun _ _ _ h => h) (by go_simp) (by intro u; go_simp; rfl) ?_
    try simp only [Act.put, List.setIfInBounds_toArray, List.set_cons_zero, List.set_cons_succ]
    refine wpAnyD_pured (i := 15) (v := .bool true) rfl rfl (by kernel_rfl) (by kernel_rfl) (by kernel_rfl) (fun _ _ _ h => h) (by go_simp) (by intro u; go_simp) ?_
    try simp only [Act.put, List.setIfInBounds_toArray, List.set_cons_zero, List.set_cons_succ]
    refine wpAnyD_pured (i := 16) (v := .bool true) rfl rfl (by kernel_rfl) (by kernel_rfl) (by kernel_rfl) (fun _ _ _ h => h) (by go_simp) (by intro u; go_simp) ?_
    try simp only [Act.put, List.setIfInBounds_toArray, List.set_cons_zero, List.set_cons_succ]
    refine wpAnyD_pured (i := 17) (v := .bool true) rfl rfl (by kernel_rfl) (by kernel_rfl) (by kernel_rfl) (fun _ _ _ h => h) (by go_simp) (by intro u; go_simp) ?_
    try simp only [Act.put, List.setIfInBounds_toArray, List.set_cons_zero, List.set_cons_succ]
    refine wpAnyD_one (i := 18) (by kernel_rfl) rfl ?_
    intro K' hK'
    go_simp
    refine (CL.out _ HBd.out).mono ?_
    rintro e w5 ⟨rfl, hb⟩
    have HS2 : Hid _ := HK.out _ _ HS.out hb
    have HB2 : Hid _ := bel_step HBd.out hb
    clear HS HBd hb
    have HS : Hid _ := HS2.out
    have HBd : Hid _ := HB2.out
    clear HS2 HB2
    refine hK' _ _ (.inr fun _ => HS.out) ?_
    clear hK'
    try simp only [Act.put, List.setIfInBounds_toArray, List.set_cons_zero, List.set_cons_succ]
    refine wpAnyD_pured (i := 19) (v := .bool true) rfl rfl (by kernel_rfl) (by kernel_rfl) (by kernel_rfl) (fun _ _ _ h => h) (by go_simp) (by intro u; go_simp) ?_
    try simp only [Act.put, List.setIfInBounds_toArray, List.set_cons_zero, List.set_cons_succ]
    refine wpAnyD_pured (i := 20) (v := .bool true) rfl rfl (by kernel_rfl) (by kernel_rfl) (by kernel_rfl) (fun _ _ _ h => h) (by go_simp) (by intro u; go_simp) ?_
    try simp only [Act.put, List.setIfInBounds_toArray, List.set_cons_zero, List.set_cons_succ]
    refine wpAnyD_done (by kernel_rfl) ?_ _
    go_wp2
    go_ret
    exact ⟨rfl, HBd.out⟩
  · rw [h] at CA CB hneg
    rw [hneg] at CC
    clear h hneg
    go_enter Tryz.func4, Tryz.ntmps4
    go_wp2
    refine wp_region_d (fun u => u.heap[w.heap.size]? = some (nmO a) ∧ u.heap[w.heap.size + 1]? = some (nmO b)) (fun _ => false) (by kernel_rfl) ?_
    have HS : Hid ((((w.alloc (nmO a)).alloc (nmO b)).drew.heap[w.heap.size]? = some (nmO a) ∧ ((w.alloc (nmO a)).alloc (nmO b)).drew.heap[w.heap.size + 1]? = some (nmO b))) := new2 ((Below.refl _ _).drew)
    have HBd : Hid (Below w.heap.size w ((w.alloc (nmO a)).alloc (nmO b)).drew) := bel2 ((Below.refl _ _).drew)
    generalize ((w.alloc (nmO a)).alloc (nmO b)).drew = u0 at *
    refine wpAnyD_loadd (i := 0) (v := nmV a) rfl rfl (by kernel_rfl) (by kernel_rfl) (by kernel_rfl) (by kernel_rfl) (fun _ _ _ h => h) (by go_simp) (fun u hSu => nexec_load rfl rfl (nload hSu.1)) HS.out ?_
    try simp only [Act.put, List.setIfInBounds_toArray, List.set_cons_zero, List.set_cons_succ]
    refine wpAnyD_loadd (i := 1) (v := nmV b) rfl rfl (by kernel_rfl) (by kernel_rfl) (by kernel_rfl) (by kernel_rfl) (fun _ _ _ h => h) (by go_simp) (fun u hSu => nexec_load rfl rfl (nload hSu.2)) HS.out ?_
    try simp only [Act.put, List.setIfInBounds_toArray, List.set_cons_zero, List.set_cons_succ]
    refine wpAnyD_loadd (i := 3) (v := nmV a) rfl rfl (by kernel_rfl) (by kernel_rfl) (by kernel_rfl) (by kernel_rfl) (fun _ _ _ h => h) (by go_simp) (fun u hSu => nexec_load rfl rfl (nload hSu.1)) HS.out ?_
    try simp only [Act.put, List.setIfInBounds_toArray, List.set_cons_zero, List.set_cons_succ]
    refine wpAnyD_loadd (i := 4) (v := nmV b) rfl rfl (by kernel_rfl) (by kernel_rfl) (by kernel_rfl) (by kernel_rfl) (fun _ _ _ h => h) (by go_simp) (fun u hSu => nexec_load rfl rfl (nload hSu.2)) HS.out ?_
    try simp only [Act.put, List.setIfInBounds_toArray, List.set_cons_zero, List.set_cons_succ]
    refine wpAnyD_one (i := 2) (by kernel_rfl) rfl ?_
    intro K' hK'
    go_simp
    refine (CA _).mono ?_
    rintro e w1 ⟨rfl, hb⟩
    have HS2 : Hid _ := HK.out _ _ HS.out hb
    have HB2 : Hid _ := bel_step HBd.out hb
    clear HS HBd hb
    have HS : Hid _ := HS2.out
    have HBd : Hid _ := HB2.out
    clear HS2 HB2
    refine hK' _ _ (.inr fun _ => HS.out) ?_
    clear hK'
    try simp only [Act.put, List.setIfInBounds_toArray, List.set_cons_zero, List.set_cons_succ]
    refine wpAnyD_one (i := 5) (by kernel_rfl) rfl ?_
    intro K' hK'
    go_simp
    refine (CB _).mono ?_
    rintro e w2 ⟨rfl, hb⟩
    have HS2 : Hid _ := HK.out _ _ HS.out hb
    have HB2 : Hid _ := bel_step HBd.out hb
    clear HS HBd hb
    have HS : Hid _ := HS2.out
    have HBd : Hid _ := HB2.out
    clear HS2 HB2
    refine hK' _ _ (.inr fun _ => HS.out) ?_
    clear hK'
    try simp only [Act.put, List.setIfInBounds_toArray, List.set_cons_zero, List.set_cons_succ]
    refine wpAnyD_pured (i := 6) (v := .bool true) rfl rfl (by kernel_rfl) (by kernel_rfl) (by kernel_rfl) (fun _ _ _ h => h) (by go_simp) (by intro u; go_simp) ?_
    try simp only [Act.put, List.setIfInBounds_toArray, List.set_cons_zero, List.set_cons_succ]
    refine wpAnyD_pured (i := 7) (v := .bool true) rfl rfl (by kernel_rfl) (by kernel_rfl) (by kernel_rfl) (fun _ _ _ h => h) (by go_simp) (by intro u; go_simp) ?_
    try simp only [Act.put, List.setIfInBounds_toArray, List.set_cons_zero, List.set_cons_succ]
    refine wpAnyD_loadd (i := 8) (v := nmV a) rfl rfl (by kernel_rfl) (by kernel_rfl) (by kernel_rfl) (by kernel_rfl) (fun _ _ _ h => h) (by go_simp) (fun u hSu => nexec_load rfl rfl (nload hSu.1)) HS.out ?_
    try simp only [Act.put, List.setIfInBounds_toArray, List.set_cons_zero, List.set_cons_succ]
    refine wpAnyD_loadd (i := 9) (v := nmV b) rfl rfl (by kernel_rfl) (by kernel_rfl) (by kernel_rfl) (by kernel_rfl) (fun _ _ _ h => h) (by go_simp) (fun u hSu => nexec_load rfl rfl (nload hSu.2)) HS.out ?_
    try simp only [Act.put, List.setIfInBounds_toArray, List.set_cons_zero, List.set_cons_succ]
    refine wpAnyD_loadd (i := 11) (v := nmV b) rfl rfl (by kernel_rfl) (by kernel_rfl) (by kernel_rfl) (by kernel_rfl) (fun _ _ _ h => h) (by go_simp) (fun u hSu => nexec_load rfl rfl (nload hSu.2)) HS.out ?_
    try simp only [Act.put, List.setIfInBounds_toArray, List.set_cons_zero, List.set_cons_succ]
    refine wpAnyD_loadd (i := 12) (v := nmV a) rfl rfl (by kernel_rfl) (by kernel_rfl) (by kernel_rfl) (by kernel_rfl) (fun _ _ _ h => h) (by go_simp) (fun u hSu => nexec_load rfl rfl (nload hSu.1)) HS.out ?_
    try simp only [Act.put, List.setIfInBounds_toArray, List.set_cons_zero, List.set_cons_succ]
    refine wpAnyD_one (i := 10) (by kernel_rfl) rfl ?_
    intro K' hK'
    go_simp
    refine (CA _).mono ?_
    rintro e w3 ⟨rfl, hb⟩
    have HS2 : Hid _ := HK.out _ _ HS.out hb
    have HB2 : Hid _ := bel_step HBd.out hb
    clear HS HBd hb
    have HS : Hid _ := HS2.out
    have HBd : Hid _ := HB2.out
    clear HS2 HB2
    refine hK' _ _ (.inr fun _ => HS.out) ?_
    clear hK'
    try simp only [Act.put, List.setIfInBounds_toArray, List.set_cons_zero, List.set_cons_succ]
    refine wpAnyD_one (i := 13) (by kernel_rfl) rfl ?_
    intro K' hK'
    go_simp
    refine (CC _).mono ?_
    rintro e w4 ⟨rfl, hb⟩
    have HS2 : Hid _ := HK.out _ _ HS.out hb
    have HB2 : Hid _ := bel_step HBd.out hb
    clear HS HBd hb
    have HS : Hid _ := HS2.out
    have HBd : Hid _ := HB2.out
    clear HS2 HB2
    refine hK' _ _ (.inr fun _ => HS.out) ?_
    clear hK'
    try simp only [Act.put, List.setIfInBounds_toArray, List.set_cons_zero, List.set_cons_succ]
    refine wpAnyD_pured (i := 14) (v := .int .i64 (1)) rfl rfl (by kernel_rfl) (by kernel_rfl) (by kernel_rfl) (fun _ _ _ h => h) (by go_simp) (by intro u; go_simp; rfl) ?_
    try simp only [Act.put, List.setIfInBounds_toArray, List.set_cons_zero, List.set_cons_succ]
    refine wpAnyD_pured (i := 15) (v := .bool true) rfl rfl (by kernel_rfl) (by kernel_rfl) (by kernel_rfl) (fun _ _ _ h => h) (by go_simp) (by intro u; go_simp) ?_
    try simp only [Act.put, List.setIfInBounds_toArray, List.set_cons_zero, List.set_cons_succ]
    refine wpAnyD_pured (i := 16) (v := .bool true) rfl rfl (by kernel_rfl) (by kernel_rfl) (by kernel_rfl) (fun _ _ _ h => h) (by go_simp) (by intro u; go_simp) ?_
    try simp only [Act.put, List.setIfInBounds_toArray, List.set_cons_zero, List.set_cons_succ]
    refine wpAnyD_pured (i := 17) (v := .bool true) rfl rfl (by kernel_rfl) (by kernel_rfl) (by kernel_rfl) (fun _ _ _ h => h) (by go_simp) (by intro u; go_simp) ?_
    try simp only [Act.put, List.setIfInBounds_toArray, List.set_cons_zero, List.set_cons_succ]
    refine wpAnyD_one (i := 18) (by kernel_rfl) rfl ?_
    intro K' hK'
    go_simp
    refine (CL.out _ HBd.out).mono ?_
    rintro e w5 ⟨rfl, hb⟩
    have HS2 : Hid _ := HK.out _ _ HS.out hb
    have HB2 : Hid _ := bel_step HBd.out hb
    clear HS HBd hb
    have HS : Hid _ := HS2.out
    have HBd : Hid _ := HB2.out
    clear HS2 HB2
    refine hK' _ _ (.inr fun _ => HS.out) ?_
    clear hK'
    try simp only [Act.put, List.setIfInBounds_toArray, List.set_cons_zero, List.set_cons_succ]
    refine wpAnyD_pured (i := 19) (v := .bool true) rfl rfl (by kernel_rfl) (by kernel_rfl) (by kernel_rfl) (fun _ _ _ h => h) (by go_simp) (by intro u; go_simp) ?_
    try simp only [Act.put, List.setIfInBounds_toArray, List.set_cons_zero, List.set_cons_succ]
    refine wpAnyD_pured (i := 20) (v := .bool true) rfl rfl (by kernel_rfl) (by kernel_rfl) (by kernel_rfl) (fun _ _ _ h => h) (by go_simp) (by intro u; go_simp) ?_
    try simp only [Act.put, List.setIfInBounds_toArray, List.set_cons_zero, List.set_cons_succ]
    refine wpAnyD_done (by kernel_rfl) ?_ _
    go_wp2
    go_ret
    exact ⟨rfl, HBd.out⟩
end Go.Proofs.YtlndkjcincflpaaGreatDoor
