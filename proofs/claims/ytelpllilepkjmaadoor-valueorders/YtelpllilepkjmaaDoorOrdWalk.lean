/- The walk of the law ValueOrders, where no value is a Blank. -/
import Derived.Test.YtelpllilepkjmaaDoorVOrd
namespace Go.Proofs.YtelpllilepkjmaaDoor
open Go.RowKit
set_option maxRecDepth 100000
set_option linter.unusedVariables false
set_option linter.unusedSimpArgs false
set_option maxHeartbeats 8000000 in
theorem orders_gt {w : World} {k1 n1 k2 n2 k3 n3 y z X Y : Int} {s1 s2 s3 : ByteArray} (hX : (X != -Y) = false) (hY1 : -1 ≤ Y) (hY2 : Y ≤ 1) (hx : ¬ X ≤ 0) (g1 : (k1 == 0) = false) (g2 : (k2 == 0) = false) (g3 : (k3 == 0) = false)
    (AB : RC (((w.alloc (.cells #[.int .i64 k1, .int .i64 n1, .string s1] 23)).alloc (.cells #[.int .i64 k2, .int .i64 n2, .string s2] 23)).alloc (.cells #[.int .i64 k3, .int .i64 n3, .string s3] 23)) 34 #[.agg #[.int .i64 k1, .int .i64 n1, .string s1], .agg #[.int .i64 k2, .int .i64 n2, .string s2]] (.int .i64 X))
    (BA : RC (((w.alloc (.cells #[.int .i64 k1, .int .i64 n1, .string s1] 23)).alloc (.cells #[.int .i64 k2, .int .i64 n2, .string s2] 23)).alloc (.cells #[.int .i64 k3, .int .i64 n3, .string s3] 23)) 34 #[.agg #[.int .i64 k2, .int .i64 n2, .string s2], .agg #[.int .i64 k1, .int .i64 n1, .string s1]] (.int .i64 Y))
    (AA : RC (((w.alloc (.cells #[.int .i64 k1, .int .i64 n1, .string s1] 23)).alloc (.cells #[.int .i64 k2, .int .i64 n2, .string s2] 23)).alloc (.cells #[.int .i64 k3, .int .i64 n3, .string s3] 23)) 34 #[.agg #[.int .i64 k1, .int .i64 n1, .string s1], .agg #[.int .i64 k1, .int .i64 n1, .string s1]] (.int .i64 0))
    (BC : RC (((w.alloc (.cells #[.int .i64 k1, .int .i64 n1, .string s1] 23)).alloc (.cells #[.int .i64 k2, .int .i64 n2, .string s2] 23)).alloc (.cells #[.int .i64 k3, .int .i64 n3, .string s3] 23)) 34 #[.agg #[.int .i64 k2, .int .i64 n2, .string s2], .agg #[.int .i64 k3, .int .i64 n3, .string s3]] (.int .i64 y))
    (AC : RC (((w.alloc (.cells #[.int .i64 k1, .int .i64 n1, .string s1] 23)).alloc (.cells #[.int .i64 k2, .int .i64 n2, .string s2] 23)).alloc (.cells #[.int .i64 k3, .int .i64 n3, .string s3] 23)) 34 #[.agg #[.int .i64 k1, .int .i64 n1, .string s1], .agg #[.int .i64 k3, .int .i64 n3, .string s3]] (.int .i64 z))
    (LV : RC (((w.alloc (.cells #[.int .i64 k1, .int .i64 n1, .string s1] 23)).alloc (.cells #[.int .i64 k2, .int .i64 n2, .string s2] 23)).alloc (.cells #[.int .i64 k3, .int .i64 n3, .string s3] 23)) 18 #[] (.bool true)) :
    Calls Tryd.prog 6 #[.agg #[.int .i64 k1, .int .i64 n1, .string s1], .agg #[.int .i64 k2, .int .i64 n2, .string s2], .agg #[.int .i64 k3, .int .i64 n3, .string s3]] w fun e w' => e = .returned (.bool true) ∧ Below w.heap.size w w' := by
  have HB : Hid (Below (((w.alloc (.cells #[.int .i64 k1, .int .i64 n1, .string s1] 23)).alloc (.cells #[.int .i64 k2, .int .i64 n2, .string s2] 23)).alloc (.cells #[.int .i64 k3, .int .i64 n3, .string s3] 23)).heap.size (((w.alloc (.cells #[.int .i64 k1, .int .i64 n1, .string s1] 23)).alloc (.cells #[.int .i64 k2, .int .i64 n2, .string s2] 23)).alloc (.cells #[.int .i64 k3, .int .i64 n3, .string s3] 23)) (((w.alloc (.cells #[.int .i64 k1, .int .i64 n1, .string s1] 23)).alloc (.cells #[.int .i64 k2, .int .i64 n2, .string s2] 23)).alloc (.cells #[.int .i64 k3, .int .i64 n3, .string s3] 23))) := Below.refl _ _
  have BC3 : Hid (∀ u : World, Below (((w.alloc (.cells #[.int .i64 k1, .int .i64 n1, .string s1] 23)).alloc (.cells #[.int .i64 k2, .int .i64 n2, .string s2] 23)).alloc (.cells #[.int .i64 k3, .int .i64 n3, .string s3] 23)).heap.size (((w.alloc (.cells #[.int .i64 k1, .int .i64 n1, .string s1] 23)).alloc (.cells #[.int .i64 k2, .int .i64 n2, .string s2] 23)).alloc (.cells #[.int .i64 k3, .int .i64 n3, .string s3] 23)) u → (u.cell? ⟨w.heap.size, 0, none⟩ = some (.int .i64 k1) ∧ u.cell? ⟨w.heap.size, 1, none⟩ = some (.int .i64 n1) ∧ u.cell? ⟨w.heap.size, 2, none⟩ = some (.string s1)) ∧ (u.cell? ⟨w.heap.size + 1, 0, none⟩ = some (.int .i64 k2) ∧ u.cell? ⟨w.heap.size + 1, 1, none⟩ = some (.int .i64 n2) ∧ u.cell? ⟨w.heap.size + 1, 2, none⟩ = some (.string s2)) ∧ (u.cell? ⟨w.heap.size + 1 + 1, 0, none⟩ = some (.int .i64 k3) ∧ u.cell? ⟨w.heap.size + 1 + 1, 1, none⟩ = some (.int .i64 n3) ∧ u.cell? ⟨w.heap.size + 1 + 1, 2, none⟩ = some (.string s3))) := fun u hu => three_box hu
  have hwr : IntKind.i64.wrap (-Y) = -Y := by
    have h3 : Y = -1 ∨ Y = 0 ∨ Y = 1 := by omega
    rcases h3 with rfl | rfl | rfl <;> rfl
  go_enter Tryd.func6, Tryd.ntmps6
  go_wp2_with fail
  have HW : Hid (∀ x, Below (((w.alloc (.cells #[.int .i64 k1, .int .i64 n1, .string s1] 23)).alloc (.cells #[.int .i64 k2, .int .i64 n2, .string s2] 23)).alloc (.cells #[.int .i64 k3, .int .i64 n3, .string s3] 23)).heap.size (((w.alloc (.cells #[.int .i64 k1, .int .i64 n1, .string s1] 23)).alloc (.cells #[.int .i64 k2, .int .i64 n2, .string s2] 23)).alloc (.cells #[.int .i64 k3, .int .i64 n3, .string s3] 23)) x → Below w.heap.size w x) := fun x hx => three_below hx
  generalize (((w.alloc (.cells #[.int .i64 k1, .int .i64 n1, .string s1] 23)).alloc (.cells #[.int .i64 k2, .int .i64 n2, .string s2] 23)).alloc (.cells #[.int .i64 k3, .int .i64 n3, .string s3] 23)) = W0 at *
  replace HB : Hid (Below W0.heap.size W0 W0.drew) := HB.out.drew
  refine wp_region_d (fun x => Below W0.heap.size W0 x) (fun _ => false) (by kernel_rfl) ?_
  refine wpAnyD_loadd (i := 0) (v := .agg #[.int .i64 k1, .int .i64 n1, .string s1]) rfl rfl (by kernel_rfl) (by kernel_rfl) (by kernel_rfl) (by kernel_rfl) (fun _ _ _ h => h) (by go_simp) (fun x hx => exec_ld23 rfl rfl (BC3.out _ hx).1) HB.out ?_
  try simp only [Act.put, List.setIfInBounds_toArray, List.set_cons_zero, List.set_cons_succ]
  refine wpAnyD_loadd (i := 1) (v := .agg #[.int .i64 k2, .int .i64 n2, .string s2]) rfl rfl (by kernel_rfl) (by kernel_rfl) (by kernel_rfl) (by kernel_rfl) (fun _ _ _ h => h) (by go_simp) (fun x hx => exec_ld23 rfl rfl (BC3.out _ hx).2.1) HB.out ?_
  try simp only [Act.put, List.setIfInBounds_toArray, List.set_cons_zero, List.set_cons_succ]
  refine wpAnyD_loadd (i := 3) (v := .agg #[.int .i64 k2, .int .i64 n2, .string s2]) rfl rfl (by kernel_rfl) (by kernel_rfl) (by kernel_rfl) (by kernel_rfl) (fun _ _ _ h => h) (by go_simp) (fun x hx => exec_ld23 rfl rfl (BC3.out _ hx).2.1) HB.out ?_
  try simp only [Act.put, List.setIfInBounds_toArray, List.set_cons_zero, List.set_cons_succ]
  refine wpAnyD_loadd (i := 4) (v := .agg #[.int .i64 k1, .int .i64 n1, .string s1]) rfl rfl (by kernel_rfl) (by kernel_rfl) (by kernel_rfl) (by kernel_rfl) (fun _ _ _ h => h) (by go_simp) (fun x hx => exec_ld23 rfl rfl (BC3.out _ hx).1) HB.out ?_
  try simp only [Act.put, List.setIfInBounds_toArray, List.set_cons_zero, List.set_cons_succ]
  refine wpAnyD_one (i := 2) (by kernel_rfl) rfl ?_
  intro K hK
  go_simp
  refine (AB _ HB.out).mono ?_
  rintro e y1 ⟨rfl, hb⟩
  replace HB : Hid (Below W0.heap.size W0 y1) := hb
  refine hK _ _ (.inr fun _ => hb) ?_
  clear hK hb
  try simp only [Act.put, List.setIfInBounds_toArray, List.set_cons_zero, List.set_cons_succ]
  refine wpAnyD_one (i := 5) (by kernel_rfl) rfl ?_
  intro K hK
  go_simp
  refine (BA _ HB.out).mono ?_
  rintro e y2 ⟨rfl, hb⟩
  replace HB : Hid (Below W0.heap.size W0 y2) := hb
  refine hK _ _ (.inr fun _ => hb) ?_
  clear hK hb
  try simp only [Act.put, List.setIfInBounds_toArray, List.set_cons_zero, List.set_cons_succ]
  refine wpAnyD_pured (i := 6) (v := .int .i64 (-Y)) rfl rfl (by kernel_rfl) (by kernel_rfl) (by kernel_rfl) (fun _ _ _ h => h) (by go_simp) (by intro x; go_simp) ?_
  try simp only [Act.put, List.setIfInBounds_toArray, List.set_cons_zero, List.set_cons_succ]
  refine wpAnyD_pured (i := 7) (v := .bool false) rfl rfl (by kernel_rfl) (by kernel_rfl) (by kernel_rfl) (fun _ _ _ h => h) (by go_simp) (by intro x; go_simp) ?_
  try simp only [Act.put, List.setIfInBounds_toArray, List.set_cons_zero, List.set_cons_succ]
  refine wpAnyD_pured (i := 8) (v := .bool false) rfl rfl (by kernel_rfl) (by kernel_rfl) (by kernel_rfl) (fun _ _ _ h => h) (by go_simp) (by intro x; go_simp) ?_
  try simp only [Act.put, List.setIfInBounds_toArray, List.set_cons_zero, List.set_cons_succ]
  refine wpAnyD_loadd (i := 9) (v := .agg #[.int .i64 k1, .int .i64 n1, .string s1]) rfl rfl (by kernel_rfl) (by kernel_rfl) (by kernel_rfl) (by kernel_rfl) (fun _ _ _ h => h) (by go_simp) (fun x hx => exec_ld23 rfl rfl (BC3.out _ hx).1) HB.out ?_
  try simp only [Act.put, List.setIfInBounds_toArray, List.set_cons_zero, List.set_cons_succ]
  refine wpAnyD_loadd (i := 10) (v := .agg #[.int .i64 k1, .int .i64 n1, .string s1]) rfl rfl (by kernel_rfl) (by kernel_rfl) (by kernel_rfl) (by kernel_rfl) (fun _ _ _ h => h) (by go_simp) (fun x hx => exec_ld23 rfl rfl (BC3.out _ hx).1) HB.out ?_
  try simp only [Act.put, List.setIfInBounds_toArray, List.set_cons_zero, List.set_cons_succ]
  refine wpAnyD_one (i := 11) (by kernel_rfl) rfl ?_
  intro K hK
  go_simp
  refine (AA _ HB.out).mono ?_
  rintro e y3 ⟨rfl, hb⟩
  replace HB : Hid (Below W0.heap.size W0 y3) := hb
  refine hK _ _ (.inr fun _ => hb) ?_
  clear hK hb
  try simp only [Act.put, List.setIfInBounds_toArray, List.set_cons_zero, List.set_cons_succ]
  refine wpAnyD_pured (i := 12) (v := .bool false) rfl rfl (by kernel_rfl) (by kernel_rfl) (by kernel_rfl) (fun _ _ _ h => h) (by go_simp) (by intro x; go_simp) ?_
  try simp only [Act.put, List.setIfInBounds_toArray, List.set_cons_zero, List.set_cons_succ]
  refine wpAnyD_pured (i := 13) (v := .bool false) rfl rfl (by kernel_rfl) (by kernel_rfl) (by kernel_rfl) (fun _ _ _ h => h) (by go_simp) (by intro x; go_simp) ?_
  try simp only [Act.put, List.setIfInBounds_toArray, List.set_cons_zero, List.set_cons_succ]
  refine wpAnyD_done (by kernel_rfl) ?_ _
  obtain ⟨⟨p0, p1, p2⟩, ⟨q0, q1, q2⟩, o0, o1, o2⟩ := BC3.out _ HB.out
  go_wp2_with fail
  refine (AB _ HB.out).mono ?_
  rintro e v1 ⟨rfl, hb⟩
  replace HB : Hid (Below W0.heap.size W0 v1) := hb
  clear hb p0 p1 p2 q0 q1 q2 o0 o1 o2
  obtain ⟨⟨p0, p1, p2⟩, ⟨q0, q1, q2⟩, o0, o1, o2⟩ := BC3.out _ HB.out
  go_wp2_with fail
  refine (LV _ HB.out).mono ?_
  rintro e v2 ⟨rfl, hb⟩
  replace HB : Hid (Below W0.heap.size W0 v2) := hb
  clear hb p0 p1 p2 q0 q1 q2 o0 o1 o2
  go_wp2
  go_ret
  exact ⟨rfl, HW.out _ HB.out⟩
set_option maxHeartbeats 8000000 in
theorem orders_no {w : World} {k1 n1 k2 n2 k3 n3 y z X Y : Int} {s1 s2 s3 : ByteArray} (hX : (X != -Y) = false) (hY1 : -1 ≤ Y) (hY2 : Y ≤ 1) (hx : X ≤ 0) (g1 : (k1 == 0) = false) (g2 : (k2 == 0) = false) (g3 : (k3 == 0) = false) (hy : ¬ y ≤ 0)
    (AB : RC (((w.alloc (.cells #[.int .i64 k1, .int .i64 n1, .string s1] 23)).alloc (.cells #[.int .i64 k2, .int .i64 n2, .string s2] 23)).alloc (.cells #[.int .i64 k3, .int .i64 n3, .string s3] 23)) 34 #[.agg #[.int .i64 k1, .int .i64 n1, .string s1], .agg #[.int .i64 k2, .int .i64 n2, .string s2]] (.int .i64 X))
    (BA : RC (((w.alloc (.cells #[.int .i64 k1, .int .i64 n1, .string s1] 23)).alloc (.cells #[.int .i64 k2, .int .i64 n2, .string s2] 23)).alloc (.cells #[.int .i64 k3, .int .i64 n3, .string s3] 23)) 34 #[.agg #[.int .i64 k2, .int .i64 n2, .string s2], .agg #[.int .i64 k1, .int .i64 n1, .string s1]] (.int .i64 Y))
    (AA : RC (((w.alloc (.cells #[.int .i64 k1, .int .i64 n1, .string s1] 23)).alloc (.cells #[.int .i64 k2, .int .i64 n2, .string s2] 23)).alloc (.cells #[.int .i64 k3, .int .i64 n3, .string s3] 23)) 34 #[.agg #[.int .i64 k1, .int .i64 n1, .string s1], .agg #[.int .i64 k1, .int .i64 n1, .string s1]] (.int .i64 0))
    (BC : RC (((w.alloc (.cells #[.int .i64 k1, .int .i64 n1, .string s1] 23)).alloc (.cells #[.int .i64 k2, .int .i64 n2, .string s2] 23)).alloc (.cells #[.int .i64 k3, .int .i64 n3, .string s3] 23)) 34 #[.agg #[.int .i64 k2, .int .i64 n2, .string s2], .agg #[.int .i64 k3, .int .i64 n3, .string s3]] (.int .i64 y))
    (AC : RC (((w.alloc (.cells #[.int .i64 k1, .int .i64 n1, .string s1] 23)).alloc (.cells #[.int .i64 k2, .int .i64 n2, .string s2] 23)).alloc (.cells #[.int .i64 k3, .int .i64 n3, .string s3] 23)) 34 #[.agg #[.int .i64 k1, .int .i64 n1, .string s1], .agg #[.int .i64 k3, .int .i64 n3, .string s3]] (.int .i64 z))
    (LV : RC (((w.alloc (.cells #[.int .i64 k1, .int .i64 n1, .string s1] 23)).alloc (.cells #[.int .i64 k2, .int .i64 n2, .string s2] 23)).alloc (.cells #[.int .i64 k3, .int .i64 n3, .string s3] 23)) 18 #[] (.bool true)) :
    Calls Tryd.prog 6 #[.agg #[.int .i64 k1, .int .i64 n1, .string s1], .agg #[.int .i64 k2, .int .i64 n2, .string s2], .agg #[.int .i64 k3, .int .i64 n3, .string s3]] w fun e w' => e = .returned (.bool true) ∧ Below w.heap.size w w' := by
  have HB : Hid (Below (((w.alloc (.cells #[.int .i64 k1, .int .i64 n1, .string s1] 23)).alloc (.cells #[.int .i64 k2, .int .i64 n2, .string s2] 23)).alloc (.cells #[.int .i64 k3, .int .i64 n3, .string s3] 23)).heap.size (((w.alloc (.cells #[.int .i64 k1, .int .i64 n1, .string s1] 23)).alloc (.cells #[.int .i64 k2, .int .i64 n2, .string s2] 23)).alloc (.cells #[.int .i64 k3, .int .i64 n3, .string s3] 23)) (((w.alloc (.cells #[.int .i64 k1, .int .i64 n1, .string s1] 23)).alloc (.cells #[.int .i64 k2, .int .i64 n2, .string s2] 23)).alloc (.cells #[.int .i64 k3, .int .i64 n3, .string s3] 23))) := Below.refl _ _
  have BC3 : Hid (∀ u : World, Below (((w.alloc (.cells #[.int .i64 k1, .int .i64 n1, .string s1] 23)).alloc (.cells #[.int .i64 k2, .int .i64 n2, .string s2] 23)).alloc (.cells #[.int .i64 k3, .int .i64 n3, .string s3] 23)).heap.size (((w.alloc (.cells #[.int .i64 k1, .int .i64 n1, .string s1] 23)).alloc (.cells #[.int .i64 k2, .int .i64 n2, .string s2] 23)).alloc (.cells #[.int .i64 k3, .int .i64 n3, .string s3] 23)) u → (u.cell? ⟨w.heap.size, 0, none⟩ = some (.int .i64 k1) ∧ u.cell? ⟨w.heap.size, 1, none⟩ = some (.int .i64 n1) ∧ u.cell? ⟨w.heap.size, 2, none⟩ = some (.string s1)) ∧ (u.cell? ⟨w.heap.size + 1, 0, none⟩ = some (.int .i64 k2) ∧ u.cell? ⟨w.heap.size + 1, 1, none⟩ = some (.int .i64 n2) ∧ u.cell? ⟨w.heap.size + 1, 2, none⟩ = some (.string s2)) ∧ (u.cell? ⟨w.heap.size + 1 + 1, 0, none⟩ = some (.int .i64 k3) ∧ u.cell? ⟨w.heap.size + 1 + 1, 1, none⟩ = some (.int .i64 n3) ∧ u.cell? ⟨w.heap.size + 1 + 1, 2, none⟩ = some (.string s3))) := fun u hu => three_box hu
  have hwr : IntKind.i64.wrap (-Y) = -Y := by
    have h3 : Y = -1 ∨ Y = 0 ∨ Y = 1 := by omega
    rcases h3 with rfl | rfl | rfl <;> rfl
  go_enter Tryd.func6, Tryd.ntmps6
  go_wp2_with fail
  have HW : Hid (∀ x, Below (((w.alloc (.cells #[.int .i64 k1, .int .i64 n1, .string s1] 23)).alloc (.cells #[.int .i64 k2, .int .i64 n2, .string s2] 23)).alloc (.cells #[.int .i64 k3, .int .i64 n3, .string s3] 23)).heap.size (((w.alloc (.cells #[.int .i64 k1, .int .i64 n1, .string s1] 23)).alloc (.cells #[.int .i64 k2, .int .i64 n2, .string s2] 23)).alloc (.cells #[.int .i64 k3, .int .i64 n3, .string s3] 23)) x → Below w.heap.size w x) := fun x hx => three_below hx
  generalize (((w.alloc (.cells #[.int .i64 k1, .int .i64 n1, .string s1] 23)).alloc (.cells #[.int .i64 k2, .int .i64 n2, .string s2] 23)).alloc (.cells #[.int .i64 k3, .int .i64 n3, .string s3] 23)) = W0 at *
  replace HB : Hid (Below W0.heap.size W0 W0.drew) := HB.out.drew
  refine wp_region_d (fun x => Below W0.heap.size W0 x) (fun _ => false) (by kernel_rfl) ?_
  refine wpAnyD_loadd (i := 0) (v := .agg #[.int .i64 k1, .int .i64 n1, .string s1]) rfl rfl (by kernel_rfl) (by kernel_rfl) (by kernel_rfl) (by kernel_rfl) (fun _ _ _ h => h) (by go_simp) (fun x hx => exec_ld23 rfl rfl (BC3.out _ hx).1) HB.out ?_
  try simp only [Act.put, List.setIfInBounds_toArray, List.set_cons_zero, List.set_cons_succ]
  refine wpAnyD_loadd (i := 1) (v := .agg #[.int .i64 k2, .int .i64 n2, .string s2]) rfl rfl (by kernel_rfl) (by kernel_rfl) (by kernel_rfl) (by kernel_rfl) (fun _ _ _ h => h) (by go_simp) (fun x hx => exec_ld23 rfl rfl (BC3.out _ hx).2.1) HB.out ?_
  try simp only [Act.put, List.setIfInBounds_toArray, List.set_cons_zero, List.set_cons_succ]
  refine wpAnyD_loadd (i := 3) (v := .agg #[.int .i64 k2, .int .i64 n2, .string s2]) rfl rfl (by kernel_rfl) (by kernel_rfl) (by kernel_rfl) (by kernel_rfl) (fun _ _ _ h => h) (by go_simp) (fun x hx => exec_ld23 rfl rfl (BC3.out _ hx).2.1) HB.out ?_
  try simp only [Act.put, List.setIfInBounds_toArray, List.set_cons_zero, List.set_cons_succ]
  refine wpAnyD_loadd (i := 4) (v := .agg #[.int .i64 k1, .int .i64 n1, .string s1]) rfl rfl (by kernel_rfl) (by kernel_rfl) (by kernel_rfl) (by kernel_rfl) (fun _ _ _ h => h) (by go_simp) (fun x hx => exec_ld23 rfl rfl (BC3.out _ hx).1) HB.out ?_
  try simp only [Act.put, List.setIfInBounds_toArray, List.set_cons_zero, List.set_cons_succ]
  refine wpAnyD_one (i := 2) (by kernel_rfl) rfl ?_
  intro K hK
  go_simp
  refine (AB _ HB.out).mono ?_
  rintro e y1 ⟨rfl, hb⟩
  replace HB : Hid (Below W0.heap.size W0 y1) := hb
  refine hK _ _ (.inr fun _ => hb) ?_
  clear hK hb
  try simp only [Act.put, List.setIfInBounds_toArray, List.set_cons_zero, List.set_cons_succ]
  refine wpAnyD_one (i := 5) (by kernel_rfl) rfl ?_
  intro K hK
  go_simp
  refine (BA _ HB.out).mono ?_
  rintro e y2 ⟨rfl, hb⟩
  replace HB : Hid (Below W0.heap.size W0 y2) := hb
  refine hK _ _ (.inr fun _ => hb) ?_
  clear hK hb
  try simp only [Act.put, List.setIfInBounds_toArray, List.set_cons_zero, List.set_cons_succ]
  refine wpAnyD_pured (i := 6) (v := .int .i64 (-Y)) rfl rfl (by kernel_rfl) (by kernel_rfl) (by kernel_rfl) (fun _ _ _ h => h) (by go_simp) (by intro x; go_simp) ?_
  try simp only [Act.put, List.setIfInBounds_toArray, List.set_cons_zero, List.set_cons_succ]
  refine wpAnyD_pured (i := 7) (v := .bool false) rfl rfl (by kernel_rfl) (by kernel_rfl) (by kernel_rfl) (fun _ _ _ h => h) (by go_simp) (by intro x; go_simp) ?_
  try simp only [Act.put, List.setIfInBounds_toArray, List.set_cons_zero, List.set_cons_succ]
  refine wpAnyD_pured (i := 8) (v := .bool false) rfl rfl (by kernel_rfl) (by kernel_rfl) (by kernel_rfl) (fun _ _ _ h => h) (by go_simp) (by intro x; go_simp) ?_
  try simp only [Act.put, List.setIfInBounds_toArray, List.set_cons_zero, List.set_cons_succ]
  refine wpAnyD_loadd (i := 9) (v := .agg #[.int .i64 k1, .int .i64 n1, .string s1]) rfl rfl (by kernel_rfl) (by kernel_rfl) (by kernel_rfl) (by kernel_rfl) (fun _ _ _ h => h) (by go_simp) (fun x hx => exec_ld23 rfl rfl (BC3.out _ hx).1) HB.out ?_
  try simp only [Act.put, List.setIfInBounds_toArray, List.set_cons_zero, List.set_cons_succ]
  refine wpAnyD_loadd (i := 10) (v := .agg #[.int .i64 k1, .int .i64 n1, .string s1]) rfl rfl (by kernel_rfl) (by kernel_rfl) (by kernel_rfl) (by kernel_rfl) (fun _ _ _ h => h) (by go_simp) (fun x hx => exec_ld23 rfl rfl (BC3.out _ hx).1) HB.out ?_
  try simp only [Act.put, List.setIfInBounds_toArray, List.set_cons_zero, List.set_cons_succ]
  refine wpAnyD_one (i := 11) (by kernel_rfl) rfl ?_
  intro K hK
  go_simp
  refine (AA _ HB.out).mono ?_
  rintro e y3 ⟨rfl, hb⟩
  replace HB : Hid (Below W0.heap.size W0 y3) := hb
  refine hK _ _ (.inr fun _ => hb) ?_
  clear hK hb
  try simp only [Act.put, List.setIfInBounds_toArray, List.set_cons_zero, List.set_cons_succ]
  refine wpAnyD_pured (i := 12) (v := .bool false) rfl rfl (by kernel_rfl) (by kernel_rfl) (by kernel_rfl) (fun _ _ _ h => h) (by go_simp) (by intro x; go_simp) ?_
  try simp only [Act.put, List.setIfInBounds_toArray, List.set_cons_zero, List.set_cons_succ]
  refine wpAnyD_pured (i := 13) (v := .bool false) rfl rfl (by kernel_rfl) (by kernel_rfl) (by kernel_rfl) (fun _ _ _ h => h) (by go_simp) (by intro x; go_simp) ?_
  try simp only [Act.put, List.setIfInBounds_toArray, List.set_cons_zero, List.set_cons_succ]
  refine wpAnyD_done (by kernel_rfl) ?_ _
  obtain ⟨⟨p0, p1, p2⟩, ⟨q0, q1, q2⟩, o0, o1, o2⟩ := BC3.out _ HB.out
  go_wp2_with fail
  refine (AB _ HB.out).mono ?_
  rintro e v1 ⟨rfl, hb⟩
  replace HB : Hid (Below W0.heap.size W0 v1) := hb
  clear hb p0 p1 p2 q0 q1 q2 o0 o1 o2
  obtain ⟨⟨p0, p1, p2⟩, ⟨q0, q1, q2⟩, o0, o1, o2⟩ := BC3.out _ HB.out
  go_wp2_with fail
  refine (BC _ HB.out).mono ?_
  rintro e v2 ⟨rfl, hb⟩
  replace HB : Hid (Below W0.heap.size W0 v2) := hb
  clear hb p0 p1 p2 q0 q1 q2 o0 o1 o2
  obtain ⟨⟨p0, p1, p2⟩, ⟨q0, q1, q2⟩, o0, o1, o2⟩ := BC3.out _ HB.out
  go_wp2_with fail
  refine (LV _ HB.out).mono ?_
  rintro e v3 ⟨rfl, hb⟩
  replace HB : Hid (Below W0.heap.size W0 v3) := hb
  clear hb p0 p1 p2 q0 q1 q2 o0 o1 o2
  go_wp2
  go_ret
  exact ⟨rfl, HW.out _ HB.out⟩
set_option maxHeartbeats 8000000 in
theorem orders_yes {w : World} {k1 n1 k2 n2 k3 n3 y z X Y : Int} {s1 s2 s3 : ByteArray} (hX : (X != -Y) = false) (hY1 : -1 ≤ Y) (hY2 : Y ≤ 1) (hx : X ≤ 0) (g1 : (k1 == 0) = false) (g2 : (k2 == 0) = false) (g3 : (k3 == 0) = false) (hy : y ≤ 0) (hz : ¬ 0 < z)
    (AB : RC (((w.alloc (.cells #[.int .i64 k1, .int .i64 n1, .string s1] 23)).alloc (.cells #[.int .i64 k2, .int .i64 n2, .string s2] 23)).alloc (.cells #[.int .i64 k3, .int .i64 n3, .string s3] 23)) 34 #[.agg #[.int .i64 k1, .int .i64 n1, .string s1], .agg #[.int .i64 k2, .int .i64 n2, .string s2]] (.int .i64 X))
    (BA : RC (((w.alloc (.cells #[.int .i64 k1, .int .i64 n1, .string s1] 23)).alloc (.cells #[.int .i64 k2, .int .i64 n2, .string s2] 23)).alloc (.cells #[.int .i64 k3, .int .i64 n3, .string s3] 23)) 34 #[.agg #[.int .i64 k2, .int .i64 n2, .string s2], .agg #[.int .i64 k1, .int .i64 n1, .string s1]] (.int .i64 Y))
    (AA : RC (((w.alloc (.cells #[.int .i64 k1, .int .i64 n1, .string s1] 23)).alloc (.cells #[.int .i64 k2, .int .i64 n2, .string s2] 23)).alloc (.cells #[.int .i64 k3, .int .i64 n3, .string s3] 23)) 34 #[.agg #[.int .i64 k1, .int .i64 n1, .string s1], .agg #[.int .i64 k1, .int .i64 n1, .string s1]] (.int .i64 0))
    (BC : RC (((w.alloc (.cells #[.int .i64 k1, .int .i64 n1, .string s1] 23)).alloc (.cells #[.int .i64 k2, .int .i64 n2, .string s2] 23)).alloc (.cells #[.int .i64 k3, .int .i64 n3, .string s3] 23)) 34 #[.agg #[.int .i64 k2, .int .i64 n2, .string s2], .agg #[.int .i64 k3, .int .i64 n3, .string s3]] (.int .i64 y))
    (AC : RC (((w.alloc (.cells #[.int .i64 k1, .int .i64 n1, .string s1] 23)).alloc (.cells #[.int .i64 k2, .int .i64 n2, .string s2] 23)).alloc (.cells #[.int .i64 k3, .int .i64 n3, .string s3] 23)) 34 #[.agg #[.int .i64 k1, .int .i64 n1, .string s1], .agg #[.int .i64 k3, .int .i64 n3, .string s3]] (.int .i64 z))
    (LV : RC (((w.alloc (.cells #[.int .i64 k1, .int .i64 n1, .string s1] 23)).alloc (.cells #[.int .i64 k2, .int .i64 n2, .string s2] 23)).alloc (.cells #[.int .i64 k3, .int .i64 n3, .string s3] 23)) 18 #[] (.bool true)) :
    Calls Tryd.prog 6 #[.agg #[.int .i64 k1, .int .i64 n1, .string s1], .agg #[.int .i64 k2, .int .i64 n2, .string s2], .agg #[.int .i64 k3, .int .i64 n3, .string s3]] w fun e w' => e = .returned (.bool true) ∧ Below w.heap.size w w' := by
  have HB : Hid (Below (((w.alloc (.cells #[.int .i64 k1, .int .i64 n1, .string s1] 23)).alloc (.cells #[.int .i64 k2, .int .i64 n2, .string s2] 23)).alloc (.cells #[.int .i64 k3, .int .i64 n3, .string s3] 23)).heap.size (((w.alloc (.cells #[.int .i64 k1, .int .i64 n1, .string s1] 23)).alloc (.cells #[.int .i64 k2, .int .i64 n2, .string s2] 23)).alloc (.cells #[.int .i64 k3, .int .i64 n3, .string s3] 23)) (((w.alloc (.cells #[.int .i64 k1, .int .i64 n1, .string s1] 23)).alloc (.cells #[.int .i64 k2, .int .i64 n2, .string s2] 23)).alloc (.cells #[.int .i64 k3, .int .i64 n3, .string s3] 23))) := Below.refl _ _
  have BC3 : Hid (∀ u : World, Below (((w.alloc (.cells #[.int .i64 k1, .int .i64 n1, .string s1] 23)).alloc (.cells #[.int .i64 k2, .int .i64 n2, .string s2] 23)).alloc (.cells #[.int .i64 k3, .int .i64 n3, .string s3] 23)).heap.size (((w.alloc (.cells #[.int .i64 k1, .int .i64 n1, .string s1] 23)).alloc (.cells #[.int .i64 k2, .int .i64 n2, .string s2] 23)).alloc (.cells #[.int .i64 k3, .int .i64 n3, .string s3] 23)) u → (u.cell? ⟨w.heap.size, 0, none⟩ = some (.int .i64 k1) ∧ u.cell? ⟨w.heap.size, 1, none⟩ = some (.int .i64 n1) ∧ u.cell? ⟨w.heap.size, 2, none⟩ = some (.string s1)) ∧ (u.cell? ⟨w.heap.size + 1, 0, none⟩ = some (.int .i64 k2) ∧ u.cell? ⟨w.heap.size + 1, 1, none⟩ = some (.int .i64 n2) ∧ u.cell? ⟨w.heap.size + 1, 2, none⟩ = some (.string s2)) ∧ (u.cell? ⟨w.heap.size + 1 + 1, 0, none⟩ = some (.int .i64 k3) ∧ u.cell? ⟨w.heap.size + 1 + 1, 1, none⟩ = some (.int .i64 n3) ∧ u.cell? ⟨w.heap.size + 1 + 1, 2, none⟩ = some (.string s3))) := fun u hu => three_box hu
  have hwr : IntKind.i64.wrap (-Y) = -Y := by
    have h3 : Y = -1 ∨ Y = 0 ∨ Y = 1 := by omega
    rcases h3 with rfl | rfl | rfl <;> rfl
  go_enter Tryd.func6, Tryd.ntmps6
  go_wp2_with fail
  have HW : Hid (∀ x, Below (((w.alloc (.cells #[.int .i64 k1, .int .i64 n1, .string s1] 23)).alloc (.cells #[.int .i64 k2, .int .i64 n2, .string s2] 23)).alloc (.cells #[.int .i64 k3, .int .i64 n3, .string s3] 23)).heap.size (((w.alloc (.cells #[.int .i64 k1, .int .i64 n1, .string s1] 23)).alloc (.cells #[.int .i64 k2, .int .i64 n2, .string s2] 23)).alloc (.cells #[.int .i64 k3, .int .i64 n3, .string s3] 23)) x → Below w.heap.size w x) := fun x hx => three_below hx
  generalize (((w.alloc (.cells #[.int .i64 k1, .int .i64 n1, .string s1] 23)).alloc (.cells #[.int .i64 k2, .int .i64 n2, .string s2] 23)).alloc (.cells #[.int .i64 k3, .int .i64 n3, .string s3] 23)) = W0 at *
  replace HB : Hid (Below W0.heap.size W0 W0.drew) := HB.out.drew
  refine wp_region_d (fun x => Below W0.heap.size W0 x) (fun _ => false) (by kernel_rfl) ?_
  refine wpAnyD_loadd (i := 0) (v := .agg #[.int .i64 k1, .int .i64 n1, .string s1]) rfl rfl (by kernel_rfl) (by kernel_rfl) (by kernel_rfl) (by kernel_rfl) (fun _ _ _ h => h) (by go_simp) (fun x hx => exec_ld23 rfl rfl (BC3.out _ hx).1) HB.out ?_
  try simp only [Act.put, List.setIfInBounds_toArray, List.set_cons_zero, List.set_cons_succ]
  refine wpAnyD_loadd (i := 1) (v := .agg #[.int .i64 k2, .int .i64 n2, .string s2]) rfl rfl (by kernel_rfl) (by kernel_rfl) (by kernel_rfl) (by kernel_rfl) (fun _ _ _ h => h) (by go_simp) (fun x hx => exec_ld23 rfl rfl (BC3.out _ hx).2.1) HB.out ?_
  try simp only [Act.put, List.setIfInBounds_toArray, List.set_cons_zero, List.set_cons_succ]
  refine wpAnyD_loadd (i := 3) (v := .agg #[.int .i64 k2, .int .i64 n2, .string s2]) rfl rfl (by kernel_rfl) (by kernel_rfl) (by kernel_rfl) (by kernel_rfl) (fun _ _ _ h => h) (by go_simp) (fun x hx => exec_ld23 rfl rfl (BC3.out _ hx).2.1) HB.out ?_
  try simp only [Act.put, List.setIfInBounds_toArray, List.set_cons_zero, List.set_cons_succ]
  refine wpAnyD_loadd (i := 4) (v := .agg #[.int .i64 k1, .int .i64 n1, .string s1]) rfl rfl (by kernel_rfl) (by kernel_rfl) (by kernel_rfl) (by kernel_rfl) (fun _ _ _ h => h) (by go_simp) (fun x hx => exec_ld23 rfl rfl (BC3.out _ hx).1) HB.out ?_
  try simp only [Act.put, List.setIfInBounds_toArray, List.set_cons_zero, List.set_cons_succ]
  refine wpAnyD_one (i := 2) (by kernel_rfl) rfl ?_
  intro K hK
  go_simp
  refine (AB _ HB.out).mono ?_
  rintro e y1 ⟨rfl, hb⟩
  replace HB : Hid (Below W0.heap.size W0 y1) := hb
  refine hK _ _ (.inr fun _ => hb) ?_
  clear hK hb
  try simp only [Act.put, List.setIfInBounds_toArray, List.set_cons_zero, List.set_cons_succ]
  refine wpAnyD_one (i := 5) (by kernel_rfl) rfl ?_
  intro K hK
  go_simp
  refine (BA _ HB.out).mono ?_
  rintro e y2 ⟨rfl, hb⟩
  replace HB : Hid (Below W0.heap.size W0 y2) := hb
  refine hK _ _ (.inr fun _ => hb) ?_
  clear hK hb
  try simp only [Act.put, List.setIfInBounds_toArray, List.set_cons_zero, List.set_cons_succ]
  refine wpAnyD_pured (i := 6) (v := .int .i64 (-Y)) rfl rfl (by kernel_rfl) (by kernel_rfl) (by kernel_rfl) (fun _ _ _ h => h) (by go_simp) (by intro x; go_simp) ?_
  try simp only [Act.put, List.setIfInBounds_toArray, List.set_cons_zero, List.set_cons_succ]
  refine wpAnyD_pured (i := 7) (v := .bool false) rfl rfl (by kernel_rfl) (by kernel_rfl) (by kernel_rfl) (fun _ _ _ h => h) (by go_simp) (by intro x; go_simp) ?_
  try simp only [Act.put, List.setIfInBounds_toArray, List.set_cons_zero, List.set_cons_succ]
  refine wpAnyD_pured (i := 8) (v := .bool false) rfl rfl (by kernel_rfl) (by kernel_rfl) (by kernel_rfl) (fun _ _ _ h => h) (by go_simp) (by intro x; go_simp) ?_
  try simp only [Act.put, List.setIfInBounds_toArray, List.set_cons_zero, List.set_cons_succ]
  refine wpAnyD_loadd (i := 9) (v := .agg #[.int .i64 k1, .int .i64 n1, .string s1]) rfl rfl (by kernel_rfl) (by kernel_rfl) (by kernel_rfl) (by kernel_rfl) (fun _ _ _ h => h) (by go_simp) (fun x hx => exec_ld23 rfl rfl (BC3.out _ hx).1) HB.out ?_
  try simp only [Act.put, List.setIfInBounds_toArray, List.set_cons_zero, List.set_cons_succ]
  refine wpAnyD_loadd (i := 10) (v := .agg #[.int .i64 k1, .int .i64 n1, .string s1]) rfl rfl (by kernel_rfl) (by kernel_rfl) (by kernel_rfl) (by kernel_rfl) (fun _ _ _ h => h) (by go_simp) (fun x hx => exec_ld23 rfl rfl (BC3.out _ hx).1) HB.out ?_
  try simp only [Act.put, List.setIfInBounds_toArray, List.set_cons_zero, List.set_cons_succ]
  refine wpAnyD_one (i := 11) (by kernel_rfl) rfl ?_
  intro K hK
  go_simp
  refine (AA _ HB.out).mono ?_
  rintro e y3 ⟨rfl, hb⟩
  replace HB : Hid (Below W0.heap.size W0 y3) := hb
  refine hK _ _ (.inr fun _ => hb) ?_
  clear hK hb
  try simp only [Act.put, List.setIfInBounds_toArray, List.set_cons_zero, List.set_cons_succ]
  refine wpAnyD_pured (i := 12) (v := .bool false) rfl rfl (by kernel_rfl) (by kernel_rfl) (by kernel_rfl) (fun _ _ _ h => h) (by go_simp) (by intro x; go_simp) ?_
  try simp only [Act.put, List.setIfInBounds_toArray, List.set_cons_zero, List.set_cons_succ]
  refine wpAnyD_pured (i := 13) (v := .bool false) rfl rfl (by kernel_rfl) (by kernel_rfl) (by kernel_rfl) (fun _ _ _ h => h) (by go_simp) (by intro x; go_simp) ?_
  try simp only [Act.put, List.setIfInBounds_toArray, List.set_cons_zero, List.set_cons_succ]
  refine wpAnyD_done (by kernel_rfl) ?_ _
  obtain ⟨⟨p0, p1, p2⟩, ⟨q0, q1, q2⟩, o0, o1, o2⟩ := BC3.out _ HB.out
  go_wp2_with fail
  refine (AB _ HB.out).mono ?_
  rintro e v1 ⟨rfl, hb⟩
  replace HB : Hid (Below W0.heap.size W0 v1) := hb
  clear hb p0 p1 p2 q0 q1 q2 o0 o1 o2
  obtain ⟨⟨p0, p1, p2⟩, ⟨q0, q1, q2⟩, o0, o1, o2⟩ := BC3.out _ HB.out
  go_wp2_with fail
  refine (BC _ HB.out).mono ?_
  rintro e v2 ⟨rfl, hb⟩
  replace HB : Hid (Below W0.heap.size W0 v2) := hb
  clear hb p0 p1 p2 q0 q1 q2 o0 o1 o2
  obtain ⟨⟨p0, p1, p2⟩, ⟨q0, q1, q2⟩, o0, o1, o2⟩ := BC3.out _ HB.out
  go_wp2_with fail
  refine (AC _ HB.out).mono ?_
  rintro e v3 ⟨rfl, hb⟩
  replace HB : Hid (Below W0.heap.size W0 v3) := hb
  clear hb p0 p1 p2 q0 q1 q2 o0 o1 o2
  obtain ⟨⟨p0, p1, p2⟩, ⟨q0, q1, q2⟩, o0, o1, o2⟩ := BC3.out _ HB.out
  go_wp2_with fail
  refine (LV _ HB.out).mono ?_
  rintro e v4 ⟨rfl, hb⟩
  replace HB : Hid (Below W0.heap.size W0 v4) := hb
  clear hb p0 p1 p2 q0 q1 q2 o0 o1 o2
  go_wp2
  go_ret
  exact ⟨rfl, HW.out _ HB.out⟩
theorem orders_walk (k1 n1 : Int) (s1 : ByteArray) (k2 n2 : Int) (s2 : ByteArray) (k3 n3 : Int) (s3 : ByteArray) (h1 : s1.size ≤ 9223372036854775807) (h2 : s2.size ≤ 9223372036854775807) (h3 : s3.size ≤ 9223372036854775807) (w : World) (T : Tabs w) :
    Calls Tryd.prog 6 #[val k1 n1 s1, val k2 n2 s2, val k3 n3 s3] w fun e w' => e = .returned (.bool true) ∧ Below w.heap.size w w' := by
  have LV : RC (((w.alloc (.cells #[.int .i64 k1, .int .i64 n1, .string s1] 23)).alloc (.cells #[.int .i64 k2, .int .i64 n2, .string s2] 23)).alloc (.cells #[.int .i64 k3, .int .i64 n3, .string s3] 23)) 18 #[] (.bool true) := RC.of fun u hu => lives_any u (T.below (three_below hu))
  by_cases z1 : k1 = 0
  · exact orders_blank LV (.inl z1)
  by_cases z2 : k2 = 0
  · exact orders_blank LV (.inr (.inl ⟨z1, z2⟩))
  by_cases z3 : k3 = 0
  · exact orders_blank LV (.inr (.inr ⟨z1, z2, z3⟩))
  have AB : RC (((w.alloc (.cells #[.int .i64 k1, .int .i64 n1, .string s1] 23)).alloc (.cells #[.int .i64 k2, .int .i64 n2, .string s2] 23)).alloc (.cells #[.int .i64 k3, .int .i64 n3, .string s3] 23)) 34 #[val k1 n1 s1, val k2 n2 s2] _ := RC.of fun u _ => cmp_any k1 n1 s1 k2 n2 s2 h1 h2 u
  have BA : RC (((w.alloc (.cells #[.int .i64 k1, .int .i64 n1, .string s1] 23)).alloc (.cells #[.int .i64 k2, .int .i64 n2, .string s2] 23)).alloc (.cells #[.int .i64 k3, .int .i64 n3, .string s3] 23)) 34 #[val k2 n2 s2, val k1 n1 s1] _ := RC.of fun u _ => cmp_any k2 n2 s2 k1 n1 s1 h2 h1 u
  have AA : RC (((w.alloc (.cells #[.int .i64 k1, .int .i64 n1, .string s1] 23)).alloc (.cells #[.int .i64 k2, .int .i64 n2, .string s2] 23)).alloc (.cells #[.int .i64 k3, .int .i64 n3, .string s3] 23)) 34 #[val k1 n1 s1, val k1 n1 s1] _ := RC.of fun u _ => cmp_any k1 n1 s1 k1 n1 s1 h1 h1 u
  have BC : RC (((w.alloc (.cells #[.int .i64 k1, .int .i64 n1, .string s1] 23)).alloc (.cells #[.int .i64 k2, .int .i64 n2, .string s2] 23)).alloc (.cells #[.int .i64 k3, .int .i64 n3, .string s3] 23)) 34 #[val k2 n2 s2, val k3 n3 s3] _ := RC.of fun u _ => cmp_any k2 n2 s2 k3 n3 s3 h2 h3 u
  have AC : RC (((w.alloc (.cells #[.int .i64 k1, .int .i64 n1, .string s1] 23)).alloc (.cells #[.int .i64 k2, .int .i64 n2, .string s2] 23)).alloc (.cells #[.int .i64 k3, .int .i64 n3, .string s3] 23)) 34 #[val k1 n1 s1, val k3 n3 s3] _ := RC.of fun u _ => cmp_any k1 n1 s1 k3 n3 s3 h1 h3 u
  rw [cmpF_key _ _ _ _ _ _ z1 z2] at AB
  rw [cmpF_key _ _ _ _ _ _ z2 z1] at BA
  rw [cmpF_key _ _ _ _ _ _ z1 z1] at AA
  rw [cmpF_key _ _ _ _ _ _ z2 z3] at BC
  rw [cmpF_key _ _ _ _ _ _ z1 z3] at AC
  have tr := cmpK_trans (keyF k1 n1 s1) (keyF k2 n2 s2) (keyF k3 n3 s3)
  have e0 : cmpK (keyF k1 n1 s1) (keyF k1 n1 s1) = 0 := by
    rcases cmpK_ways (keyF k1 n1 s1) (keyF k1 n1 s1) with ⟨a, b, c⟩ | ⟨a, b, c⟩ | ⟨a, b, c⟩ <;> omega
  rw [e0] at AA
  have hX : (cmpK (keyF k1 n1 s1) (keyF k2 n2 s2) != -cmpK (keyF k2 n2 s2) (keyF k1 n1 s1)) = false ∧ -1 ≤ cmpK (keyF k2 n2 s2) (keyF k1 n1 s1) ∧ cmpK (keyF k2 n2 s2) (keyF k1 n1 s1) ≤ 1 := by
    rcases cmpK_ways (keyF k1 n1 s1) (keyF k2 n2 s2) with ⟨a, b, c⟩ | ⟨a, b, c⟩ | ⟨a, b, c⟩ <;> rw [a, b] <;> decide
  by_cases hx : cmpK (keyF k1 n1 s1) (keyF k2 n2 s2) ≤ 0
  · by_cases hy : cmpK (keyF k2 n2 s2) (keyF k3 n3 s3) ≤ 0
    · have hz := tr hx hy
      exact orders_yes hX.1 hX.2.1 hX.2.2 hx (beq_no z1) (beq_no z2) (beq_no z3) hy (by omega) AB BA AA BC AC LV
    · exact orders_no hX.1 hX.2.1 hX.2.2 hx (beq_no z1) (beq_no z2) (beq_no z3) hy AB BA AA BC AC LV
  · exact orders_gt hX.1 hX.2.1 hX.2.2 hx (beq_no z1) (beq_no z2) (beq_no z3) AB BA AA BC AC LV
end Go.Proofs.YtelpllilepkjmaaDoor
