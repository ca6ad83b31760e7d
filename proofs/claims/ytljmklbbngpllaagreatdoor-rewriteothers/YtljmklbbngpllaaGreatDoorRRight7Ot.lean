/- RRight7. -/
import Derived.Test.YtljmklbbngpllaaGreatDoorRRight1Ot
set_option linter.unusedVariables false
set_option linter.unusedSimpArgs false
set_option maxHeartbeats 16000000
set_option maxRecDepth 100000
namespace Go.Proofs.YtljmklbbngpllaaGreatDoor
open Go.RowKit Go.Fm
theorem ok7 {a : Lab} {n : Nat} (hk : a.k = 7) : okL a n = (labB a (lab0 7 a.s) && (decide (n ≤ 16) && gfB a.s)) := by
 unfold okL bareB partsB namN namL isLeaf
 simp [hk]
theorem tr3 (s : ByteArray) : ((typedF s).1 == 3) = !decide (truN (szF 97 65 s.data.toList) < 0) := by
 have e : ba s.data.toList = s := by cases s; show ByteArray.mk _ = _; rw [Array.toArray_toList]
 have := typed_tr s.data.toList
 rw [e] at this
 rw [this]
 unfold trB truF
 rcases tru_cases (szF 97 65 s.data.toList) with ⟨h, e2, e3⟩ | ⟨h, e2, e3⟩ | ⟨_, _, e2, e3⟩ <;> rw [e2, e3] <;> rfl
section
variable {a : Lab} {p : Option Addr} {n c : Nat} {w : World} {f : F}
theorem right_7 (hk : a.k = 7) (Z : LabZ a) (hz : zT (a, f) ≤ 1000000) (hs : SF w p n f) : Calls Tryz.prog 65 #[.agg (lcs a (.slice p n c))] w fun e w' => e = .returned (.bool (okL a n)) ∧ Below w.heap.size w w' := by
 have CU : Hid (∀ u, Below w.heap.size w u → Calls Tryz.prog 109 #[.string a.s] u fun e w' => e = .returned (.string ⟨(szF 97 65 a.s.data.toList).toArray⟩) ∧ Below u.heap.size u w') := fun u hu => rup_any a.s Z.s u
 have CG : Hid (∀ u, Below w.heap.size w u → Calls Tryz.prog 108 #[.string a.s] u fun e w' => e = .returned (.bool (gnF a.s.data.toList)) ∧ Below u.heap.size u w') := fun u hu => rgoodname_any a.s Z.s u
 have CT : Hid (∀ u, Below w.heap.size w u → Calls Tryz.prog 110 #[.string a.s] u fun e w' => e = .returned (.int .i64 (truN (szF 97 65 a.s.data.toList))) ∧ Below u.heap.size u w') := fun u hu => rtruth_any a.s Z.s u
 rw [ok7 hk]
 unfold gfB
 rw [tr3, Bool.beq_comm]
 generalize (⟨(szF 97 65 a.s.data.toList).toArray⟩ : ByteArray) = X at *
 generalize gnF a.s.data.toList = gn at *
 generalize truN (szF 97 65 a.s.data.toList) = tv at *
 cases eX : (X.toList == a.s.toList) with
 | false =>
  rw [show (labB a (lab0 7 a.s) && (decide (n ≤ 16) && (false && (gn || !decide (tv < 0))))) = false by simp]
  have RL : Hid _ := right_ld (a := a) (p := p) (n := n) (c := c) (w := w)
  have C := right_in (a := a) (p := p) (n := n) (c := c) (w := w)
  rw [hk] at C
  go_enter Tryz.func65, Tryz.ntmps65
  go_wp2_with (first
   | (refine wpList_load_run rfl 28 _ rfl _ _ rfl RL.out ?_; clear RL)
   | (go_at_call 105; refine C.mono ?_; clear C; rintro e w1 ⟨wx, u0, rfl, RS, HQ⟩; have hcc := HQ.out.cells; rw [hk] at hcc)
   | (refine wpList_store_run rfl 28 _ _ rfl _ _ _ rfl rfl RS.out ?_; clear RS))
  clear hcc
  have HQd : Hid (RQ w a (.slice p n c) w1.heap.size (lab0 7 nb) (.slice none 0 0) u0.drew) := HQ.out.drew
  obtain ⟨u1, RS1, hq1⟩ := HQd.out.setS a.s
  have HQ1 : Hid (RQ w a (.slice p n c) w1.heap.size (lab0 7 a.s) (.slice none 0 0) u1) := hq1
  obtain ⟨u2, RS2, hq2⟩ := HQ1.out.setA p n c
  have HQ2 : Hid (RQ w a (.slice p n c) w1.heap.size (lab0 7 a.s) (.slice p n c) u2) := hq2
  clear hq1 hq2 HQ
  generalize w1.heap.size = g at *
  refine wp_region_d (fun u => u.heap[w.heap.size]? = some (.cells (lcs a (.slice p n c)) 28)) (fun _ => false) (by kernel_rfl) ?_
  refine dwp 0 (.pointer (some ⟨w.heap.size, 1, none⟩)) ?_
  refine dwl 1 (.string a.s) ?_ (hS := HQd.out.n) (hy := (fun u hSu => exec_load_run rfl rfl (ld9 (box_all hSu).2.1)))
  refine dwp 2 (.pointer (some ⟨w.heap.size, 17, none⟩)) ?_
  refine dwl 3 (.slice p n c) ?_ (hS := HQd.out.n) (hy := (fun u hSu => exec_load_run rfl rfl (ld26 (cell17 hSu))))
  refine dwp 4 (.pointer (some ⟨g, 1, none⟩)) ?_
  refine wpAnyD_one (i := 5) (by kernel_rfl) rfl ?_
  intro K' hK'
  rw [if_pos (by go_simp)]
  refine wp_store_run none rfl 9 _ _ rfl _ _ rfl rfl RS1.out (hK' _ _ (.inr fun _ => HQ1.out.n) ?_)
  clear hK'
  try simp only [Act.put, List.setIfInBounds_toArray, List.set_cons_zero, List.set_cons_succ]
  refine dwp 6 (.pointer (some ⟨g, 17, none⟩)) ?_
  refine wpAnyD_one (i := 7) (by kernel_rfl) rfl ?_
  intro K' hK'
  rw [if_pos (by go_simp)]
  refine wp_store_run none rfl 26 _ _ rfl _ _ rfl rfl RS2.out (hK' _ _ (.inr fun _ => HQ2.out.n) ?_)
  clear hK'
  try simp only [Act.put, List.setIfInBounds_toArray, List.set_cons_zero, List.set_cons_succ]
  refine wpAnyD_done (by kernel_rfl) ?_ _
  clear HQd HQ1 RS1 RS2
  have hc2 := HQ2.out.cells
  rw [hk] at hc2
  clear hc2
  have HQe : Hid (RQ w a (.slice p n c) g (lab0 7 a.s) (.slice p n c) u2.drew) := HQ2.out.drew
  clear HQ2
  go_wp2
  refine wp_region_d (fun u => u.heap[w.heap.size]? = some (.cells (lcs a (.slice p n c)) 28)) (fun _ => false) (by kernel_rfl) ?_
  refine dwp 0 (.pointer (some ⟨w.heap.size, 1, none⟩)) ?_
  refine dwl 1 (.string a.s) ?_ (hS := HQe.out.n) (hy := (fun u hSu => exec_load_run rfl rfl (ld9 (box_all hSu).2.1)))
  refine dwp 3 (.pointer (some ⟨w.heap.size, 1, none⟩)) ?_
  refine dwl 4 (.string a.s) ?_ (hS := HQe.out.n) (hy := (fun u hSu => exec_load_run rfl rfl (ld9 (box_all hSu).2.1)))
  refine wpAnyD_one (i := 2) (by kernel_rfl) rfl ?_
  intro K' hK'
  go_simp
  refine (CU.out _ HQe.out.b).mono ?_
  rintro e w5 ⟨rfl, hb⟩
  have HQf : Hid _ := HQe.out.below hb
  clear hb
  refine hK' _ _ (.inr fun _ => HQf.out.n) ?_
  clear hK' HQe
  try simp only [Act.put, List.setIfInBounds_toArray, List.set_cons_zero, List.set_cons_succ]
  refine dwp 5 (.bool true) ?_
  refine dwp 6 (.bool true) ?_
  refine dws 7 ?_ (hg := (by first | (go_simp; done) | (go_simp; exact fun h => by cases h)))
  refine dws 8 ?_ (hg := (by first | (go_simp; done) | (go_simp; exact fun h => by cases h)))
  refine dws 9 ?_ (hg := (by first | (go_simp; done) | (go_simp; exact fun h => by cases h)))
  refine dws 10 ?_ (hg := (by first | (go_simp; done) | (go_simp; exact fun h => by cases h)))
  refine dws 11 ?_ (hg := (by first | (go_simp; done) | (go_simp; exact fun h => by cases h)))
  refine dws 12 ?_ (hg := (by first | (go_simp; done) | (go_simp; exact fun h => by cases h)))
  refine dws 13 ?_ (hg := (by first | (go_simp; done) | (go_simp; exact fun h => by cases h)))
  refine dws 14 ?_ (hg := (by first | (go_simp; done) | (go_simp; exact fun h => by cases h)))
  refine dws 15 ?_ (hg := (by first | (go_simp; done) | (go_simp; exact fun h => by cases h)))
  refine dws 16 ?_ (hg := (by first | (go_simp; done) | (go_simp; exact fun h => by cases h)))
  refine dwp 17 (.bool true) ?_
  refine dwp 18 (.bool true) ?_
  refine dws 19 ?_ (hg := (by first | (go_simp; done) | (go_simp; exact fun h => by cases h)))
  refine dws 20 ?_ (hg := (by first | (go_simp; done) | (go_simp; exact fun h => by cases h)))
  refine dws 21 ?_ (hg := (by first | (go_simp; done) | (go_simp; exact fun h => by cases h)))
  refine dws 22 ?_ (hg := (by first | (go_simp; done) | (go_simp; exact fun h => by cases h)))
  refine dwp 23 (.bool true) ?_
  refine wpAnyD_done (by kernel_rfl) ?_ _
  have HB : Hid _ := HQf.out.b
  go_wp2
  go_ret
  exact ⟨rfl, HB.out⟩
 | true =>
  cases gn with
  | true =>
   by_cases hn : n ≤ 16
   ·have hni : ¬ (16 : Int) < n := by omega
    rw [show (labB a (lab0 7 a.s) && (decide (n ≤ 16) && (true && (true || !decide (tv < 0))))) = labB a (lab0 7 a.s) by simp [hn]]
    clear hn
    have RL : Hid _ := right_ld (a := a) (p := p) (n := n) (c := c) (w := w)
    have C := right_in (a := a) (p := p) (n := n) (c := c) (w := w)
    rw [hk] at C
    go_enter Tryz.func65, Tryz.ntmps65
    go_wp2_with (first
     | (refine wpList_load_run rfl 28 _ rfl _ _ rfl RL.out ?_; clear RL)
     | (go_at_call 105; refine C.mono ?_; clear C; rintro e w1 ⟨wx, u0, rfl, RS, HQ⟩; have hcc := HQ.out.cells; rw [hk] at hcc)
     | (refine wpList_store_run rfl 28 _ _ rfl _ _ _ rfl rfl RS.out ?_; clear RS))
    clear hcc
    have HQd : Hid (RQ w a (.slice p n c) w1.heap.size (lab0 7 nb) (.slice none 0 0) u0.drew) := HQ.out.drew
    obtain ⟨u1, RS1, hq1⟩ := HQd.out.setS a.s
    have HQ1 : Hid (RQ w a (.slice p n c) w1.heap.size (lab0 7 a.s) (.slice none 0 0) u1) := hq1
    obtain ⟨u2, RS2, hq2⟩ := HQ1.out.setA p n c
    have HQ2 : Hid (RQ w a (.slice p n c) w1.heap.size (lab0 7 a.s) (.slice p n c) u2) := hq2
    clear hq1 hq2 HQ
    generalize w1.heap.size = g at *
    refine wp_region_d (fun u => u.heap[w.heap.size]? = some (.cells (lcs a (.slice p n c)) 28)) (fun _ => false) (by kernel_rfl) ?_
    refine dwp 0 (.pointer (some ⟨w.heap.size, 1, none⟩)) ?_
    refine dwl 1 (.string a.s) ?_ (hS := HQd.out.n) (hy := (fun u hSu => exec_load_run rfl rfl (ld9 (box_all hSu).2.1)))
    refine dwp 2 (.pointer (some ⟨w.heap.size, 17, none⟩)) ?_
    refine dwl 3 (.slice p n c) ?_ (hS := HQd.out.n) (hy := (fun u hSu => exec_load_run rfl rfl (ld26 (cell17 hSu))))
    refine dwp 4 (.pointer (some ⟨g, 1, none⟩)) ?_
    refine wpAnyD_one (i := 5) (by kernel_rfl) rfl ?_
    intro K' hK'
    rw [if_pos (by go_simp)]
    refine wp_store_run none rfl 9 _ _ rfl _ _ rfl rfl RS1.out (hK' _ _ (.inr fun _ => HQ1.out.n) ?_)
    clear hK'
    try simp only [Act.put, List.setIfInBounds_toArray, List.set_cons_zero, List.set_cons_succ]
    refine dwp 6 (.pointer (some ⟨g, 17, none⟩)) ?_
    refine wpAnyD_one (i := 7) (by kernel_rfl) rfl ?_
    intro K' hK'
    rw [if_pos (by go_simp)]
    refine wp_store_run none rfl 26 _ _ rfl _ _ rfl rfl RS2.out (hK' _ _ (.inr fun _ => HQ2.out.n) ?_)
    clear hK'
    try simp only [Act.put, List.setIfInBounds_toArray, List.set_cons_zero, List.set_cons_succ]
    refine wpAnyD_done (by kernel_rfl) ?_ _
    clear HQd HQ1 RS1 RS2
    have hc2 := HQ2.out.cells
    rw [hk] at hc2
    clear hc2
    have HQe : Hid (RQ w a (.slice p n c) g (lab0 7 a.s) (.slice p n c) u2.drew) := HQ2.out.drew
    clear HQ2
    go_wp2
    refine wp_region_d (fun u => u.heap[w.heap.size]? = some (.cells (lcs a (.slice p n c)) 28)) (fun _ => false) (by kernel_rfl) ?_
    refine dwp 0 (.pointer (some ⟨w.heap.size, 1, none⟩)) ?_
    refine dwl 1 (.string a.s) ?_ (hS := HQe.out.n) (hy := (fun u hSu => exec_load_run rfl rfl (ld9 (box_all hSu).2.1)))
    refine dwp 3 (.pointer (some ⟨w.heap.size, 1, none⟩)) ?_
    refine dwl 4 (.string a.s) ?_ (hS := HQe.out.n) (hy := (fun u hSu => exec_load_run rfl rfl (ld9 (box_all hSu).2.1)))
    refine wpAnyD_one (i := 2) (by kernel_rfl) rfl ?_
    intro K' hK'
    go_simp
    refine (CU.out _ HQe.out.b).mono ?_
    rintro e w5 ⟨rfl, hb⟩
    have HQf : Hid _ := HQe.out.below hb
    clear hb
    refine hK' _ _ (.inr fun _ => HQf.out.n) ?_
    clear hK' HQe
    try simp only [Act.put, List.setIfInBounds_toArray, List.set_cons_zero, List.set_cons_succ]
    refine dwp 5 (.bool false) ?_
    refine dwp 6 (.bool false) ?_
    refine dwp 7 (.pointer (some ⟨w.heap.size, 1, none⟩)) ?_
    refine dwl 8 (.string a.s) ?_ (hS := HQf.out.n) (hy := (fun u hSu => exec_load_run rfl rfl (ld9 (box_all hSu).2.1)))
    refine wpAnyD_one (i := 9) (by kernel_rfl) rfl ?_
    intro K' hK'
    go_simp
    refine (CG.out _ HQf.out.b).mono ?_
    rintro e w6 ⟨rfl, hb⟩
    have HQg : Hid _ := HQf.out.below hb
    clear hb
    refine hK' _ _ (.inr fun _ => HQg.out.n) ?_
    clear hK' HQf
    try simp only [Act.put, List.setIfInBounds_toArray, List.set_cons_zero, List.set_cons_succ]
    refine dwp 10 (.bool false) ?_
    refine dwp 11 (.bool false) ?_
    refine dws 12 ?_ (hg := (by first | (go_simp; done) | (go_simp; exact fun h => by cases h)))
    refine dws 13 ?_ (hg := (by first | (go_simp; done) | (go_simp; exact fun h => by cases h)))
    refine dws 14 ?_ (hg := (by first | (go_simp; done) | (go_simp; exact fun h => by cases h)))
    refine dws 15 ?_ (hg := (by first | (go_simp; done) | (go_simp; exact fun h => by cases h)))
    refine dwp 16 (.bool false) ?_
    refine dwp 17 (.bool false) ?_
    refine dwp 18 (.bool false) ?_
    refine dwp 19 (.pointer (some ⟨w.heap.size, 17, none⟩)) ?_
    refine dwl 20 (.slice p n c) ?_ (hS := HQg.out.n) (hy := (fun u hSu => exec_load_run rfl rfl (ld26 (cell17 hSu))))
    refine dwp 21 (.int .i64 (n : Int)) ?_
    refine dwp 22 (.bool false) ?_
    refine dwp 23 (.bool false) ?_
    refine wpAnyD_done (by kernel_rfl) ?_ _
    have hc8 := HQg.out.cells
    rw [hk] at hc8
    obtain ⟨u3, RS3, hq3⟩ := HQg.out.setA p n c
    have HQ3 : Hid (RQ w a (.slice p n c) g (lab0 7 a.s) (.slice p n c) u3) := hq3
    have C9 := right_out hz hs HQ3.out
    have RLN : Hid _ := HQ3.out.ldN
    have RLW : Hid _ := HQ3.out.ldW
    have hc3 := HQ3.out.cells
    rw [hk] at hc3
    clear hq3
    go_wp2_with (first
     | (refine wpList_store_run rfl 26 _ _ rfl _ _ _ rfl rfl RS3.out ?_; clear RS3)
     | (refine wpList_load_run rfl 28 _ rfl _ _ rfl RLN.out ?_; clear RLN)
     | (refine wpList_load_run rfl 28 _ rfl _ _ rfl RLW.out ?_; clear RLW)
     | (go_at_call 13; refine C9.mono ?_; clear C9; rintro e w9 ⟨rfl, hb9⟩))
    go_ret
    exact ⟨rfl, hb9⟩
   ·have hni : (16 : Int) < n := by omega
    rw [show (labB a (lab0 7 a.s) && (decide (n ≤ 16) && (true && (true || !decide (tv < 0))))) = false by simp [hn]]
    clear hn
    have RL : Hid _ := right_ld (a := a) (p := p) (n := n) (c := c) (w := w)
    have C := right_in (a := a) (p := p) (n := n) (c := c) (w := w)
    rw [hk] at C
    go_enter Tryz.func65, Tryz.ntmps65
    go_wp2_with (first
     | (refine wpList_load_run rfl 28 _ rfl _ _ rfl RL.out ?_; clear RL)
     | (go_at_call 105; refine C.mono ?_; clear C; rintro e w1 ⟨wx, u0, rfl, RS, HQ⟩; have hcc := HQ.out.cells; rw [hk] at hcc)
     | (refine wpList_store_run rfl 28 _ _ rfl _ _ _ rfl rfl RS.out ?_; clear RS))
    clear hcc
    have HQd : Hid (RQ w a (.slice p n c) w1.heap.size (lab0 7 nb) (.slice none 0 0) u0.drew) := HQ.out.drew
    obtain ⟨u1, RS1, hq1⟩ := HQd.out.setS a.s
    have HQ1 : Hid (RQ w a (.slice p n c) w1.heap.size (lab0 7 a.s) (.slice none 0 0) u1) := hq1
    obtain ⟨u2, RS2, hq2⟩ := HQ1.out.setA p n c
    have HQ2 : Hid (RQ w a (.slice p n c) w1.heap.size (lab0 7 a.s) (.slice p n c) u2) := hq2
    clear hq1 hq2 HQ
    generalize w1.heap.size = g at *
    refine wp_region_d (fun u => u.heap[w.heap.size]? = some (.cells (lcs a (.slice p n c)) 28)) (fun _ => false) (by kernel_rfl) ?_
    refine dwp 0 (.pointer (some ⟨w.heap.size, 1, none⟩)) ?_
    refine dwl 1 (.string a.s) ?_ (hS := HQd.out.n) (hy := (fun u hSu => exec_load_run rfl rfl (ld9 (box_all hSu).2.1)))
    refine dwp 2 (.pointer (some ⟨w.heap.size, 17, none⟩)) ?_
    refine dwl 3 (.slice p n c) ?_ (hS := HQd.out.n) (hy := (fun u hSu => exec_load_run rfl rfl (ld26 (cell17 hSu))))
    refine dwp 4 (.pointer (some ⟨g, 1, none⟩)) ?_
    refine wpAnyD_one (i := 5) (by kernel_rfl) rfl ?_
    intro K' hK'
    rw [if_pos (by go_simp)]
    refine wp_store_run none rfl 9 _ _ rfl _ _ rfl rfl RS1.out (hK' _ _ (.inr fun _ => HQ1.out.n) ?_)
    clear hK'
    try simp only [Act.put, List.setIfInBounds_toArray, List.set_cons_zero, List.set_cons_succ]
    refine dwp 6 (.pointer (some ⟨g, 17, none⟩)) ?_
    refine wpAnyD_one (i := 7) (by kernel_rfl) rfl ?_
    intro K' hK'
    rw [if_pos (by go_simp)]
    refine wp_store_run none rfl 26 _ _ rfl _ _ rfl rfl RS2.out (hK' _ _ (.inr fun _ => HQ2.out.n) ?_)
    clear hK'
    try simp only [Act.put, List.setIfInBounds_toArray, List.set_cons_zero, List.set_cons_succ]
    refine wpAnyD_done (by kernel_rfl) ?_ _
    clear HQd HQ1 RS1 RS2
    have hc2 := HQ2.out.cells
    rw [hk] at hc2
    clear hc2
    have HQe : Hid (RQ w a (.slice p n c) g (lab0 7 a.s) (.slice p n c) u2.drew) := HQ2.out.drew
    clear HQ2
    go_wp2
    refine wp_region_d (fun u => u.heap[w.heap.size]? = some (.cells (lcs a (.slice p n c)) 28)) (fun _ => false) (by kernel_rfl) ?_
    refine dwp 0 (.pointer (some ⟨w.heap.size, 1, none⟩)) ?_
    refine dwl 1 (.string a.s) ?_ (hS := HQe.out.n) (hy := (fun u hSu => exec_load_run rfl rfl (ld9 (box_all hSu).2.1)))
    refine dwp 3 (.pointer (some ⟨w.heap.size, 1, none⟩)) ?_
    refine dwl 4 (.string a.s) ?_ (hS := HQe.out.n) (hy := (fun u hSu => exec_load_run rfl rfl (ld9 (box_all hSu).2.1)))
    refine wpAnyD_one (i := 2) (by kernel_rfl) rfl ?_
    intro K' hK'
    go_simp
    refine (CU.out _ HQe.out.b).mono ?_
    rintro e w5 ⟨rfl, hb⟩
    have HQf : Hid _ := HQe.out.below hb
    clear hb
    refine hK' _ _ (.inr fun _ => HQf.out.n) ?_
    clear hK' HQe
    try simp only [Act.put, List.setIfInBounds_toArray, List.set_cons_zero, List.set_cons_succ]
    refine dwp 5 (.bool false) ?_
    refine dwp 6 (.bool false) ?_
    refine dwp 7 (.pointer (some ⟨w.heap.size, 1, none⟩)) ?_
    refine dwl 8 (.string a.s) ?_ (hS := HQf.out.n) (hy := (fun u hSu => exec_load_run rfl rfl (ld9 (box_all hSu).2.1)))
    refine wpAnyD_one (i := 9) (by kernel_rfl) rfl ?_
    intro K' hK'
    go_simp
    refine (CG.out _ HQf.out.b).mono ?_
    rintro e w6 ⟨rfl, hb⟩
    have HQg : Hid _ := HQf.out.below hb
    clear hb
    refine hK' _ _ (.inr fun _ => HQg.out.n) ?_
    clear hK' HQf
    try simp only [Act.put, List.setIfInBounds_toArray, List.set_cons_zero, List.set_cons_succ]
    refine dwp 10 (.bool false) ?_
    refine dwp 11 (.bool false) ?_
    refine dws 12 ?_ (hg := (by first | (go_simp; done) | (go_simp; exact fun h => by cases h)))
    refine dws 13 ?_ (hg := (by first | (go_simp; done) | (go_simp; exact fun h => by cases h)))
    refine dws 14 ?_ (hg := (by first | (go_simp; done) | (go_simp; exact fun h => by cases h)))
    refine dws 15 ?_ (hg := (by first | (go_simp; done) | (go_simp; exact fun h => by cases h)))
    refine dwp 16 (.bool false) ?_
    refine dwp 17 (.bool false) ?_
    refine dwp 18 (.bool false) ?_
    refine dwp 19 (.pointer (some ⟨w.heap.size, 17, none⟩)) ?_
    refine dwl 20 (.slice p n c) ?_ (hS := HQg.out.n) (hy := (fun u hSu => exec_load_run rfl rfl (ld26 (cell17 hSu))))
    refine dwp 21 (.int .i64 (n : Int)) ?_
    refine dwp 22 (.bool true) ?_
    refine dwp 23 (.bool true) ?_
    refine wpAnyD_done (by kernel_rfl) ?_ _
    have HB : Hid _ := HQg.out.b
    go_wp2
    go_ret
    exact ⟨rfl, HB.out⟩
  | false =>
   by_cases ht : tv < 0
   ·rw [show (labB a (lab0 7 a.s) && (decide (n ≤ 16) && (true && (false || !decide (tv < 0))))) = false by simp [ht]]
    have ht2 : tv < 0 := ht
    have RL : Hid _ := right_ld (a := a) (p := p) (n := n) (c := c) (w := w)
    have C := right_in (a := a) (p := p) (n := n) (c := c) (w := w)
    rw [hk] at C
    go_enter Tryz.func65, Tryz.ntmps65
    go_wp2_with (first
     | (refine wpList_load_run rfl 28 _ rfl _ _ rfl RL.out ?_; clear RL)
     | (go_at_call 105; refine C.mono ?_; clear C; rintro e w1 ⟨wx, u0, rfl, RS, HQ⟩; have hcc := HQ.out.cells; rw [hk] at hcc)
     | (refine wpList_store_run rfl 28 _ _ rfl _ _ _ rfl rfl RS.out ?_; clear RS))
    clear hcc
    have HQd : Hid (RQ w a (.slice p n c) w1.heap.size (lab0 7 nb) (.slice none 0 0) u0.drew) := HQ.out.drew
    obtain ⟨u1, RS1, hq1⟩ := HQd.out.setS a.s
    have HQ1 : Hid (RQ w a (.slice p n c) w1.heap.size (lab0 7 a.s) (.slice none 0 0) u1) := hq1
    obtain ⟨u2, RS2, hq2⟩ := HQ1.out.setA p n c
    have HQ2 : Hid (RQ w a (.slice p n c) w1.heap.size (lab0 7 a.s) (.slice p n c) u2) := hq2
    clear hq1 hq2 HQ
    generalize w1.heap.size = g at *
    refine wp_region_d (fun u => u.heap[w.heap.size]? = some (.cells (lcs a (.slice p n c)) 28)) (fun _ => false) (by kernel_rfl) ?_
    refine dwp 0 (.pointer (some ⟨w.heap.size, 1, none⟩)) ?_
    refine dwl 1 (.string a.s) ?_ (hS := HQd.out.n) (hy := (fun u hSu => exec_load_run rfl rfl (ld9 (box_all hSu).2.1)))
    refine dwp 2 (.pointer (some ⟨w.heap.size, 17, none⟩)) ?_
    refine dwl 3 (.slice p n c) ?_ (hS := HQd.out.n) (hy := (fun u hSu => exec_load_run rfl rfl (ld26 (cell17 hSu))))
    refine dwp 4 (.pointer (some ⟨g, 1, none⟩)) ?_
    refine wpAnyD_one (i := 5) (by kernel_rfl) rfl ?_
    intro K' hK'
    rw [if_pos (by go_simp)]
    refine wp_store_run none rfl 9 _ _ rfl _ _ rfl rfl RS1.out (hK' _ _ (.inr fun _ => HQ1.out.n) ?_)
    clear hK'
    try simp only [Act.put, List.setIfInBounds_toArray, List.set_cons_zero, List.set_cons_succ]
    refine dwp 6 (.pointer (some ⟨g, 17, none⟩)) ?_
    refine wpAnyD_one (i := 7) (by kernel_rfl) rfl ?_
    intro K' hK'
    rw [if_pos (by go_simp)]
    refine wp_store_run none rfl 26 _ _ rfl _ _ rfl rfl RS2.out (hK' _ _ (.inr fun _ => HQ2.out.n) ?_)
    clear hK'
    try simp only [Act.put, List.setIfInBounds_toArray, List.set_cons_zero, List.set_cons_succ]
    refine wpAnyD_done (by kernel_rfl) ?_ _
    clear HQd HQ1 RS1 RS2
    have hc2 := HQ2.out.cells
    rw [hk] at hc2
    clear hc2
    have HQe : Hid (RQ w a (.slice p n c) g (lab0 7 a.s) (.slice p n c) u2.drew) := HQ2.out.drew
    clear HQ2
    go_wp2
    refine wp_region_d (fun u => u.heap[w.heap.size]? = some (.cells (lcs a (.slice p n c)) 28)) (fun _ => false) (by kernel_rfl) ?_
    refine dwp 0 (.pointer (some ⟨w.heap.size, 1, none⟩)) ?_
    refine dwl 1 (.string a.s) ?_ (hS := HQe.out.n) (hy := (fun u hSu => exec_load_run rfl rfl (ld9 (box_all hSu).2.1)))
    refine dwp 3 (.pointer (some ⟨w.heap.size, 1, none⟩)) ?_
    refine dwl 4 (.string a.s) ?_ (hS := HQe.out.n) (hy := (fun u hSu => exec_load_run rfl rfl (ld9 (box_all hSu).2.1)))
    refine wpAnyD_one (i := 2) (by kernel_rfl) rfl ?_
    intro K' hK'
    go_simp
    refine (CU.out _ HQe.out.b).mono ?_
    rintro e w5 ⟨rfl, hb⟩
    have HQf : Hid _ := HQe.out.below hb
    clear hb
    refine hK' _ _ (.inr fun _ => HQf.out.n) ?_
    clear hK' HQe
    try simp only [Act.put, List.setIfInBounds_toArray, List.set_cons_zero, List.set_cons_succ]
    refine dwp 5 (.bool false) ?_
    refine dwp 6 (.bool false) ?_
    refine dwp 7 (.pointer (some ⟨w.heap.size, 1, none⟩)) ?_
    refine dwl 8 (.string a.s) ?_ (hS := HQf.out.n) (hy := (fun u hSu => exec_load_run rfl rfl (ld9 (box_all hSu).2.1)))
    refine wpAnyD_one (i := 9) (by kernel_rfl) rfl ?_
    intro K' hK'
    go_simp
    refine (CG.out _ HQf.out.b).mono ?_
    rintro e w6 ⟨rfl, hb⟩
    have HQg : Hid _ := HQf.out.below hb
    clear hb
    refine hK' _ _ (.inr fun _ => HQg.out.n) ?_
    clear hK' HQf
    try simp only [Act.put, List.setIfInBounds_toArray, List.set_cons_zero, List.set_cons_succ]
    refine dwp 10 (.bool true) ?_
    refine dwp 11 (.bool true) ?_
    refine dwp 12 (.pointer (some ⟨w.heap.size, 1, none⟩)) ?_
    refine dwl 13 (.string a.s) ?_ (hS := HQg.out.n) (hy := (fun u hSu => exec_load_run rfl rfl (ld9 (box_all hSu).2.1)))
    refine wpAnyD_one (i := 14) (by kernel_rfl) rfl ?_
    intro K' hK'
    go_simp
    refine (CT.out _ HQg.out.b).mono ?_
    rintro e w7 ⟨rfl, hb⟩
    have HQh : Hid _ := HQg.out.below hb
    clear hb
    refine hK' _ _ (.inr fun _ => HQh.out.n) ?_
    clear hK' HQg
    try simp only [Act.put, List.setIfInBounds_toArray, List.set_cons_zero, List.set_cons_succ]
    refine dwp 15 (.bool true) ?_
    refine dwp 16 (.bool true) ?_
    refine dwp 17 (.bool true) ?_
    refine dwp 18 (.bool true) ?_
    refine dws 19 ?_ (hg := (by first | (go_simp; done) | (go_simp; exact fun h => by cases h)))
    refine dws 20 ?_ (hg := (by first | (go_simp; done) | (go_simp; exact fun h => by cases h)))
    refine dws 21 ?_ (hg := (by first | (go_simp; done) | (go_simp; exact fun h => by cases h)))
    refine dws 22 ?_ (hg := (by first | (go_simp; done) | (go_simp; exact fun h => by cases h)))
    refine dwp 23 (.bool true) ?_
    refine wpAnyD_done (by kernel_rfl) ?_ _
    have HB : Hid _ := HQh.out.b
    go_wp2
    go_ret
    exact ⟨rfl, HB.out⟩
   ·by_cases hn : n ≤ 16
    ·have hni : ¬ (16 : Int) < n := by omega
     rw [show (labB a (lab0 7 a.s) && (decide (n ≤ 16) && (true && (false || !decide (tv < 0))))) = labB a (lab0 7 a.s) by simp [hn, ht]]
     clear hn
     have RL : Hid _ := right_ld (a := a) (p := p) (n := n) (c := c) (w := w)
     have C := right_in (a := a) (p := p) (n := n) (c := c) (w := w)
     rw [hk] at C
     go_enter Tryz.func65, Tryz.ntmps65
     go_wp2_with (first
      | (refine wpList_load_run rfl 28 _ rfl _ _ rfl RL.out ?_; clear RL)
      | (go_at_call 105; refine C.mono ?_; clear C; rintro e w1 ⟨wx, u0, rfl, RS, HQ⟩; have hcc := HQ.out.cells; rw [hk] at hcc)
      | (refine wpList_store_run rfl 28 _ _ rfl _ _ _ rfl rfl RS.out ?_; clear RS))
     clear hcc
     have HQd : Hid (RQ w a (.slice p n c) w1.heap.size (lab0 7 nb) (.slice none 0 0) u0.drew) := HQ.out.drew
     obtain ⟨u1, RS1, hq1⟩ := HQd.out.setS a.s
     have HQ1 : Hid (RQ w a (.slice p n c) w1.heap.size (lab0 7 a.s) (.slice none 0 0) u1) := hq1
     obtain ⟨u2, RS2, hq2⟩ := HQ1.out.setA p n c
     have HQ2 : Hid (RQ w a (.slice p n c) w1.heap.size (lab0 7 a.s) (.slice p n c) u2) := hq2
     clear hq1 hq2 HQ
     generalize w1.heap.size = g at *
     refine wp_region_d (fun u => u.heap[w.heap.size]? = some (.cells (lcs a (.slice p n c)) 28)) (fun _ => false) (by kernel_rfl) ?_
     refine dwp 0 (.pointer (some ⟨w.heap.size, 1, none⟩)) ?_
     refine dwl 1 (.string a.s) ?_ (hS := HQd.out.n) (hy := (fun u hSu => exec_load_run rfl rfl (ld9 (box_all hSu).2.1)))
     refine dwp 2 (.pointer (some ⟨w.heap.size, 17, none⟩)) ?_
     refine dwl 3 (.slice p n c) ?_ (hS := HQd.out.n) (hy := (fun u hSu => exec_load_run rfl rfl (ld26 (cell17 hSu))))
     refine dwp 4 (.pointer (some ⟨g, 1, none⟩)) ?_
     refine wpAnyD_one (i := 5) (by kernel_rfl) rfl ?_
     intro K' hK'
     rw [if_pos (by go_simp)]
     refine wp_store_run none rfl 9 _ _ rfl _ _ rfl rfl RS1.out (hK' _ _ (.inr fun _ => HQ1.out.n) ?_)
     clear hK'
     try simp only [Act.put, List.setIfInBounds_toArray, List.set_cons_zero, List.set_cons_succ]
     refine dwp 6 (.pointer (some ⟨g, 17, none⟩)) ?_
     refine wpAnyD_one (i := 7) (by kernel_rfl) rfl ?_
     intro K' hK'
     rw [if_pos (by go_simp)]
     refine wp_store_run none rfl 26 _ _ rfl _ _ rfl rfl RS2.out (hK' _ _ (.inr fun _ => HQ2.out.n) ?_)
     clear hK'
     try simp only [Act.put, List.setIfInBounds_toArray, List.set_cons_zero, List.set_cons_succ]
     refine wpAnyD_done (by kernel_rfl) ?_ _
     clear HQd HQ1 RS1 RS2
     have hc2 := HQ2.out.cells
     rw [hk] at hc2
     clear hc2
     have HQe : Hid (RQ w a (.slice p n c) g (lab0 7 a.s) (.slice p n c) u2.drew) := HQ2.out.drew
     clear HQ2
     go_wp2
     refine wp_region_d (fun u => u.heap[w.heap.size]? = some (.cells (lcs a (.slice p n c)) 28)) (fun _ => false) (by kernel_rfl) ?_
     refine dwp 0 (.pointer (some ⟨w.heap.size, 1, none⟩)) ?_
     refine dwl 1 (.string a.s) ?_ (hS := HQe.out.n) (hy := (fun u hSu => exec_load_run rfl rfl (ld9 (box_all hSu).2.1)))
     refine dwp 3 (.pointer (some ⟨w.heap.size, 1, none⟩)) ?_
     refine dwl 4 (.string a.s) ?_ (hS := HQe.out.n) (hy := (fun u hSu => exec_load_run rfl rfl (ld9 (box_all hSu).2.1)))
     refine wpAnyD_one (i := 2) (by kernel_rfl) rfl ?_
     intro K' hK'
     go_simp
     refine (CU.out _ HQe.out.b).mono ?_
     rintro e w5 ⟨rfl, hb⟩
     have HQf : Hid _ := HQe.out.below hb
     clear hb
     refine hK' _ _ (.inr fun _ => HQf.out.n) ?_
     clear hK' HQe
     try simp only [Act.put, List.setIfInBounds_toArray, List.set_cons_zero, List.set_cons_succ]
     refine dwp 5 (.bool false) ?_
     refine dwp 6 (.bool false) ?_
     refine dwp 7 (.pointer (some ⟨w.heap.size, 1, none⟩)) ?_
     refine dwl 8 (.string a.s) ?_ (hS := HQf.out.n) (hy := (fun u hSu => exec_load_run rfl rfl (ld9 (box_all hSu).2.1)))
     refine wpAnyD_one (i := 9) (by kernel_rfl) rfl ?_
     intro K' hK'
     go_simp
     refine (CG.out _ HQf.out.b).mono ?_
     rintro e w6 ⟨rfl, hb⟩
     have HQg : Hid _ := HQf.out.below hb
     clear hb
     refine hK' _ _ (.inr fun _ => HQg.out.n) ?_
     clear hK' HQf
     try simp only [Act.put, List.setIfInBounds_toArray, List.set_cons_zero, List.set_cons_succ]
     refine dwp 10 (.bool true) ?_
     refine dwp 11 (.bool true) ?_
     refine dwp 12 (.pointer (some ⟨w.heap.size, 1, none⟩)) ?_
     refine dwl 13 (.string a.s) ?_ (hS := HQg.out.n) (hy := (fun u hSu => exec_load_run rfl rfl (ld9 (box_all hSu).2.1)))
     refine wpAnyD_one (i := 14) (by kernel_rfl) rfl ?_
     intro K' hK'
     go_simp
     refine (CT.out _ HQg.out.b).mono ?_
     rintro e w7 ⟨rfl, hb⟩
     have HQh : Hid _ := HQg.out.below hb
     clear hb
     refine hK' _ _ (.inr fun _ => HQh.out.n) ?_
     clear hK' HQg
     try simp only [Act.put, List.setIfInBounds_toArray, List.set_cons_zero, List.set_cons_succ]
     refine dwp 15 (.bool false) ?_
     refine dwp 16 (.bool false) ?_
     refine dwp 17 (.bool false) ?_
     refine dwp 18 (.bool false) ?_
     refine dwp 19 (.pointer (some ⟨w.heap.size, 17, none⟩)) ?_
     refine dwl 20 (.slice p n c) ?_ (hS := HQh.out.n) (hy := (fun u hSu => exec_load_run rfl rfl (ld26 (cell17 hSu))))
     refine dwp 21 (.int .i64 (n : Int)) ?_
     refine dwp 22 (.bool false) ?_
     refine dwp 23 (.bool false) ?_
     refine wpAnyD_done (by kernel_rfl) ?_ _
     have hc8 := HQh.out.cells
     rw [hk] at hc8
     obtain ⟨u3, RS3, hq3⟩ := HQh.out.setA p n c
     have HQ3 : Hid (RQ w a (.slice p n c) g (lab0 7 a.s) (.slice p n c) u3) := hq3
     have C9 := right_out hz hs HQ3.out
     have RLN : Hid _ := HQ3.out.ldN
     have RLW : Hid _ := HQ3.out.ldW
     have hc3 := HQ3.out.cells
     rw [hk] at hc3
     clear hq3
     go_wp2_with (first
      | (refine wpList_store_run rfl 26 _ _ rfl _ _ _ rfl rfl RS3.out ?_; clear RS3)
      | (refine wpList_load_run rfl 28 _ rfl _ _ rfl RLN.out ?_; clear RLN)
      | (refine wpList_load_run rfl 28 _ rfl _ _ rfl RLW.out ?_; clear RLW)
      | (go_at_call 13; refine C9.mono ?_; clear C9; rintro e w9 ⟨rfl, hb9⟩))
     go_ret
     exact ⟨rfl, hb9⟩
    ·have hni : (16 : Int) < n := by omega
     rw [show (labB a (lab0 7 a.s) && (decide (n ≤ 16) && (true && (false || !decide (tv < 0))))) = false by simp [hn]]
     clear hn
     have RL : Hid _ := right_ld (a := a) (p := p) (n := n) (c := c) (w := w)
     have C := right_in (a := a) (p := p) (n := n) (c := c) (w := w)
     rw [hk] at C
     go_enter Tryz.func65, Tryz.ntmps65
     go_wp2_with (first
      | (refine wpList_load_run rfl 28 _ rfl _ _ rfl RL.out ?_; clear RL)
      | (go_at_call 105; refine C.mono ?_; clear C; rintro e w1 ⟨wx, u0, rfl, RS, HQ⟩; have hcc := HQ.out.cells; rw [hk] at hcc)
      | (refine wpList_store_run rfl 28 _ _ rfl _ _ _ rfl rfl RS.out ?_; clear RS))
     clear hcc
     have HQd : Hid (RQ w a (.slice p n c) w1.heap.size (lab0 7 nb) (.slice none 0 0) u0.drew) := HQ.out.drew
     obtain ⟨u1, RS1, hq1⟩ := HQd.out.setS a.s
     have HQ1 : Hid (RQ w a (.slice p n c) w1.heap.size (lab0 7 a.s) (.slice none 0 0) u1) := hq1
     obtain ⟨u2, RS2, hq2⟩ := HQ1.out.setA p n c
     have HQ2 : Hid (RQ w a (.slice p n c) w1.heap.size (lab0 7 a.s) (.slice p n c) u2) := hq2
     clear hq1 hq2 HQ
     generalize w1.heap.size = g at *
     refine wp_region_d (fun u => u.heap[w.heap.size]? = some (.cells (lcs a (.slice p n c)) 28)) (fun _ => false) (by kernel_rfl) ?_
     refine dwp 0 (.pointer (some ⟨w.heap.size, 1, none⟩)) ?_
     refine dwl 1 (.string a.s) ?_ (hS := HQd.out.n) (hy := (fun u hSu => exec_load_run rfl rfl (ld9 (box_all hSu).2.1)))
     refine dwp 2 (.pointer (some ⟨w.heap.size, 17, none⟩)) ?_
     refine dwl 3 (.slice p n c) ?_ (hS := HQd.out.n) (hy := (fun u hSu => exec_load_run rfl rfl (ld26 (cell17 hSu))))
     refine dwp 4 (.pointer (some ⟨g, 1, none⟩)) ?_
     refine wpAnyD_one (i := 5) (by kernel_rfl) rfl ?_
     intro K' hK'
     rw [if_pos (by go_simp)]
     refine wp_store_run none rfl 9 _ _ rfl _ _ rfl rfl RS1.out (hK' _ _ (.inr fun _ => HQ1.out.n) ?_)
     clear hK'
     try simp only [Act.put, List.setIfInBounds_toArray, List.set_cons_zero, List.set_cons_succ]
     refine dwp 6 (.pointer (some ⟨g, 17, none⟩)) ?_
     refine wpAnyD_one (i := 7) (by kernel_rfl) rfl ?_
     intro K' hK'
     rw [if_pos (by go_simp)]
     refine wp_store_run none rfl 26 _ _ rfl _ _ rfl rfl RS2.out (hK' _ _ (.inr fun _ => HQ2.out.n) ?_)
     clear hK'
     try simp only [Act.put, List.setIfInBounds_toArray, List.set_cons_zero, List.set_cons_succ]
     refine wpAnyD_done (by kernel_rfl) ?_ _
     clear HQd HQ1 RS1 RS2
     have hc2 := HQ2.out.cells
     rw [hk] at hc2
     clear hc2
     have HQe : Hid (RQ w a (.slice p n c) g (lab0 7 a.s) (.slice p n c) u2.drew) := HQ2.out.drew
     clear HQ2
     go_wp2
     refine wp_region_d (fun u => u.heap[w.heap.size]? = some (.cells (lcs a (.slice p n c)) 28)) (fun _ => false) (by kernel_rfl) ?_
     refine dwp 0 (.pointer (some ⟨w.heap.size, 1, none⟩)) ?_
     refine dwl 1 (.string a.s) ?_ (hS := HQe.out.n) (hy := (fun u hSu => exec_load_run rfl rfl (ld9 (box_all hSu).2.1)))
     refine dwp 3 (.pointer (some ⟨w.heap.size, 1, none⟩)) ?_
     refine dwl 4 (.string a.s) ?_ (hS := HQe.out.n) (hy := (fun u hSu => exec_load_run rfl rfl (ld9 (box_all hSu).2.1)))
     refine wpAnyD_one (i := 2) (by kernel_rfl) rfl ?_
     intro K' hK'
     go_simp
     refine (CU.out _ HQe.out.b).mono ?_
     rintro e w5 ⟨rfl, hb⟩
     have HQf : Hid _ := HQe.out.below hb
     clear hb
     refine hK' _ _ (.inr fun _ => HQf.out.n) ?_
     clear hK' HQe
     try simp only [Act.put, List.setIfInBounds_toArray, List.set_cons_zero, List.set_cons_succ]
     refine dwp 5 (.bool false) ?_
     refine dwp 6 (.bool false) ?_
     refine dwp 7 (.pointer (some ⟨w.heap.size, 1, none⟩)) ?_
     refine dwl 8 (.string a.s) ?_ (hS := HQf.out.n) (hy := (fun u hSu => exec_load_run rfl rfl (ld9 (box_all hSu).2.1)))
     refine wpAnyD_one (i := 9) (by kernel_rfl) rfl ?_
     intro K' hK'
     go_simp
     refine (CG.out _ HQf.out.b).mono ?_
     rintro e w6 ⟨rfl, hb⟩
     have HQg : Hid _ := HQf.out.below hb
     clear hb
     refine hK' _ _ (.inr fun _ => HQg.out.n) ?_
     clear hK' HQf
     try simp only [Act.put, List.setIfInBounds_toArray, List.set_cons_zero, List.set_cons_succ]
     refine dwp 10 (.bool true) ?_
     refine dwp 11 (.bool true) ?_
     refine dwp 12 (.pointer (some ⟨w.heap.size, 1, none⟩)) ?_
     refine dwl 13 (.string a.s) ?_ (hS := HQg.out.n) (hy := (fun u hSu => exec_load_run rfl rfl (ld9 (box_all hSu).2.1)))
     refine wpAnyD_one (i := 14) (by kernel_rfl) rfl ?_
     intro K' hK'
     go_simp
     refine (CT.out _ HQg.out.b).mono ?_
     rintro e w7 ⟨rfl, hb⟩
     have HQh : Hid _ := HQg.out.below hb
     clear hb
     refine hK' _ _ (.inr fun _ => HQh.out.n) ?_
     clear hK' HQg
     try simp only [Act.put, List.setIfInBounds_toArray, List.set_cons_zero, List.set_cons_succ]
     refine dwp 15 (.bool false) ?_
     refine dwp 16 (.bool false) ?_
     refine dwp 17 (.bool false) ?_
     refine dwp 18 (.bool false) ?_
     refine dwp 19 (.pointer (some ⟨w.heap.size, 17, none⟩)) ?_
     refine dwl 20 (.slice p n c) ?_ (hS := HQh.out.n) (hy := (fun u hSu => exec_load_run rfl rfl (ld26 (cell17 hSu))))
     refine dwp 21 (.int .i64 (n : Int)) ?_
     refine dwp 22 (.bool true) ?_
     refine dwp 23 (.bool true) ?_
     refine wpAnyD_done (by kernel_rfl) ?_ _
     have HB : Hid _ := HQh.out.b
     go_wp2
     go_ret
     exact ⟨rfl, HB.out⟩
end
end Go.Proofs.YtljmklbbngpllaaGreatDoor
