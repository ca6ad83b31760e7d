/- RRight5, RRight6. -/
import Derived.Test.YtljmklbbngpllaaGreatDoorRRight1Ot
set_option linter.unusedVariables false
set_option linter.unusedSimpArgs false
set_option maxHeartbeats 16000000
set_option maxRecDepth 100000
namespace Go.Proofs.YtljmklbbngpllaaGreatDoor
open Go.RowKit Go.Fm
theorem ok5 {a : Lab} {n : Nat} (hk : a.k = 5) : okL a n = (labB a (lab0 5 a.s) && (((n : Int) == 1) && ((a.s.toList == [45]) || (a.s.toList == [37])))) := by
 unfold okL bareB partsB namN namL isLeaf
 simp [hk]
section
variable {a : Lab} {p : Option Addr} {n c : Nat} {w : World} {f : F}
theorem right_5 (hk : a.k = 5) (hz : zT (a, f) ≤ 1000000) (hs : SF w p n f) : Calls Tryz.prog 65 #[.agg (lcs a (.slice p n c))] w fun e w' => e = .returned (.bool (okL a n)) ∧ Below w.heap.size w w' := by
 rw [ok5 hk]
 cases e45 : (a.s.toList == [45]) with
 | true =>
  cases en : ((n : Int) == 1) with
  | true =>
   rw [show (labB a (lab0 5 a.s) && (true && (true || (a.s.toList == [37])))) = labB a (lab0 5 a.s) by simp]
   have RL : Hid _ := right_ld (a := a) (p := p) (n := n) (c := c) (w := w)
   have C := right_in (a := a) (p := p) (n := n) (c := c) (w := w)
   rw [hk] at C
   go_enter Tryz.func65, Tryz.ntmps65
   go_wp2_with (first
    | (refine wpList_load_run rfl 28 _ rfl _ _ rfl RL.out ?_; clear RL)
    | (go_at_call 105; refine C.mono ?_; clear C; rintro e w1 ⟨wx, u0, rfl, RS, HQ⟩; have hcc := HQ.out.cells; rw [hk] at hcc)
    | (refine wpList_store_run rfl 28 _ _ rfl _ _ _ rfl rfl RS.out ?_; clear RS))
   clear hcc
   have HQd : Hid (RQ w a (.slice p n c) w1.heap.size (lab0 5 nb) (.slice none 0 0) u0.drew) := HQ.out.drew
   obtain ⟨u1, RS1, hq1⟩ := HQd.out.setS a.s
   have HQ1 : Hid (RQ w a (.slice p n c) w1.heap.size (lab0 5 a.s) (.slice none 0 0) u1) := hq1
   obtain ⟨u2, RS2, hq2⟩ := HQ1.out.setA p n c
   have HQ2 : Hid (RQ w a (.slice p n c) w1.heap.size (lab0 5 a.s) (.slice p n c) u2) := hq2
   clear hq1 hq2 HQ
   generalize w1.heap.size = g at *
   refine wp_region_d (fun u => u.heap[w.heap.size]? = some (.cells (lcs a (.slice p n c)) 28)) (fun _ => false) (by kernel_rfl) ?_
   refine dwp 0 (.pointer (some ⟨w.heap.size, 1, none⟩)) ?_
   refine dwl 1 (.string a.s) ?_ (hS := HQd.out.n) (hy := (fun u hSu => exec_load_run rfl rfl (ld9 (box_all hSu).2.1)))
   refine dwp 2 (.pointer (some ⟨w.heap.size, 17, none⟩)) ?_
   refine dwl 3 (.slice p n c) ?_ (hS := HQd.out.n) (hy := (fun u hSu => exec_load_run rfl rfl (ld26 (cell17 hSu))))
   refine dwp 4 (.pointer (some ⟨g, 1, none⟩)) ?_
   refine wpAnyD_one (i := 5) (by kernel_rfl) rfl ?_
   intro K' hK'
   rw [if_pos (by go_simp)]
   refine wp_store_run none rfl 9 _ _ rfl _ _ rfl rfl RS1.out (hK' _ _ (.inr fun _ => HQ1.out.n) ?_)
   clear hK'
   try simp only [Act.put, List.setIfInBounds_toArray, List.set_cons_zero, List.set_cons_succ]
   refine dwp 6 (.pointer (some ⟨g, 17, none⟩)) ?_
   refine wpAnyD_one (i := 7) (by kernel_rfl) rfl ?_
   intro K' hK'
   rw [if_pos (by go_simp)]
   refine wp_store_run none rfl 26 _ _ rfl _ _ rfl rfl RS2.out (hK' _ _ (.inr fun _ => HQ2.out.n) ?_)
   clear hK'
   try simp only [Act.put, List.setIfInBounds_toArray, List.set_cons_zero, List.set_cons_succ]
   refine wpAnyD_done (by kernel_rfl) ?_ _
   clear HQd HQ1 RS1 RS2
   have hc2 := HQ2.out.cells
   rw [hk] at hc2
   obtain ⟨u3, RS3, hq3⟩ := HQ2.out.setA p n c
   have HQ3 : Hid (RQ w a (.slice p n c) g (lab0 5 a.s) (.slice p n c) u3) := hq3
   have C9 := right_out hz hs HQ3.out
   have RLN : Hid _ := HQ3.out.ldN
   have RLW : Hid _ := HQ3.out.ldW
   have hc3 := HQ3.out.cells
   rw [hk] at hc3
   clear hq3
   go_wp2_with (first
    | (refine wpList_store_run rfl 26 _ _ rfl _ _ _ rfl rfl RS3.out ?_; clear RS3)
    | (refine wpList_load_run rfl 28 _ rfl _ _ rfl RLN.out ?_; clear RLN)
    | (refine wpList_load_run rfl 28 _ rfl _ _ rfl RLW.out ?_; clear RLW)
    | (go_at_call 13; refine C9.mono ?_; clear C9; rintro e w9 ⟨rfl, hb9⟩))
   go_ret
   exact ⟨rfl, hb9⟩
  | false =>
   rw [show (labB a (lab0 5 a.s) && (false && (true || (a.s.toList == [37])))) = false by simp]
   have RL : Hid _ := right_ld (a := a) (p := p) (n := n) (c := c) (w := w)
   have C := right_in (a := a) (p := p) (n := n) (c := c) (w := w)
   rw [hk] at C
   go_enter Tryz.func65, Tryz.ntmps65
   go_wp2_with (first
    | (refine wpList_load_run rfl 28 _ rfl _ _ rfl RL.out ?_; clear RL)
    | (go_at_call 105; refine C.mono ?_; clear C; rintro e w1 ⟨wx, u0, rfl, RS, HQ⟩; have hcc := HQ.out.cells; rw [hk] at hcc)
    | (refine wpList_store_run rfl 28 _ _ rfl _ _ _ rfl rfl RS.out ?_; clear RS))
   clear hcc
   have HQd : Hid (RQ w a (.slice p n c) w1.heap.size (lab0 5 nb) (.slice none 0 0) u0.drew) := HQ.out.drew
   obtain ⟨u1, RS1, hq1⟩ := HQd.out.setS a.s
   have HQ1 : Hid (RQ w a (.slice p n c) w1.heap.size (lab0 5 a.s) (.slice none 0 0) u1) := hq1
   obtain ⟨u2, RS2, hq2⟩ := HQ1.out.setA p n c
   have HQ2 : Hid (RQ w a (.slice p n c) w1.heap.size (lab0 5 a.s) (.slice p n c) u2) := hq2
   clear hq1 hq2 HQ
   generalize w1.heap.size = g at *
   refine wp_region_d (fun u => u.heap[w.heap.size]? = some (.cells (lcs a (.slice p n c)) 28)) (fun _ => false) (by kernel_rfl) ?_
   refine dwp 0 (.pointer (some ⟨w.heap.size, 1, none⟩)) ?_
   refine dwl 1 (.string a.s) ?_ (hS := HQd.out.n) (hy := (fun u hSu => exec_load_run rfl rfl (ld9 (box_all hSu).2.1)))
   refine dwp 2 (.pointer (some ⟨w.heap.size, 17, none⟩)) ?_
   refine dwl 3 (.slice p n c) ?_ (hS := HQd.out.n) (hy := (fun u hSu => exec_load_run rfl rfl (ld26 (cell17 hSu))))
   refine dwp 4 (.pointer (some ⟨g, 1, none⟩)) ?_
   refine wpAnyD_one (i := 5) (by kernel_rfl) rfl ?_
   intro K' hK'
   rw [if_pos (by go_simp)]
   refine wp_store_run none rfl 9 _ _ rfl _ _ rfl rfl RS1.out (hK' _ _ (.inr fun _ => HQ1.out.n) ?_)
   clear hK'
   try simp only [Act.put, List.setIfInBounds_toArray, List.set_cons_zero, List.set_cons_succ]
   refine dwp 6 (.pointer (some ⟨g, 17, none⟩)) ?_
   refine wpAnyD_one (i := 7) (by kernel_rfl) rfl ?_
   intro K' hK'
   rw [if_pos (by go_simp)]
   refine wp_store_run none rfl 26 _ _ rfl _ _ rfl rfl RS2.out (hK' _ _ (.inr fun _ => HQ2.out.n) ?_)
   clear hK'
   try simp only [Act.put, List.setIfInBounds_toArray, List.set_cons_zero, List.set_cons_succ]
   refine wpAnyD_done (by kernel_rfl) ?_ _
   clear HQd HQ1 RS1 RS2
   have hc2 := HQ2.out.cells
   rw [hk] at hc2
   have HB : Hid _ := HQ2.out.b
   go_wp2
   go_ret
   exact ⟨rfl, HB.out⟩
 | false =>
  cases e37 : (a.s.toList == [37]) with
  | true =>
   cases en : ((n : Int) == 1) with
   | true =>
    rw [show (labB a (lab0 5 a.s) && (true && (false || true))) = labB a (lab0 5 a.s) by simp]
    have RL : Hid _ := right_ld (a := a) (p := p) (n := n) (c := c) (w := w)
    have C := right_in (a := a) (p := p) (n := n) (c := c) (w := w)
    rw [hk] at C
    go_enter Tryz.func65, Tryz.ntmps65
    go_wp2_with (first
     | (refine wpList_load_run rfl 28 _ rfl _ _ rfl RL.out ?_; clear RL)
     | (go_at_call 105; refine C.mono ?_; clear C; rintro e w1 ⟨wx, u0, rfl, RS, HQ⟩; have hcc := HQ.out.cells; rw [hk] at hcc)
     | (refine wpList_store_run rfl 28 _ _ rfl _ _ _ rfl rfl RS.out ?_; clear RS))
    clear hcc
    have HQd : Hid (RQ w a (.slice p n c) w1.heap.size (lab0 5 nb) (.slice none 0 0) u0.drew) := HQ.out.drew
    obtain ⟨u1, RS1, hq1⟩ := HQd.out.setS a.s
    have HQ1 : Hid (RQ w a (.slice p n c) w1.heap.size (lab0 5 a.s) (.slice none 0 0) u1) := hq1
    obtain ⟨u2, RS2, hq2⟩ := HQ1.out.setA p n c
    have HQ2 : Hid (RQ w a (.slice p n c) w1.heap.size (lab0 5 a.s) (.slice p n c) u2) := hq2
    clear hq1 hq2 HQ
    generalize w1.heap.size = g at *
    refine wp_region_d (fun u => u.heap[w.heap.size]? = some (.cells (lcs a (.slice p n c)) 28)) (fun _ => false) (by kernel_rfl) ?_
    refine dwp 0 (.pointer (some ⟨w.heap.size, 1, none⟩)) ?_
    refine dwl 1 (.string a.s) ?_ (hS := HQd.out.n) (hy := (fun u hSu => exec_load_run rfl rfl (ld9 (box_all hSu).2.1)))
    refine dwp 2 (.pointer (some ⟨w.heap.size, 17, none⟩)) ?_
    refine dwl 3 (.slice p n c) ?_ (hS := HQd.out.n) (hy := (fun u hSu => exec_load_run rfl rfl (ld26 (cell17 hSu))))
    refine dwp 4 (.pointer (some ⟨g, 1, none⟩)) ?_
    refine wpAnyD_one (i := 5) (by kernel_rfl) rfl ?_
    intro K' hK'
    rw [if_pos (by go_simp)]
    refine wp_store_run none rfl 9 _ _ rfl _ _ rfl rfl RS1.out (hK' _ _ (.inr fun _ => HQ1.out.n) ?_)
    clear hK'
    try simp only [Act.put, List.setIfInBounds_toArray, List.set_cons_zero, List.set_cons_succ]
    refine dwp 6 (.pointer (some ⟨g, 17, none⟩)) ?_
    refine wpAnyD_one (i := 7) (by kernel_rfl) rfl ?_
    intro K' hK'
    rw [if_pos (by go_simp)]
    refine wp_store_run none rfl 26 _ _ rfl _ _ rfl rfl RS2.out (hK' _ _ (.inr fun _ => HQ2.out.n) ?_)
    clear hK'
    try simp only [Act.put, List.setIfInBounds_toArray, List.set_cons_zero, List.set_cons_succ]
    refine wpAnyD_done (by kernel_rfl) ?_ _
    clear HQd HQ1 RS1 RS2
    have hc2 := HQ2.out.cells
    rw [hk] at hc2
    obtain ⟨u3, RS3, hq3⟩ := HQ2.out.setA p n c
    have HQ3 : Hid (RQ w a (.slice p n c) g (lab0 5 a.s) (.slice p n c) u3) := hq3
    have C9 := right_out hz hs HQ3.out
    have RLN : Hid _ := HQ3.out.ldN
    have RLW : Hid _ := HQ3.out.ldW
    have hc3 := HQ3.out.cells
    rw [hk] at hc3
    clear hq3
    go_wp2_with (first
     | (refine wpList_store_run rfl 26 _ _ rfl _ _ _ rfl rfl RS3.out ?_; clear RS3)
     | (refine wpList_load_run rfl 28 _ rfl _ _ rfl RLN.out ?_; clear RLN)
     | (refine wpList_load_run rfl 28 _ rfl _ _ rfl RLW.out ?_; clear RLW)
     | (go_at_call 13; refine C9.mono ?_; clear C9; rintro e w9 ⟨rfl, hb9⟩))
    go_ret
    exact ⟨rfl, hb9⟩
   | false =>
    rw [show (labB a (lab0 5 a.s) && (false && (false || true))) = false by simp]
    have RL : Hid _ := right_ld (a := a) (p := p) (n := n) (c := c) (w := w)
    have C := right_in (a := a) (p := p) (n := n) (c := c) (w := w)
    rw [hk] at C
    go_enter Tryz.func65, Tryz.ntmps65
    go_wp2_with (first
     | (refine wpList_load_run rfl 28 _ rfl _ _ rfl RL.out ?_; clear RL)
     | (go_at_call 105; refine C.mono ?_; clear C; rintro e w1 ⟨wx, u0, rfl, RS, HQ⟩; have hcc := HQ.out.cells; rw [hk] at hcc)
     | (refine wpList_store_run rfl 28 _ _ rfl _ _ _ rfl rfl RS.out ?_; clear RS))
    clear hcc
    have HQd : Hid (RQ w a (.slice p n c) w1.heap.size (lab0 5 nb) (.slice none 0 0) u0.drew) := HQ.out.drew
    obtain ⟨u1, RS1, hq1⟩ := HQd.out.setS a.s
    have HQ1 : Hid (RQ w a (.slice p n c) w1.heap.size (lab0 5 a.s) (.slice none 0 0) u1) := hq1
    obtain ⟨u2, RS2, hq2⟩ := HQ1.out.setA p n c
    have HQ2 : Hid (RQ w a (.slice p n c) w1.heap.size (lab0 5 a.s) (.slice p n c) u2) := hq2
    clear hq1 hq2 HQ
    generalize w1.heap.size = g at *
    refine wp_region_d (fun u => u.heap[w.heap.size]? = some (.cells (lcs a (.slice p n c)) 28)) (fun _ => false) (by kernel_rfl) ?_
    refine dwp 0 (.pointer (some ⟨w.heap.size, 1, none⟩)) ?_
    refine dwl 1 (.string a.s) ?_ (hS := HQd.out.n) (hy := (fun u hSu => exec_load_run rfl rfl (ld9 (box_all hSu).2.1)))
    refine dwp 2 (.pointer (some ⟨w.heap.size, 17, none⟩)) ?_
    refine dwl 3 (.slice p n c) ?_ (hS := HQd.out.n) (hy := (fun u hSu => exec_load_run rfl rfl (ld26 (cell17 hSu))))
    refine dwp 4 (.pointer (some ⟨g, 1, none⟩)) ?_
    refine wpAnyD_one (i := 5) (by kernel_rfl) rfl ?_
    intro K' hK'
    rw [if_pos (by go_simp)]
    refine wp_store_run none rfl 9 _ _ rfl _ _ rfl rfl RS1.out (hK' _ _ (.inr fun _ => HQ1.out.n) ?_)
    clear hK'
    try simp only [Act.put, List.setIfInBounds_toArray, List.set_cons_zero, List.set_cons_succ]
    refine dwp 6 (.pointer (some ⟨g, 17, none⟩)) ?_
    refine wpAnyD_one (i := 7) (by kernel_rfl) rfl ?_
    intro K' hK'
    rw [if_pos (by go_simp)]
    refine wp_store_run none rfl 26 _ _ rfl _ _ rfl rfl RS2.out (hK' _ _ (.inr fun _ => HQ2.out.n) ?_)
    clear hK'
    try simp only [Act.put, List.setIfInBounds_toArray, List.set_cons_zero, List.set_cons_succ]
    refine wpAnyD_done (by kernel_rfl) ?_ _
    clear HQd HQ1 RS1 RS2
    have hc2 := HQ2.out.cells
    rw [hk] at hc2
    have HB : Hid _ := HQ2.out.b
    go_wp2
    go_ret
    exact ⟨rfl, HB.out⟩
  | false =>
   rw [show (labB a (lab0 5 a.s) && (((n : Int) == 1) && (false || false))) = false by simp]
   have RL : Hid _ := right_ld (a := a) (p := p) (n := n) (c := c) (w := w)
   have C := right_in (a := a) (p := p) (n := n) (c := c) (w := w)
   rw [hk] at C
   go_enter Tryz.func65, Tryz.ntmps65
   go_wp2_with (first
    | (refine wpList_load_run rfl 28 _ rfl _ _ rfl RL.out ?_; clear RL)
    | (go_at_call 105; refine C.mono ?_; clear C; rintro e w1 ⟨wx, u0, rfl, RS, HQ⟩; have hcc := HQ.out.cells; rw [hk] at hcc)
    | (refine wpList_store_run rfl 28 _ _ rfl _ _ _ rfl rfl RS.out ?_; clear RS))
   clear hcc
   have HQd : Hid (RQ w a (.slice p n c) w1.heap.size (lab0 5 nb) (.slice none 0 0) u0.drew) := HQ.out.drew
   obtain ⟨u1, RS1, hq1⟩ := HQd.out.setS a.s
   have HQ1 : Hid (RQ w a (.slice p n c) w1.heap.size (lab0 5 a.s) (.slice none 0 0) u1) := hq1
   obtain ⟨u2, RS2, hq2⟩ := HQ1.out.setA p n c
   have HQ2 : Hid (RQ w a (.slice p n c) w1.heap.size (lab0 5 a.s) (.slice p n c) u2) := hq2
   clear hq1 hq2 HQ
   generalize w1.heap.size = g at *
   refine wp_region_d (fun u => u.heap[w.heap.size]? = some (.cells (lcs a (.slice p n c)) 28)) (fun _ => false) (by kernel_rfl) ?_
   refine dwp 0 (.pointer (some ⟨w.heap.size, 1, none⟩)) ?_
   refine dwl 1 (.string a.s) ?_ (hS := HQd.out.n) (hy := (fun u hSu => exec_load_run rfl rfl (ld9 (box_all hSu).2.1)))
   refine dwp 2 (.pointer (some ⟨w.heap.size, 17, none⟩)) ?_
   refine dwl 3 (.slice p n c) ?_ (hS := HQd.out.n) (hy := (fun u hSu => exec_load_run rfl rfl (ld26 (cell17 hSu))))
   refine dwp 4 (.pointer (some ⟨g, 1, none⟩)) ?_
   refine wpAnyD_one (i := 5) (by kernel_rfl) rfl ?_
   intro K' hK'
   rw [if_pos (by go_simp)]
   refine wp_store_run none rfl 9 _ _ rfl _ _ rfl rfl RS1.out (hK' _ _ (.inr fun _ => HQ1.out.n) ?_)
   clear hK'
   try simp only [Act.put, List.setIfInBounds_toArray, List.set_cons_zero, List.set_cons_succ]
   refine dwp 6 (.pointer (some ⟨g, 17, none⟩)) ?_
   refine wpAnyD_one (i := 7) (by kernel_rfl) rfl ?_
   intro K' hK'
   rw [if_pos (by go_simp)]
   refine wp_store_run none rfl 26 _ _ rfl _ _ rfl rfl RS2.out (hK' _ _ (.inr fun _ => HQ2.out.n) ?_)
   clear hK'
   try simp only [Act.put, List.setIfInBounds_toArray, List.set_cons_zero, List.set_cons_succ]
   refine wpAnyD_done (by kernel_rfl) ?_ _
   clear HQd HQ1 RS1 RS2
   have hc2 := HQ2.out.cells
   rw [hk] at hc2
   have HB : Hid _ := HQ2.out.b
   go_wp2
   go_ret
   exact ⟨rfl, HB.out⟩
end
theorem ok6 {a : Lab} {n : Nat} (hk : a.k = 6) : okL a n = (labB a (lab0 6 a.s) && (((n : Int) == 2) && !((strn a.s.toList : Int) == 0))) := by
 unfold okL bareB partsB namN namL isLeaf
 simp [hk]
theorem rstrength_b (s : ByteArray) (w : World) : Calls Tryz.prog 97 #[.string s] w fun e w' => e = .returned (.int .i64 (strn s.toList : Nat)) ∧ w' = w := by
 have := rstrength_any s.toList w
 have e : ba s.toList = s := by
  apply bytes_eq
  rw [ByteArray.toList_eq, ByteArray.toList_eq]
  simp [ba]
 rw [e] at this
 exact this
section
variable {a : Lab} {p : Option Addr} {n c : Nat} {w : World} {f : F}
theorem right_6 (hk : a.k = 6) (hz : zT (a, f) ≤ 1000000) (hs : SF w p n f) : Calls Tryz.prog 65 #[.agg (lcs a (.slice p n c))] w fun e w' => e = .returned (.bool (okL a n)) ∧ Below w.heap.size w w' := by
 have ST := fun u => rstrength_b a.s u
 rw [ok6 hk]
 generalize (strn a.s.toList : Nat) = sg at *
 cases es : ((sg : Int) == 0) with
 | true =>
  rw [show (labB a (lab0 6 a.s) && (((n : Int) == 2) && !true)) = false by simp]
  have RL : Hid _ := right_ld (a := a) (p := p) (n := n) (c := c) (w := w)
  have C := right_in (a := a) (p := p) (n := n) (c := c) (w := w)
  rw [hk] at C
  go_enter Tryz.func65, Tryz.ntmps65
  go_wp2_with (first
   | (refine wpList_load_run rfl 28 _ rfl _ _ rfl RL.out ?_; clear RL)
   | (go_at_call 105; refine C.mono ?_; clear C; rintro e w1 ⟨wx, u0, rfl, RS, HQ⟩; have hcc := HQ.out.cells; rw [hk] at hcc)
   | (refine wpList_store_run rfl 28 _ _ rfl _ _ _ rfl rfl RS.out ?_; clear RS))
  clear hcc
  have HQd : Hid (RQ w a (.slice p n c) w1.heap.size (lab0 6 nb) (.slice none 0 0) u0.drew) := HQ.out.drew
  obtain ⟨u1, RS1, hq1⟩ := HQd.out.setS a.s
  have HQ1 : Hid (RQ w a (.slice p n c) w1.heap.size (lab0 6 a.s) (.slice none 0 0) u1) := hq1
  obtain ⟨u2, RS2, hq2⟩ := HQ1.out.setA p n c
  have HQ2 : Hid (RQ w a (.slice p n c) w1.heap.size (lab0 6 a.s) (.slice p n c) u2) := hq2
  clear hq1 hq2 HQ
  generalize w1.heap.size = g at *
  refine wp_region_d (fun u => u.heap[w.heap.size]? = some (.cells (lcs a (.slice p n c)) 28)) (fun _ => false) (by kernel_rfl) ?_
  refine dwp 0 (.pointer (some ⟨w.heap.size, 1, none⟩)) ?_
  refine dwl 1 (.string a.s) ?_ (hS := HQd.out.n) (hy := (fun u hSu => exec_load_run rfl rfl (ld9 (box_all hSu).2.1)))
  refine dwp 2 (.pointer (some ⟨w.heap.size, 17, none⟩)) ?_
  refine dwl 3 (.slice p n c) ?_ (hS := HQd.out.n) (hy := (fun u hSu => exec_load_run rfl rfl (ld26 (cell17 hSu))))
  refine dwp 4 (.pointer (some ⟨g, 1, none⟩)) ?_
  refine wpAnyD_one (i := 5) (by kernel_rfl) rfl ?_
  intro K' hK'
  rw [if_pos (by go_simp)]
  refine wp_store_run none rfl 9 _ _ rfl _ _ rfl rfl RS1.out (hK' _ _ (.inr fun _ => HQ1.out.n) ?_)
  clear hK'
  try simp only [Act.put, List.setIfInBounds_toArray, List.set_cons_zero, List.set_cons_succ]
  refine dwp 6 (.pointer (some ⟨g, 17, none⟩)) ?_
  refine wpAnyD_one (i := 7) (by kernel_rfl) rfl ?_
  intro K' hK'
  rw [if_pos (by go_simp)]
  refine wp_store_run none rfl 26 _ _ rfl _ _ rfl rfl RS2.out (hK' _ _ (.inr fun _ => HQ2.out.n) ?_)
  clear hK'
  try simp only [Act.put, List.setIfInBounds_toArray, List.set_cons_zero, List.set_cons_succ]
  refine wpAnyD_done (by kernel_rfl) ?_ _
  clear HQd HQ1 RS1 RS2
  have hc2 := HQ2.out.cells
  rw [hk] at hc2
  have HB : Hid _ := HQ2.out.b
  go_wp2_with (go_at_call 97; refine (ST _).mono ?_; rintro e w4 ⟨rfl, hw⟩; obtain rfl := hw.symm; clear hw)
  go_ret
  exact ⟨rfl, HB.out⟩
 | false =>
  cases en : ((n : Int) == 2) with
  | true =>
   rw [show (labB a (lab0 6 a.s) && (true && !false)) = labB a (lab0 6 a.s) by simp]
   have RL : Hid _ := right_ld (a := a) (p := p) (n := n) (c := c) (w := w)
   have C := right_in (a := a) (p := p) (n := n) (c := c) (w := w)
   rw [hk] at C
   go_enter Tryz.func65, Tryz.ntmps65
   go_wp2_with (first
    | (refine wpList_load_run rfl 28 _ rfl _ _ rfl RL.out ?_; clear RL)
    | (go_at_call 105; refine C.mono ?_; clear C; rintro e w1 ⟨wx, u0, rfl, RS, HQ⟩; have hcc := HQ.out.cells; rw [hk] at hcc)
    | (refine wpList_store_run rfl 28 _ _ rfl _ _ _ rfl rfl RS.out ?_; clear RS))
   clear hcc
   have HQd : Hid (RQ w a (.slice p n c) w1.heap.size (lab0 6 nb) (.slice none 0 0) u0.drew) := HQ.out.drew
   obtain ⟨u1, RS1, hq1⟩ := HQd.out.setS a.s
   have HQ1 : Hid (RQ w a (.slice p n c) w1.heap.size (lab0 6 a.s) (.slice none 0 0) u1) := hq1
   obtain ⟨u2, RS2, hq2⟩ := HQ1.out.setA p n c
   have HQ2 : Hid (RQ w a (.slice p n c) w1.heap.size (lab0 6 a.s) (.slice p n c) u2) := hq2
   clear hq1 hq2 HQ
   generalize w1.heap.size = g at *
   refine wp_region_d (fun u => u.heap[w.heap.size]? = some (.cells (lcs a (.slice p n c)) 28)) (fun _ => false) (by kernel_rfl) ?_
   refine dwp 0 (.pointer (some ⟨w.heap.size, 1, none⟩)) ?_
   refine dwl 1 (.string a.s) ?_ (hS := HQd.out.n) (hy := (fun u hSu => exec_load_run rfl rfl (ld9 (box_all hSu).2.1)))
   refine dwp 2 (.pointer (some ⟨w.heap.size, 17, none⟩)) ?_
   refine dwl 3 (.slice p n c) ?_ (hS := HQd.out.n) (hy := (fun u hSu => exec_load_run rfl rfl (ld26 (cell17 hSu))))
   refine dwp 4 (.pointer (some ⟨g, 1, none⟩)) ?_
   refine wpAnyD_one (i := 5) (by kernel_rfl) rfl ?_
   intro K' hK'
   rw [if_pos (by go_simp)]
   refine wp_store_run none rfl 9 _ _ rfl _ _ rfl rfl RS1.out (hK' _ _ (.inr fun _ => HQ1.out.n) ?_)
   clear hK'
   try simp only [Act.put, List.setIfInBounds_toArray, List.set_cons_zero, List.set_cons_succ]
   refine dwp 6 (.pointer (some ⟨g, 17, none⟩)) ?_
   refine wpAnyD_one (i := 7) (by kernel_rfl) rfl ?_
   intro K' hK'
   rw [if_pos (by go_simp)]
   refine wp_store_run none rfl 26 _ _ rfl _ _ rfl rfl RS2.out (hK' _ _ (.inr fun _ => HQ2.out.n) ?_)
   clear hK'
   try simp only [Act.put, List.setIfInBounds_toArray, List.set_cons_zero, List.set_cons_succ]
   refine wpAnyD_done (by kernel_rfl) ?_ _
   clear HQd HQ1 RS1 RS2
   have hc2 := HQ2.out.cells
   rw [hk] at hc2
   obtain ⟨u3, RS3, hq3⟩ := HQ2.out.setA p n c
   have HQ3 : Hid (RQ w a (.slice p n c) g (lab0 6 a.s) (.slice p n c) u3) := hq3
   have C9 := right_out hz hs HQ3.out
   have RLN : Hid _ := HQ3.out.ldN
   have RLW : Hid _ := HQ3.out.ldW
   have hc3 := HQ3.out.cells
   rw [hk] at hc3
   clear hq3
   go_wp2_with (first
    | (go_at_call 97; refine (ST _).mono ?_; rintro e w4 ⟨rfl, hw⟩; obtain rfl := hw.symm; clear hw)
    | (refine wpList_store_run rfl 26 _ _ rfl _ _ _ rfl rfl RS3.out ?_; clear RS3)
    | (refine wpList_load_run rfl 28 _ rfl _ _ rfl RLN.out ?_; clear RLN)
    | (refine wpList_load_run rfl 28 _ rfl _ _ rfl RLW.out ?_; clear RLW)
    | (go_at_call 13; refine C9.mono ?_; clear C9; rintro e w9 ⟨rfl, hb9⟩))
   go_ret
   exact ⟨rfl, hb9⟩
  | false =>
   rw [show (labB a (lab0 6 a.s) && (false && !false)) = false by simp]
   have RL : Hid _ := right_ld (a := a) (p := p) (n := n) (c := c) (w := w)
   have C := right_in (a := a) (p := p) (n := n) (c := c) (w := w)
   rw [hk] at C
   go_enter Tryz.func65, Tryz.ntmps65
   go_wp2_with (first
    | (refine wpList_load_run rfl 28 _ rfl _ _ rfl RL.out ?_; clear RL)
    | (go_at_call 105; refine C.mono ?_; clear C; rintro e w1 ⟨wx, u0, rfl, RS, HQ⟩; have hcc := HQ.out.cells; rw [hk] at hcc)
    | (refine wpList_store_run rfl 28 _ _ rfl _ _ _ rfl rfl RS.out ?_; clear RS))
   clear hcc
   have HQd : Hid (RQ w a (.slice p n c) w1.heap.size (lab0 6 nb) (.slice none 0 0) u0.drew) := HQ.out.drew
   obtain ⟨u1, RS1, hq1⟩ := HQd.out.setS a.s
   have HQ1 : Hid (RQ w a (.slice p n c) w1.heap.size (lab0 6 a.s) (.slice none 0 0) u1) := hq1
   obtain ⟨u2, RS2, hq2⟩ := HQ1.out.setA p n c
   have HQ2 : Hid (RQ w a (.slice p n c) w1.heap.size (lab0 6 a.s) (.slice p n c) u2) := hq2
   clear hq1 hq2 HQ
   generalize w1.heap.size = g at *
   refine wp_region_d (fun u => u.heap[w.heap.size]? = some (.cells (lcs a (.slice p n c)) 28)) (fun _ => false) (by kernel_rfl) ?_
   refine dwp 0 (.pointer (some ⟨w.heap.size, 1, none⟩)) ?_
   refine dwl 1 (.string a.s) ?_ (hS := HQd.out.n) (hy := (fun u hSu => exec_load_run rfl rfl (ld9 (box_all hSu).2.1)))
   refine dwp 2 (.pointer (some ⟨w.heap.size, 17, none⟩)) ?_
   refine dwl 3 (.slice p n c) ?_ (hS := HQd.out.n) (hy := (fun u hSu => exec_load_run rfl rfl (ld26 (cell17 hSu))))
   refine dwp 4 (.pointer (some ⟨g, 1, none⟩)) ?_
   refine wpAnyD_one (i := 5) (by kernel_rfl) rfl ?_
   intro K' hK'
   rw [if_pos (by go_simp)]
   refine wp_store_run none rfl 9 _ _ rfl _ _ rfl rfl RS1.out (hK' _ _ (.inr fun _ => HQ1.out.n) ?_)
   clear hK'
   try simp only [Act.put, List.setIfInBounds_toArray, List.set_cons_zero, List.set_cons_succ]
   refine dwp 6 (.pointer (some ⟨g, 17, none⟩)) ?_
   refine wpAnyD_one (i := 7) (by kernel_rfl) rfl ?_
   intro K' hK'
   rw [if_pos (by go_simp)]
   refine wp_store_run none rfl 26 _ _ rfl _ _ rfl rfl RS2.out (hK' _ _ (.inr fun _ => HQ2.out.n) ?_)
   clear hK'
   try simp only [Act.put, List.setIfInBounds_toArray, List.set_cons_zero, List.set_cons_succ]
   refine wpAnyD_done (by kernel_rfl) ?_ _
   clear HQd HQ1 RS1 RS2
   have hc2 := HQ2.out.cells
   rw [hk] at hc2
   have HB : Hid _ := HQ2.out.b
   go_wp2_with (go_at_call 97; refine (ST _).mono ?_; rintro e w4 ⟨rfl, hw⟩; obtain rfl := hw.symm; clear hw)
   go_ret
   exact ⟨rfl, HB.out⟩
end
end Go.Proofs.YtljmklbbngpllaaGreatDoor
