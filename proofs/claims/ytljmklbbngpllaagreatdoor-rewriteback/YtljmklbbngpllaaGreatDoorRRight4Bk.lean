/- RRight4. -/
import Derived.Test.YtljmklbbngpllaaGreatDoorRRight1Bk
set_option linter.unusedVariables false
set_option linter.unusedSimpArgs false
set_option maxHeartbeats 16000000
set_option maxRecDepth 100000
namespace Go.Proofs.YtljmklbbngpllaaGreatDoor
open Go.RowKit Go.Fm
theorem ok4 {a : Lab} {n : Nat} (hk : a.k = 4) : okL a n = (bO a (⟨4, a.s, 0, 0, nb, a.b1, nb, 0, 0, false, false, nb, nb, 0, 0, false, false⟩ : Lab) && ((n : Int) == 0) && (gnF a.s.data.toList && (a.b1.toList.isEmpty || gnF a.b1.data.toList))) := by
 unfold okL iN fD sV qH gM
 simp [hk]
section
variable {a : Lab} {p : Option Addr} {n c : Nat} {w : World} {f : F}
theorem aI0 (hk : a.k = 4) (Z : jW a) (hz : zT (a, f) ≤ 1000000) (hs : SF w p n f) : Calls Tryz.prog 65 #[.agg (lcs a (.slice p n c))] w fun e w' => e = .returned (.bool (okL a n)) ∧ Below w.heap.size w w' := by
 have CG1 : Hid (∀ u, Below w.heap.size w u → Calls Tryz.prog 108 #[.string a.s] u fun e w' => e = .returned (.bool (gnF a.s.data.toList)) ∧ Below u.heap.size u w') := fun u hu => fE a.s Z.s u
 have CG2 : Hid (∀ u, Below w.heap.size w u → Calls Tryz.prog 108 #[.string a.b1] u fun e w' => e = .returned (.bool (gnF a.b1.data.toList)) ∧ Below u.heap.size u w') := fun u hu => fE a.b1 Z.b1 u
 rw [ok4 hk]
 generalize gnF a.s.data.toList = gs at *
 generalize gnF a.b1.data.toList = gb at *
 cases gs with
 | false =>
  rw [show (bO a (⟨4, a.s, 0, 0, nb, a.b1, nb, 0, 0, false, false, nb, nb, 0, 0, false, false⟩ : Lab) && ((n : Int) == 0) && (false && (a.b1.toList.isEmpty || gb))) = false by simp]
  have RL : Hid _ := bA (a := a) (p := p) (n := n) (c := c) (w := w)
  have C := aZ (a := a) (p := p) (n := n) (c := c) (w := w)
  rw [hk] at C
  go_enter Tryz.func65, Tryz.ntmps65
  go_wp2_with (first
   | (refine aA rfl 28 _ rfl _ _ rfl RL.out ?_; clear RL)
   | (go_at_call 105; refine C.mono ?_; clear C; rintro e w1 ⟨wx, u0, rfl, RS, HQ⟩; have hcc := HQ.out.cells; rw [hk] at hcc)
   | (refine aB rfl 28 _ _ rfl _ _ _ rfl rfl RS.out ?_; clear RS))
  clear hcc
  have HQd : Hid (RQ w a (.slice p n c) w1.heap.size (aT 4 nb) (.slice none 0 0) u0.drew) := HQ.out.drew
  obtain ⟨u1, RS1, hq1⟩ := HQd.out.jK a.s
  have HQ1 : Hid (RQ w a (.slice p n c) w1.heap.size (aT 4 a.s) (.slice none 0 0) u1) := hq1
  obtain ⟨u2, RS2, hq2⟩ := HQ1.out.aEv a.b1
  have HQ2 : Hid (RQ w a (.slice p n c) w1.heap.size (⟨4, a.s, 0, 0, nb, a.b1, nb, 0, 0, false, false, nb, nb, 0, 0, false, false⟩ : Lab) (.slice none 0 0) u2) := hq2
  clear hq1 hq2 HQ
  generalize w1.heap.size = g at *
  refine aM (fun u => u.heap[w.heap.size]? = some (.cells (lcs a (.slice p n c)) 28)) (fun _ => false) (by kernel_rfl) ?_
  refine dwp 0 (.pointer (some ⟨w.heap.size, 1, none⟩)) ?_
  refine dwl 1 (.string a.s) ?_ (hS := HQd.out.n) (hy := (fun u hSu => aG rfl rfl (ld9 (aL hSu).2.1)))
  refine dwp 2 (.pointer (some ⟨w.heap.size, 5, none⟩)) ?_
  refine dwp 3 (.pointer (some ⟨w.heap.size, 5, none⟩)) ?_
  refine dwl 4 (.string a.b1) ?_ (hS := HQd.out.n) (hy := (fun u hSu => aG rfl rfl (ld9 (dD hSu))))
  refine dwp 5 (.pointer (some ⟨g, 1, none⟩)) ?_
  refine aF (i := 6) (by kernel_rfl) rfl ?_
  intro K' hK'
  rw [if_pos (by go_simp)]
  refine aH none rfl 9 _ _ rfl _ _ rfl rfl RS1.out (hK' _ _ (.inr fun _ => HQ1.out.n) ?_)
  clear hK'
  try simp only [Act.put, List.setIfInBounds_toArray, List.set_cons_zero, List.set_cons_succ]
  refine dwp 7 (.pointer (some ⟨g, 5, none⟩)) ?_
  refine dwp 8 (.pointer (some ⟨g, 5, none⟩)) ?_
  refine aF (i := 9) (by kernel_rfl) rfl ?_
  intro K' hK'
  rw [if_pos (by go_simp)]
  refine aH none rfl 9 _ _ rfl _ _ rfl rfl RS2.out (hK' _ _ (.inr fun _ => HQ2.out.n) ?_)
  clear hK'
  try simp only [Act.put, List.setIfInBounds_toArray, List.set_cons_zero, List.set_cons_succ]
  refine aK (by kernel_rfl) ?_ _
  clear HQd HQ1 RS1 RS2
  have hc2 := HQ2.out.cells
  rw [hk] at hc2
  go_wp2_with (first
   | (go_at_call_of 108 a.s; refine (CG1.out _ HQ2.out.b).mono ?_; clear CG1; rintro e w4 ⟨rfl, hb4⟩; have HQ4 : Hid _ := HQ2.out.below hb4; have hc5 := HQ4.out.cells; rw [hk] at hc5; clear HQ2 hb4))
  go_ret
  exact ⟨rfl, HQ4.out.b⟩
 | true =>
  by_cases hB : a.b1.toList = []
  ·have hBb : (a.b1.toList == []) = true := by simpa using hB
   rw [show (true && (a.b1.toList.isEmpty || gb)) = true by simp [hB]]
   clear hB
   by_cases hn : n = 0
   ·have hni : ¬ (0 : Int) < n := by omega
    rw [show (bO a (⟨4, a.s, 0, 0, nb, a.b1, nb, 0, 0, false, false, nb, nb, 0, 0, false, false⟩ : Lab) && ((n : Int) == 0) && true) = bO a (⟨4, a.s, 0, 0, nb, a.b1, nb, 0, 0, false, false, nb, nb, 0, 0, false, false⟩ : Lab) by simp [hn]]
    clear hn
    have RL : Hid _ := bA (a := a) (p := p) (n := n) (c := c) (w := w)
    have C := aZ (a := a) (p := p) (n := n) (c := c) (w := w)
    rw [hk] at C
    go_enter Tryz.func65, Tryz.ntmps65
    go_wp2_with (first
     | (refine aA rfl 28 _ rfl _ _ rfl RL.out ?_; clear RL)
     | (go_at_call 105; refine C.mono ?_; clear C; rintro e w1 ⟨wx, u0, rfl, RS, HQ⟩; have hcc := HQ.out.cells; rw [hk] at hcc)
     | (refine aB rfl 28 _ _ rfl _ _ _ rfl rfl RS.out ?_; clear RS))
    clear hcc
    have HQd : Hid (RQ w a (.slice p n c) w1.heap.size (aT 4 nb) (.slice none 0 0) u0.drew) := HQ.out.drew
    obtain ⟨u1, RS1, hq1⟩ := HQd.out.jK a.s
    have HQ1 : Hid (RQ w a (.slice p n c) w1.heap.size (aT 4 a.s) (.slice none 0 0) u1) := hq1
    obtain ⟨u2, RS2, hq2⟩ := HQ1.out.aEv a.b1
    have HQ2 : Hid (RQ w a (.slice p n c) w1.heap.size (⟨4, a.s, 0, 0, nb, a.b1, nb, 0, 0, false, false, nb, nb, 0, 0, false, false⟩ : Lab) (.slice none 0 0) u2) := hq2
    clear hq1 hq2 HQ
    generalize w1.heap.size = g at *
    refine aM (fun u => u.heap[w.heap.size]? = some (.cells (lcs a (.slice p n c)) 28)) (fun _ => false) (by kernel_rfl) ?_
    refine dwp 0 (.pointer (some ⟨w.heap.size, 1, none⟩)) ?_
    refine dwl 1 (.string a.s) ?_ (hS := HQd.out.n) (hy := (fun u hSu => aG rfl rfl (ld9 (aL hSu).2.1)))
    refine dwp 2 (.pointer (some ⟨w.heap.size, 5, none⟩)) ?_
    refine dwp 3 (.pointer (some ⟨w.heap.size, 5, none⟩)) ?_
    refine dwl 4 (.string a.b1) ?_ (hS := HQd.out.n) (hy := (fun u hSu => aG rfl rfl (ld9 (dD hSu))))
    refine dwp 5 (.pointer (some ⟨g, 1, none⟩)) ?_
    refine aF (i := 6) (by kernel_rfl) rfl ?_
    intro K' hK'
    rw [if_pos (by go_simp)]
    refine aH none rfl 9 _ _ rfl _ _ rfl rfl RS1.out (hK' _ _ (.inr fun _ => HQ1.out.n) ?_)
    clear hK'
    try simp only [Act.put, List.setIfInBounds_toArray, List.set_cons_zero, List.set_cons_succ]
    refine dwp 7 (.pointer (some ⟨g, 5, none⟩)) ?_
    refine dwp 8 (.pointer (some ⟨g, 5, none⟩)) ?_
    refine aF (i := 9) (by kernel_rfl) rfl ?_
    intro K' hK'
    rw [if_pos (by go_simp)]
    refine aH none rfl 9 _ _ rfl _ _ rfl rfl RS2.out (hK' _ _ (.inr fun _ => HQ2.out.n) ?_)
    clear hK'
    try simp only [Act.put, List.setIfInBounds_toArray, List.set_cons_zero, List.set_cons_succ]
    refine aK (by kernel_rfl) ?_ _
    clear HQd HQ1 RS1 RS2
    have hc2 := HQ2.out.cells
    rw [hk] at hc2
    go_wp2_with (first
     | (go_at_call_of 108 a.s; refine (CG1.out _ HQ2.out.b).mono ?_; clear CG1; rintro e w4 ⟨rfl, hb4⟩; have HQ4 : Hid _ := HQ2.out.below hb4; have hc5 := HQ4.out.cells; rw [hk] at hc5; clear HQ2 hb4; obtain ⟨u3, RS3, hq3⟩ := HQ4.out.fK p n c; have HQ3 : Hid (RQ w a (.slice p n c) g (⟨4, a.s, 0, 0, nb, a.b1, nb, 0, 0, false, false, nb, nb, 0, 0, false, false⟩ : Lab) (.slice p n c) u3) := hq3; have C9 := bQ hz hs HQ3.out; have RLN : Hid _ := HQ3.out.ldN; have RLW : Hid _ := HQ3.out.ldW; have HB3 : Hid _ := HQ3.out.b; have hc4 := HQ4.out.cells; rw [hk] at hc4; have hc3 := HQ3.out.cells; rw [hk] at hc3; clear hq3)
     | (refine aB rfl 26 _ _ rfl _ _ _ rfl rfl RS3.out ?_; clear RS3)
     | (refine aA rfl 28 _ rfl _ _ rfl RLN.out ?_; clear RLN)
     | (refine aA rfl 28 _ rfl _ _ rfl RLW.out ?_; clear RLW)
     | (go_at_call 13; refine C9.mono ?_; clear C9; rintro e w9 ⟨rfl, hb9⟩))
    go_ret
    exact ⟨rfl, hb9⟩
   ·have hni : (0 : Int) < n := by omega
    rw [show (bO a (⟨4, a.s, 0, 0, nb, a.b1, nb, 0, 0, false, false, nb, nb, 0, 0, false, false⟩ : Lab) && ((n : Int) == 0) && true) = false by simp [hn]]
    clear hn
    have RL : Hid _ := bA (a := a) (p := p) (n := n) (c := c) (w := w)
    have C := aZ (a := a) (p := p) (n := n) (c := c) (w := w)
    rw [hk] at C
    go_enter Tryz.func65, Tryz.ntmps65
    go_wp2_with (first
     | (refine aA rfl 28 _ rfl _ _ rfl RL.out ?_; clear RL)
     | (go_at_call 105; refine C.mono ?_; clear C; rintro e w1 ⟨wx, u0, rfl, RS, HQ⟩; have hcc := HQ.out.cells; rw [hk] at hcc)
     | (refine aB rfl 28 _ _ rfl _ _ _ rfl rfl RS.out ?_; clear RS))
    clear hcc
    have HQd : Hid (RQ w a (.slice p n c) w1.heap.size (aT 4 nb) (.slice none 0 0) u0.drew) := HQ.out.drew
    obtain ⟨u1, RS1, hq1⟩ := HQd.out.jK a.s
    have HQ1 : Hid (RQ w a (.slice p n c) w1.heap.size (aT 4 a.s) (.slice none 0 0) u1) := hq1
    obtain ⟨u2, RS2, hq2⟩ := HQ1.out.aEv a.b1
    have HQ2 : Hid (RQ w a (.slice p n c) w1.heap.size (⟨4, a.s, 0, 0, nb, a.b1, nb, 0, 0, false, false, nb, nb, 0, 0, false, false⟩ : Lab) (.slice none 0 0) u2) := hq2
    clear hq1 hq2 HQ
    generalize w1.heap.size = g at *
    refine aM (fun u => u.heap[w.heap.size]? = some (.cells (lcs a (.slice p n c)) 28)) (fun _ => false) (by kernel_rfl) ?_
    refine dwp 0 (.pointer (some ⟨w.heap.size, 1, none⟩)) ?_
    refine dwl 1 (.string a.s) ?_ (hS := HQd.out.n) (hy := (fun u hSu => aG rfl rfl (ld9 (aL hSu).2.1)))
    refine dwp 2 (.pointer (some ⟨w.heap.size, 5, none⟩)) ?_
    refine dwp 3 (.pointer (some ⟨w.heap.size, 5, none⟩)) ?_
    refine dwl 4 (.string a.b1) ?_ (hS := HQd.out.n) (hy := (fun u hSu => aG rfl rfl (ld9 (dD hSu))))
    refine dwp 5 (.pointer (some ⟨g, 1, none⟩)) ?_
    refine aF (i := 6) (by kernel_rfl) rfl ?_
    intro K' hK'
    rw [if_pos (by go_simp)]
    refine aH none rfl 9 _ _ rfl _ _ rfl rfl RS1.out (hK' _ _ (.inr fun _ => HQ1.out.n) ?_)
    clear hK'
    try simp only [Act.put, List.setIfInBounds_toArray, List.set_cons_zero, List.set_cons_succ]
    refine dwp 7 (.pointer (some ⟨g, 5, none⟩)) ?_
    refine dwp 8 (.pointer (some ⟨g, 5, none⟩)) ?_
    refine aF (i := 9) (by kernel_rfl) rfl ?_
    intro K' hK'
    rw [if_pos (by go_simp)]
    refine aH none rfl 9 _ _ rfl _ _ rfl rfl RS2.out (hK' _ _ (.inr fun _ => HQ2.out.n) ?_)
    clear hK'
    try simp only [Act.put, List.setIfInBounds_toArray, List.set_cons_zero, List.set_cons_succ]
    refine aK (by kernel_rfl) ?_ _
    clear HQd HQ1 RS1 RS2
    have hc2 := HQ2.out.cells
    rw [hk] at hc2
    go_wp2_with (first
     | (go_at_call_of 108 a.s; refine (CG1.out _ HQ2.out.b).mono ?_; clear CG1; rintro e w4 ⟨rfl, hb4⟩; have HQ4 : Hid _ := HQ2.out.below hb4; have hc5 := HQ4.out.cells; rw [hk] at hc5; clear HQ2 hb4; obtain ⟨u3, RS3, hq3⟩ := HQ4.out.fK p n c; have HQ3 : Hid (RQ w a (.slice p n c) g (⟨4, a.s, 0, 0, nb, a.b1, nb, 0, 0, false, false, nb, nb, 0, 0, false, false⟩ : Lab) (.slice p n c) u3) := hq3; have C9 := bQ hz hs HQ3.out; have RLN : Hid _ := HQ3.out.ldN; have RLW : Hid _ := HQ3.out.ldW; have HB3 : Hid _ := HQ3.out.b; have hc4 := HQ4.out.cells; rw [hk] at hc4; have hc3 := HQ3.out.cells; rw [hk] at hc3; clear hq3)
     | (refine aB rfl 26 _ _ rfl _ _ _ rfl rfl RS3.out ?_; clear RS3))
    go_ret
    exact ⟨rfl, HB3.out⟩
  ·have hBb : (a.b1.toList == []) = false := by simpa using hB
   rw [show (true && (a.b1.toList.isEmpty || gb)) = gb by simp [hB]]
   clear hB
   cases gb with
   | false =>
    rw [show (bO a (⟨4, a.s, 0, 0, nb, a.b1, nb, 0, 0, false, false, nb, nb, 0, 0, false, false⟩ : Lab) && ((n : Int) == 0) && false) = false by simp]
    have RL : Hid _ := bA (a := a) (p := p) (n := n) (c := c) (w := w)
    have C := aZ (a := a) (p := p) (n := n) (c := c) (w := w)
    rw [hk] at C
    go_enter Tryz.func65, Tryz.ntmps65
    go_wp2_with (first
     | (refine aA rfl 28 _ rfl _ _ rfl RL.out ?_; clear RL)
     | (go_at_call 105; refine C.mono ?_; clear C; rintro e w1 ⟨wx, u0, rfl, RS, HQ⟩; have hcc := HQ.out.cells; rw [hk] at hcc)
     | (refine aB rfl 28 _ _ rfl _ _ _ rfl rfl RS.out ?_; clear RS))
    clear hcc
    have HQd : Hid (RQ w a (.slice p n c) w1.heap.size (aT 4 nb) (.slice none 0 0) u0.drew) := HQ.out.drew
    obtain ⟨u1, RS1, hq1⟩ := HQd.out.jK a.s
    have HQ1 : Hid (RQ w a (.slice p n c) w1.heap.size (aT 4 a.s) (.slice none 0 0) u1) := hq1
    obtain ⟨u2, RS2, hq2⟩ := HQ1.out.aEv a.b1
    have HQ2 : Hid (RQ w a (.slice p n c) w1.heap.size (⟨4, a.s, 0, 0, nb, a.b1, nb, 0, 0, false, false, nb, nb, 0, 0, false, false⟩ : Lab) (.slice none 0 0) u2) := hq2
    clear hq1 hq2 HQ
    generalize w1.heap.size = g at *
    refine aM (fun u => u.heap[w.heap.size]? = some (.cells (lcs a (.slice p n c)) 28)) (fun _ => false) (by kernel_rfl) ?_
    refine dwp 0 (.pointer (some ⟨w.heap.size, 1, none⟩)) ?_
    refine dwl 1 (.string a.s) ?_ (hS := HQd.out.n) (hy := (fun u hSu => aG rfl rfl (ld9 (aL hSu).2.1)))
    refine dwp 2 (.pointer (some ⟨w.heap.size, 5, none⟩)) ?_
    refine dwp 3 (.pointer (some ⟨w.heap.size, 5, none⟩)) ?_
    refine dwl 4 (.string a.b1) ?_ (hS := HQd.out.n) (hy := (fun u hSu => aG rfl rfl (ld9 (dD hSu))))
    refine dwp 5 (.pointer (some ⟨g, 1, none⟩)) ?_
    refine aF (i := 6) (by kernel_rfl) rfl ?_
    intro K' hK'
    rw [if_pos (by go_simp)]
    refine aH none rfl 9 _ _ rfl _ _ rfl rfl RS1.out (hK' _ _ (.inr fun _ => HQ1.out.n) ?_)
    clear hK'
    try simp only [Act.put, List.setIfInBounds_toArray, List.set_cons_zero, List.set_cons_succ]
    refine dwp 7 (.pointer (some ⟨g, 5, none⟩)) ?_
    refine dwp 8 (.pointer (some ⟨g, 5, none⟩)) ?_
    refine aF (i := 9) (by kernel_rfl) rfl ?_
    intro K' hK'
    rw [if_pos (by go_simp)]
    refine aH none rfl 9 _ _ rfl _ _ rfl rfl RS2.out (hK' _ _ (.inr fun _ => HQ2.out.n) ?_)
    clear hK'
    try simp only [Act.put, List.setIfInBounds_toArray, List.set_cons_zero, List.set_cons_succ]
    refine aK (by kernel_rfl) ?_ _
    clear HQd HQ1 RS1 RS2
    have hc2 := HQ2.out.cells
    rw [hk] at hc2
    go_wp2_with (first
     | (go_at_call_of 108 a.s; refine (CG1.out _ HQ2.out.b).mono ?_; clear CG1; rintro e w4 ⟨rfl, hb4⟩; have HQ4 : Hid _ := HQ2.out.below hb4; have hc5 := HQ4.out.cells; rw [hk] at hc5; clear HQ2 hb4)
     | (go_at_call_of 108 a.b1; refine (CG2.out _ HQ4.out.b).mono ?_; clear CG2; rintro e w5 ⟨rfl, hb5⟩; have HQ5 : Hid _ := HQ4.out.below hb5; have hc6 := HQ5.out.cells; rw [hk] at hc6; clear HQ4 hb5))
    go_ret
    exact ⟨rfl, HQ5.out.b⟩
   | true =>
    by_cases hn : n = 0
    ·have hni : ¬ (0 : Int) < n := by omega
     rw [show (bO a (⟨4, a.s, 0, 0, nb, a.b1, nb, 0, 0, false, false, nb, nb, 0, 0, false, false⟩ : Lab) && ((n : Int) == 0) && true) = bO a (⟨4, a.s, 0, 0, nb, a.b1, nb, 0, 0, false, false, nb, nb, 0, 0, false, false⟩ : Lab) by simp [hn]]
     clear hn
     have RL : Hid _ := bA (a := a) (p := p) (n := n) (c := c) (w := w)
     have C := aZ (a := a) (p := p) (n := n) (c := c) (w := w)
     rw [hk] at C
     go_enter Tryz.func65, Tryz.ntmps65
     go_wp2_with (first
      | (refine aA rfl 28 _ rfl _ _ rfl RL.out ?_; clear RL)
      | (go_at_call 105; refine C.mono ?_; clear C; rintro e w1 ⟨wx, u0, rfl, RS, HQ⟩; have hcc := HQ.out.cells; rw [hk] at hcc)
      | (refine aB rfl 28 _ _ rfl _ _ _ rfl rfl RS.out ?_; clear RS))
     clear hcc
     have HQd : Hid (RQ w a (.slice p n c) w1.heap.size (aT 4 nb) (.slice none 0 0) u0.drew) := HQ.out.drew
     obtain ⟨u1, RS1, hq1⟩ := HQd.out.jK a.s
     have HQ1 : Hid (RQ w a (.slice p n c) w1.heap.size (aT 4 a.s) (.slice none 0 0) u1) := hq1
     obtain ⟨u2, RS2, hq2⟩ := HQ1.out.aEv a.b1
     have HQ2 : Hid (RQ w a (.slice p n c) w1.heap.size (⟨4, a.s, 0, 0, nb, a.b1, nb, 0, 0, false, false, nb, nb, 0, 0, false, false⟩ : Lab) (.slice none 0 0) u2) := hq2
     clear hq1 hq2 HQ
     generalize w1.heap.size = g at *
     refine aM (fun u => u.heap[w.heap.size]? = some (.cells (lcs a (.slice p n c)) 28)) (fun _ => false) (by kernel_rfl) ?_
     refine dwp 0 (.pointer (some ⟨w.heap.size, 1, none⟩)) ?_
     refine dwl 1 (.string a.s) ?_ (hS := HQd.out.n) (hy := (fun u hSu => aG rfl rfl (ld9 (aL hSu).2.1)))
     refine dwp 2 (.pointer (some ⟨w.heap.size, 5, none⟩)) ?_
     refine dwp 3 (.pointer (some ⟨w.heap.size, 5, none⟩)) ?_
     refine dwl 4 (.string a.b1) ?_ (hS := HQd.out.n) (hy := (fun u hSu => aG rfl rfl (ld9 (dD hSu))))
     refine dwp 5 (.pointer (some ⟨g, 1, none⟩)) ?_
     refine aF (i := 6) (by kernel_rfl) rfl ?_
     intro K' hK'
     rw [if_pos (by go_simp)]
     refine aH none rfl 9 _ _ rfl _ _ rfl rfl RS1.out (hK' _ _ (.inr fun _ => HQ1.out.n) ?_)
     clear hK'
     try simp only [Act.put, List.setIfInBounds_toArray, List.set_cons_zero, List.set_cons_succ]
     refine dwp 7 (.pointer (some ⟨g, 5, none⟩)) ?_
     refine dwp 8 (.pointer (some ⟨g, 5, none⟩)) ?_
     refine aF (i := 9) (by kernel_rfl) rfl ?_
     intro K' hK'
     rw [if_pos (by go_simp)]
     refine aH none rfl 9 _ _ rfl _ _ rfl rfl RS2.out (hK' _ _ (.inr fun _ => HQ2.out.n) ?_)
     clear hK'
     try simp only [Act.put, List.setIfInBounds_toArray, List.set_cons_zero, List.set_cons_succ]
     refine aK (by kernel_rfl) ?_ _
     clear HQd HQ1 RS1 RS2
     have hc2 := HQ2.out.cells
     rw [hk] at hc2
     go_wp2_with (first
      | (go_at_call_of 108 a.s; refine (CG1.out _ HQ2.out.b).mono ?_; clear CG1; rintro e w4 ⟨rfl, hb4⟩; have HQ4 : Hid _ := HQ2.out.below hb4; have hc5 := HQ4.out.cells; rw [hk] at hc5; clear HQ2 hb4)
      | (go_at_call_of 108 a.b1; refine (CG2.out _ HQ4.out.b).mono ?_; clear CG2; rintro e w5 ⟨rfl, hb5⟩; have HQ5 : Hid _ := HQ4.out.below hb5; have hc6 := HQ5.out.cells; rw [hk] at hc6; clear HQ4 hb5; obtain ⟨u3, RS3, hq3⟩ := HQ5.out.fK p n c; have HQ3 : Hid (RQ w a (.slice p n c) g (⟨4, a.s, 0, 0, nb, a.b1, nb, 0, 0, false, false, nb, nb, 0, 0, false, false⟩ : Lab) (.slice p n c) u3) := hq3; have C9 := bQ hz hs HQ3.out; have RLN : Hid _ := HQ3.out.ldN; have RLW : Hid _ := HQ3.out.ldW; have HB3 : Hid _ := HQ3.out.b; have hc4 := HQ5.out.cells; rw [hk] at hc4; have hc3 := HQ3.out.cells; rw [hk] at hc3; clear hq3)
      | (refine aB rfl 26 _ _ rfl _ _ _ rfl rfl RS3.out ?_; clear RS3)
      | (refine aA rfl 28 _ rfl _ _ rfl RLN.out ?_; clear RLN)
      | (refine aA rfl 28 _ rfl _ _ rfl RLW.out ?_; clear RLW)
      | (go_at_call 13; refine C9.mono ?_; clear C9; rintro e w9 ⟨rfl, hb9⟩))
     go_ret
     exact ⟨rfl, hb9⟩
    ·have hni : (0 : Int) < n := by omega
     rw [show (bO a (⟨4, a.s, 0, 0, nb, a.b1, nb, 0, 0, false, false, nb, nb, 0, 0, false, false⟩ : Lab) && ((n : Int) == 0) && true) = false by simp [hn]]
     clear hn
     have RL : Hid _ := bA (a := a) (p := p) (n := n) (c := c) (w := w)
     have C := aZ (a := a) (p := p) (n := n) (c := c) (w := w)
     rw [hk] at C
     go_enter Tryz.func65, Tryz.ntmps65
     go_wp2_with (first
      | (refine aA rfl 28 _ rfl _ _ rfl RL.out ?_; clear RL)
      | (go_at_call 105; refine C.mono ?_; clear C; rintro e w1 ⟨wx, u0, rfl, RS, HQ⟩; have hcc := HQ.out.cells; rw [hk] at hcc)
      | (refine aB rfl 28 _ _ rfl _ _ _ rfl rfl RS.out ?_; clear RS))
     clear hcc
     have HQd : Hid (RQ w a (.slice p n c) w1.heap.size (aT 4 nb) (.slice none 0 0) u0.drew) := HQ.out.drew
     obtain ⟨u1, RS1, hq1⟩ := HQd.out.jK a.s
     have HQ1 : Hid (RQ w a (.slice p n c) w1.heap.size (aT 4 a.s) (.slice none 0 0) u1) := hq1
     obtain ⟨u2, RS2, hq2⟩ := HQ1.out.aEv a.b1
     have HQ2 : Hid (RQ w a (.slice p n c) w1.heap.size (⟨4, a.s, 0, 0, nb, a.b1, nb, 0, 0, false, false, nb, nb, 0, 0, false, false⟩ : Lab) (.slice none 0 0) u2) := hq2
     clear hq1 hq2 HQ
     generalize w1.heap.size = g at *
     refine aM (fun u => u.heap[w.heap.size]? = some (.cells (lcs a (.slice p n c)) 28)) (fun _ => false) (by kernel_rfl) ?_
     refine dwp 0 (.pointer (some ⟨w.heap.size, 1, none⟩)) ?_
     refine dwl 1 (.string a.s) ?_ (hS := HQd.out.n) (hy := (fun u hSu => aG rfl rfl (ld9 (aL hSu).2.1)))
     refine dwp 2 (.pointer (some ⟨w.heap.size, 5, none⟩)) ?_
     refine dwp 3 (.pointer (some ⟨w.heap.size, 5, none⟩)) ?_
     refine dwl 4 (.string a.b1) ?_ (hS := HQd.out.n) (hy := (fun u hSu => aG rfl rfl (ld9 (dD hSu))))
     refine dwp 5 (.pointer (some ⟨g, 1, none⟩)) ?_
     refine aF (i := 6) (by kernel_rfl) rfl ?_
     intro K' hK'
     rw [if_pos (by go_simp)]
     refine aH none rfl 9 _ _ rfl _ _ rfl rfl RS1.out (hK' _ _ (.inr fun _ => HQ1.out.n) ?_)
     clear hK'
     try simp only [Act.put, List.setIfInBounds_toArray, List.set_cons_zero, List.set_cons_succ]
     refine dwp 7 (.pointer (some ⟨g, 5, none⟩)) ?_
     refine dwp 8 (.pointer (some ⟨g, 5, none⟩)) ?_
     refine aF (i := 9) (by kernel_rfl) rfl ?_
     intro K' hK'
     rw [if_pos (by go_simp)]
     refine aH none rfl 9 _ _ rfl _ _ rfl rfl RS2.out (hK' _ _ (.inr fun _ => HQ2.out.n) ?_)
     clear hK'
     try simp only [Act.put, List.setIfInBounds_toArray, List.set_cons_zero, List.set_cons_succ]
     refine aK (by kernel_rfl) ?_ _
     clear HQd HQ1 RS1 RS2
     have hc2 := HQ2.out.cells
     rw [hk] at hc2
     go_wp2_with (first
      | (go_at_call_of 108 a.s; refine (CG1.out _ HQ2.out.b).mono ?_; clear CG1; rintro e w4 ⟨rfl, hb4⟩; have HQ4 : Hid _ := HQ2.out.below hb4; have hc5 := HQ4.out.cells; rw [hk] at hc5; clear HQ2 hb4)
      | (go_at_call_of 108 a.b1; refine (CG2.out _ HQ4.out.b).mono ?_; clear CG2; rintro e w5 ⟨rfl, hb5⟩; have HQ5 : Hid _ := HQ4.out.below hb5; have hc6 := HQ5.out.cells; rw [hk] at hc6; clear HQ4 hb5; obtain ⟨u3, RS3, hq3⟩ := HQ5.out.fK p n c; have HQ3 : Hid (RQ w a (.slice p n c) g (⟨4, a.s, 0, 0, nb, a.b1, nb, 0, 0, false, false, nb, nb, 0, 0, false, false⟩ : Lab) (.slice p n c) u3) := hq3; have C9 := bQ hz hs HQ3.out; have RLN : Hid _ := HQ3.out.ldN; have RLW : Hid _ := HQ3.out.ldW; have HB3 : Hid _ := HQ3.out.b; have hc4 := HQ5.out.cells; rw [hk] at hc4; have hc3 := HQ3.out.cells; rw [hk] at hc3; clear hq3)
      | (refine aB rfl 26 _ _ rfl _ _ _ rfl rfl RS3.out ?_; clear RS3))
     go_ret
     exact ⟨rfl, HB3.out⟩
end
end Go.Proofs.YtljmklbbngpllaaGreatDoor
