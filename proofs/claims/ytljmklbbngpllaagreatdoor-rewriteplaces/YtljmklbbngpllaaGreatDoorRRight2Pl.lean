/- RRight1, RRight2. -/
import Derived.Test.YtljmklbbngpllaaGreatDoorRQ2Pl
set_option linter.unusedVariables false
set_option linter.unusedSimpArgs false
set_option maxHeartbeats 16000000
set_option maxRecDepth 100000
namespace Go.Proofs.YtljmklbbngpllaaGreatDoor
open Go.RowKit Go.Fm
theorem ok1 {a : Lab} {n : Nat} (hk : a.k = 1) : okL a n = (labB a (⟨1, nb, a.vk, a.vn, a.vs, nb, nb, 0, 0, false, false, nb, nb, 0, 0, false, false⟩ : Lab) && ((n : Int) == 0) && gcB a.vk a.vn a.vs) := by
 unfold okL bareB partsB namN namL isLeaf
 simp [hk]
theorem gc_ways (k n : Int) (s : ByteArray) : (goodF k n s = false ∧ gcB k n s = false) ∨ (goodF k n s = true ∧ (k == 0) = true ∧ gcB k n s = false) ∨ (goodF k n s = true ∧ (k == 0) = false ∧ (k == 1) = false ∧ gcB k n s = true) ∨ (goodF k n s = true ∧ (k == 0) = false ∧ (k == 1) = true ∧ n < 0 ∧ gcB k n s = false) ∨ (goodF k n s = true ∧ (k == 0) = false ∧ (k == 1) = true ∧ ¬ n < 0 ∧ gcB k n s = true) := by
 unfold gcB
 cases hg : goodF k n s
 ·left
  refine ⟨rfl, ?_⟩
  split
  ·rfl
  ·split <;> simp
 ·right
  by_cases h0 : k = 0
  ·left; simp [h0]
  ·right
   by_cases h1 : k = 1
   ·right
    subst h1
    by_cases hn : n < 0
    ·left; simp [hn]
    ·right; simp [hn]; omega
   ·left; simp [h0, h1]
section
variable {a : Lab} {p : Option Addr} {n c : Nat} {w : World} {f : F}
theorem right_1 (hk : a.k = 1) (Z : LabZ a) (hz : zT (a, f) ≤ 1000000) (hs : SF w p n f) : Calls Tryz.prog 65 #[.agg (lcs a (.slice p n c))] w fun e w' => e = .returned (.bool (okL a n)) ∧ Below w.heap.size w w' := by
 have CG0 : Hid (∀ u, Below w.heap.size w u → Calls Tryz.prog 106 #[val a.vk a.vn a.vs] u fun e w' => e = .returned (.bool (goodF a.vk a.vn a.vs)) ∧ Below u.heap.size u w') := fun u _ => rvgood_any a.vk a.vn a.vs u
 rw [ok1 hk]
 rcases gc_ways a.vk a.vn a.vs with ⟨hg, e⟩ | ⟨hg, h0, e⟩ | ⟨hg, h0, h1, e⟩ | ⟨hg, h0, h1, hv, e⟩ | ⟨hg, h0, h1, hv, e⟩
 ·rw [hg] at CG0
  clear hg
  rw [e, show (labB a (⟨1, nb, a.vk, a.vn, a.vs, nb, nb, 0, 0, false, false, nb, nb, 0, 0, false, false⟩ : Lab) && ((n : Int) == 0) && false) = false by simp]
  clear e
  have RL : Hid _ := right_ld (a := a) (p := p) (n := n) (c := c) (w := w)
  have C := right_in (a := a) (p := p) (n := n) (c := c) (w := w)
  rw [hk] at C
  go_enter Tryz.func65, Tryz.ntmps65
  go_wp2_with (first
   | (refine wpList_load_run rfl 28 _ rfl _ _ rfl RL.out ?_; clear RL)
   | (go_at_call 105; refine C.mono ?_; clear C; rintro e w1 ⟨wx, u0, rfl, RS, HQ⟩; have hcc := HQ.out.cells; rw [hk] at hcc; have RR : Hid _ := HQ.out.ldV; obtain ⟨u2, RS2, hq2⟩ := HQ.out.setV a.vk a.vn a.vs; have HQ2 : Hid (RQ w a (.slice p n c) w1.heap.size (⟨1, nb, a.vk, a.vn, a.vs, nb, nb, 0, 0, false, false, nb, nb, 0, 0, false, false⟩ : Lab) (.slice none 0 0) u2) := hq2; clear hq2 HQ; have hc2 := HQ2.out.cells; rw [hk] at hc2; have RR2 : Hid _ := HQ2.out.ldV; have CG := CG0.out _ HQ2.out.b)
   | (refine wpList_store_run rfl 28 _ _ rfl _ _ _ rfl rfl RS.out ?_; clear RS)
   | (refine wpList_load_run rfl 23 _ rfl _ _ rfl RR.out ?_; clear RR)
   | (refine wpList_store_run rfl 23 _ _ rfl _ _ _ rfl rfl RS2.out ?_; clear RS2)
   | (refine wpList_load_run rfl 23 _ rfl _ _ rfl RR2.out ?_; clear RR2))
  go_at_call 106
  refine CG.mono ?_
  clear CG
  rintro e w4 ⟨rfl, hb4⟩
  have HQ4 : Hid _ := HQ2.out.below hb4
  have hc5 := HQ4.out.cells
  rw [hk] at hc5
  clear HQ2 hb4
  go_wp2
  go_ret
  exact ⟨rfl, HQ4.out.b⟩
 ·rw [hg] at CG0
  clear hg
  rw [e, show (labB a (⟨1, nb, a.vk, a.vn, a.vs, nb, nb, 0, 0, false, false, nb, nb, 0, 0, false, false⟩ : Lab) && ((n : Int) == 0) && false) = false by simp]
  clear e
  have RL : Hid _ := right_ld (a := a) (p := p) (n := n) (c := c) (w := w)
  have C := right_in (a := a) (p := p) (n := n) (c := c) (w := w)
  rw [hk] at C
  go_enter Tryz.func65, Tryz.ntmps65
  go_wp2_with (first
   | (refine wpList_load_run rfl 28 _ rfl _ _ rfl RL.out ?_; clear RL)
   | (go_at_call 105; refine C.mono ?_; clear C; rintro e w1 ⟨wx, u0, rfl, RS, HQ⟩; have hcc := HQ.out.cells; rw [hk] at hcc; have RR : Hid _ := HQ.out.ldV; obtain ⟨u2, RS2, hq2⟩ := HQ.out.setV a.vk a.vn a.vs; have HQ2 : Hid (RQ w a (.slice p n c) w1.heap.size (⟨1, nb, a.vk, a.vn, a.vs, nb, nb, 0, 0, false, false, nb, nb, 0, 0, false, false⟩ : Lab) (.slice none 0 0) u2) := hq2; clear hq2 HQ; have hc2 := HQ2.out.cells; rw [hk] at hc2; have RR2 : Hid _ := HQ2.out.ldV; have CG := CG0.out _ HQ2.out.b)
   | (refine wpList_store_run rfl 28 _ _ rfl _ _ _ rfl rfl RS.out ?_; clear RS)
   | (refine wpList_load_run rfl 23 _ rfl _ _ rfl RR.out ?_; clear RR)
   | (refine wpList_store_run rfl 23 _ _ rfl _ _ _ rfl rfl RS2.out ?_; clear RS2)
   | (refine wpList_load_run rfl 23 _ rfl _ _ rfl RR2.out ?_; clear RR2))
  go_at_call 106
  refine CG.mono ?_
  clear CG
  rintro e w4 ⟨rfl, hb4⟩
  have HQ4 : Hid _ := HQ2.out.below hb4
  have hc5 := HQ4.out.cells
  rw [hk] at hc5
  clear HQ2 hb4
  go_wp2
  go_ret
  exact ⟨rfl, HQ4.out.b⟩
 ·rw [hg] at CG0
  clear hg
  rw [e]
  clear e
  by_cases hn : n = 0
  ·have hni : ¬ (0 : Int) < n := by omega
   rw [show (labB a (⟨1, nb, a.vk, a.vn, a.vs, nb, nb, 0, 0, false, false, nb, nb, 0, 0, false, false⟩ : Lab) && ((n : Int) == 0) && true) = labB a (⟨1, nb, a.vk, a.vn, a.vs, nb, nb, 0, 0, false, false, nb, nb, 0, 0, false, false⟩ : Lab) by simp [hn]]
   clear hn
   have RL : Hid _ := right_ld (a := a) (p := p) (n := n) (c := c) (w := w)
   have C := right_in (a := a) (p := p) (n := n) (c := c) (w := w)
   rw [hk] at C
   go_enter Tryz.func65, Tryz.ntmps65
   go_wp2_with (first
    | (refine wpList_load_run rfl 28 _ rfl _ _ rfl RL.out ?_; clear RL)
    | (go_at_call 105; refine C.mono ?_; clear C; rintro e w1 ⟨wx, u0, rfl, RS, HQ⟩; have hcc := HQ.out.cells; rw [hk] at hcc; have RR : Hid _ := HQ.out.ldV; obtain ⟨u2, RS2, hq2⟩ := HQ.out.setV a.vk a.vn a.vs; have HQ2 : Hid (RQ w a (.slice p n c) w1.heap.size (⟨1, nb, a.vk, a.vn, a.vs, nb, nb, 0, 0, false, false, nb, nb, 0, 0, false, false⟩ : Lab) (.slice none 0 0) u2) := hq2; clear hq2 HQ; have hc2 := HQ2.out.cells; rw [hk] at hc2; have RR2 : Hid _ := HQ2.out.ldV; have CG := CG0.out _ HQ2.out.b)
    | (refine wpList_store_run rfl 28 _ _ rfl _ _ _ rfl rfl RS.out ?_; clear RS)
    | (refine wpList_load_run rfl 23 _ rfl _ _ rfl RR.out ?_; clear RR)
    | (refine wpList_store_run rfl 23 _ _ rfl _ _ _ rfl rfl RS2.out ?_; clear RS2)
    | (refine wpList_load_run rfl 23 _ rfl _ _ rfl RR2.out ?_; clear RR2)
    | (go_at_call 106; refine CG.mono ?_; clear CG; rintro e w4 ⟨rfl, hb4⟩; have HQ4 : Hid _ := HQ2.out.below hb4; have hc5 := HQ4.out.cells; rw [hk] at hc5; clear HQ2 hb4; obtain ⟨u3, RS3, hq3⟩ := HQ4.out.setA p n c; have HQ3 : Hid (RQ w a (.slice p n c) w1.heap.size (⟨1, nb, a.vk, a.vn, a.vs, nb, nb, 0, 0, false, false, nb, nb, 0, 0, false, false⟩ : Lab) (.slice p n c) u3) := hq3; have C9 := right_out hz hs HQ3.out; have RLN : Hid _ := HQ3.out.ldN; have RLW : Hid _ := HQ3.out.ldW; have HB3 : Hid _ := HQ3.out.b; have hc4 := HQ4.out.cells; rw [hk] at hc4; have hc3 := HQ3.out.cells; rw [hk] at hc3; clear hq3)
    | (refine wpList_store_run rfl 26 _ _ rfl _ _ _ rfl rfl RS3.out ?_; clear RS3)
    | (refine wpList_load_run rfl 28 _ rfl _ _ rfl RLN.out ?_; clear RLN)
    | (refine wpList_load_run rfl 28 _ rfl _ _ rfl RLW.out ?_; clear RLW)
    | (go_at_call 13; refine C9.mono ?_; clear C9; rintro e w9 ⟨rfl, hb9⟩))
   go_ret
   exact ⟨rfl, hb9⟩
  ·have hni : (0 : Int) < n := by omega
   rw [show (labB a (⟨1, nb, a.vk, a.vn, a.vs, nb, nb, 0, 0, false, false, nb, nb, 0, 0, false, false⟩ : Lab) && ((n : Int) == 0) && true) = false by simp [hn]]
   clear hn
   have RL : Hid _ := right_ld (a := a) (p := p) (n := n) (c := c) (w := w)
   have C := right_in (a := a) (p := p) (n := n) (c := c) (w := w)
   rw [hk] at C
   go_enter Tryz.func65, Tryz.ntmps65
   go_wp2_with (first
    | (refine wpList_load_run rfl 28 _ rfl _ _ rfl RL.out ?_; clear RL)
    | (go_at_call 105; refine C.mono ?_; clear C; rintro e w1 ⟨wx, u0, rfl, RS, HQ⟩; have hcc := HQ.out.cells; rw [hk] at hcc; have RR : Hid _ := HQ.out.ldV; obtain ⟨u2, RS2, hq2⟩ := HQ.out.setV a.vk a.vn a.vs; have HQ2 : Hid (RQ w a (.slice p n c) w1.heap.size (⟨1, nb, a.vk, a.vn, a.vs, nb, nb, 0, 0, false, false, nb, nb, 0, 0, false, false⟩ : Lab) (.slice none 0 0) u2) := hq2; clear hq2 HQ; have hc2 := HQ2.out.cells; rw [hk] at hc2; have RR2 : Hid _ := HQ2.out.ldV; have CG := CG0.out _ HQ2.out.b)
    | (refine wpList_store_run rfl 28 _ _ rfl _ _ _ rfl rfl RS.out ?_; clear RS)
    | (refine wpList_load_run rfl 23 _ rfl _ _ rfl RR.out ?_; clear RR)
    | (refine wpList_store_run rfl 23 _ _ rfl _ _ _ rfl rfl RS2.out ?_; clear RS2)
    | (refine wpList_load_run rfl 23 _ rfl _ _ rfl RR2.out ?_; clear RR2)
    | (go_at_call 106; refine CG.mono ?_; clear CG; rintro e w4 ⟨rfl, hb4⟩; have HQ4 : Hid _ := HQ2.out.below hb4; have hc5 := HQ4.out.cells; rw [hk] at hc5; clear HQ2 hb4; obtain ⟨u3, RS3, hq3⟩ := HQ4.out.setA p n c; have HQ3 : Hid (RQ w a (.slice p n c) w1.heap.size (⟨1, nb, a.vk, a.vn, a.vs, nb, nb, 0, 0, false, false, nb, nb, 0, 0, false, false⟩ : Lab) (.slice p n c) u3) := hq3; have C9 := right_out hz hs HQ3.out; have RLN : Hid _ := HQ3.out.ldN; have RLW : Hid _ := HQ3.out.ldW; have HB3 : Hid _ := HQ3.out.b; have hc4 := HQ4.out.cells; rw [hk] at hc4; have hc3 := HQ3.out.cells; rw [hk] at hc3; clear hq3)
    | (refine wpList_store_run rfl 26 _ _ rfl _ _ _ rfl rfl RS3.out ?_; clear RS3))
   go_ret
   exact ⟨rfl, HB3.out⟩
 ·rw [hg] at CG0
  clear hg
  rw [e, show (labB a (⟨1, nb, a.vk, a.vn, a.vs, nb, nb, 0, 0, false, false, nb, nb, 0, 0, false, false⟩ : Lab) && ((n : Int) == 0) && false) = false by simp]
  clear e
  have RL : Hid _ := right_ld (a := a) (p := p) (n := n) (c := c) (w := w)
  have C := right_in (a := a) (p := p) (n := n) (c := c) (w := w)
  rw [hk] at C
  go_enter Tryz.func65, Tryz.ntmps65
  go_wp2_with (first
   | (refine wpList_load_run rfl 28 _ rfl _ _ rfl RL.out ?_; clear RL)
   | (go_at_call 105; refine C.mono ?_; clear C; rintro e w1 ⟨wx, u0, rfl, RS, HQ⟩; have hcc := HQ.out.cells; rw [hk] at hcc; have RR : Hid _ := HQ.out.ldV; obtain ⟨u2, RS2, hq2⟩ := HQ.out.setV a.vk a.vn a.vs; have HQ2 : Hid (RQ w a (.slice p n c) w1.heap.size (⟨1, nb, a.vk, a.vn, a.vs, nb, nb, 0, 0, false, false, nb, nb, 0, 0, false, false⟩ : Lab) (.slice none 0 0) u2) := hq2; clear hq2 HQ; have hc2 := HQ2.out.cells; rw [hk] at hc2; have RR2 : Hid _ := HQ2.out.ldV; have CG := CG0.out _ HQ2.out.b)
   | (refine wpList_store_run rfl 28 _ _ rfl _ _ _ rfl rfl RS.out ?_; clear RS)
   | (refine wpList_load_run rfl 23 _ rfl _ _ rfl RR.out ?_; clear RR)
   | (refine wpList_store_run rfl 23 _ _ rfl _ _ _ rfl rfl RS2.out ?_; clear RS2)
   | (refine wpList_load_run rfl 23 _ rfl _ _ rfl RR2.out ?_; clear RR2)
   | (go_at_call 106; refine CG.mono ?_; clear CG; rintro e w4 ⟨rfl, hb4⟩; have HQ4 : Hid _ := HQ2.out.below hb4; have hc5 := HQ4.out.cells; rw [hk] at hc5; clear HQ2 hb4))
  go_ret
  exact ⟨rfl, HQ4.out.b⟩
 ·rw [hg] at CG0
  clear hg
  rw [e]
  clear e
  by_cases hn : n = 0
  ·have hni : ¬ (0 : Int) < n := by omega
   rw [show (labB a (⟨1, nb, a.vk, a.vn, a.vs, nb, nb, 0, 0, false, false, nb, nb, 0, 0, false, false⟩ : Lab) && ((n : Int) == 0) && true) = labB a (⟨1, nb, a.vk, a.vn, a.vs, nb, nb, 0, 0, false, false, nb, nb, 0, 0, false, false⟩ : Lab) by simp [hn]]
   clear hn
   have RL : Hid _ := right_ld (a := a) (p := p) (n := n) (c := c) (w := w)
   have C := right_in (a := a) (p := p) (n := n) (c := c) (w := w)
   rw [hk] at C
   go_enter Tryz.func65, Tryz.ntmps65
   go_wp2_with (first
    | (refine wpList_load_run rfl 28 _ rfl _ _ rfl RL.out ?_; clear RL)
    | (go_at_call 105; refine C.mono ?_; clear C; rintro e w1 ⟨wx, u0, rfl, RS, HQ⟩; have hcc := HQ.out.cells; rw [hk] at hcc; have RR : Hid _ := HQ.out.ldV; obtain ⟨u2, RS2, hq2⟩ := HQ.out.setV a.vk a.vn a.vs; have HQ2 : Hid (RQ w a (.slice p n c) w1.heap.size (⟨1, nb, a.vk, a.vn, a.vs, nb, nb, 0, 0, false, false, nb, nb, 0, 0, false, false⟩ : Lab) (.slice none 0 0) u2) := hq2; clear hq2 HQ; have hc2 := HQ2.out.cells; rw [hk] at hc2; have RR2 : Hid _ := HQ2.out.ldV; have CG := CG0.out _ HQ2.out.b)
    | (refine wpList_store_run rfl 28 _ _ rfl _ _ _ rfl rfl RS.out ?_; clear RS)
    | (refine wpList_load_run rfl 23 _ rfl _ _ rfl RR.out ?_; clear RR)
    | (refine wpList_store_run rfl 23 _ _ rfl _ _ _ rfl rfl RS2.out ?_; clear RS2)
    | (refine wpList_load_run rfl 23 _ rfl _ _ rfl RR2.out ?_; clear RR2)
    | (go_at_call 106; refine CG.mono ?_; clear CG; rintro e w4 ⟨rfl, hb4⟩; have HQ4 : Hid _ := HQ2.out.below hb4; have hc5 := HQ4.out.cells; rw [hk] at hc5; clear HQ2 hb4; obtain ⟨u3, RS3, hq3⟩ := HQ4.out.setA p n c; have HQ3 : Hid (RQ w a (.slice p n c) w1.heap.size (⟨1, nb, a.vk, a.vn, a.vs, nb, nb, 0, 0, false, false, nb, nb, 0, 0, false, false⟩ : Lab) (.slice p n c) u3) := hq3; have C9 := right_out hz hs HQ3.out; have RLN : Hid _ := HQ3.out.ldN; have RLW : Hid _ := HQ3.out.ldW; have HB3 : Hid _ := HQ3.out.b; have hc4 := HQ4.out.cells; rw [hk] at hc4; have hc3 := HQ3.out.cells; rw [hk] at hc3; clear hq3)
    | (refine wpList_store_run rfl 26 _ _ rfl _ _ _ rfl rfl RS3.out ?_; clear RS3)
    | (refine wpList_load_run rfl 28 _ rfl _ _ rfl RLN.out ?_; clear RLN)
    | (refine wpList_load_run rfl 28 _ rfl _ _ rfl RLW.out ?_; clear RLW)
    | (go_at_call 13; refine C9.mono ?_; clear C9; rintro e w9 ⟨rfl, hb9⟩))
   go_ret
   exact ⟨rfl, hb9⟩
  ·have hni : (0 : Int) < n := by omega
   rw [show (labB a (⟨1, nb, a.vk, a.vn, a.vs, nb, nb, 0, 0, false, false, nb, nb, 0, 0, false, false⟩ : Lab) && ((n : Int) == 0) && true) = false by simp [hn]]
   clear hn
   have RL : Hid _ := right_ld (a := a) (p := p) (n := n) (c := c) (w := w)
   have C := right_in (a := a) (p := p) (n := n) (c := c) (w := w)
   rw [hk] at C
   go_enter Tryz.func65, Tryz.ntmps65
   go_wp2_with (first
    | (refine wpList_load_run rfl 28 _ rfl _ _ rfl RL.out ?_; clear RL)
    | (go_at_call 105; refine C.mono ?_; clear C; rintro e w1 ⟨wx, u0, rfl, RS, HQ⟩; have hcc := HQ.out.cells; rw [hk] at hcc; have RR : Hid _ := HQ.out.ldV; obtain ⟨u2, RS2, hq2⟩ := HQ.out.setV a.vk a.vn a.vs; have HQ2 : Hid (RQ w a (.slice p n c) w1.heap.size (⟨1, nb, a.vk, a.vn, a.vs, nb, nb, 0, 0, false, false, nb, nb, 0, 0, false, false⟩ : Lab) (.slice none 0 0) u2) := hq2; clear hq2 HQ; have hc2 := HQ2.out.cells; rw [hk] at hc2; have RR2 : Hid _ := HQ2.out.ldV; have CG := CG0.out _ HQ2.out.b)
    | (refine wpList_store_run rfl 28 _ _ rfl _ _ _ rfl rfl RS.out ?_; clear RS)
    | (refine wpList_load_run rfl 23 _ rfl _ _ rfl RR.out ?_; clear RR)
    | (refine wpList_store_run rfl 23 _ _ rfl _ _ _ rfl rfl RS2.out ?_; clear RS2)
    | (refine wpList_load_run rfl 23 _ rfl _ _ rfl RR2.out ?_; clear RR2)
    | (go_at_call 106; refine CG.mono ?_; clear CG; rintro e w4 ⟨rfl, hb4⟩; have HQ4 : Hid _ := HQ2.out.below hb4; have hc5 := HQ4.out.cells; rw [hk] at hc5; clear HQ2 hb4; obtain ⟨u3, RS3, hq3⟩ := HQ4.out.setA p n c; have HQ3 : Hid (RQ w a (.slice p n c) w1.heap.size (⟨1, nb, a.vk, a.vn, a.vs, nb, nb, 0, 0, false, false, nb, nb, 0, 0, false, false⟩ : Lab) (.slice p n c) u3) := hq3; have C9 := right_out hz hs HQ3.out; have RLN : Hid _ := HQ3.out.ldN; have RLW : Hid _ := HQ3.out.ldW; have HB3 : Hid _ := HQ3.out.b; have hc4 := HQ4.out.cells; rw [hk] at hc4; have hc3 := HQ3.out.cells; rw [hk] at hc3; clear hq3)
    | (refine wpList_store_run rfl 26 _ _ rfl _ _ _ rfl rfl RS3.out ?_; clear RS3))
   go_ret
   exact ⟨rfl, HB3.out⟩
end
theorem ok2 {a : Lab} {n : Nat} (hk : a.k = 2) : okL a n = (labB a (⟨2, nb, 0, 0, nb, a.b1, a.h1, a.r1, a.c1, a.fr1, a.fc1, nb, nb, 0, 0, false, false⟩ : Lab) && ((n : Int) == 0) && goodB a.b1 a.h1 a.r1 a.c1) := by
 unfold okL bareB partsB namN namL isLeaf
 simp [hk]
section
variable {a : Lab} {p : Option Addr} {n c : Nat} {w : World} {f : F}
theorem right_2 (hk : a.k = 2) (Z : LabZ a) (hz : zT (a, f) ≤ 1000000) (hs : SF w p n f) : Calls Tryz.prog 65 #[.agg (lcs a (.slice p n c))] w fun e w' => e = .returned (.bool (okL a n)) ∧ Below w.heap.size w w' := by
 have CG0 : Hid (∀ u, Below w.heap.size w u → Calls Tryz.prog 107 #[refV a.b1 a.h1 a.r1 a.c1 a.fr1 a.fc1] u fun e w' => e = .returned (.bool (goodB a.b1 a.h1 a.r1 a.c1)) ∧ Below u.heap.size u w') := fun u _ => ragood_any a.b1 a.h1 a.r1 a.c1 a.fr1 a.fc1 Z.b1 Z.h1 u
 rw [ok2 hk]
 generalize goodB a.b1 a.h1 a.r1 a.c1 = tb at *
 cases tb with
 | true =>
  by_cases hn : n = 0
  ·have hni : ¬ (0 : Int) < n := by omega
   rw [show (labB a (⟨2, nb, 0, 0, nb, a.b1, a.h1, a.r1, a.c1, a.fr1, a.fc1, nb, nb, 0, 0, false, false⟩ : Lab) && ((n : Int) == 0) && true) = labB a (⟨2, nb, 0, 0, nb, a.b1, a.h1, a.r1, a.c1, a.fr1, a.fc1, nb, nb, 0, 0, false, false⟩ : Lab) by simp [hn]]
   clear hn
   have RL : Hid _ := right_ld (a := a) (p := p) (n := n) (c := c) (w := w)
   have C := right_in (a := a) (p := p) (n := n) (c := c) (w := w)
   rw [hk] at C
   go_enter Tryz.func65, Tryz.ntmps65
   go_wp2_with (first
    | (refine wpList_load_run rfl 28 _ rfl _ _ rfl RL.out ?_; clear RL)
    | (go_at_call 105; refine C.mono ?_; clear C; rintro e w1 ⟨wx, u0, rfl, RS, HQ⟩; have hcc := HQ.out.cells; rw [hk] at hcc; have RR : Hid _ := HQ.out.ldR; obtain ⟨u2, RS2, hq2⟩ := HQ.out.setR a.b1 a.h1 a.r1 a.c1 a.fr1 a.fc1; have HQ2 : Hid (RQ w a (.slice p n c) w1.heap.size (⟨2, nb, 0, 0, nb, a.b1, a.h1, a.r1, a.c1, a.fr1, a.fc1, nb, nb, 0, 0, false, false⟩ : Lab) (.slice none 0 0) u2) := hq2; clear hq2 HQ; have hc2 := HQ2.out.cells; rw [hk] at hc2; have RR2 : Hid _ := HQ2.out.ldR; have CG := CG0.out _ HQ2.out.b)
    | (refine wpList_store_run rfl 28 _ _ rfl _ _ _ rfl rfl RS.out ?_; clear RS)
    | (refine wpList_load_run rfl 25 _ rfl _ _ rfl RR.out ?_; clear RR)
    | (refine wpList_store_run rfl 25 _ _ rfl _ _ _ rfl rfl RS2.out ?_; clear RS2)
    | (refine wpList_load_run rfl 25 _ rfl _ _ rfl RR2.out ?_; clear RR2)
    | (go_at_call 107; refine CG.mono ?_; clear CG; rintro e w4 ⟨rfl, hb4⟩; have HQ4 : Hid _ := HQ2.out.below hb4; clear HQ2 hb4; obtain ⟨u3, RS3, hq3⟩ := HQ4.out.setA p n c; have HQ3 : Hid (RQ w a (.slice p n c) w1.heap.size (⟨2, nb, 0, 0, nb, a.b1, a.h1, a.r1, a.c1, a.fr1, a.fc1, nb, nb, 0, 0, false, false⟩ : Lab) (.slice p n c) u3) := hq3; have C9 := right_out hz hs HQ3.out; have RLN : Hid _ := HQ3.out.ldN; have RLW : Hid _ := HQ3.out.ldW; have HB3 : Hid _ := HQ3.out.b; have hc4 := HQ4.out.cells; rw [hk] at hc4; have hc3 := HQ3.out.cells; rw [hk] at hc3; clear hq3)
    | (refine wpList_store_run rfl 26 _ _ rfl _ _ _ rfl rfl RS3.out ?_; clear RS3)
    | (refine wpList_load_run rfl 28 _ rfl _ _ rfl RLN.out ?_; clear RLN)
    | (refine wpList_load_run rfl 28 _ rfl _ _ rfl RLW.out ?_; clear RLW)
    | (go_at_call 13; refine C9.mono ?_; clear C9; rintro e w9 ⟨rfl, hb9⟩))
   go_ret
   exact ⟨rfl, hb9⟩
  ·have hni : (0 : Int) < n := by omega
   rw [show (labB a (⟨2, nb, 0, 0, nb, a.b1, a.h1, a.r1, a.c1, a.fr1, a.fc1, nb, nb, 0, 0, false, false⟩ : Lab) && ((n : Int) == 0) && true) = false by simp [hn]]
   clear hn
   have RL : Hid _ := right_ld (a := a) (p := p) (n := n) (c := c) (w := w)
   have C := right_in (a := a) (p := p) (n := n) (c := c) (w := w)
   rw [hk] at C
   go_enter Tryz.func65, Tryz.ntmps65
   go_wp2_with (first
    | (refine wpList_load_run rfl 28 _ rfl _ _ rfl RL.out ?_; clear RL)
    | (go_at_call 105; refine C.mono ?_; clear C; rintro e w1 ⟨wx, u0, rfl, RS, HQ⟩; have hcc := HQ.out.cells; rw [hk] at hcc; have RR : Hid _ := HQ.out.ldR; obtain ⟨u2, RS2, hq2⟩ := HQ.out.setR a.b1 a.h1 a.r1 a.c1 a.fr1 a.fc1; have HQ2 : Hid (RQ w a (.slice p n c) w1.heap.size (⟨2, nb, 0, 0, nb, a.b1, a.h1, a.r1, a.c1, a.fr1, a.fc1, nb, nb, 0, 0, false, false⟩ : Lab) (.slice none 0 0) u2) := hq2; clear hq2 HQ; have hc2 := HQ2.out.cells; rw [hk] at hc2; have RR2 : Hid _ := HQ2.out.ldR; have CG := CG0.out _ HQ2.out.b)
    | (refine wpList_store_run rfl 28 _ _ rfl _ _ _ rfl rfl RS.out ?_; clear RS)
    | (refine wpList_load_run rfl 25 _ rfl _ _ rfl RR.out ?_; clear RR)
    | (refine wpList_store_run rfl 25 _ _ rfl _ _ _ rfl rfl RS2.out ?_; clear RS2)
    | (refine wpList_load_run rfl 25 _ rfl _ _ rfl RR2.out ?_; clear RR2)
    | (go_at_call 107; refine CG.mono ?_; clear CG; rintro e w4 ⟨rfl, hb4⟩; have HQ4 : Hid _ := HQ2.out.below hb4; clear HQ2 hb4; obtain ⟨u3, RS3, hq3⟩ := HQ4.out.setA p n c; have HQ3 : Hid (RQ w a (.slice p n c) w1.heap.size (⟨2, nb, 0, 0, nb, a.b1, a.h1, a.r1, a.c1, a.fr1, a.fc1, nb, nb, 0, 0, false, false⟩ : Lab) (.slice p n c) u3) := hq3; have C9 := right_out hz hs HQ3.out; have RLN : Hid _ := HQ3.out.ldN; have RLW : Hid _ := HQ3.out.ldW; have HB3 : Hid _ := HQ3.out.b; have hc4 := HQ4.out.cells; rw [hk] at hc4; have hc3 := HQ3.out.cells; rw [hk] at hc3; clear hq3)
    | (refine wpList_store_run rfl 26 _ _ rfl _ _ _ rfl rfl RS3.out ?_; clear RS3))
   go_ret
   exact ⟨rfl, HB3.out⟩
 | false =>
  rw [show (labB a (⟨2, nb, 0, 0, nb, a.b1, a.h1, a.r1, a.c1, a.fr1, a.fc1, nb, nb, 0, 0, false, false⟩ : Lab) && ((n : Int) == 0) && false) = false by simp]
  have RL : Hid _ := right_ld (a := a) (p := p) (n := n) (c := c) (w := w)
  have C := right_in (a := a) (p := p) (n := n) (c := c) (w := w)
  rw [hk] at C
  go_enter Tryz.func65, Tryz.ntmps65
  go_wp2_with (first
   | (refine wpList_load_run rfl 28 _ rfl _ _ rfl RL.out ?_; clear RL)
   | (go_at_call 105; refine C.mono ?_; clear C; rintro e w1 ⟨wx, u0, rfl, RS, HQ⟩; have hcc := HQ.out.cells; rw [hk] at hcc; have RR : Hid _ := HQ.out.ldR; obtain ⟨u2, RS2, hq2⟩ := HQ.out.setR a.b1 a.h1 a.r1 a.c1 a.fr1 a.fc1; have HQ2 : Hid (RQ w a (.slice p n c) w1.heap.size (⟨2, nb, 0, 0, nb, a.b1, a.h1, a.r1, a.c1, a.fr1, a.fc1, nb, nb, 0, 0, false, false⟩ : Lab) (.slice none 0 0) u2) := hq2; clear hq2 HQ; have hc2 := HQ2.out.cells; rw [hk] at hc2; have RR2 : Hid _ := HQ2.out.ldR; have CG := CG0.out _ HQ2.out.b)
   | (refine wpList_store_run rfl 28 _ _ rfl _ _ _ rfl rfl RS.out ?_; clear RS)
   | (refine wpList_load_run rfl 25 _ rfl _ _ rfl RR.out ?_; clear RR)
   | (refine wpList_store_run rfl 25 _ _ rfl _ _ _ rfl rfl RS2.out ?_; clear RS2)
   | (refine wpList_load_run rfl 25 _ rfl _ _ rfl RR2.out ?_; clear RR2)
   | (go_at_call 107; refine CG.mono ?_; clear CG; rintro e w4 ⟨rfl, hb4⟩; have HQ4 : Hid _ := HQ2.out.below hb4; clear HQ2 hb4))
  go_ret
  exact ⟨rfl, HQ4.out.b⟩
end
end Go.Proofs.YtljmklbbngpllaaGreatDoor
