/- RRight2, RRight3. -/
import Derived.Test.YtljmklbbngpllaaGreatDoorRRight1Bk
set_option linter.unusedVariables false
set_option linter.unusedSimpArgs false
set_option maxHeartbeats 16000000
set_option maxRecDepth 100000
namespace Go.Proofs.YtljmklbbngpllaaGreatDoor
open Go.RowKit Go.Fm
theorem ok2 {a : Lab} {n : Nat} (hk : a.k = 2) : okL a n = (bO a (⟨2, nb, 0, 0, nb, a.b1, a.h1, a.r1, a.c1, a.fr1, a.fc1, nb, nb, 0, 0, false, false⟩ : Lab) && ((n : Int) == 0) && bB a.b1 a.h1 a.r1 a.c1) := by
 unfold okL iN fD sV qH gM
 simp [hk]
section
variable {a : Lab} {p : Option Addr} {n c : Nat} {w : World} {f : F}
theorem aIY (hk : a.k = 2) (Z : jW a) (hz : zT (a, f) ≤ 1000000) (hs : SF w p n f) : Calls Tryz.prog 65 #[.agg (lcs a (.slice p n c))] w fun e w' => e = .returned (.bool (okL a n)) ∧ Below w.heap.size w w' := by
 have CG0 : Hid (∀ u, Below w.heap.size w u → Calls Tryz.prog 107 #[aY a.b1 a.h1 a.r1 a.c1 a.fr1 a.fc1] u fun e w' => e = .returned (.bool (bB a.b1 a.h1 a.r1 a.c1)) ∧ Below u.heap.size u w') := fun u _ => jP a.b1 a.h1 a.r1 a.c1 a.fr1 a.fc1 Z.b1 Z.h1 u
 rw [ok2 hk]
 generalize bB a.b1 a.h1 a.r1 a.c1 = tb at *
 cases tb with
 | true =>
  by_cases hn : n = 0
  ·have hni : ¬ (0 : Int) < n := by omega
   rw [show (bO a (⟨2, nb, 0, 0, nb, a.b1, a.h1, a.r1, a.c1, a.fr1, a.fc1, nb, nb, 0, 0, false, false⟩ : Lab) && ((n : Int) == 0) && true) = bO a (⟨2, nb, 0, 0, nb, a.b1, a.h1, a.r1, a.c1, a.fr1, a.fc1, nb, nb, 0, 0, false, false⟩ : Lab) by simp [hn]]
   clear hn
   have RL : Hid _ := bA (a := a) (p := p) (n := n) (c := c) (w := w)
   have C := aZ (a := a) (p := p) (n := n) (c := c) (w := w)
   rw [hk] at C
   go_enter Tryz.func65, Tryz.ntmps65
   go_wp2_with (first
    | (refine aA rfl 28 _ rfl _ _ rfl RL.out ?_; clear RL)
    | (go_at_call 105; refine C.mono ?_; clear C; rintro e w1 ⟨wx, u0, rfl, RS, HQ⟩; have hcc := HQ.out.cells; rw [hk] at hcc; have RR : Hid _ := HQ.out.ldR; obtain ⟨u2, RS2, hq2⟩ := HQ.out.aEw a.b1 a.h1 a.r1 a.c1 a.fr1 a.fc1; have HQ2 : Hid (RQ w a (.slice p n c) w1.heap.size (⟨2, nb, 0, 0, nb, a.b1, a.h1, a.r1, a.c1, a.fr1, a.fc1, nb, nb, 0, 0, false, false⟩ : Lab) (.slice none 0 0) u2) := hq2; clear hq2 HQ; have hc2 := HQ2.out.cells; rw [hk] at hc2; have RR2 : Hid _ := HQ2.out.ldR; have CG := CG0.out _ HQ2.out.b)
    | (refine aB rfl 28 _ _ rfl _ _ _ rfl rfl RS.out ?_; clear RS)
    | (refine aA rfl 25 _ rfl _ _ rfl RR.out ?_; clear RR)
    | (refine aB rfl 25 _ _ rfl _ _ _ rfl rfl RS2.out ?_; clear RS2)
    | (refine aA rfl 25 _ rfl _ _ rfl RR2.out ?_; clear RR2)
    | (go_at_call 107; refine CG.mono ?_; clear CG; rintro e w4 ⟨rfl, hb4⟩; have HQ4 : Hid _ := HQ2.out.below hb4; clear HQ2 hb4; obtain ⟨u3, RS3, hq3⟩ := HQ4.out.fK p n c; have HQ3 : Hid (RQ w a (.slice p n c) w1.heap.size (⟨2, nb, 0, 0, nb, a.b1, a.h1, a.r1, a.c1, a.fr1, a.fc1, nb, nb, 0, 0, false, false⟩ : Lab) (.slice p n c) u3) := hq3; have C9 := bQ hz hs HQ3.out; have RLN : Hid _ := HQ3.out.ldN; have RLW : Hid _ := HQ3.out.ldW; have HB3 : Hid _ := HQ3.out.b; have hc4 := HQ4.out.cells; rw [hk] at hc4; have hc3 := HQ3.out.cells; rw [hk] at hc3; clear hq3)
    | (refine aB rfl 26 _ _ rfl _ _ _ rfl rfl RS3.out ?_; clear RS3)
    | (refine aA rfl 28 _ rfl _ _ rfl RLN.out ?_; clear RLN)
    | (refine aA rfl 28 _ rfl _ _ rfl RLW.out ?_; clear RLW)
    | (go_at_call 13; refine C9.mono ?_; clear C9; rintro e w9 ⟨rfl, hb9⟩))
   go_ret
   exact ⟨rfl, hb9⟩
  ·have hni : (0 : Int) < n := by omega
   rw [show (bO a (⟨2, nb, 0, 0, nb, a.b1, a.h1, a.r1, a.c1, a.fr1, a.fc1, nb, nb, 0, 0, false, false⟩ : Lab) && ((n : Int) == 0) && true) = false by simp [hn]]
   clear hn
   have RL : Hid _ := bA (a := a) (p := p) (n := n) (c := c) (w := w)
   have C := aZ (a := a) (p := p) (n := n) (c := c) (w := w)
   rw [hk] at C
   go_enter Tryz.func65, Tryz.ntmps65
   go_wp2_with (first
    | (refine aA rfl 28 _ rfl _ _ rfl RL.out ?_; clear RL)
    | (go_at_call 105; refine C.mono ?_; clear C; rintro e w1 ⟨wx, u0, rfl, RS, HQ⟩; have hcc := HQ.out.cells; rw [hk] at hcc; have RR : Hid _ := HQ.out.ldR; obtain ⟨u2, RS2, hq2⟩ := HQ.out.aEw a.b1 a.h1 a.r1 a.c1 a.fr1 a.fc1; have HQ2 : Hid (RQ w a (.slice p n c) w1.heap.size (⟨2, nb, 0, 0, nb, a.b1, a.h1, a.r1, a.c1, a.fr1, a.fc1, nb, nb, 0, 0, false, false⟩ : Lab) (.slice none 0 0) u2) := hq2; clear hq2 HQ; have hc2 := HQ2.out.cells; rw [hk] at hc2; have RR2 : Hid _ := HQ2.out.ldR; have CG := CG0.out _ HQ2.out.b)
    | (refine aB rfl 28 _ _ rfl _ _ _ rfl rfl RS.out ?_; clear RS)
    | (refine aA rfl 25 _ rfl _ _ rfl RR.out ?_; clear RR)
    | (refine aB rfl 25 _ _ rfl _ _ _ rfl rfl RS2.out ?_; clear RS2)
    | (refine aA rfl 25 _ rfl _ _ rfl RR2.out ?_; clear RR2)
    | (go_at_call 107; refine CG.mono ?_; clear CG; rintro e w4 ⟨rfl, hb4⟩; have HQ4 : Hid _ := HQ2.out.below hb4; clear HQ2 hb4; obtain ⟨u3, RS3, hq3⟩ := HQ4.out.fK p n c; have HQ3 : Hid (RQ w a (.slice p n c) w1.heap.size (⟨2, nb, 0, 0, nb, a.b1, a.h1, a.r1, a.c1, a.fr1, a.fc1, nb, nb, 0, 0, false, false⟩ : Lab) (.slice p n c) u3) := hq3; have C9 := bQ hz hs HQ3.out; have RLN : Hid _ := HQ3.out.ldN; have RLW : Hid _ := HQ3.out.ldW; have HB3 : Hid _ := HQ3.out.b; have hc4 := HQ4.out.cells; rw [hk] at hc4; have hc3 := HQ3.out.cells; rw [hk] at hc3; clear hq3)
    | (refine aB rfl 26 _ _ rfl _ _ _ rfl rfl RS3.out ?_; clear RS3))
   go_ret
   exact ⟨rfl, HB3.out⟩
 | false =>
  rw [show (bO a (⟨2, nb, 0, 0, nb, a.b1, a.h1, a.r1, a.c1, a.fr1, a.fc1, nb, nb, 0, 0, false, false⟩ : Lab) && ((n : Int) == 0) && false) = false by simp]
  have RL : Hid _ := bA (a := a) (p := p) (n := n) (c := c) (w := w)
  have C := aZ (a := a) (p := p) (n := n) (c := c) (w := w)
  rw [hk] at C
  go_enter Tryz.func65, Tryz.ntmps65
  go_wp2_with (first
   | (refine aA rfl 28 _ rfl _ _ rfl RL.out ?_; clear RL)
   | (go_at_call 105; refine C.mono ?_; clear C; rintro e w1 ⟨wx, u0, rfl, RS, HQ⟩; have hcc := HQ.out.cells; rw [hk] at hcc; have RR : Hid _ := HQ.out.ldR; obtain ⟨u2, RS2, hq2⟩ := HQ.out.aEw a.b1 a.h1 a.r1 a.c1 a.fr1 a.fc1; have HQ2 : Hid (RQ w a (.slice p n c) w1.heap.size (⟨2, nb, 0, 0, nb, a.b1, a.h1, a.r1, a.c1, a.fr1, a.fc1, nb, nb, 0, 0, false, false⟩ : Lab) (.slice none 0 0) u2) := hq2; clear hq2 HQ; have hc2 := HQ2.out.cells; rw [hk] at hc2; have RR2 : Hid _ := HQ2.out.ldR; have CG := CG0.out _ HQ2.out.b)
   | (refine aB rfl 28 _ _ rfl _ _ _ rfl rfl RS.out ?_; clear RS)
   | (refine aA rfl 25 _ rfl _ _ rfl RR.out ?_; clear RR)
   | (refine aB rfl 25 _ _ rfl _ _ _ rfl rfl RS2.out ?_; clear RS2)
   | (refine aA rfl 25 _ rfl _ _ rfl RR2.out ?_; clear RR2)
   | (go_at_call 107; refine CG.mono ?_; clear CG; rintro e w4 ⟨rfl, hb4⟩; have HQ4 : Hid _ := HQ2.out.below hb4; clear HQ2 hb4))
  go_ret
  exact ⟨rfl, HQ4.out.b⟩
end
theorem ok3 {a : Lab} {n : Nat} (hk : a.k = 3) : okL a n = (bO a (⟨3, nb, 0, 0, nb, a.b1, a.h1, a.r1, a.c1, a.fr1, a.fc1, a.b2, a.h2, a.r2, a.c2, a.fr2, a.fc2⟩ : Lab) && ((n : Int) == 0) && !(paB a.b1 a.h1 a.r1 a.c1 a.fr1 a.fc1 a.b2 a.h2 a.r2 a.c2 a.fr2 a.fc2).toList.isEmpty) := by
 unfold okL iN fD sV qH gM
 simp [hk]
section
variable {a : Lab} {p : Option Addr} {n c : Nat} {w : World} {f : F}
theorem aIZ (hk : a.k = 3) (Z : jW a) (hz : zT (a, f) ≤ 1000000) (hs : SF w p n f) (T : cZ w) : Calls Tryz.prog 65 #[.agg (lcs a (.slice p n c))] w fun e w' => e = .returned (.bool (okL a n)) ∧ Below w.heap.size w w' := by
 have CG0 : Hid (∀ u, Below w.heap.size w u → Calls Tryz.prog 103 #[aY a.b1 a.h1 a.r1 a.c1 a.fr1 a.fc1, aY a.b2 a.h2 a.r2 a.c2 a.fr2 a.fc2] u fun e w' => e = .returned (.string (paB a.b1 a.h1 a.r1 a.c1 a.fr1 a.fc1 a.b2 a.h2 a.r2 a.c2 a.fr2 a.fc2)) ∧ Below u.heap.size u w') := fun u hu => aEu a.b1 a.h1 a.r1 a.c1 a.fr1 a.fc1 a.b2 a.h2 a.r2 a.c2 a.fr2 a.fc2 Z.b1 Z.h1 Z.b2 Z.h2 u
 rw [ok3 hk]
 generalize paB a.b1 a.h1 a.r1 a.c1 a.fr1 a.fc1 a.b2 a.h2 a.r2 a.c2 a.fr2 a.fc2 = X at *
 by_cases hX : X.toList = []
 ·have hXb : (X.toList == []) = true := by simpa using hX
  rw [show (bO a (⟨3, nb, 0, 0, nb, a.b1, a.h1, a.r1, a.c1, a.fr1, a.fc1, a.b2, a.h2, a.r2, a.c2, a.fr2, a.fc2⟩ : Lab) && ((n : Int) == 0) && !X.toList.isEmpty) = false by simp [hX]]
  clear hX
  have RL : Hid _ := bA (a := a) (p := p) (n := n) (c := c) (w := w)
  have C := aZ (a := a) (p := p) (n := n) (c := c) (w := w)
  rw [hk] at C
  go_enter Tryz.func65, Tryz.ntmps65
  go_wp2_with (first
   | (refine aA rfl 28 _ rfl _ _ rfl RL.out ?_; clear RL)
   | (go_at_call 105; refine C.mono ?_; clear C; rintro e w1 ⟨wx, u0, rfl, RS, HQ⟩; have hcc := HQ.out.cells; rw [hk] at hcc)
   | (refine aB rfl 28 _ _ rfl _ _ _ rfl rfl RS.out ?_; clear RS))
  clear hcc
  have HQd : Hid (RQ w a (.slice p n c) w1.heap.size (aT 3 nb) (.slice none 0 0) u0.drew) := HQ.out.drew
  obtain ⟨u1, RS1, hq1⟩ := HQd.out.aEw a.b1 a.h1 a.r1 a.c1 a.fr1 a.fc1
  have HQ1 : Hid (RQ w a (.slice p n c) w1.heap.size (⟨3, nb, 0, 0, nb, a.b1, a.h1, a.r1, a.c1, a.fr1, a.fc1, nb, nb, 0, 0, false, false⟩ : Lab) (.slice none 0 0) u1) := hq1
  obtain ⟨u2, RS2, hq2⟩ := HQ1.out.aKr a.b2 a.h2 a.r2 a.c2 a.fr2 a.fc2
  have HQ2 : Hid (RQ w a (.slice p n c) w1.heap.size (⟨3, nb, 0, 0, nb, a.b1, a.h1, a.r1, a.c1, a.fr1, a.fc1, a.b2, a.h2, a.r2, a.c2, a.fr2, a.fc2⟩ : Lab) (.slice none 0 0) u2) := hq2
  clear hq1 hq2 HQ
  generalize w1.heap.size = g at *
  refine aM (fun u => u.heap[w.heap.size]? = some (.cells (lcs a (.slice p n c)) 28)) (fun _ => false) (by kernel_rfl) ?_
  refine dwp 0 (.pointer (some ⟨w.heap.size, 5, none⟩)) ?_
  refine dwl 1 (aY a.b1 a.h1 a.r1 a.c1 a.fr1 a.fc1) ?_ (hS := HQd.out.n) (hy := (fun u hSu => aG rfl rfl ((aL hSu).2.2.2.1)))
  refine dwp 2 (.pointer (some ⟨w.heap.size, 11, none⟩)) ?_
  refine dwl 3 (aY a.b2 a.h2 a.r2 a.c2 a.fr2 a.fc2) ?_ (hS := HQd.out.n) (hy := (fun u hSu => aG rfl rfl ((aL hSu).2.2.2.2)))
  refine dwp 4 (.pointer (some ⟨g, 5, none⟩)) ?_
  refine aF (i := 5) (by kernel_rfl) rfl ?_
  intro K' hK'
  rw [if_pos (by go_simp)]
  refine aH none rfl 25 _ _ rfl _ _ rfl rfl RS1.out (hK' _ _ (.inr fun _ => HQ1.out.n) ?_)
  clear hK'
  try simp only [Act.put, List.setIfInBounds_toArray, List.set_cons_zero, List.set_cons_succ]
  refine dwp 6 (.pointer (some ⟨g, 11, none⟩)) ?_
  refine aF (i := 7) (by kernel_rfl) rfl ?_
  intro K' hK'
  rw [if_pos (by go_simp)]
  refine aH none rfl 25 _ _ rfl _ _ rfl rfl RS2.out (hK' _ _ (.inr fun _ => HQ2.out.n) ?_)
  clear hK'
  try simp only [Act.put, List.setIfInBounds_toArray, List.set_cons_zero, List.set_cons_succ]
  refine aK (by kernel_rfl) ?_ _
  clear HQd HQ1 RS1 RS2
  have hc2 := HQ2.out.cells
  rw [hk] at hc2
  have RR1 : Hid _ := HQ2.out.ldR
  have RR2 : Hid _ := HQ2.out.ldT
  have CG := CG0.out _ HQ2.out.b
  go_wp2_with (first
   | (refine aA rfl 25 _ rfl _ _ rfl RR1.out ?_; clear RR1)
   | (refine aA rfl 25 _ rfl _ _ rfl RR2.out ?_; clear RR2)
   | (go_at_call 103; refine CG.mono ?_; clear CG; rintro e w4 ⟨rfl, hb4⟩; have HQ4 : Hid _ := HQ2.out.below hb4; clear HQ2 hb4))
  go_ret
  exact ⟨rfl, HQ4.out.b⟩
 ·have hXb : (X.toList == []) = false := by simpa using hX
  rw [show (!X.toList.isEmpty) = true by simp [hX]]
  clear hX
  by_cases hn : n = 0
  ·have hni : ¬ (0 : Int) < n := by omega
   rw [show (bO a (⟨3, nb, 0, 0, nb, a.b1, a.h1, a.r1, a.c1, a.fr1, a.fc1, a.b2, a.h2, a.r2, a.c2, a.fr2, a.fc2⟩ : Lab) && ((n : Int) == 0) && true) = bO a (⟨3, nb, 0, 0, nb, a.b1, a.h1, a.r1, a.c1, a.fr1, a.fc1, a.b2, a.h2, a.r2, a.c2, a.fr2, a.fc2⟩ : Lab) by simp [hn]]
   clear hn
   have RL : Hid _ := bA (a := a) (p := p) (n := n) (c := c) (w := w)
   have C := aZ (a := a) (p := p) (n := n) (c := c) (w := w)
   rw [hk] at C
   go_enter Tryz.func65, Tryz.ntmps65
   go_wp2_with (first
    | (refine aA rfl 28 _ rfl _ _ rfl RL.out ?_; clear RL)
    | (go_at_call 105; refine C.mono ?_; clear C; rintro e w1 ⟨wx, u0, rfl, RS, HQ⟩; have hcc := HQ.out.cells; rw [hk] at hcc)
    | (refine aB rfl 28 _ _ rfl _ _ _ rfl rfl RS.out ?_; clear RS))
   clear hcc
   have HQd : Hid (RQ w a (.slice p n c) w1.heap.size (aT 3 nb) (.slice none 0 0) u0.drew) := HQ.out.drew
   obtain ⟨u1, RS1, hq1⟩ := HQd.out.aEw a.b1 a.h1 a.r1 a.c1 a.fr1 a.fc1
   have HQ1 : Hid (RQ w a (.slice p n c) w1.heap.size (⟨3, nb, 0, 0, nb, a.b1, a.h1, a.r1, a.c1, a.fr1, a.fc1, nb, nb, 0, 0, false, false⟩ : Lab) (.slice none 0 0) u1) := hq1
   obtain ⟨u2, RS2, hq2⟩ := HQ1.out.aKr a.b2 a.h2 a.r2 a.c2 a.fr2 a.fc2
   have HQ2 : Hid (RQ w a (.slice p n c) w1.heap.size (⟨3, nb, 0, 0, nb, a.b1, a.h1, a.r1, a.c1, a.fr1, a.fc1, a.b2, a.h2, a.r2, a.c2, a.fr2, a.fc2⟩ : Lab) (.slice none 0 0) u2) := hq2
   clear hq1 hq2 HQ
   generalize w1.heap.size = g at *
   refine aM (fun u => u.heap[w.heap.size]? = some (.cells (lcs a (.slice p n c)) 28)) (fun _ => false) (by kernel_rfl) ?_
   refine dwp 0 (.pointer (some ⟨w.heap.size, 5, none⟩)) ?_
   refine dwl 1 (aY a.b1 a.h1 a.r1 a.c1 a.fr1 a.fc1) ?_ (hS := HQd.out.n) (hy := (fun u hSu => aG rfl rfl ((aL hSu).2.2.2.1)))
   refine dwp 2 (.pointer (some ⟨w.heap.size, 11, none⟩)) ?_
   refine dwl 3 (aY a.b2 a.h2 a.r2 a.c2 a.fr2 a.fc2) ?_ (hS := HQd.out.n) (hy := (fun u hSu => aG rfl rfl ((aL hSu).2.2.2.2)))
   refine dwp 4 (.pointer (some ⟨g, 5, none⟩)) ?_
   refine aF (i := 5) (by kernel_rfl) rfl ?_
   intro K' hK'
   rw [if_pos (by go_simp)]
   refine aH none rfl 25 _ _ rfl _ _ rfl rfl RS1.out (hK' _ _ (.inr fun _ => HQ1.out.n) ?_)
   clear hK'
   try simp only [Act.put, List.setIfInBounds_toArray, List.set_cons_zero, List.set_cons_succ]
   refine dwp 6 (.pointer (some ⟨g, 11, none⟩)) ?_
   refine aF (i := 7) (by kernel_rfl) rfl ?_
   intro K' hK'
   rw [if_pos (by go_simp)]
   refine aH none rfl 25 _ _ rfl _ _ rfl rfl RS2.out (hK' _ _ (.inr fun _ => HQ2.out.n) ?_)
   clear hK'
   try simp only [Act.put, List.setIfInBounds_toArray, List.set_cons_zero, List.set_cons_succ]
   refine aK (by kernel_rfl) ?_ _
   clear HQd HQ1 RS1 RS2
   have hc2 := HQ2.out.cells
   rw [hk] at hc2
   have RR1 : Hid _ := HQ2.out.ldR
   have RR2 : Hid _ := HQ2.out.ldT
   have CG := CG0.out _ HQ2.out.b
   go_wp2_with (first
    | (refine aA rfl 25 _ rfl _ _ rfl RR1.out ?_; clear RR1)
    | (refine aA rfl 25 _ rfl _ _ rfl RR2.out ?_; clear RR2)
    | (go_at_call 103; refine CG.mono ?_; clear CG; rintro e w4 ⟨rfl, hb4⟩; have HQ4 : Hid _ := HQ2.out.below hb4; clear HQ2 hb4; obtain ⟨u3, RS3, hq3⟩ := HQ4.out.fK p n c; have HQ3 : Hid (RQ w a (.slice p n c) g (⟨3, nb, 0, 0, nb, a.b1, a.h1, a.r1, a.c1, a.fr1, a.fc1, a.b2, a.h2, a.r2, a.c2, a.fr2, a.fc2⟩ : Lab) (.slice p n c) u3) := hq3; have C9 := bQ hz hs HQ3.out; have RLN : Hid _ := HQ3.out.ldN; have RLW : Hid _ := HQ3.out.ldW; have HB3 : Hid _ := HQ3.out.b; have hc4 := HQ4.out.cells; rw [hk] at hc4; have hc3 := HQ3.out.cells; rw [hk] at hc3; clear hq3)
    | (refine aB rfl 26 _ _ rfl _ _ _ rfl rfl RS3.out ?_; clear RS3)
    | (refine aA rfl 28 _ rfl _ _ rfl RLN.out ?_; clear RLN)
    | (refine aA rfl 28 _ rfl _ _ rfl RLW.out ?_; clear RLW)
    | (go_at_call 13; refine C9.mono ?_; clear C9; rintro e w9 ⟨rfl, hb9⟩))
   go_ret
   exact ⟨rfl, hb9⟩
  ·have hni : (0 : Int) < n := by omega
   rw [show (bO a (⟨3, nb, 0, 0, nb, a.b1, a.h1, a.r1, a.c1, a.fr1, a.fc1, a.b2, a.h2, a.r2, a.c2, a.fr2, a.fc2⟩ : Lab) && ((n : Int) == 0) && true) = false by simp [hn]]
   clear hn
   have RL : Hid _ := bA (a := a) (p := p) (n := n) (c := c) (w := w)
   have C := aZ (a := a) (p := p) (n := n) (c := c) (w := w)
   rw [hk] at C
   go_enter Tryz.func65, Tryz.ntmps65
   go_wp2_with (first
    | (refine aA rfl 28 _ rfl _ _ rfl RL.out ?_; clear RL)
    | (go_at_call 105; refine C.mono ?_; clear C; rintro e w1 ⟨wx, u0, rfl, RS, HQ⟩; have hcc := HQ.out.cells; rw [hk] at hcc)
    | (refine aB rfl 28 _ _ rfl _ _ _ rfl rfl RS.out ?_; clear RS))
   clear hcc
   have HQd : Hid (RQ w a (.slice p n c) w1.heap.size (aT 3 nb) (.slice none 0 0) u0.drew) := HQ.out.drew
   obtain ⟨u1, RS1, hq1⟩ := HQd.out.aEw a.b1 a.h1 a.r1 a.c1 a.fr1 a.fc1
   have HQ1 : Hid (RQ w a (.slice p n c) w1.heap.size (⟨3, nb, 0, 0, nb, a.b1, a.h1, a.r1, a.c1, a.fr1, a.fc1, nb, nb, 0, 0, false, false⟩ : Lab) (.slice none 0 0) u1) := hq1
   obtain ⟨u2, RS2, hq2⟩ := HQ1.out.aKr a.b2 a.h2 a.r2 a.c2 a.fr2 a.fc2
   have HQ2 : Hid (RQ w a (.slice p n c) w1.heap.size (⟨3, nb, 0, 0, nb, a.b1, a.h1, a.r1, a.c1, a.fr1, a.fc1, a.b2, a.h2, a.r2, a.c2, a.fr2, a.fc2⟩ : Lab) (.slice none 0 0) u2) := hq2
   clear hq1 hq2 HQ
   generalize w1.heap.size = g at *
   refine aM (fun u => u.heap[w.heap.size]? = some (.cells (lcs a (.slice p n c)) 28)) (fun _ => false) (by kernel_rfl) ?_
   refine dwp 0 (.pointer (some ⟨w.heap.size, 5, none⟩)) ?_
   refine dwl 1 (aY a.b1 a.h1 a.r1 a.c1 a.fr1 a.fc1) ?_ (hS := HQd.out.n) (hy := (fun u hSu => aG rfl rfl ((aL hSu).2.2.2.1)))
   refine dwp 2 (.pointer (some ⟨w.heap.size, 11, none⟩)) ?_
   refine dwl 3 (aY a.b2 a.h2 a.r2 a.c2 a.fr2 a.fc2) ?_ (hS := HQd.out.n) (hy := (fun u hSu => aG rfl rfl ((aL hSu).2.2.2.2)))
   refine dwp 4 (.pointer (some ⟨g, 5, none⟩)) ?_
   refine aF (i := 5) (by kernel_rfl) rfl ?_
   intro K' hK'
   rw [if_pos (by go_simp)]
   refine aH none rfl 25 _ _ rfl _ _ rfl rfl RS1.out (hK' _ _ (.inr fun _ => HQ1.out.n) ?_)
   clear hK'
   try simp only [Act.put, List.setIfInBounds_toArray, List.set_cons_zero, List.set_cons_succ]
   refine dwp 6 (.pointer (some ⟨g, 11, none⟩)) ?_
   refine aF (i := 7) (by kernel_rfl) rfl ?_
   intro K' hK'
   rw [if_pos (by go_simp)]
   refine aH none rfl 25 _ _ rfl _ _ rfl rfl RS2.out (hK' _ _ (.inr fun _ => HQ2.out.n) ?_)
   clear hK'
   try simp only [Act.put, List.setIfInBounds_toArray, List.set_cons_zero, List.set_cons_succ]
   refine aK (by kernel_rfl) ?_ _
   clear HQd HQ1 RS1 RS2
   have hc2 := HQ2.out.cells
   rw [hk] at hc2
   have RR1 : Hid _ := HQ2.out.ldR
   have RR2 : Hid _ := HQ2.out.ldT
   have CG := CG0.out _ HQ2.out.b
   go_wp2_with (first
    | (refine aA rfl 25 _ rfl _ _ rfl RR1.out ?_; clear RR1)
    | (refine aA rfl 25 _ rfl _ _ rfl RR2.out ?_; clear RR2)
    | (go_at_call 103; refine CG.mono ?_; clear CG; rintro e w4 ⟨rfl, hb4⟩; have HQ4 : Hid _ := HQ2.out.below hb4; clear HQ2 hb4; obtain ⟨u3, RS3, hq3⟩ := HQ4.out.fK p n c; have HQ3 : Hid (RQ w a (.slice p n c) g (⟨3, nb, 0, 0, nb, a.b1, a.h1, a.r1, a.c1, a.fr1, a.fc1, a.b2, a.h2, a.r2, a.c2, a.fr2, a.fc2⟩ : Lab) (.slice p n c) u3) := hq3; have C9 := bQ hz hs HQ3.out; have RLN : Hid _ := HQ3.out.ldN; have RLW : Hid _ := HQ3.out.ldW; have HB3 : Hid _ := HQ3.out.b; have hc4 := HQ4.out.cells; rw [hk] at hc4; have hc3 := HQ3.out.cells; rw [hk] at hc3; clear hq3)
    | (refine aB rfl 26 _ _ rfl _ _ _ rfl rfl RS3.out ?_; clear RS3))
   go_ret
   exact ⟨rfl, HB3.out⟩
end
end Go.Proofs.YtljmklbbngpllaaGreatDoor
