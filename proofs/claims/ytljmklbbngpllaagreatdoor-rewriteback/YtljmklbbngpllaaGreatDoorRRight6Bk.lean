/- RRight5, RRight6. -/
import Derived.Test.YtljmklbbngpllaaGreatDoorRRight1Bk
set_option linter.unusedVariables false
set_option linter.unusedSimpArgs false
set_option maxHeartbeats 16000000
set_option maxRecDepth 100000
namespace Go.Proofs.YtljmklbbngpllaaGreatDoor
open Go.RowKit Go.Fm
theorem ok5 {a : Lab} {n : Nat} (hk : a.k = 5) : okL a n = (bO a (aT 5 a.s) && (((n : Int) == 1) && ((a.s.toList == [45]) || (a.s.toList == [37])))) := by
 unfold okL iN fD sV qH gM
 simp [hk]
section
variable {a : Lab} {p : Option Addr} {n c : Nat} {w : World} {f : F}
theorem aI1 (hk : a.k = 5) (hz : zT (a, f) ≤ 1000000) (hs : SF w p n f) : Calls Tryz.prog 65 #[.agg (lcs a (.slice p n c))] w fun e w' => e = .returned (.bool (okL a n)) ∧ Below w.heap.size w w' := by
 rw [ok5 hk]
 cases e45 : (a.s.toList == [45]) with
 | true =>
  cases en : ((n : Int) == 1) with
  | true =>
   rw [show (bO a (aT 5 a.s) && (true && (true || (a.s.toList == [37])))) = bO a (aT 5 a.s) by simp]
   have RL : Hid _ := bA (a := a) (p := p) (n := n) (c := c) (w := w)
   have C := aZ (a := a) (p := p) (n := n) (c := c) (w := w)
   rw [hk] at C
   go_enter Tryz.func65, Tryz.ntmps65
   go_wp2_with (first
    | (refine aA rfl 28 _ rfl _ _ rfl RL.out ?_; clear RL)
    | (go_at_call 105; refine C.mono ?_; clear C; rintro e w1 ⟨wx, u0, rfl, RS, HQ⟩; have hcc := HQ.out.cells; rw [hk] at hcc)
    | (refine aB rfl 28 _ _ rfl _ _ _ rfl rfl RS.out ?_; clear RS))
   clear hcc
   have HQd : Hid (RQ w a (.slice p n c) w1.heap.size (aT 5 nb) (.slice none 0 0) u0.drew) := HQ.out.drew
   obtain ⟨u1, RS1, hq1⟩ := HQd.out.jK a.s
   have HQ1 : Hid (RQ w a (.slice p n c) w1.heap.size (aT 5 a.s) (.slice none 0 0) u1) := hq1
   obtain ⟨u2, RS2, hq2⟩ := HQ1.out.fK p n c
   have HQ2 : Hid (RQ w a (.slice p n c) w1.heap.size (aT 5 a.s) (.slice p n c) u2) := hq2
   clear hq1 hq2 HQ
   generalize w1.heap.size = g at *
   refine aM (fun u => u.heap[w.heap.size]? = some (.cells (lcs a (.slice p n c)) 28)) (fun _ => false) (by kernel_rfl) ?_
   refine dwp 0 (.pointer (some ⟨w.heap.size, 1, none⟩)) ?_
   refine dwl 1 (.string a.s) ?_ (hS := HQd.out.n) (hy := (fun u hSu => aG rfl rfl (ld9 (aL hSu).2.1)))
   refine dwp 2 (.pointer (some ⟨w.heap.size, 17, none⟩)) ?_
   refine dwl 3 (.slice p n c) ?_ (hS := HQd.out.n) (hy := (fun u hSu => aG rfl rfl (jI (aU hSu))))
   refine dwp 4 (.pointer (some ⟨g, 1, none⟩)) ?_
   refine aF (i := 5) (by kernel_rfl) rfl ?_
   intro K' hK'
   rw [if_pos (by go_simp)]
   refine aH none rfl 9 _ _ rfl _ _ rfl rfl RS1.out (hK' _ _ (.inr fun _ => HQ1.out.n) ?_)
   clear hK'
   try simp only [Act.put, List.setIfInBounds_toArray, List.set_cons_zero, List.set_cons_succ]
   refine dwp 6 (.pointer (some ⟨g, 17, none⟩)) ?_
   refine aF (i := 7) (by kernel_rfl) rfl ?_
   intro K' hK'
   rw [if_pos (by go_simp)]
   refine aH none rfl 26 _ _ rfl _ _ rfl rfl RS2.out (hK' _ _ (.inr fun _ => HQ2.out.n) ?_)
   clear hK'
   try simp only [Act.put, List.setIfInBounds_toArray, List.set_cons_zero, List.set_cons_succ]
   refine aK (by kernel_rfl) ?_ _
   clear HQd HQ1 RS1 RS2
   have hc2 := HQ2.out.cells
   rw [hk] at hc2
   obtain ⟨u3, RS3, hq3⟩ := HQ2.out.fK p n c
   have HQ3 : Hid (RQ w a (.slice p n c) g (aT 5 a.s) (.slice p n c) u3) := hq3
   have C9 := bQ hz hs HQ3.out
   have RLN : Hid _ := HQ3.out.ldN
   have RLW : Hid _ := HQ3.out.ldW
   have hc3 := HQ3.out.cells
   rw [hk] at hc3
   clear hq3
   go_wp2_with (first
    | (refine aB rfl 26 _ _ rfl _ _ _ rfl rfl RS3.out ?_; clear RS3)
    | (refine aA rfl 28 _ rfl _ _ rfl RLN.out ?_; clear RLN)
    | (refine aA rfl 28 _ rfl _ _ rfl RLW.out ?_; clear RLW)
    | (go_at_call 13; refine C9.mono ?_; clear C9; rintro e w9 ⟨rfl, hb9⟩))
   go_ret
   exact ⟨rfl, hb9⟩
  | false =>
   rw [show (bO a (aT 5 a.s) && (false && (true || (a.s.toList == [37])))) = false by simp]
   have RL : Hid _ := bA (a := a) (p := p) (n := n) (c := c) (w := w)
   have C := aZ (a := a) (p := p) (n := n) (c := c) (w := w)
   rw [hk] at C
   go_enter Tryz.func65, Tryz.ntmps65
   go_wp2_with (first
    | (refine aA rfl 28 _ rfl _ _ rfl RL.out ?_; clear RL)
    | (go_at_call 105; refine C.mono ?_; clear C; rintro e w1 ⟨wx, u0, rfl, RS, HQ⟩; have hcc := HQ.out.cells; rw [hk] at hcc)
    | (refine aB rfl 28 _ _ rfl _ _ _ rfl rfl RS.out ?_; clear RS))
   clear hcc
   have HQd : Hid (RQ w a (.slice p n c) w1.heap.size (aT 5 nb) (.slice none 0 0) u0.drew) := HQ.out.drew
   obtain ⟨u1, RS1, hq1⟩ := HQd.out.jK a.s
   have HQ1 : Hid (RQ w a (.slice p n c) w1.heap.size (aT 5 a.s) (.slice none 0 0) u1) := hq1
   obtain ⟨u2, RS2, hq2⟩ := HQ1.out.fK p n c
   have HQ2 : Hid (RQ w a (.slice p n c) w1.heap.size (aT 5 a.s) (.slice p n c) u2) := hq2
   clear hq1 hq2 HQ
   generalize w1.heap.size = g at *
   refine aM (fun u => u.heap[w.heap.size]? = some (.cells (lcs a (.slice p n c)) 28)) (fun _ => false) (by kernel_rfl) ?_
   refine dwp 0 (.pointer (some ⟨w.heap.size, 1, none⟩)) ?_
   refine dwl 1 (.string a.s) ?_ (hS := HQd.out.n) (hy := (fun u hSu => aG rfl rfl (ld9 (aL hSu).2.1)))
   refine dwp 2 (.pointer (some ⟨w.heap.size, 17, none⟩)) ?_
   refine dwl 3 (.slice p n c) ?_ (hS := HQd.out.n) (hy := (fun u hSu => aG rfl rfl (jI (aU hSu))))
   refine dwp 4 (.pointer (some ⟨g, 1, none⟩)) ?_
   refine aF (i := 5) (by kernel_rfl) rfl ?_
   intro K' hK'
   rw [if_pos (by go_simp)]
   refine aH none rfl 9 _ _ rfl _ _ rfl rfl RS1.out (hK' _ _ (.inr fun _ => HQ1.out.n) ?_)
   clear hK'
   try simp only [Act.put, List.setIfInBounds_toArray, List.set_cons_zero, List.set_cons_succ]
   refine dwp 6 (.pointer (some ⟨g, 17, none⟩)) ?_
   refine aF (i := 7) (by kernel_rfl) rfl ?_
   intro K' hK'
   rw [if_pos (by go_simp)]
   refine aH none rfl 26 _ _ rfl _ _ rfl rfl RS2.out (hK' _ _ (.inr fun _ => HQ2.out.n) ?_)
   clear hK'
   try simp only [Act.put, List.setIfInBounds_toArray, List.set_cons_zero, List.set_cons_succ]
   refine aK (by kernel_rfl) ?_ _
   clear HQd HQ1 RS1 RS2
   have hc2 := HQ2.out.cells
   rw [hk] at hc2
   have HB : Hid _ := HQ2.out.b
   go_wp2
   go_ret
   exact ⟨rfl, HB.out⟩
 | false =>
  cases e37 : (a.s.toList == [37]) with
  | true =>
   cases en : ((n : Int) == 1) with
   | true =>
    rw [show (bO a (aT 5 a.s) && (true && (false || true))) = bO a (aT 5 a.s) by simp]
    have RL : Hid _ := bA (a := a) (p := p) (n := n) (c := c) (w := w)
    have C := aZ (a := a) (p := p) (n := n) (c := c) (w := w)
    rw [hk] at C
    go_enter Tryz.func65, Tryz.ntmps65
    go_wp2_with (first
     | (refine aA rfl 28 _ rfl _ _ rfl RL.out ?_; clear RL)
     | (go_at_call 105; refine C.mono ?_; clear C; rintro e w1 ⟨wx, u0, rfl, RS, HQ⟩; have hcc := HQ.out.cells; rw [hk] at hcc)
     | (refine aB rfl 28 _ _ rfl _ _ _ rfl rfl RS.out ?_; clear RS))
    clear hcc
    have HQd : Hid (RQ w a (.slice p n c) w1.heap.size (aT 5 nb) (.slice none 0 0) u0.drew) := HQ.out.drew
    obtain ⟨u1, RS1, hq1⟩ := HQd.out.jK a.s
    have HQ1 : Hid (RQ w a (.slice p n c) w1.heap.size (aT 5 a.s) (.slice none 0 0) u1) := hq1
    obtain ⟨u2, RS2, hq2⟩ := HQ1.out.fK p n c
    have HQ2 : Hid (RQ w a (.slice p n c) w1.heap.size (aT 5 a.s) (.slice p n c) u2) := hq2
    clear hq1 hq2 HQ
    generalize w1.heap.size = g at *
    refine aM (fun u => u.heap[w.heap.size]? = some (.cells (lcs a (.slice p n c)) 28)) (fun _ => false) (by kernel_rfl) ?_
    refine dwp 0 (.pointer (some ⟨w.heap.size, 1, none⟩)) ?_
    refine dwl 1 (.string a.s) ?_ (hS := HQd.out.n) (hy := (fun u hSu => aG rfl rfl (ld9 (aL hSu).2.1)))
    refine dwp 2 (.pointer (some ⟨w.heap.size, 17, none⟩)) ?_
    refine dwl 3 (.slice p n c) ?_ (hS := HQd.out.n) (hy := (fun u hSu => aG rfl rfl (jI (aU hSu))))
    refine dwp 4 (.pointer (some ⟨g, 1, none⟩)) ?_
    refine aF (i := 5) (by kernel_rfl) rfl ?_
    intro K' hK'
    rw [if_pos (by go_simp)]
    refine aH none rfl 9 _ _ rfl _ _ rfl rfl RS1.out (hK' _ _ (.inr fun _ => HQ1.out.n) ?_)
    clear hK'
    try simp only [Act.put, List.setIfInBounds_toArray, List.set_cons_zero, List.set_cons_succ]
    refine dwp 6 (.pointer (some ⟨g, 17, none⟩)) ?_
    refine aF (i := 7) (by kernel_rfl) rfl ?_
    intro K' hK'
    rw [if_pos (by go_simp)]
    refine aH none rfl 26 _ _ rfl _ _ rfl rfl RS2.out (hK' _ _ (.inr fun _ => HQ2.out.n) ?_)
    clear hK'
    try simp only [Act.put, List.setIfInBounds_toArray, List.set_cons_zero, List.set_cons_succ]
    refine aK (by kernel_rfl) ?_ _
    clear HQd HQ1 RS1 RS2
    have hc2 := HQ2.out.cells
    rw [hk] at hc2
    obtain ⟨u3, RS3, hq3⟩ := HQ2.out.fK p n c
    have HQ3 : Hid (RQ w a (.slice p n c) g (aT 5 a.s) (.slice p n c) u3) := hq3
    have C9 := bQ hz hs HQ3.out
    have RLN : Hid _ := HQ3.out.ldN
    have RLW : Hid _ := HQ3.out.ldW
    have hc3 := HQ3.out.cells
    rw [hk] at hc3
    clear hq3
    go_wp2_with (first
     | (refine aB rfl 26 _ _ rfl _ _ _ rfl rfl RS3.out ?_; clear RS3)
     | (refine aA rfl 28 _ rfl _ _ rfl RLN.out ?_; clear RLN)
     | (refine aA rfl 28 _ rfl _ _ rfl RLW.out ?_; clear RLW)
     | (go_at_call 13; refine C9.mono ?_; clear C9; rintro e w9 ⟨rfl, hb9⟩))
    go_ret
    exact ⟨rfl, hb9⟩
   | false =>
    rw [show (bO a (aT 5 a.s) && (false && (false || true))) = false by simp]
    have RL : Hid _ := bA (a := a) (p := p) (n := n) (c := c) (w := w)
    have C := aZ (a := a) (p := p) (n := n) (c := c) (w := w)
    rw [hk] at C
    go_enter Tryz.func65, Tryz.ntmps65
    go_wp2_with (first
     | (refine aA rfl 28 _ rfl _ _ rfl RL.out ?_; clear RL)
     | (go_at_call 105; refine C.mono ?_; clear C; rintro e w1 ⟨wx, u0, rfl, RS, HQ⟩; have hcc := HQ.out.cells; rw [hk] at hcc)
     | (refine aB rfl 28 _ _ rfl _ _ _ rfl rfl RS.out ?_; clear RS))
    clear hcc
    have HQd : Hid (RQ w a (.slice p n c) w1.heap.size (aT 5 nb) (.slice none 0 0) u0.drew) := HQ.out.drew
    obtain ⟨u1, RS1, hq1⟩ := HQd.out.jK a.s
    have HQ1 : Hid (RQ w a (.slice p n c) w1.heap.size (aT 5 a.s) (.slice none 0 0) u1) := hq1
    obtain ⟨u2, RS2, hq2⟩ := HQ1.out.fK p n c
    have HQ2 : Hid (RQ w a (.slice p n c) w1.heap.size (aT 5 a.s) (.slice p n c) u2) := hq2
    clear hq1 hq2 HQ
    generalize w1.heap.size = g at *
    refine aM (fun u => u.heap[w.heap.size]? = some (.cells (lcs a (.slice p n c)) 28)) (fun _ => false) (by kernel_rfl) ?_
    refine dwp 0 (.pointer (some ⟨w.heap.size, 1, none⟩)) ?_
    refine dwl 1 (.string a.s) ?_ (hS := HQd.out.n) (hy := (fun u hSu => aG rfl rfl (ld9 (aL hSu).2.1)))
    refine dwp 2 (.pointer (some ⟨w.heap.size, 17, none⟩)) ?_
    refine dwl 3 (.slice p n c) ?_ (hS := HQd.out.n) (hy := (fun u hSu => aG rfl rfl (jI (aU hSu))))
    refine dwp 4 (.pointer (some ⟨g, 1, none⟩)) ?_
    refine aF (i := 5) (by kernel_rfl) rfl ?_
    intro K' hK'
    rw [if_pos (by go_simp)]
    refine aH none rfl 9 _ _ rfl _ _ rfl rfl RS1.out (hK' _ _ (.inr fun _ => HQ1.out.n) ?_)
    clear hK'
    try simp only [Act.put, List.setIfInBounds_toArray, List.set_cons_zero, List.set_cons_succ]
    refine dwp 6 (.pointer (some ⟨g, 17, none⟩)) ?_
    refine aF (i := 7) (by kernel_rfl) rfl ?_
    intro K' hK'
    rw [if_pos (by go_simp)]
    refine aH none rfl 26 _ _ rfl _ _ rfl rfl RS2.out (hK' _ _ (.inr fun _ => HQ2.out.n) ?_)
    clear hK'
    try simp only [Act.put, List.setIfInBounds_toArray, List.set_cons_zero, List.set_cons_succ]
    refine aK (by kernel_rfl) ?_ _
    clear HQd HQ1 RS1 RS2
    have hc2 := HQ2.out.cells
    rw [hk] at hc2
    have HB : Hid _ := HQ2.out.b
    go_wp2
    go_ret
    exact ⟨rfl, HB.out⟩
  | false =>
   rw [show (bO a (aT 5 a.s) && (((n : Int) == 1) && (false || false))) = false by simp]
   have RL : Hid _ := bA (a := a) (p := p) (n := n) (c := c) (w := w)
   have C := aZ (a := a) (p := p) (n := n) (c := c) (w := w)
   rw [hk] at C
   go_enter Tryz.func65, Tryz.ntmps65
   go_wp2_with (first
    | (refine aA rfl 28 _ rfl _ _ rfl RL.out ?_; clear RL)
    | (go_at_call 105; refine C.mono ?_; clear C; rintro e w1 ⟨wx, u0, rfl, RS, HQ⟩; have hcc := HQ.out.cells; rw [hk] at hcc)
    | (refine aB rfl 28 _ _ rfl _ _ _ rfl rfl RS.out ?_; clear RS))
   clear hcc
   have HQd : Hid (RQ w a (.slice p n c) w1.heap.size (aT 5 nb) (.slice none 0 0) u0.drew) := HQ.out.drew
   obtain ⟨u1, RS1, hq1⟩ := HQd.out.jK a.s
   have HQ1 : Hid (RQ w a (.slice p n c) w1.heap.size (aT 5 a.s) (.slice none 0 0) u1) := hq1
   obtain ⟨u2, RS2, hq2⟩ := HQ1.out.fK p n c
   have HQ2 : Hid (RQ w a (.slice p n c) w1.heap.size (aT 5 a.s) (.slice p n c) u2) := hq2
   clear hq1 hq2 HQ
   generalize w1.heap.size = g at *
   refine aM (fun u => u.heap[w.heap.size]? = some (.cells (lcs a (.slice p n c)) 28)) (fun _ => false) (by kernel_rfl) ?_
   refine dwp 0 (.pointer (some ⟨w.heap.size, 1, none⟩)) ?_
   refine dwl 1 (.string a.s) ?_ (hS := HQd.out.n) (hy := (fun u hSu => aG rfl rfl (ld9 (aL hSu).2.1)))
   refine dwp 2 (.pointer (some ⟨w.heap.size, 17, none⟩)) ?_
   refine dwl 3 (.slice p n c) ?_ (hS := HQd.out.n) (hy := (fun u hSu => aG rfl rfl (jI (aU hSu))))
   refine dwp 4 (.pointer (some ⟨g, 1, none⟩)) ?_
   refine aF (i := 5) (by kernel_rfl) rfl ?_
   intro K' hK'
   rw [if_pos (by go_simp)]
   refine aH none rfl 9 _ _ rfl _ _ rfl rfl RS1.out (hK' _ _ (.inr fun _ => HQ1.out.n) ?_)
   clear hK'
   try simp only [Act.put, List.setIfInBounds_toArray, List.set_cons_zero, List.set_cons_succ]
   refine dwp 6 (.pointer (some ⟨g, 17, none⟩)) ?_
   refine aF (i := 7) (by kernel_rfl) rfl ?_
   intro K' hK'
   rw [if_pos (by go_simp)]
   refine aH none rfl 26 _ _ rfl _ _ rfl rfl RS2.out (hK' _ _ (.inr fun _ => HQ2.out.n) ?_)
   clear hK'
   try simp only [Act.put, List.setIfInBounds_toArray, List.set_cons_zero, List.set_cons_succ]
   refine aK (by kernel_rfl) ?_ _
   clear HQd HQ1 RS1 RS2
   have hc2 := HQ2.out.cells
   rw [hk] at hc2
   have HB : Hid _ := HQ2.out.b
   go_wp2
   go_ret
   exact ⟨rfl, HB.out⟩
end
theorem ok6 {a : Lab} {n : Nat} (hk : a.k = 6) : okL a n = (bO a (aT 6 a.s) && (((n : Int) == 2) && !((cO a.s.toList : Int) == 0))) := by
 unfold okL iN fD sV qH gM
 simp [hk]
theorem aAL (s : ByteArray) (w : World) : Calls Tryz.prog 97 #[.string s] w fun e w' => e = .returned (.int .i64 (cO s.toList : Nat)) ∧ w' = w := by
 have := uL s.toList w
 have e : ba s.toList = s := by
  apply gB
  rw [ByteArray.toList_eq, ByteArray.toList_eq]
  simp [ba]
 rw [e] at this
 exact this
section
variable {a : Lab} {p : Option Addr} {n c : Nat} {w : World} {f : F}
theorem aI2 (hk : a.k = 6) (hz : zT (a, f) ≤ 1000000) (hs : SF w p n f) : Calls Tryz.prog 65 #[.agg (lcs a (.slice p n c))] w fun e w' => e = .returned (.bool (okL a n)) ∧ Below w.heap.size w w' := by
 have ST := fun u => aAL a.s u
 rw [ok6 hk]
 generalize (cO a.s.toList : Nat) = sg at *
 cases es : ((sg : Int) == 0) with
 | true =>
  rw [show (bO a (aT 6 a.s) && (((n : Int) == 2) && !true)) = false by simp]
  have RL : Hid _ := bA (a := a) (p := p) (n := n) (c := c) (w := w)
  have C := aZ (a := a) (p := p) (n := n) (c := c) (w := w)
  rw [hk] at C
  go_enter Tryz.func65, Tryz.ntmps65
  go_wp2_with (first
   | (refine aA rfl 28 _ rfl _ _ rfl RL.out ?_; clear RL)
   | (go_at_call 105; refine C.mono ?_; clear C; rintro e w1 ⟨wx, u0, rfl, RS, HQ⟩; have hcc := HQ.out.cells; rw [hk] at hcc)
   | (refine aB rfl 28 _ _ rfl _ _ _ rfl rfl RS.out ?_; clear RS))
  clear hcc
  have HQd : Hid (RQ w a (.slice p n c) w1.heap.size (aT 6 nb) (.slice none 0 0) u0.drew) := HQ.out.drew
  obtain ⟨u1, RS1, hq1⟩ := HQd.out.jK a.s
  have HQ1 : Hid (RQ w a (.slice p n c) w1.heap.size (aT 6 a.s) (.slice none 0 0) u1) := hq1
  obtain ⟨u2, RS2, hq2⟩ := HQ1.out.fK p n c
  have HQ2 : Hid (RQ w a (.slice p n c) w1.heap.size (aT 6 a.s) (.slice p n c) u2) := hq2
  clear hq1 hq2 HQ
  generalize w1.heap.size = g at *
  refine aM (fun u => u.heap[w.heap.size]? = some (.cells (lcs a (.slice p n c)) 28)) (fun _ => false) (by kernel_rfl) ?_
  refine dwp 0 (.pointer (some ⟨w.heap.size, 1, none⟩)) ?_
  refine dwl 1 (.string a.s) ?_ (hS := HQd.out.n) (hy := (fun u hSu => aG rfl rfl (ld9 (aL hSu).2.1)))
  refine dwp 2 (.pointer (some ⟨w.heap.size, 17, none⟩)) ?_
  refine dwl 3 (.slice p n c) ?_ (hS := HQd.out.n) (hy := (fun u hSu => aG rfl rfl (jI (aU hSu))))
  refine dwp 4 (.pointer (some ⟨g, 1, none⟩)) ?_
  refine aF (i := 5) (by kernel_rfl) rfl ?_
  intro K' hK'
  rw [if_pos (by go_simp)]
  refine aH none rfl 9 _ _ rfl _ _ rfl rfl RS1.out (hK' _ _ (.inr fun _ => HQ1.out.n) ?_)
  clear hK'
  try simp only [Act.put, List.setIfInBounds_toArray, List.set_cons_zero, List.set_cons_succ]
  refine dwp 6 (.pointer (some ⟨g, 17, none⟩)) ?_
  refine aF (i := 7) (by kernel_rfl) rfl ?_
  intro K' hK'
  rw [if_pos (by go_simp)]
  refine aH none rfl 26 _ _ rfl _ _ rfl rfl RS2.out (hK' _ _ (.inr fun _ => HQ2.out.n) ?_)
  clear hK'
  try simp only [Act.put, List.setIfInBounds_toArray, List.set_cons_zero, List.set_cons_succ]
  refine aK (by kernel_rfl) ?_ _
  clear HQd HQ1 RS1 RS2
  have hc2 := HQ2.out.cells
  rw [hk] at hc2
  have HB : Hid _ := HQ2.out.b
  go_wp2_with (go_at_call 97; refine (ST _).mono ?_; rintro e w4 ⟨rfl, hw⟩; obtain rfl := hw.symm; clear hw)
  go_ret
  exact ⟨rfl, HB.out⟩
 | false =>
  cases en : ((n : Int) == 2) with
  | true =>
   rw [show (bO a (aT 6 a.s) && (true && !false)) = bO a (aT 6 a.s) by simp]
   have RL : Hid _ := bA (a := a) (p := p) (n := n) (c := c) (w := w)
   have C := aZ (a := a) (p := p) (n := n) (c := c) (w := w)
   rw [hk] at C
   go_enter Tryz.func65, Tryz.ntmps65
   go_wp2_with (first
    | (refine aA rfl 28 _ rfl _ _ rfl RL.out ?_; clear RL)
    | (go_at_call 105; refine C.mono ?_; clear C; rintro e w1 ⟨wx, u0, rfl, RS, HQ⟩; have hcc := HQ.out.cells; rw [hk] at hcc)
    | (refine aB rfl 28 _ _ rfl _ _ _ rfl rfl RS.out ?_; clear RS))
   clear hcc
   have HQd : Hid (RQ w a (.slice p n c) w1.heap.size (aT 6 nb) (.slice none 0 0) u0.drew) := HQ.out.drew
   obtain ⟨u1, RS1, hq1⟩ := HQd.out.jK a.s
   have HQ1 : Hid (RQ w a (.slice p n c) w1.heap.size (aT 6 a.s) (.slice none 0 0) u1) := hq1
   obtain ⟨u2, RS2, hq2⟩ := HQ1.out.fK p n c
   have HQ2 : Hid (RQ w a (.slice p n c) w1.heap.size (aT 6 a.s) (.slice p n c) u2) := hq2
   clear hq1 hq2 HQ
   generalize w1.heap.size = g at *
   refine aM (fun u => u.heap[w.heap.size]? = some (.cells (lcs a (.slice p n c)) 28)) (fun _ => false) (by kernel_rfl) ?_
   refine dwp 0 (.pointer (some ⟨w.heap.size, 1, none⟩)) ?_
   refine dwl 1 (.string a.s) ?_ (hS := HQd.out.n) (hy := (fun u hSu => aG rfl rfl (ld9 (aL hSu).2.1)))
   refine dwp 2 (.pointer (some ⟨w.heap.size, 17, none⟩)) ?_
   refine dwl 3 (.slice p n c) ?_ (hS := HQd.out.n) (hy := (fun u hSu => aG rfl rfl (jI (aU hSu))))
   refine dwp 4 (.pointer (some ⟨g, 1, none⟩)) ?_
   refine aF (i := 5) (by kernel_rfl) rfl ?_
   intro K' hK'
   rw [if_pos (by go_simp)]
   refine aH none rfl 9 _ _ rfl _ _ rfl rfl RS1.out (hK' _ _ (.inr fun _ => HQ1.out.n) ?_)
   clear hK'
   try simp only [Act.put, List.setIfInBounds_toArray, List.set_cons_zero, List.set_cons_succ]
   refine dwp 6 (.pointer (some ⟨g, 17, none⟩)) ?_
   refine aF (i := 7) (by kernel_rfl) rfl ?_
   intro K' hK'
   rw [if_pos (by go_simp)]
   refine aH none rfl 26 _ _ rfl _ _ rfl rfl RS2.out (hK' _ _ (.inr fun _ => HQ2.out.n) ?_)
   clear hK'
   try simp only [Act.put, List.setIfInBounds_toArray, List.set_cons_zero, List.set_cons_succ]
   refine aK (by kernel_rfl) ?_ _
   clear HQd HQ1 RS1 RS2
   have hc2 := HQ2.out.cells
   rw [hk] at hc2
   obtain ⟨u3, RS3, hq3⟩ := HQ2.out.fK p n c
   have HQ3 : Hid (RQ w a (.slice p n c) g (aT 6 a.s) (.slice p n c) u3) := hq3
   have C9 := bQ hz hs HQ3.out
   have RLN : Hid _ := HQ3.out.ldN
   have RLW : Hid _ := HQ3.out.ldW
   have hc3 := HQ3.out.cells
   rw [hk] at hc3
   clear hq3
   go_wp2_with (first
    | (go_at_call 97; refine (ST _).mono ?_; rintro e w4 ⟨rfl, hw⟩; obtain rfl := hw.symm; clear hw)
    | (refine aB rfl 26 _ _ rfl _ _ _ rfl rfl RS3.out ?_; clear RS3)
    | (refine aA rfl 28 _ rfl _ _ rfl RLN.out ?_; clear RLN)
    | (refine aA rfl 28 _ rfl _ _ rfl RLW.out ?_; clear RLW)
    | (go_at_call 13; refine C9.mono ?_; clear C9; rintro e w9 ⟨rfl, hb9⟩))
   go_ret
   exact ⟨rfl, hb9⟩
  | false =>
   rw [show (bO a (aT 6 a.s) && (false && !false)) = false by simp]
   have RL : Hid _ := bA (a := a) (p := p) (n := n) (c := c) (w := w)
   have C := aZ (a := a) (p := p) (n := n) (c := c) (w := w)
   rw [hk] at C
   go_enter Tryz.func65, Tryz.ntmps65
   go_wp2_with (first
    | (refine aA rfl 28 _ rfl _ _ rfl RL.out ?_; clear RL)
    | (go_at_call 105; refine C.mono ?_; clear C; rintro e w1 ⟨wx, u0, rfl, RS, HQ⟩; have hcc := HQ.out.cells; rw [hk] at hcc)
    | (refine aB rfl 28 _ _ rfl _ _ _ rfl rfl RS.out ?_; clear RS))
   clear hcc
   have HQd : Hid (RQ w a (.slice p n c) w1.heap.size (aT 6 nb) (.slice none 0 0) u0.drew) := HQ.out.drew
   obtain ⟨u1, RS1, hq1⟩ := HQd.out.jK a.s
   have HQ1 : Hid (RQ w a (.slice p n c) w1.heap.size (aT 6 a.s) (.slice none 0 0) u1) := hq1
   obtain ⟨u2, RS2, hq2⟩ := HQ1.out.fK p n c
   have HQ2 : Hid (RQ w a (.slice p n c) w1.heap.size (aT 6 a.s) (.slice p n c) u2) := hq2
   clear hq1 hq2 HQ
   generalize w1.heap.size = g at *
   refine aM (fun u => u.heap[w.heap.size]? = some (.cells (lcs a (.slice p n c)) 28)) (fun _ => false) (by kernel_rfl) ?_
   refine dwp 0 (.pointer (some ⟨w.heap.size, 1, none⟩)) ?_
   refine dwl 1 (.string a.s) ?_ (hS := HQd.out.n) (hy := (fun u hSu => aG rfl rfl (ld9 (aL hSu).2.1)))
   refine dwp 2 (.pointer (some ⟨w.heap.size, 17, none⟩)) ?_
   refine dwl 3 (.slice p n c) ?_ (hS := HQd.out.n) (hy := (fun u hSu => aG rfl rfl (jI (aU hSu))))
   refine dwp 4 (.pointer (some ⟨g, 1, none⟩)) ?_
   refine aF (i := 5) (by kernel_rfl) rfl ?_
   intro K' hK'
   rw [if_pos (by go_simp)]
   refine aH none rfl 9 _ _ rfl _ _ rfl rfl RS1.out (hK' _ _ (.inr fun _ => HQ1.out.n) ?_)
   clear hK'
   try simp only [Act.put, List.setIfInBounds_toArray, List.set_cons_zero, List.set_cons_succ]
   refine dwp 6 (.pointer (some ⟨g, 17, none⟩)) ?_
   refine aF (i := 7) (by kernel_rfl) rfl ?_
   intro K' hK'
   rw [if_pos (by go_simp)]
   refine aH none rfl 26 _ _ rfl _ _ rfl rfl RS2.out (hK' _ _ (.inr fun _ => HQ2.out.n) ?_)
   clear hK'
   try simp only [Act.put, List.setIfInBounds_toArray, List.set_cons_zero, List.set_cons_succ]
   refine aK (by kernel_rfl) ?_ _
   clear HQd HQ1 RS1 RS2
   have hc2 := HQ2.out.cells
   rw [hk] at hc2
   have HB : Hid _ := HQ2.out.b
   go_wp2_with (go_at_call 97; refine (ST _).mono ?_; rintro e w4 ⟨rfl, hw⟩; obtain rfl := hw.symm; clear hw)
   go_ret
   exact ⟨rfl, HB.out⟩
end
end Go.Proofs.YtljmklbbngpllaaGreatDoor
