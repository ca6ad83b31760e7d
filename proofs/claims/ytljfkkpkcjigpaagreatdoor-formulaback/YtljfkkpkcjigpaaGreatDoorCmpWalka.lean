/- FLives, FLeft, SizesWalk, CmpWalk. -/
import Derived.Test.YtljfkkpkcjigpaaGreatDoorFPrinta
import Derived.Test.YtljfkkpkcjigpaaGreatDoorAArea2a
import Derived.Test.YtljfkkpkcjigpaaGreatDoorFSizea
import Derived.Test.YtljfkkpkcjigpaaGreatDoorFParsea
import Derived.Test.YtljfkkpkcjigpaaGreatDoorTNexta
import Derived.Test.YtljfkkpkcjigpaaGreatDoorRSamea
set_option linter.unusedVariables false
set_option linter.unusedSimpArgs false
namespace Go.Proofs.YtljfkkpkcjigpaaGreatDoor
open Go.RowKit Go.Fm
set_option maxRecDepth 100000
def exA : T := tree (lab0 6 (bs [42])) [tree (lab0 6 (bs [43])) [tree (labV 1 10000 nb) [], tree (labV 1 20000 nb) []], tree (labV 1 30000 nb) []]
theorem parA : parF [40, 49, 43, 50, 41, 42, 51] = (exA, 0) := by kernel_rfl
theorem parB : parF [83, 85, 77, 40, 65, 49, 58, 66, 50, 44, 41] = (zeroT, 10) := by kernel_rfl
theorem prA : printN exA = [40, 49, 43, 50, 41, 42, 51] := by kernel_rfl
theorem dA : dT exA = 3 := by kernel_rfl
theorem zA : zT exA = 5 := by kernel_rfl
def zB (a : Lab) : Bool := decide (a.s.size ≤ 9) && decide (a.b1.size ≤ 9) && decide (a.h1.size ≤ 9) && decide (a.b2.size ≤ 9) && decide (a.h2.size ≤ 9)
theorem zB_ok {a : Lab} (h : zB a = true) : LabZ a := by
  simp only [zB, Bool.and_eq_true, decide_eq_true_eq] at h
  exact ⟨by omega, by omega, by omega, by omega, by omega⟩
theorem zallA : ((preT exA).all fun x => zB x.1) = true := by kernel_rfl
theorem ztA : ZT exA := fun x hx => zB_ok (List.all_eq_true.1 zallA x hx)
set_option maxHeartbeats 8000000 in
theorem lives_any (w : World) (T : Tab9 w) : Calls Tryz.prog 12 #[] w fun e w' => e = .returned (.bool true) ∧ Below w.heap.size w w' := by
  have P1 : Calls Tryz.prog 8 #[.string ⟨#[40, 49, 43, 50, 41, 42, 51]⟩] w fun e w1 => ∃ p n c, e = .returned (.tuple #[.agg (lcs exA.1 (.slice p n c)), .int .i64 0]) ∧ Hid (NT w1 (lcs exA.1 (.slice p n c)) exA ∧ Below w.heap.size w w1) := by
    have := parseF_any [40, 49, 43, 50, 41, 42, 51] w T
    rw [parA] at this
    refine this.mono ?_
    rintro e w1 ⟨es, rfl, hN, _, hb⟩
    have hN' := hN
    obtain ⟨p, n, c, rfl, _⟩ := hN'
    exact ⟨p, n, c, rfl, hN, hb⟩
  have P2 : ∀ (w1 : World) (es : Array Value), NT w1 es exA → Below w.heap.size w w1 → Calls Tryz.prog 8 #[.string ⟨#[83, 85, 77, 40, 65, 49, 58, 66, 50, 44, 41]⟩] (w1.alloc (.cells es 28)) fun e w2 => ∃ es2, e = .returned (.tuple #[.agg es2, .int .i64 10]) ∧ Hid ((Instr.storeAt 28 (.pointer (some ⟨w2.heap.size, 0, none⟩)) (.agg es2)).run Tryz.prog (w2.alloc (.cells nd0 28)) = .ok () (w2.alloc (.cells es2 28))) ∧
      Hid ((w2.alloc (.cells es2 28)).heap[w1.heap.size]? = some (.cells es 28) ∧ NT (w2.alloc (.cells es2 28)) es exA ∧ Below w.heap.size w (w2.alloc (.cells es2 28))) := fun w1 es hN hb => by
    have B1 := bel_alloc (Below.refl w1.heap.size w1) (.cells es 28)
    have := parseF_any [83, 85, 77, 40, 65, 49, 58, 66, 50, 44, 41] (w1.alloc (.cells es 28)) (T.below (bel_step hb B1))
    rw [parB] at this
    refine this.mono ?_
    rintro e w2 ⟨es2, rfl, hN2, _, hb2⟩
    have B2 := bel_alloc (Below.refl w2.heap.size w2) (.cells es2 28)
    have hg : w2.heap[w1.heap.size]? = some (.cells es 28) := (hb2.block _ (by simp)).trans (heap_alloc_new _ _)
    exact ⟨es2, rfl, (nbox w2 hN2).1, (B2.block _ (lt_of hg)).trans hg, ((hN.below B1).below hb2).below B2, bel_step (bel_step (bel_step hb B1) hb2) B2⟩
  have CP := fun (u : World) (es : Array Value) (hN : NT u es exA) (hb : Below w.heap.size w u) => printF_any (by rw [zA]; omega) ztA hN (T.below hb)
  have CD := fun (u : World) (es : Array Value) (hN : NT u es exA) => depth_any exA (by rw [zA]; omega) u es hN
  have CS := fun (u : World) (es : Array Value) (hN : NT u es exA) => fsize_any exA (by rw [zA]; omega) u es hN
  have HB := fun (w1 : World) (es : Array Value) (hN : NT w1 es exA) => (nbox w1 hN).1
  have LD := fun (w1 u : World) (g : Nat) (es : Array Value) (hN : NT w1 es exA) (hg : u.heap[g]? = some (.cells es 28)) => (nbox_at hN).2 hg
  rw [dA] at CD
  rw [zA] at CS
  rw [prA] at CP
  have STP : ∀ (u u' : World) (g : Nat) (es : Array Value), u.heap[g]? = some (.cells es 28) ∧ NT u es exA ∧ Below w.heap.size w u → Below u.heap.size u u' → u'.heap[g]? = some (.cells es 28) ∧ NT u' es exA ∧ Below w.heap.size w u' := fun u u' g es h hb => ⟨(hb.block _ (lt_of h.1)).trans h.1, h.2.1.below hb, bel_step h.2.2 hb⟩
  have hsx : exA.1.s.toList = [42] := by kernel_rfl
  have hsb : (exA.1.s.toList == [42]) = true := by rw [hsx]; rfl
  clear T hsx
  go_enter Tryz.func12, Tryz.ntmps12
  go_wp2_with (first
    | (go_at_call 8; refine P1.mono ?_; rintro e w1 ⟨p, n, c, rfl, HN⟩; clear P1; have RS : Hid _ := HB _ _ HN.out.1)
    | (refine wpList_store_run rfl 28 _ _ rfl _ _ _ rfl rfl RS.out ?_; clear RS)
    | (go_at_call 8; refine (P2 _ _ HN.out.1 HN.out.2).mono ?_; rintro e w2 ⟨es2, rfl, RS, HX⟩; clear P2 HN; have c1 := (box_all HX.out.1).2.1; have RL : Hid _ := LD _ _ _ _ HX.out.2.1 HX.out.1)
    | (refine wpList_load_g 28 _ rfl _ _ rfl RL.out (by go_simp) ?_)
    | (go_at_call 18; refine (CP _ _ HX.out.2.1 HX.out.2.2).mono ?_; rintro e w3 ⟨rfl, hb⟩; have HX2 := STP _ _ _ _ HX.out hb; clear hb HX RL c1; have RL : Hid _ := LD _ _ _ _ HX2.2.1 HX2.1; have HX : Hid _ := HX2; clear HX2)
    | (go_at_call 20; refine (CD _ _ HX.out.2.1).mono ?_; rintro e w3 ⟨rfl, hb⟩; have HX2 := STP _ _ _ _ HX.out hb; clear hb HX RL; have RL : Hid _ := LD _ _ _ _ HX2.2.1 HX2.1; have HX : Hid _ := HX2; clear HX2)
    | (go_at_call 22; refine (CS _ _ HX.out.2.1).mono ?_; rintro e w3 ⟨rfl, hb⟩; have HX2 := STP _ _ _ _ HX.out hb; clear hb HX RL; have HX : Hid _ := HX2; clear HX2))
  go_ret
  exact ⟨rfl, HX.out.2.2⟩
end Go.Proofs.YtljfkkpkcjigpaaGreatDoor

namespace Go.Proofs.YtljfkkpkcjigpaaGreatDoor
open Go.RowKit Go.Fm
set_option maxRecDepth 100000
def szK (l : List T) (k : Nat) : Nat := ((l.take k).map zT).sum
theorem szK_succ (l : List T) (k : Nat) (s : T) (h : l[k]? = some s) : szK l (k + 1) = szK l k + zT s := by
  unfold szK
  rw [List.take_add_one, h]
  simp
theorem szK_all (l : List T) : szK l l.length = (l.map zT).sum := by unfold szK; rw [List.take_of_length_le (Nat.le_refl _)]
theorem szK_lt (l : List T) (k : Nat) (h : k < l.length) : szK l k + 1 ≤ (l.map zT).sum := by
  have h3 : (l.map zT).sum = ((l.take k).map zT).sum + ((l.drop k).map zT).sum := by rw [← List.sum_append, ← List.map_append, List.take_append_drop]
  have h4 : 1 ≤ ((l.drop k).map zT).sum := by
    rw [List.drop_eq_getElem_cons h, List.map_cons, List.sum_cons]
    have : 1 ≤ zT l[k] := by unfold zT; omega
    omega
  unfold szK
  omega
theorem szK_le (l : List T) : ∀ k, k ≤ l.length → k ≤ szK l k
  | 0, _ => Nat.zero_le _
  | k + 1, h => by
    have := szK_le l k (by omega)
    rw [szK_succ l k l[k] (List.getElem?_eq_getElem (by omega))]
    have : 1 ≤ zT l[k] := by unfold zT; omega
    omega
set_option maxHeartbeats 8000000 in
theorem left_any : ∀ t : T, ∀ (w : World) (es : Array Value), NT w es t → ∀ b : Nat, 1 ≤ b → b ≤ 1000000 → Calls Tryz.prog 30 #[.agg es, .int .i64 (b : Nat)] w fun e w' => e = .returned (.int .i64 ((b - zT t : Nat) : Int)) ∧ Below w.heap.size w w' := by
  refine ind ?_
  intro t ih w es h b hb1 hb2
  have hzT : zT t = ((kids t.2).map zT).sum + 1 := by unfold zT; rw [size_kids]; rfl
  obtain ⟨p, n, c, rfl, hs⟩ := h
  have HK : Hid (∀ s ∈ kids t.2, ∀ (w : World) (es : Array Value), NT w es s → ∀ b : Nat, 1 ≤ b → b ≤ 1000000 → Calls Tryz.prog 30 #[.agg es, .int .i64 (b : Nat)] w fun e w' => e = .returned (.int .i64 ((b - zT s : Nat) : Int)) ∧ Below w.heap.size w w') := ih
  have c17 := cell17 (heap_alloc_new w (.cells (lcs t.1 (.slice p n c)) 28))
  have HB0 : Hid (Below w.heap.size w (w.alloc (.cells (lcs t.1 (.slice p n c)) 28))) := bel_alloc (Below.refl _ _) _
  have hd1 : (b : Int) - 1 = ((b - 1 : Nat) : Int) := by omega
  have hwr : IntKind.i64.wrap ((b - 1 : Nat) : Int) = ((b - 1 : Nat) : Int) := by simp [IntKind.wrap, IntKind.bits, IntKind.signed]; omega
  have HS : Hid (SF w p n t.2) := hs
  have HL : Hid ((kids t.2).length = n) := hs.1.symm
  have HF : Hid (((kids t.2).map zT).sum + 1 = zT t) := hzT.symm
  have HBB : Hid (1 ≤ b ∧ b ≤ 1000000) := ⟨hb1, hb2⟩
  obtain ⟨b1, hbe⟩ : ∃ b1, b - 1 = b1 := ⟨_, rfl⟩
  have HBE : Hid (b = b1 + 1) := by show _ = _; omega
  rw [hbe] at hd1 hwr
  clear ih hs hzT hbe hb1 hb2
  generalize hq : ((b - zT t : Nat) : Int) = q
  have HQ : Hid (((b - zT t : Nat) : Int) = q) := hq
  clear hq
  generalize (b : Int) = bi at *
  generalize lcs t.1 (.slice p n c) = bx at *
  go_enter Tryz.func30, Tryz.ntmps30
  go_wp2
  go_loopw [1, 12] (fun bud i wr => ∃ k : Nat, k ≤ n ∧ i = .int .i64 (k : Nat) ∧ bud = .int .i64 ((b1 - szK (kids t.2) k : Nat) : Int) ∧ Hid (Below w.heap.size w wr)) (fun _ i _ => n - (intOf i).toNat)
  case atStart => exact ⟨0, Nat.zero_le _, rfl, by simp [szK], HB0⟩
  case round =>
    obtain ⟨k, hk, rfl, rfl, HB⟩ := hrel
    clear HB0
    by_cases hlt : k < n
    · have hki : (k : Int) < n := by omega
      obtain ⟨a', es, s, rfl, RL, HI, RS, RL2, HNT, HM⟩ := HS.out.step HB.out hlt
      have hkl : k < (kids t.2).length := by have := HL.out; omega
      by_cases hz : b1 - szK (kids t.2) k ≤ 0
      · have hzi : ((b1 - szK (kids t.2) k : Nat) : Int) ≤ 0 := by omega
        have HQ2 : Hid (q = 0) := by
          show _ = _
          rw [← HQ.out]
          have h1 := szK_lt _ _ hkl
          have h2 := HF.out
          have h3 := HBE.out
          omega
        have HBf : Hid (Below w.heap.size w (wr.alloc (.cells es 28))) := bel_alloc HB.out _
        clear hz HNT HM HI HQ
        generalize ((b1 - szK (kids t.2) k : Nat) : Int) = bd at *
        go_wp2_with (first
          | (refine wpList_load_run rfl 28 _ rfl _ _ rfl RL.out ?_; clear RL)
          | (refine wpList_store_run rfl 28 _ _ rfl _ _ _ rfl rfl RS.out ?_; clear RS))
        go_ret
        exact ⟨by rw [HQ2.out]; first | done | rfl, HBf.out⟩
      · have hzi : ¬ ((b1 - szK (kids t.2) k : Nat) : Int) ≤ 0 := by omega
        have C := HK.out s HM.out _ _ HNT.out (b1 - szK (kids t.2) k) (by omega) (by have := HBB.out; have := HBE.out; omega)
        have HN : Hid (b1 - szK (kids t.2) k - zT s = b1 - szK (kids t.2) (k + 1)) := by
          show _ = _
          rw [szK_succ _ _ _ HI.out]; omega
        have hkb : k ≤ 1000000 := by
          have := szK_le (kids t.2) k (by omega)
          have := HBB.out
          have := HBE.out
          omega
        clear hz HNT HM HI HQ
        generalize hbd : b1 - szK (kids t.2) k = bd at *
        clear hbd
        go_wp2_with (first
          | (refine wpList_load_run rfl 28 _ rfl _ _ rfl RL.out ?_; clear RL)
          | (refine wpList_store_run rfl 28 _ _ rfl _ _ _ rfl rfl RS.out ?_; clear RS)
          | (refine wpList_load_run rfl 28 _ rfl _ _ rfl RL2.out ?_; clear RL2)
          | (go_at_call 30; refine C.mono ?_; rintro e w3 ⟨rfl, hs⟩; have HU2 : Hid (Below w.heap.size w w3) := bel_step (bel_alloc HB.out _) hs; clear hs))
        go_roundw
        case rel => exact ⟨k + 1, by omega, by go_num, by rw [HN.out], HU2⟩
        case measure => simp [intOf]; omega
    · have hki : ¬ (k : Int) < n := by omega
      have HQ2 : Hid (q = ((b1 - szK (kids t.2) k : Nat) : Int)) := by
        show _ = _
        have h1 : k = (kids t.2).length := by have := HL.out; omega
        rw [← HQ.out, h1, szK_all]
        have h2 := HF.out
        have h3 := HBE.out
        omega
      generalize ((b1 - szK (kids t.2) k : Nat) : Int) = bd at *
      go_wp2
      go_ret
      exact ⟨by rw [HQ2.out]; first | done | rfl, HB.out⟩
set_option maxHeartbeats 1000000 in
theorem big_any {t : T} {w : World} {es : Array Value} (h : NT w es t) {b : Nat} (h1 : 1 ≤ b) (h2 : b ≤ 1000000) : Calls Tryz.prog 13 #[.agg es, .int .i64 (b : Nat)] w fun e w' => e = .returned (.bool (decide (b ≤ zT t))) ∧ Below w.heap.size w w' := by
  have C := left_any t (w.alloc (.cells es 28)) es (h.below (bel_alloc (Below.refl _ _) _)) b h1 h2
  have RL : Hid _ := (nbox_at h).2 (heap_alloc_new w (.cells es 28))
  have HQ : Hid (decide (((b - zT t : Nat) : Int) ≤ 0) = decide (b ≤ zT t)) := by show _ = _; simp; omega
  clear h
  generalize ((b - zT t : Nat) : Int) = q at *
  go_enter Tryz.func13, Tryz.ntmps13
  go_wp2_with (first
    | (refine wpList_load_run rfl 28 _ rfl _ _ rfl RL.out ?_; clear RL)
    | (go_at_call 30; refine C.mono ?_; rintro e w2 ⟨rfl, hs⟩; have HU2 : Hid (Below w.heap.size w w2) := bel1 hs; clear hs))
  go_ret
  exact ⟨by rw [← HQ.out]; first | done | rfl, HU2.out⟩
end Go.Proofs.YtljfkkpkcjigpaaGreatDoor

namespace Go.Proofs.YtljfkkpkcjigpaaGreatDoor
open Go.RowKit Go.Fm
set_option maxRecDepth 100000
structure QX (w : World) (es : Array Value) (u : World) : Prop where
  b : u.heap[w.heap.size]? = some (.cells es 28)
  l : Below w.heap.size w u
theorem QX.begin (w : World) (es : Array Value) : QX w es (w.alloc (.cells es 28)) := ⟨heap_alloc_new _ _, bel_alloc (Below.refl _ _) _⟩
theorem QX.bel {w u u' : World} {es : Array Value} (h : QX w es u) (hb : Below u.heap.size u u') : QX w es u' := ⟨(hb.block _ (lt_of h.b)).trans h.b, bel_step h.l hb⟩
theorem QX.load {w u : World} {es : Array Value} {t : T} (h : QX w es u) (hN : NT w es t) : (Instr.loadAt 28 (.pointer (some ⟨w.heap.size, 0, none⟩))).run Tryz.prog u = .ok (.agg es) u := (nbox_at hN).2 h.b
section
variable {t : T} {w : World} {es : Array Value}
end
end Go.Proofs.YtljfkkpkcjigpaaGreatDoor

namespace Go.Proofs.YtljfkkpkcjigpaaGreatDoor
open Go.RowKit Go.Fm
set_option maxRecDepth 100000
theorem sF_refl : ∀ f : F, sF f f = true := by
  intro f
  induction f with
  | nil => rfl
  | node b o a l r ihl ihr => rw [sF, labB_refl, ihl, ihr]; rfl
theorem sT_refl (t : T) : sT t t = true := by unfold sT; rw [labB_refl, sF_refl]; rfl
structure CX (w : World) (es fs : Array Value) (u : World) : Prop where
  b : u.heap[w.heap.size]? = some (.cells es 28)
  d : u.heap[w.heap.size + 1]? = some (.cells fs 28)
  l : Below w.heap.size w u
theorem CX.begin (w : World) (es fs : Array Value) : CX w es fs ((w.alloc (.cells es 28)).alloc (.cells fs 28)) := by
  refine ⟨(Below.heap_alloc _ _ _ (by simp)).trans (heap_alloc_new w _), ?_, bel_alloc (bel_alloc (Below.refl _ _) _) _⟩
  have := heap_alloc_new (w.alloc (.cells es 28)) (.cells fs 28)
  simpa using this
theorem CX.bel {w u u' : World} {es fs : Array Value} (h : CX w es fs u) (hb : Below u.heap.size u u') : CX w es fs u' := ⟨(hb.block _ (lt_of h.b)).trans h.b, (hb.block _ (lt_of h.d)).trans h.d, bel_step h.l hb⟩
section
variable {s t : T} {w : World} {es fs : Array Value}
set_option maxHeartbeats 4000000 in
theorem cmp_big1 (hb : 400 ≤ zT s) (h : NT w es s) (k : NT w fs t) (T : Tab9 w) : Calls Tryz.prog 5 #[.agg es, .agg fs] w fun e w' => e = .returned (.bool true) ∧ Below w.heap.size w w' := by
  have Zc : Hid (CX w es fs ((w.alloc (.cells es 28)).alloc (.cells fs 28))) := CX.begin _ _ _
  have RL : Hid _ := (nbox_at h).2 Zc.out.b
  have B := big_any (h.below Zc.out.l) (b := 400) (by omega) (by omega)
  rw [decide_eq_true hb] at B
  have LV := fun (u : World) (hu : Below w.heap.size w u) => lives_any u (T.below hu)
  clear h k T hb
  go_enter Tryz.func5, Tryz.ntmps5
  go_wp2_with (first
    | (refine wpList_load_run rfl 28 _ rfl _ _ rfl RL.out ?_; clear RL)
    | (go_at_call 13; refine B.mono ?_; rintro e w1 ⟨rfl, hb⟩; have Z1 := Zc.out.bel hb; clear hb Zc B; have Zc : Hid _ := Z1; clear Z1)
    | (go_at_call 12; refine (LV _ Zc.out.l).mono ?_; rintro e w1 ⟨rfl, hb⟩; have Z1 := Zc.out.bel hb; clear hb Zc; have Zc : Hid _ := Z1; clear Z1))
  go_ret
  exact ⟨rfl, Zc.out.l⟩
set_option maxHeartbeats 4000000 in
theorem cmp_big2 (hs : zT s < 400) (hb : 400 ≤ zT t) (h : NT w es s) (k : NT w fs t) (T : Tab9 w) : Calls Tryz.prog 5 #[.agg es, .agg fs] w fun e w' => e = .returned (.bool true) ∧ Below w.heap.size w w' := by
  have Zc : Hid (CX w es fs ((w.alloc (.cells es 28)).alloc (.cells fs 28))) := CX.begin _ _ _
  have RL : Hid _ := (nbox_at h).2 Zc.out.b
  have RK : Hid (∀ u, CX w es fs u → (Instr.loadAt 28 (.pointer (some ⟨w.heap.size + 1, 0, none⟩))).run Tryz.prog u = .ok (.agg fs) u) := fun u hu => (nbox_at k).2 hu.d
  have B := big_any (h.below Zc.out.l) (b := 400) (by omega) (by omega)
  rw [decide_eq_false (by omega)] at B
  have B2 : Hid (∀ u, CX w es fs u → Calls Tryz.prog 13 #[.agg fs, .int .i64 400] u fun e w' => e = .returned (.bool true) ∧ Below u.heap.size u w') := fun u hu => by
    have := big_any (k.below hu.l) (b := 400) (by omega) (by omega)
    rw [decide_eq_true hb] at this
    exact this
  have LV := fun (u : World) (hu : Below w.heap.size w u) => lives_any u (T.below hu)
  clear h k T hb hs
  go_enter Tryz.func5, Tryz.ntmps5
  go_wp2_with (first
    | (refine wpList_load_run rfl 28 _ rfl _ _ rfl RL.out ?_; clear RL)
    | (go_at_call 13; refine B.mono ?_; rintro e w1 ⟨rfl, hb⟩; have Z1 := Zc.out.bel hb; clear hb Zc B; have Zc : Hid _ := Z1; clear Z1; have RM : Hid _ := RK.out _ Zc.out)
    | (refine wpList_load_g 28 _ rfl _ _ rfl RM.out (by go_simp) ?_; clear RM)
    | (go_at_call 13; refine (B2.out _ Zc.out).mono ?_; rintro e w1 ⟨rfl, hb⟩; have Z1 := Zc.out.bel hb; clear hb Zc B2; have Zc : Hid _ := Z1; clear Z1)
    | (go_at_call 12; refine (LV _ Zc.out.l).mono ?_; rintro e w1 ⟨rfl, hb⟩; have Z1 := Zc.out.bel hb; clear hb Zc; have Zc : Hid _ := Z1; clear Z1))
  go_ret
  exact ⟨rfl, Zc.out.l⟩
set_option maxHeartbeats 16000000 in
theorem cmp_small (hs : zT s < 400) (hb : zT t < 400) (h : NT w es s) (k : NT w fs t) (T : Tab9 w) : Calls Tryz.prog 5 #[.agg es, .agg fs] w fun e w' => e = .returned (.bool true) ∧ Below w.heap.size w w' := by
  have Zc : Hid (CX w es fs ((w.alloc (.cells es 28)).alloc (.cells fs 28))) := CX.begin _ _ _
  have RD : Hid (∀ u, CX w es fs u → (Instr.loadAt 28 (.pointer (some ⟨w.heap.size, 0, none⟩))).run Tryz.prog u = .ok (.agg es) u ∧ (Instr.loadAt 28 (.pointer (some ⟨w.heap.size + 1, 0, none⟩))).run Tryz.prog u = .ok (.agg fs) u) := fun u hu => ⟨(nbox_at h).2 hu.b, (nbox_at k).2 hu.d⟩
  have RL : Hid _ := (RD.out _ Zc.out).1
  have B := big_any (h.below Zc.out.l) (b := 400) (by omega) (by omega)
  rw [decide_eq_false (by omega)] at B
  have B2 : Hid (∀ u, CX w es fs u → Calls Tryz.prog 13 #[.agg fs, .int .i64 400] u fun e w' => e = .returned (.bool false) ∧ Below u.heap.size u w') := fun u hu => by
    have := big_any (k.below hu.l) (b := 400) (by omega) (by omega)
    rw [decide_eq_false (by omega)] at this
    exact this
  have LV : Hid (∀ (u : World), CX w es fs u → Calls Tryz.prog 12 #[] u fun e w' => e = .returned (.bool true) ∧ Below u.heap.size u w') := fun u hu => lives_any u (T.below hu.l)
  have C1 : Hid (∀ u, CX w es fs u → Calls Tryz.prog 10 #[.agg es, .agg fs] u fun e w' => e = .returned (.bool (sT s t)) ∧ Below u.heap.size u w') := fun u hu => same_any s (by omega) t u es fs (h.below hu.l) (k.below hu.l)
  have C2 : Hid (∀ u, CX w es fs u → Calls Tryz.prog 11 #[.agg es, .agg fs] u fun e w' => e = .returned (.bool (sT s t)) ∧ Below u.heap.size u w') := fun u hu => rsame_any s (by omega) t u es fs (h.below hu.l) (k.below hu.l)
  have C3 : Hid (∀ u, CX w es fs u → Calls Tryz.prog 10 #[.agg es, .agg es] u fun e w' => e = .returned (.bool true) ∧ Below u.heap.size u w') := fun u hu => by
    have := same_any s (by omega) s u es es (h.below hu.l) (h.below hu.l)
    rw [sT_refl] at this
    exact this
  clear h k T hb hs
  generalize sT s t = q at *
  go_enter Tryz.func5, Tryz.ntmps5
  go_wp2_with (first
    | (refine wpList_load_run rfl 28 _ rfl _ _ rfl RL.out ?_; clear RL)
    | (go_at_call 13; refine B.mono ?_; rintro e w1 ⟨rfl, hb⟩; have Z1 := Zc.out.bel hb; clear hb Zc B; have Zc : Hid _ := Z1; clear Z1; have RM : Hid _ := (RD.out _ Zc.out).2)
    | (refine wpList_load_g 28 _ rfl _ _ rfl RM.out (by go_simp) ?_; clear RM)
    | (go_at_call 13; refine (B2.out _ Zc.out).mono ?_; rintro e w1 ⟨rfl, hb⟩; have Z1 := Zc.out.bel hb; clear hb Zc B2; have Zc : Hid _ := Z1; clear Z1))
  refine wp_region_d (fun u => (Instr.loadAt 28 (.pointer (some ⟨w.heap.size, 0, none⟩))).run Tryz.prog u = .ok (.agg es) u ∧ (Instr.loadAt 28 (.pointer (some ⟨w.heap.size + 1, 0, none⟩))).run Tryz.prog u = .ok (.agg fs) u) (fun _ => false) (by kernel_rfl) ?_
  have Z1 := Zc.out.bel (Below.refl _ _).drew
  clear Zc
  have Zc : Hid _ := Z1
  clear Z1
  refine wpAnyD_loadd (i := 0) (v := .agg es) rfl rfl (by kernel_rfl) (by kernel_rfl) (by kernel_rfl) (by kernel_rfl) (fun _ _ _ h => h) (by go_simp) (fun u hSu => exec_load_run rfl rfl hSu.1) (RD.out _ Zc.out) ?_
  try simp only [Act.put, List.setIfInBounds_toArray, List.set_cons_zero, List.set_cons_succ]
  refine wpAnyD_loadd (i := 1) (v := .agg fs) rfl rfl (by kernel_rfl) (by kernel_rfl) (by kernel_rfl) (by kernel_rfl) (fun _ _ _ h => h) (by go_simp) (fun u hSu => exec_load_run rfl rfl hSu.2) (RD.out _ Zc.out) ?_
  try simp only [Act.put, List.setIfInBounds_toArray, List.set_cons_zero, List.set_cons_succ]
  refine wpAnyD_loadd (i := 3) (v := .agg es) rfl rfl (by kernel_rfl) (by kernel_rfl) (by kernel_rfl) (by kernel_rfl) (fun _ _ _ h => h) (by go_simp) (fun u hSu => exec_load_run rfl rfl hSu.1) (RD.out _ Zc.out) ?_
  try simp only [Act.put, List.setIfInBounds_toArray, List.set_cons_zero, List.set_cons_succ]
  refine wpAnyD_loadd (i := 4) (v := .agg fs) rfl rfl (by kernel_rfl) (by kernel_rfl) (by kernel_rfl) (by kernel_rfl) (fun _ _ _ h => h) (by go_simp) (fun u hSu => exec_load_run rfl rfl hSu.2) (RD.out _ Zc.out) ?_
  try simp only [Act.put, List.setIfInBounds_toArray, List.set_cons_zero, List.set_cons_succ]
  refine wpAnyD_one (i := 2) (by kernel_rfl) rfl ?_
  intro K hK
  go_simp
  refine (C1.out _ Zc.out).mono ?_
  rintro e w2 ⟨rfl, hb⟩
  have Z1 := Zc.out.bel hb
  clear hb Zc
  have Zc : Hid _ := Z1
  clear Z1
  refine hK _ _ (.inr fun _ => RD.out _ Zc.out) ?_
  clear hK
  try simp only [Act.put, List.setIfInBounds_toArray, List.set_cons_zero, List.set_cons_succ]
  refine wpAnyD_one (i := 5) (by kernel_rfl) rfl ?_
  intro K hK
  go_simp
  refine (C2.out _ Zc.out).mono ?_
  rintro e w3 ⟨rfl, hb⟩
  have Z1 := Zc.out.bel hb
  clear hb Zc
  have Zc : Hid _ := Z1
  clear Z1
  refine hK _ _ (.inr fun _ => RD.out _ Zc.out) ?_
  clear hK
  try simp only [Act.put, List.setIfInBounds_toArray, List.set_cons_zero, List.set_cons_succ]
  refine wpAnyD_pured (i := 6) (v := .bool true) rfl rfl (by kernel_rfl) (by kernel_rfl) (by kernel_rfl) (fun _ _ _ h => h) (by go_simp) (by intro u; go_simp) ?_
  try simp only [Act.put, List.setIfInBounds_toArray, List.set_cons_zero, List.set_cons_succ]
  refine wpAnyD_pured (i := 7) (v := .bool true) rfl rfl (by kernel_rfl) (by kernel_rfl) (by kernel_rfl) (fun _ _ _ h => h) (by go_simp) (by intro u; go_simp) ?_
  try simp only [Act.put, List.setIfInBounds_toArray, List.set_cons_zero, List.set_cons_succ]
  refine wpAnyD_loadd (i := 8) (v := .agg es) rfl rfl (by kernel_rfl) (by kernel_rfl) (by kernel_rfl) (by kernel_rfl) (fun _ _ _ h => h) (by go_simp) (fun u hSu => exec_load_run rfl rfl hSu.1) (RD.out _ Zc.out) ?_
  try simp only [Act.put, List.setIfInBounds_toArray, List.set_cons_zero, List.set_cons_succ]
  refine wpAnyD_loadd (i := 9) (v := .agg es) rfl rfl (by kernel_rfl) (by kernel_rfl) (by kernel_rfl) (by kernel_rfl) (fun _ _ _ h => h) (by go_simp) (fun u hSu => exec_load_run rfl rfl hSu.1) (RD.out _ Zc.out) ?_
  try simp only [Act.put, List.setIfInBounds_toArray, List.set_cons_zero, List.set_cons_succ]
  refine wpAnyD_one (i := 10) (by kernel_rfl) rfl ?_
  intro K hK
  go_simp
  refine (C3.out _ Zc.out).mono ?_
  rintro e w4 ⟨rfl, hb⟩
  have Z1 := Zc.out.bel hb
  clear hb Zc
  have Zc : Hid _ := Z1
  clear Z1
  refine hK _ _ (.inr fun _ => RD.out _ Zc.out) ?_
  clear hK
  try simp only [Act.put, List.setIfInBounds_toArray, List.set_cons_zero, List.set_cons_succ]
  refine wpAnyD_pured (i := 11) (v := .bool true) rfl rfl (by kernel_rfl) (by kernel_rfl) (by kernel_rfl) (fun _ _ _ h => h) (by go_simp) (by intro u; go_simp) ?_
  try simp only [Act.put, List.setIfInBounds_toArray, List.set_cons_zero, List.set_cons_succ]
  refine wpAnyD_pured (i := 12) (v := .bool true) rfl rfl (by kernel_rfl) (by kernel_rfl) (by kernel_rfl) (fun _ _ _ h => h) (by go_simp) (by intro u; go_simp) ?_
  try simp only [Act.put, List.setIfInBounds_toArray, List.set_cons_zero, List.set_cons_succ]
  refine wpAnyD_one (i := 13) (by kernel_rfl) rfl ?_
  intro K hK
  go_simp
  refine (LV.out _ Zc.out).mono ?_
  rintro e w5 ⟨rfl, hb⟩
  have Z1 := Zc.out.bel hb
  clear hb Zc
  have Zc : Hid _ := Z1
  clear Z1
  refine hK _ _ (.inr fun _ => RD.out _ Zc.out) ?_
  clear hK
  try simp only [Act.put, List.setIfInBounds_toArray, List.set_cons_zero, List.set_cons_succ]
  refine wpAnyD_pured (i := 14) (v := .bool true) rfl rfl (by kernel_rfl) (by kernel_rfl) (by kernel_rfl) (fun _ _ _ h => h) (by go_simp) (by intro u; go_simp) ?_
  try simp only [Act.put, List.setIfInBounds_toArray, List.set_cons_zero, List.set_cons_succ]
  refine wpAnyD_pured (i := 15) (v := .bool true) rfl rfl (by kernel_rfl) (by kernel_rfl) (by kernel_rfl) (fun _ _ _ h => h) (by go_simp) (by intro u; go_simp) ?_
  try simp only [Act.put, List.setIfInBounds_toArray, List.set_cons_zero, List.set_cons_succ]
  refine wpAnyD_done (by kernel_rfl) ?_ _
  go_wp2
  go_ret
  exact ⟨rfl, Zc.out.l⟩
end
theorem compares_walk {s t : T} {w : World} {es fs : Array Value} (h : NT w es s) (k : NT w fs t) (T : Tab9 w) : Calls Tryz.prog 5 #[.agg es, .agg fs] w fun e w' => e = .returned (.bool true) ∧ Below w.heap.size w w' := by
  rcases Nat.lt_or_ge (zT s) 400 with hs | hs
  · rcases Nat.lt_or_ge (zT t) 400 with ht | ht
    · exact cmp_small hs ht h k T
    · exact cmp_big2 hs ht h k T
  · exact cmp_big1 hs h k T
end Go.Proofs.YtljfkkpkcjigpaaGreatDoor
