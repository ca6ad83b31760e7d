/- FLives, FLeft, RAll, RBare, RRight0, RCell9, RQ. -/
import Derived.Test.YtnibldnfbikipaaGreatDoorFParseFp
import Derived.Test.YtnibldnfbikipaaGreatDoorFPrintFp
set_option linter.unusedVariables false
set_option linter.unusedSimpArgs false
set_option maxHeartbeats 16000000
set_option maxRecDepth 100000
namespace Go.Proofs.YtnibldnfbikipaaGreatDoor
open Go.RowKit Go.Fm
def exA : T := tree (lab0 6 (bs [42])) [tree (lab0 6 (bs [43])) [tree (labV 1 10000 nb) [], tree (labV 1 20000 nb) []], tree (labV 1 30000 nb) []]
theorem parA : parF [40, 49, 43, 50, 41, 42, 51] = (exA, 0) := by kernel_rfl
theorem parB : parF [83, 85, 77, 40, 65, 49, 58, 66, 50, 44, 41] = (zeroT, 10) := by kernel_rfl
theorem prA : printN exA = [40, 49, 43, 50, 41, 42, 51] := by kernel_rfl
theorem dA : dT exA = 3 := by kernel_rfl
theorem zA : zT exA = 5 := by kernel_rfl
def zB (a : Lab) : Bool := decide (a.s.size ≤ 9) && decide (a.b1.size ≤ 9) && decide (a.h1.size ≤ 9) && decide (a.b2.size ≤ 9) && decide (a.h2.size ≤ 9)
theorem zB_ok {a : Lab} (h : zB a = true) : LabZ a := by
 simp only [zB, Bool.and_eq_true, decide_eq_true_eq] at h
 exact ⟨by omega, by omega, by omega, by omega, by omega⟩
theorem zallA : ((preT exA).all fun x => zB x.1) = true := by kernel_rfl
theorem ztA : ZT exA := fun x hx => zB_ok (List.all_eq_true.1 zallA x hx)
theorem lives_any (w : World) (T : Tab9 w) : Calls Tryz.prog 37 #[] w fun e w' => e = .returned (.bool true) ∧ Below w.heap.size w w' := by
 have P1 : Calls Tryz.prog 74 #[.string ⟨#[40, 49, 43, 50, 41, 42, 51]⟩] w fun e w1 => ∃ p n c, e = .returned (.tuple #[.agg (lcs exA.1 (.slice p n c)), .int .i64 0]) ∧ Hid (NT w1 (lcs exA.1 (.slice p n c)) exA ∧ Below w.heap.size w w1) := by
  have := parseF_any [40, 49, 43, 50, 41, 42, 51] w T
  rw [parA] at this
  refine this.mono ?_
  rintro e w1 ⟨es, rfl, hN, _, hb⟩
  have hN' := hN
  obtain ⟨p, n, c, rfl, _⟩ := hN'
  exact ⟨p, n, c, rfl, hN, hb⟩
 have P2 : ∀ (w1 : World) (es : Array Value), NT w1 es exA → Below w.heap.size w w1 → Calls Tryz.prog 74 #[.string ⟨#[83, 85, 77, 40, 65, 49, 58, 66, 50, 44, 41]⟩] (w1.alloc (.cells es 67)) fun e w2 => ∃ es2, e = .returned (.tuple #[.agg es2, .int .i64 10]) ∧ Hid ((Instr.storeAt 67 (.pointer (some ⟨w2.heap.size, 0, none⟩)) (.agg es2)).run Tryz.prog (w2.alloc (.cells nd0 67)) = .ok () (w2.alloc (.cells es2 67))) ∧
   Hid ((w2.alloc (.cells es2 67)).heap[w1.heap.size]? = some (.cells es 67) ∧ NT (w2.alloc (.cells es2 67)) es exA ∧ Below w.heap.size w (w2.alloc (.cells es2 67))) := fun w1 es hN hb => by
  have B1 := bel_alloc (Below.refl w1.heap.size w1) (.cells es 67)
  have := parseF_any [83, 85, 77, 40, 65, 49, 58, 66, 50, 44, 41] (w1.alloc (.cells es 67)) (T.below (bel_step hb B1))
  rw [parB] at this
  refine this.mono ?_
  rintro e w2 ⟨es2, rfl, hN2, _, hb2⟩
  have B2 := bel_alloc (Below.refl w2.heap.size w2) (.cells es2 67)
  have hg : w2.heap[w1.heap.size]? = some (.cells es 67) := (hb2.block _ (by simp)).trans (heap_alloc_new _ _)
  exact ⟨es2, rfl, (nbox w2 hN2).1, (B2.block _ (lt_of hg)).trans hg, ((hN.below B1).below hb2).below B2, bel_step (bel_step (bel_step hb B1) hb2) B2⟩
 have CP := fun (u : World) (es : Array Value) (hN : NT u es exA) (hb : Below w.heap.size w u) => printF_any (by rw [zA]; omega) ztA hN (T.below hb)
 have CD := fun (u : World) (es : Array Value) (hN : NT u es exA) => depth_any exA (by rw [zA]; omega) u es hN
 have CS := fun (u : World) (es : Array Value) (hN : NT u es exA) => fsize_any exA (by rw [zA]; omega) u es hN
 have HB := fun (w1 : World) (es : Array Value) (hN : NT w1 es exA) => (nbox w1 hN).1
 have LD := fun (w1 u : World) (g : Nat) (es : Array Value) (hN : NT w1 es exA) (hg : u.heap[g]? = some (.cells es 67)) => (nbox_at hN).2 hg
 rw [dA] at CD
 rw [zA] at CS
 rw [prA] at CP
 have STP : ∀ (u u' : World) (g : Nat) (es : Array Value), u.heap[g]? = some (.cells es 67) ∧ NT u es exA ∧ Below w.heap.size w u → Below u.heap.size u u' → u'.heap[g]? = some (.cells es 67) ∧ NT u' es exA ∧ Below w.heap.size w u' := fun u u' g es h hb => ⟨(hb.block _ (lt_of h.1)).trans h.1, h.2.1.below hb, bel_step h.2.2 hb⟩
 have hsx : exA.1.s.toList = [42] := by kernel_rfl
 have hsb : (exA.1.s.toList == [42]) = true := by rw [hsx]; rfl
 clear T hsx
 go_enter Tryz.func37, Tryz.ntmps37
 go_wp2_with (first
  | (go_at_call 74; refine P1.mono ?_; rintro e w1 ⟨p, n, c, rfl, HN⟩; clear P1; have RS : Hid _ := HB _ _ HN.out.1)
  | (refine wpList_store_run rfl 67 _ _ rfl _ _ _ rfl rfl RS.out ?_; clear RS)
  | (go_at_call 74; refine (P2 _ _ HN.out.1 HN.out.2).mono ?_; rintro e w2 ⟨es2, rfl, RS, HX⟩; clear P2 HN; have c1 := (box_all HX.out.1).2.1; have RL : Hid _ := LD _ _ _ _ HX.out.2.1 HX.out.1)
  | (refine wpList_load_g 67 _ rfl _ _ rfl RL.out (by go_simp) ?_)
  | (go_at_call 42; refine (CP _ _ HX.out.2.1 HX.out.2.2).mono ?_; rintro e w3 ⟨rfl, hb⟩; have HX2 := STP _ _ _ _ HX.out hb; clear hb HX RL c1; have RL : Hid _ := LD _ _ _ _ HX2.2.1 HX2.1; have HX : Hid _ := HX2; clear HX2)
  | (go_at_call 44; refine (CD _ _ HX.out.2.1).mono ?_; rintro e w3 ⟨rfl, hb⟩; have HX2 := STP _ _ _ _ HX.out hb; clear hb HX RL; have RL : Hid _ := LD _ _ _ _ HX2.2.1 HX2.1; have HX : Hid _ := HX2; clear HX2)
  | (go_at_call 46; refine (CS _ _ HX.out.2.1).mono ?_; rintro e w3 ⟨rfl, hb⟩; have HX2 := STP _ _ _ _ HX.out hb; clear hb HX RL; have HX : Hid _ := HX2; clear HX2))
 go_ret
 exact ⟨rfl, HX.out.2.2⟩
def szK (l : List T) (k : Nat) : Nat := ((l.take k).map zT).sum
theorem szK_succ (l : List T) (k : Nat) (s : T) (h : l[k]? = some s) : szK l (k + 1) = szK l k + zT s := by
 unfold szK
 rw [List.take_add_one, h]
 simp
theorem szK_all (l : List T) : szK l l.length = (l.map zT).sum := by unfold szK; rw [List.take_of_length_le (Nat.le_refl _)]
theorem szK_lt (l : List T) (k : Nat) (h : k < l.length) : szK l k + 1 ≤ (l.map zT).sum := by
 have h3 : (l.map zT).sum = ((l.take k).map zT).sum + ((l.drop k).map zT).sum := by rw [← List.sum_append, ← List.map_append, List.take_append_drop]
 have h4 : 1 ≤ ((l.drop k).map zT).sum := by
  rw [List.drop_eq_getElem_cons h, List.map_cons, List.sum_cons]
  have : 1 ≤ zT l[k] := by unfold zT; omega
  omega
 unfold szK
 omega
theorem szK_le (l : List T) : ∀ k, k ≤ l.length → k ≤ szK l k
 | 0, _ => Nat.zero_le _
 | k + 1, h => by
  have := szK_le l k (by omega)
  rw [szK_succ l k l[k] (List.getElem?_eq_getElem (by omega))]
  have : 1 ≤ zT l[k] := by unfold zT; omega
  omega
theorem left_any : ∀ t : T, ∀ (w : World) (es : Array Value), NT w es t → ∀ b : Nat, 1 ≤ b → b ≤ 1000000 → Calls Tryz.prog 82 #[.agg es, .int .i64 (b : Nat)] w fun e w' => e = .returned (.int .i64 ((b - zT t : Nat) : Int)) ∧ Below w.heap.size w w' := by
 refine ind ?_
 intro t ih w es h b hb1 hb2
 have hzT : zT t = ((kids t.2).map zT).sum + 1 := by unfold zT; rw [size_kids]; rfl
 obtain ⟨p, n, c, rfl, hs⟩ := h
 have HK : Hid (∀ s ∈ kids t.2, ∀ (w : World) (es : Array Value), NT w es s → ∀ b : Nat, 1 ≤ b → b ≤ 1000000 → Calls Tryz.prog 82 #[.agg es, .int .i64 (b : Nat)] w fun e w' => e = .returned (.int .i64 ((b - zT s : Nat) : Int)) ∧ Below w.heap.size w w') := ih
 have c17 := cell17 (heap_alloc_new w (.cells (lcs t.1 (.slice p n c)) 67))
 have HB0 : Hid (Below w.heap.size w (w.alloc (.cells (lcs t.1 (.slice p n c)) 67))) := bel_alloc (Below.refl _ _) _
 have hd1 : (b : Int) - 1 = ((b - 1 : Nat) : Int) := by omega
 have hwr : IntKind.i64.wrap ((b - 1 : Nat) : Int) = ((b - 1 : Nat) : Int) := by simp [IntKind.wrap, IntKind.bits, IntKind.signed]; omega
 have HS : Hid (SF w p n t.2) := hs
 have HL : Hid ((kids t.2).length = n) := hs.1.symm
 have HF : Hid (((kids t.2).map zT).sum + 1 = zT t) := hzT.symm
 have HBB : Hid (1 ≤ b ∧ b ≤ 1000000) := ⟨hb1, hb2⟩
 obtain ⟨b1, hbe⟩ : ∃ b1, b - 1 = b1 := ⟨_, rfl⟩
 have HBE : Hid (b = b1 + 1) := by show _ = _; omega
 rw [hbe] at hd1 hwr
 clear ih hs hzT hbe hb1 hb2
 generalize hq : ((b - zT t : Nat) : Int) = q
 have HQ : Hid (((b - zT t : Nat) : Int) = q) := hq
 clear hq
 generalize (b : Int) = bi at *
 generalize lcs t.1 (.slice p n c) = bx at *
 go_enter Tryz.func82, Tryz.ntmps82
 go_wp2
 go_loopw [1, 12] (fun bud i wr => ∃ k : Nat, k ≤ n ∧ i = .int .i64 (k : Nat) ∧ bud = .int .i64 ((b1 - szK (kids t.2) k : Nat) : Int) ∧ Hid (Below w.heap.size w wr)) (fun _ i _ => n - (intOf i).toNat)
 case atStart => exact ⟨0, Nat.zero_le _, rfl, by simp [szK], HB0⟩
 case round =>
  obtain ⟨k, hk, rfl, rfl, HB⟩ := hrel
  clear HB0
  by_cases hlt : k < n
  ·have hki : (k : Int) < n := by omega
   obtain ⟨a', es, s, rfl, RL, HI, RS, RL2, HNT, HM⟩ := HS.out.step HB.out hlt
   have hkl : k < (kids t.2).length := by have := HL.out; omega
   by_cases hz : b1 - szK (kids t.2) k ≤ 0
   ·have hzi : ((b1 - szK (kids t.2) k : Nat) : Int) ≤ 0 := by omega
    have HQ2 : Hid (q = 0) := by
     show _ = _
     rw [← HQ.out]
     have h1 := szK_lt _ _ hkl
     have h2 := HF.out
     have h3 := HBE.out
     omega
    have HBf : Hid (Below w.heap.size w (wr.alloc (.cells es 67))) := bel_alloc HB.out _
    clear hz HNT HM HI HQ
    generalize ((b1 - szK (kids t.2) k : Nat) : Int) = bd at *
    go_wp2_with (first
     | (refine wpList_load_run rfl 67 _ rfl _ _ rfl RL.out ?_; clear RL)
     | (refine wpList_store_run rfl 67 _ _ rfl _ _ _ rfl rfl RS.out ?_; clear RS))
    go_ret
    exact ⟨by rw [HQ2.out]; first | done | rfl, HBf.out⟩
   ·have hzi : ¬ ((b1 - szK (kids t.2) k : Nat) : Int) ≤ 0 := by omega
    have C := HK.out s HM.out _ _ HNT.out (b1 - szK (kids t.2) k) (by omega) (by have := HBB.out; have := HBE.out; omega)
    have HN : Hid (b1 - szK (kids t.2) k - zT s = b1 - szK (kids t.2) (k + 1)) := by
     show _ = _
     rw [szK_succ _ _ _ HI.out]; omega
    have hkb : k ≤ 1000000 := by
     have := szK_le (kids t.2) k (by omega)
     have := HBB.out
     have := HBE.out
     omega
    clear hz HNT HM HI HQ
    generalize hbd : b1 - szK (kids t.2) k = bd at *
    clear hbd
    go_wp2_with (first
     | (refine wpList_load_run rfl 67 _ rfl _ _ rfl RL.out ?_; clear RL)
     | (refine wpList_store_run rfl 67 _ _ rfl _ _ _ rfl rfl RS.out ?_; clear RS)
     | (refine wpList_load_run rfl 67 _ rfl _ _ rfl RL2.out ?_; clear RL2)
     | (go_at_call 82; refine C.mono ?_; rintro e w3 ⟨rfl, hs⟩; have HU2 : Hid (Below w.heap.size w w3) := bel_step (bel_alloc HB.out _) hs; clear hs))
    go_roundw
    case rel => exact ⟨k + 1, by omega, by go_num, by rw [HN.out], HU2⟩
    case measure => simp [intOf]; omega
  ·have hki : ¬ (k : Int) < n := by omega
   have HQ2 : Hid (q = ((b1 - szK (kids t.2) k : Nat) : Int)) := by
    show _ = _
    have h1 : k = (kids t.2).length := by have := HL.out; omega
    rw [← HQ.out, h1, szK_all]
    have h2 := HF.out
    have h3 := HBE.out
    omega
   generalize ((b1 - szK (kids t.2) k : Nat) : Int) = bd at *
   go_wp2
   go_ret
   exact ⟨by rw [HQ2.out]; first | done | rfl, HB.out⟩
theorem big_any {t : T} {w : World} {es : Array Value} (h : NT w es t) {b : Nat} (h1 : 1 ≤ b) (h2 : b ≤ 1000000) : Calls Tryz.prog 36 #[.agg es, .int .i64 (b : Nat)] w fun e w' => e = .returned (.bool (decide (b ≤ zT t))) ∧ Below w.heap.size w w' := by
 have C := left_any t (w.alloc (.cells es 67)) es (h.below (bel_alloc (Below.refl _ _) _)) b h1 h2
 have RL : Hid _ := (nbox_at h).2 (heap_alloc_new w (.cells es 67))
 have HQ : Hid (decide (((b - zT t : Nat) : Int) ≤ 0) = decide (b ≤ zT t)) := by show _ = _; simp; omega
 clear h
 generalize ((b - zT t : Nat) : Int) = q at *
 go_enter Tryz.func36, Tryz.ntmps36
 go_wp2_with (first
  | (refine wpList_load_run rfl 67 _ rfl _ _ rfl RL.out ?_; clear RL)
  | (go_at_call 82; refine C.mono ?_; rintro e w2 ⟨rfl, hs⟩; have HU2 : Hid (Below w.heap.size w w2) := bel1 hs; clear hs))
 go_ret
 exact ⟨by rw [← HQ.out]; first | done | rfl, HU2.out⟩
def RightC : Prop := ∀ t : T, zT t ≤ 1000000 → ZT t → ∀ (w : World) (es : Array Value), NT w es t → Tab9 w → Calls Tryz.prog 123 #[.agg es] w fun e w' => e = .returned (.bool (okL t.1 (kids t.2).length)) ∧ Below w.heap.size w w'
theorem ra_zero {t : T} {w : World} {es : Array Value} (h : NT w es t) : Calls Tryz.prog 87 #[.agg es, .int .i64 0] w fun e w' => e = .returned (.bool false) ∧ Below w.heap.size w w' := by
 go_enter Tryz.func87, Tryz.ntmps87
 go_wp2
 go_ret
 exact ⟨rfl, bel_alloc (Below.refl _ _) _⟩
theorem ra_no (RC : RightC) {t : T} {p : Option Addr} {n c : Nat} {w : World} {d : Nat} (hz : zT t ≤ 1000000) (Z : ZT t) (hd : ((d : Int) == 0) = false) (h : okL t.1 (kids t.2).length = false) (T : Tab9 w) (hs : NT w (lcs t.1 (.slice p n c)) t) : Calls Tryz.prog 87 #[.agg (lcs t.1 (.slice p n c)), .int .i64 (d : Nat)] w fun e w' => e = .returned (.bool false) ∧ Below w.heap.size w w' := by
 have B1 : Below w.heap.size w (w.alloc (.cells (lcs t.1 (.slice p n c)) 67)) := bel_alloc (Below.refl _ _) _
 have RL : Hid _ := lod (z := (0, 0)) (heap_alloc_new w (.cells (lcs t.1 (.slice p n c)) 67)) rfl Tryz.underlying67 (by rw [lcs_size]; exact inf67)
 have BA := RC t hz Z (w.alloc (.cells (lcs t.1 (.slice p n c)) 67)) _ (hs.below B1) (T.below B1)
 rw [h] at BA
 clear hs T h Z RC B1
 generalize lcs t.1 (.slice p n c) = bx at *
 go_enter Tryz.func87, Tryz.ntmps87
 go_wp2_with (first
  | (refine wpList_load_g 67 _ rfl _ _ rfl RL.out (by go_simp) ?_; clear RL)
  | (go_at_call 123; refine BA.mono ?_; rintro e w1 ⟨rfl, hs⟩; have HB1 : Hid (Below w.heap.size w w1) := bel1 hs; clear hs))
 all_goals (go_ret; exact ⟨rfl, HB1.out⟩)
theorem ra_yes (RC : RightC) {t : T} {p : Option Addr} {n c : Nat} {w : World} {d : Nat} (hz : zT t ≤ 1000000) (Z : ZT t) (hd : ((d : Int) == 0) = false) (hd2 : d ≤ 1000) (h : okL t.1 (kids t.2).length = true) (T : Tab9 w) (hs : SF w p n t.2) (hn : n ≤ 1000000)
  (IH : ∀ s ∈ kids t.2, ∀ (w : World) (es : Array Value), NT w es s → Tab9 w → Calls Tryz.prog 87 #[.agg es, .int .i64 ((d - 1 : Nat) : Int)] w fun e w' => e = .returned (.bool (gT okL (d - 1) s)) ∧ Below w.heap.size w w') :
  Calls Tryz.prog 87 #[.agg (lcs t.1 (.slice p n c)), .int .i64 (d : Nat)] w fun e w' => e = .returned (.bool ((kids t.2).all (gT okL (d - 1)))) ∧ Below w.heap.size w w' := by
 have B1 : Below w.heap.size w (w.alloc (.cells (lcs t.1 (.slice p n c)) 67)) := bel_alloc (Below.refl _ _) _
 have RL : Hid _ := lod (z := (0, 0)) (heap_alloc_new w (.cells (lcs t.1 (.slice p n c)) 67)) rfl Tryz.underlying67 (by rw [lcs_size]; exact inf67)
 have hNT : NT w (lcs t.1 (.slice p n c)) t := ⟨p, n, c, rfl, hs⟩
 have BA := RC t hz Z (w.alloc (.cells (lcs t.1 (.slice p n c)) 67)) _ (hNT.below B1) (T.below B1)
 rw [h] at BA
 have PA : Calls Tryz.prog 123 #[.agg (lcs t.1 (.slice p n c))] (w.alloc (.cells (lcs t.1 (.slice p n c)) 67)) fun e w2 => e = .returned (.bool true) ∧ w2.cell? ⟨w.heap.size, 17, none⟩ = some (.slice p n c) ∧ Hid (Below w.heap.size w w2) := BA.mono (by
  rintro e w1 ⟨rfl, hs⟩
  exact ⟨rfl, cell17 (new1 hs), bel1 hs⟩)
 have HS : Hid (SF w p n t.2) := hs
 have HT : Hid (Tab9 w) := T
 have HI : Hid (∀ s ∈ kids t.2, ∀ (w : World) (es : Array Value), NT w es s → Tab9 w → Calls Tryz.prog 87 #[.agg es, .int .i64 ((d - 1 : Nat) : Int)] w fun e w' => e = .returned (.bool (gT okL (d - 1) s)) ∧ Below w.heap.size w w') := IH
 have HL : Hid ((kids t.2).length = n) := hs.1.symm
 have hd1 : (d : Int) - 1 = ((d - 1 : Nat) : Int) := by
  have : d ≠ 0 := by intro e; subst e; simp at hd
  omega
 clear BA h hs T IH Z hNT RC B1 hz
 generalize lcs t.1 (.slice p n c) = bx at *
 generalize hq : (kids t.2).all (gT okL (d - 1)) = q
 have HQ : Hid ((kids t.2).all (gT okL (d - 1)) = q) := hq
 clear hq
 go_enter Tryz.func87, Tryz.ntmps87
 go_wp2_with (first
  | (refine wpList_load_g 67 _ rfl _ _ rfl RL.out (by go_simp) ?_; clear RL)
  | (go_at_call 123; refine PA.mono ?_; rintro e w2 ⟨rfl, c17, HB2⟩))
 clear PA
 go_loopw [17] (fun i wr => ∃ k : Nat, k ≤ n ∧ i = .int .i64 (k : Nat) ∧ Hid (Below w.heap.size w wr) ∧ Hid (((kids t.2).take k).all (gT okL (d - 1)) = true)) (fun i _ => n - (intOf i).toNat)
 case atStart => exact ⟨0, Nat.zero_le _, rfl, HB2, rfl⟩
 case round =>
  obtain ⟨k, hk, rfl, HB, HA⟩ := hrel
  by_cases hlt : k < n
  ·have hki : (k : Int) < n := by omega
   obtain ⟨a', es, s, rfl, RL, HI1, RS, RL2, HNT, HM⟩ := HS.out.step HB.out hlt
   have C := HI.out s HM.out _ _ HNT.out (HT.out.below (bel_alloc HB.out _))
   have hwr : IntKind.i64.wrap ((d - 1 : Nat) : Int) = ((d - 1 : Nat) : Int) := by
    simp [IntKind.wrap, IntKind.bits, IntKind.signed]; omega
   have HTK : Hid ((kids t.2).take (k + 1) = (kids t.2).take k ++ [s]) := by show _ = _; rw [List.take_add_one, HI1.out]; rfl
   have HMem : Hid (s ∈ kids t.2) := HM
   cases hq : gT okL (d - 1) s
   ·rw [hq] at C
    have HQ2 : Hid (q = false) := by
     show _ = _
     rw [← HQ.out]
     cases hall : (kids t.2).all (gT okL (d - 1))
     ·rfl
     ·have := List.all_eq_true.1 hall s HMem.out
      rw [hq] at this; cases this
    clear hq HI1 HM HA HNT
    generalize ((d - 1 : Nat) : Int) = d1 at *
    go_wp2_with (first
     | (refine wpList_load_run rfl 67 _ rfl _ _ rfl RL.out ?_; clear RL)
     | (refine wpList_store_run rfl 67 _ _ rfl _ _ _ rfl rfl RS.out ?_; clear RS)
     | (refine wpList_load_run rfl 67 _ rfl _ _ rfl RL2.out ?_; clear RL2)
     | (go_at_call 87; refine C.mono ?_; rintro e w3 ⟨rfl, hs⟩; have HU2 : Hid (Below w.heap.size w w3) := bel_step (bel_alloc HB.out _) hs; clear hs))
    go_ret
    exact ⟨by rw [HQ2.out]; rfl, HU2.out⟩
   ·rw [hq] at C
    have HA2 : Hid (((kids t.2).take (k + 1)).all (gT okL (d - 1)) = true) := by
     show _ = _
     rw [HTK.out, List.all_append, HA.out]
     simp [hq]
    clear hq HI1 HM HA HNT HTK HMem
    generalize ((d - 1 : Nat) : Int) = d1 at *
    go_wp2_with (first
     | (refine wpList_load_run rfl 67 _ rfl _ _ rfl RL.out ?_; clear RL)
     | (refine wpList_store_run rfl 67 _ _ rfl _ _ _ rfl rfl RS.out ?_; clear RS)
     | (refine wpList_load_run rfl 67 _ rfl _ _ rfl RL2.out ?_; clear RL2)
     | (go_at_call 87; refine C.mono ?_; rintro e w3 ⟨rfl, hs⟩; have HU2 : Hid (Below w.heap.size w w3) := bel_step (bel_alloc HB.out _) hs; clear hs))
    go_roundw
    case rel => exact ⟨k + 1, by omega, by go_num, HU2, HA2⟩
    case measure => simp [intOf]; omega
  ·have hki : ¬ (k : Int) < n := by omega
   have HQ2 : Hid (q = true) := by
    show _ = _
    rw [← HQ.out]
    have := HA.out
    rw [List.take_of_length_le (by have := HL.out; omega)] at this
    exact this
   clear HA
   go_wp2
   go_ret
   exact ⟨by rw [HQ2.out]; rfl, HB.out⟩
theorem rall_any (RC : RightC) : ∀ t : T, zT t ≤ 1000000 → ZT t → ∀ d : Nat, d ≤ 1000 → ∀ (w : World) (es : Array Value), NT w es t → Tab9 w → Calls Tryz.prog 87 #[.agg es, .int .i64 (d : Nat)] w fun e w' => e = .returned (.bool (gT okL d t)) ∧ Below w.heap.size w w' := by
 refine ind ?_
 intro t ih hz hZ d hd w es h T
 cases d with
 | zero => rw [gT_eq]; exact ra_zero h
 | succ d =>
  obtain ⟨p, n, c, rfl, hs⟩ := h
  have hdb : (((d + 1 : Nat) : Int) == 0) = false := by simp; omega
  rw [gT_eq]
  have hn := hs.1
  cases ho : okL t.1 (kids t.2).length
  ·simpa using ra_no RC hz hZ hdb ho T (⟨p, n, c, rfl, hs⟩ : NT w (lcs t.1 (.slice p n c)) t)
  ·have hkl := kids_le t
   have := ra_yes RC (c := c) hz hZ hdb (by omega) ho T hs (by omega) (fun s hs' u e1 m1 m2 => ih s hs' (by have := zT_kid hs'; omega) (hZ.kid hs') d (by omega) u e1 m1 m2)
   simpa using this
theorem rgood_tree (RC : RightC) {t : T} (hz : zT t ≤ 1000000) (hZ : ZT t) {w : World} {es : Array Value} (h : NT w es t) (T : Tab9 w) : Calls Tryz.prog 41 #[.agg es] w fun e w' => e = .returned (.bool (gT okL 24 t)) ∧ Below w.heap.size w w' := by
 have C := rall_any RC t hz hZ 24 (by omega) (w.alloc (.cells es 67)) es (h.below (bel_alloc (Below.refl _ _) _)) (T.below (bel_alloc (Below.refl _ _) _))
 have RL : Hid _ := (nbox_at h).2 (heap_alloc_new w (.cells es 67))
 clear h T RC
 generalize gT okL 24 t = q at *
 go_enter Tryz.func41, Tryz.ntmps41
 go_wp2_with (first
  | (refine wpList_load_run rfl 67 _ rfl _ _ rfl RL.out ?_; clear RL)
  | (go_at_call 87; refine C.mono ?_; rintro e w2 ⟨rfl, hs⟩; have HU2 : Hid (Below w.heap.size w w2) := bel1 hs; clear hs))
 go_ret
 exact ⟨rfl, HU2.out⟩
theorem rbare_any {a : Lab} {p : Option Addr} {n c : Nat} {w : World} : Calls Tryz.prog 171 #[.agg (lcs a (.slice p n c))] w fun e w' => e = .returned (.agg (lcs (lab0 a.k nb) (.slice none 0 0))) ∧ Below w.heap.size w w' := by
 obtain ⟨w2, hw2⟩ : ∃ w2, (w.alloc (.cells (lcs a (.slice p n c)) 67)).alloc (.cells nd0 67) = w2 := ⟨_, rfl⟩
 have H0 : w2.heap[w.heap.size]? = some (.cells (lcs a (.slice p n c)) 67) := by rw [← hw2]; exact (Below.heap_alloc _ _ _ (by simp)).trans (heap_alloc_new w _)
 have H1 : w2.heap[w.heap.size + 1]? = some (.cells nd0 67) := by
  rw [← hw2]
  have := heap_alloc_new (w.alloc (.cells (lcs a (.slice p n c)) 67)) (.cells nd0 67)
  simpa using this
 have HB : Below w.heap.size w w2 := by rw [← hw2]; exact bel_alloc (bel_alloc (Below.refl _ _) _) _
 obtain ⟨c0, c1, l2, l3, l4⟩ := box_all H0
 have RS := nd_sto H1 rfl (lab0 a.k nb) none 0 0
 have HG : Hid (w2.heap[w.heap.size + 1]? = some (.cells nd0 67)) := H1
 have HF : Hid (Below w.heap.size w (w2.setRow (w.heap.size + 1) (lcs (lab0 a.k nb) (.slice none 0 0)))) := HB.grown (setRow_grown _ _ _) HB.size (fun j e => by cases e; omega)
 clear H0 H1 l2 l3 l4 HB
 generalize lcs a (.slice p n c) = bx at *
 go_enter Tryz.func171, Tryz.ntmps171
 go_wp2_with (first
  | (refine wpList_store_run rfl 67 _ _ rfl _ _ _ rfl rfl RS.out ?_))
 exact bodyPost_ret (nd_res HG.out (lcs_size _ _) rfl rfl) rfl ⟨rfl, HF.out⟩
section
variable {a : Lab} {p : Option Addr} {n c : Nat} {w : World}
theorem rbare_box : Calls Tryz.prog 171 #[.agg (lcs a (.slice p n c))] (w.alloc (.cells (lcs a (.slice p n c)) 67)) fun e w1 => e = .returned (.agg (lcs (lab0 a.k nb) (.slice none 0 0))) ∧ Hid ((Instr.storeAt 67 (.pointer (some ⟨w1.heap.size, 0, none⟩)) (.agg (lcs (lab0 a.k nb) (.slice none 0 0)))).run Tryz.prog (w1.alloc (.cells nd0 67)) = .ok () (w1.alloc (.cells (lcs (lab0 a.k nb) (.slice none 0 0)) 67))) ∧
  (w1.alloc (.cells (lcs (lab0 a.k nb) (.slice none 0 0)) 67)).cell? ⟨w.heap.size, 0, none⟩ = some (.int .i64 a.k) ∧
  Hid ((w1.alloc (.cells (lcs (lab0 a.k nb) (.slice none 0 0)) 67)).heap[w.heap.size]? = some (.cells (lcs a (.slice p n c)) 67) ∧ (w1.alloc (.cells (lcs (lab0 a.k nb) (.slice none 0 0)) 67)).heap[w1.heap.size]? = some (.cells (lcs (lab0 a.k nb) (.slice none 0 0)) 67) ∧ w.heap.size < w1.heap.size ∧ Below w.heap.size w (w1.alloc (.cells (lcs (lab0 a.k nb) (.slice none 0 0)) 67))) := rbare_any.mono (by
 rintro e w1 ⟨rfl, hs⟩
 have hlt : w.heap.size < w1.heap.size := by have := hs.size; simp at this; omega
 have h0 : (w1.alloc (.cells (lcs (lab0 a.k nb) (.slice none 0 0)) 67)).heap[w.heap.size]? = some (.cells (lcs a (.slice p n c)) 67) := (Below.heap_alloc _ _ _ hlt).trans (new1 hs)
 refine ⟨rfl, run_storeAt_new w1 67 nd0 _ (by rw [lcs_size]; exact inf67) rfl (lcs_all _ _ _ _), (box_all h0).1, h0, heap_alloc_new w1 _, hlt, bel_alloc (bel1 hs) _⟩)
theorem right_else (h1 : (a.k == 1) = false) (h2 : (a.k == 2) = false) (h3 : (a.k == 3) = false) (h4 : (a.k == 4) = false) (h5 : (a.k == 5) = false) (h6 : (a.k == 6) = false) (h7 : (a.k == 7) = false) :
  Calls Tryz.prog 123 #[.agg (lcs a (.slice p n c))] w fun e w' => e = .returned (.bool false) ∧ Below w.heap.size w w' := by
 have RL : Hid _ := lod (z := (0, 0)) (heap_alloc_new w (.cells (lcs a (.slice p n c)) 67)) rfl Tryz.underlying67 (by rw [lcs_size]; exact inf67)
 have C := rbare_box (a := a) (p := p) (n := n) (c := c) (w := w)
 generalize lcs (lab0 a.k nb) (.slice none 0 0) = wx at *
 generalize lcs a (.slice p n c) = bx at *
 generalize a.k = k at *
 go_enter Tryz.func123, Tryz.ntmps123
 go_wp2_with (first
  | (refine wpList_load_run rfl 67 _ rfl _ _ rfl RL.out ?_; clear RL)
  | (go_at_call 171; refine C.mono ?_; rintro e w1 ⟨rfl, RS, c0, HH⟩; clear C)
  | (refine wpList_store_run rfl 67 _ _ rfl _ _ _ rfl rfl RS.out ?_; clear RS))
 go_ret
 exact ⟨rfl, HH.out.2.2.2⟩
end
theorem ld9 {u : World} {g i : Nat} {v : Value} (h : u.cell? ⟨g, i, none⟩ = some v) : (Instr.loadAt 9 (.pointer (some ⟨g, i, none⟩))).run Tryz.prog u = .ok v u := by
 go_simp
 try simp [h]
theorem st9 {u : World} {g i : Nat} {v : Value} {s : ByteArray} (h : u.cell? ⟨g, i, none⟩ = some v) (hf : u.frozen? ⟨g, i, none⟩ = false) : (Instr.storeAt 9 (.pointer (some ⟨g, i, none⟩)) (.string s)).run Tryz.prog u = .ok () (u.setCell ⟨g, i, none⟩ (.string s)) := by
 go_simp
 try simp [h, hf]
theorem st26 {u : World} {g i : Nat} {v : Value} {p : Option Addr} {n c : Nat} (h : u.cell? ⟨g, i, none⟩ = some v) (hf : u.frozen? ⟨g, i, none⟩ = false) : (Instr.storeAt 65 (.pointer (some ⟨g, i, none⟩)) (.slice p n c)).run Tryz.prog u = .ok () (u.setCell ⟨g, i, none⟩ (.slice p n c)) := by
 go_simp
 try simp [h, hf]
structure RQ (w : World) (a : Lab) (sl : Value) (g : Nat) (b : Lab) (sb : Value) (u : World) : Prop where
 n : u.heap[w.heap.size]? = some (.cells (lcs a sl) 67)
 t : u.heap[g]? = some (.cells (lcs b sb) 67)
 lt : w.heap.size < g
 b : Below w.heap.size w u
theorem RQ.below {w u u' : World} {a b : Lab} {sl sb : Value} {g : Nat} (h : RQ w a sl g b sb u) (hb : Below u.heap.size u u') : RQ w a sl g b sb u' :=
 ⟨(hb.block _ (lt_of h.n)).trans h.n, (hb.block _ (lt_of h.t)).trans h.t, h.lt, bel_step h.b hb⟩
theorem RQ.drew {w u : World} {a b : Lab} {sl sb : Value} {g : Nat} (h : RQ w a sl g b sb u) : RQ w a sl g b sb u.drew := ⟨h.n, h.t, h.lt, h.b.drew⟩
theorem row_set {u : World} {g : Nat} {cs : Array Value} (h : u.heap[g]? = some (.cells cs 67)) : ∀ (vs : List Value) (o : Nat), ∃ cs' : Array Value, (u.setCells g o vs).heap[g]? = some (.cells cs' 67) ∧ cs' = (vs.zipIdx o).foldl (fun c x => c.setIfInBounds x.2 x.1) cs := by
 intro vs
 induction vs generalizing u cs with
 | nil => intro o; exact ⟨cs, h, rfl⟩
 | cons v vs ih =>
  intro o
  have h2 : (u.setCell ⟨g, o, none⟩ v).heap[g]? = some (.cells (cs.setIfInBounds o v) 67) := by
   simp [World.setCell, Array.getElem?_modify, h]
  exact ih h2 (o + 1)
theorem RQ.set {w u : World} {a b b' : Lab} {sl sb sb' : Value} {g : Nat} (h : RQ w a sl g b sb u) (ty : TypeId) (o : Nat) (cs : Array Value) (hi : (Tryz.prog.info? ty).map (·.size) = some cs.size) (ho : o + cs.size ≤ 18) (h1 : cs.all (·.oneCell') = true)
  (he : (cs.toList.zipIdx o).foldl (fun c x => c.setIfInBounds x.2 x.1) (lcs b sb) = lcs b' sb') :
  ∃ u', Hid ((Instr.storeAt ty (.pointer (some ⟨g, o, none⟩)) (.agg cs)).run Tryz.prog u = .ok () u') ∧ RQ w a sl g b' sb' u' := by
 have hth : u.there g o cs.size := fun j hj => ⟨by
  rw [cell_of_row u g (o + j) _ 67 _ h.t, Array.getElem?_eq_getElem (by rw [lcs_size]; omega)]
  rfl, by simp [World.frozen?, h.t]⟩
 refine ⟨u.setCells g o cs.toList, run_storeAt_mid (P := Tryz.prog) u g o ty cs hth hi h1, ?_⟩
 have hg := grown_setCells g cs.toList o u
 obtain ⟨cs', e1, e2⟩ := row_set h.t cs.toList o
 rw [he] at e2
 rw [e2] at e1
 exact ⟨(hg.block _ (lt_of h.n) (fun e => by have := Option.some.inj e; have := h.lt; omega)).trans h.n, e1, h.lt, h.b.grown hg h.b.size (fun k e => by cases e; exact Nat.le_of_lt h.lt)⟩
end Go.Proofs.YtnibldnfbikipaaGreatDoor
