import Derived.Test.YtljfkkpkcjigpaaGreatDoorFPrint
import Derived.Test.YtljfkkpkcjigpaaGreatDoorFSame
import Derived.Test.YtljfkkpkcjigpaaGreatDoorFSize
import Derived.Test.YtljfkkpkcjigpaaGreatDoorFParse
import Derived.Test.YtljfkkpkcjigpaaGreatDoorTNext
set_option linter.unusedVariables false
set_option linter.unusedSimpArgs false
/- The document's examples. -/
namespace Go.Proofs.YtljfkkpkcjigpaaGreatDoor
open Go.RowKit Go.Fm
set_option maxRecDepth 100000
set_option linter.unusedVariables false
set_option linter.unusedSimpArgs false
def exA : T := tree (lab0 6 (bs [42])) [tree (lab0 6 (bs [43])) [tree (labV 1 10000 nb) [], tree (labV 1 20000 nb) []], tree (labV 1 30000 nb) []]
theorem parA : parF [40, 49, 43, 50, 41, 42, 51] = (exA, 0) := by kernel_rfl
theorem parB : parF [83, 85, 77, 40, 65, 49, 58, 66, 50, 44, 41] = (zeroT, 10) := by kernel_rfl
theorem prA : printN exA = [40, 49, 43, 50, 41, 42, 51] := by kernel_rfl
theorem dA : dT exA = 3 := by kernel_rfl
theorem zA : zT exA = 5 := by kernel_rfl
def zB (a : Lab) : Bool := decide (a.s.size ≤ 9) && decide (a.b1.size ≤ 9) && decide (a.h1.size ≤ 9) && decide (a.b2.size ≤ 9) && decide (a.h2.size ≤ 9)
theorem zB_ok {a : Lab} (h : zB a = true) : LabZ a := by
  simp only [zB, Bool.and_eq_true, decide_eq_true_eq] at h
  exact ⟨by omega, by omega, by omega, by omega, by omega⟩
theorem zallA : ((preT exA).all fun x => zB x.1) = true := by kernel_rfl
theorem ztA : ZT exA := fun x hx => zB_ok (List.all_eq_true.1 zallA x hx)
set_option maxHeartbeats 8000000 in
theorem lives_any (w : World) (T : Tab9 w) : Calls Tryz.prog 12 #[] w fun e w' => e = .returned (.bool true) ∧ Below w.heap.size w w' := by
  have P1 : Calls Tryz.prog 8 #[.string ⟨#[40, 49, 43, 50, 41, 42, 51]⟩] w fun e w1 => ∃ p n c, e = .returned (.tuple #[.agg (lcs exA.1 (.slice p n c)), .int .i64 0]) ∧ Hid (NT w1 (lcs exA.1 (.slice p n c)) exA ∧ Below w.heap.size w w1) := by
    have := parseF_any [40, 49, 43, 50, 41, 42, 51] w T
    rw [parA] at this
    refine this.mono ?_
    rintro e w1 ⟨es, rfl, hN, _, hb⟩
    have hN' := hN
    obtain ⟨p, n, c, rfl, _⟩ := hN'
    exact ⟨p, n, c, rfl, hN, hb⟩
  have P2 : ∀ (w1 : World) (es : Array Value), NT w1 es exA → Below w.heap.size w w1 → Calls Tryz.prog 8 #[.string ⟨#[83, 85, 77, 40, 65, 49, 58, 66, 50, 44, 41]⟩] (w1.alloc (.cells es 28)) fun e w2 => ∃ es2, e = .returned (.tuple #[.agg es2, .int .i64 10]) ∧ Hid ((Instr.storeAt 28 (.pointer (some ⟨w2.heap.size, 0, none⟩)) (.agg es2)).run Tryz.prog (w2.alloc (.cells nd0 28)) = .ok () (w2.alloc (.cells es2 28))) ∧
      Hid ((w2.alloc (.cells es2 28)).heap[w1.heap.size]? = some (.cells es 28) ∧ NT (w2.alloc (.cells es2 28)) es exA ∧ Below w.heap.size w (w2.alloc (.cells es2 28))) := fun w1 es hN hb => by
    have B1 := bel_alloc (Below.refl w1.heap.size w1) (.cells es 28)
    have := parseF_any [83, 85, 77, 40, 65, 49, 58, 66, 50, 44, 41] (w1.alloc (.cells es 28)) (T.below (bel_step hb B1))
    rw [parB] at this
    refine this.mono ?_
    rintro e w2 ⟨es2, rfl, hN2, _, hb2⟩
    have B2 := bel_alloc (Below.refl w2.heap.size w2) (.cells es2 28)
    have hg : w2.heap[w1.heap.size]? = some (.cells es 28) := (hb2.block _ (by simp)).trans (heap_alloc_new _ _)
    exact ⟨es2, rfl, (nbox w2 hN2).1, (B2.block _ (lt_of hg)).trans hg, ((hN.below B1).below hb2).below B2, bel_step (bel_step (bel_step hb B1) hb2) B2⟩
  have CP := fun (u : World) (es : Array Value) (hN : NT u es exA) (hb : Below w.heap.size w u) => printF_any (by rw [zA]; omega) ztA hN (T.below hb)
  have CD := fun (u : World) (es : Array Value) (hN : NT u es exA) => depth_any exA (by rw [zA]; omega) u es hN
  have CS := fun (u : World) (es : Array Value) (hN : NT u es exA) => fsize_any exA (by rw [zA]; omega) u es hN
  have HB := fun (w1 : World) (es : Array Value) (hN : NT w1 es exA) => (nbox w1 hN).1
  have LD := fun (w1 u : World) (g : Nat) (es : Array Value) (hN : NT w1 es exA) (hg : u.heap[g]? = some (.cells es 28)) => (nbox_at hN).2 hg
  rw [dA] at CD
  rw [zA] at CS
  rw [prA] at CP
  have STP : ∀ (u u' : World) (g : Nat) (es : Array Value), u.heap[g]? = some (.cells es 28) ∧ NT u es exA ∧ Below w.heap.size w u → Below u.heap.size u u' → u'.heap[g]? = some (.cells es 28) ∧ NT u' es exA ∧ Below w.heap.size w u' := fun u u' g es h hb => ⟨(hb.block _ (lt_of h.1)).trans h.1, h.2.1.below hb, bel_step h.2.2 hb⟩
  have hsx : exA.1.s.toList = [42] := by kernel_rfl
  have hsb : (exA.1.s.toList == [42]) = true := by rw [hsx]; rfl
  clear T hsx
  go_enter Tryz.func12, Tryz.ntmps12
  go_wp2_with (first
    | (go_at_call 8; refine P1.mono ?_; rintro e w1 ⟨p, n, c, rfl, HN⟩; clear P1; have RS : Hid _ := HB _ _ HN.out.1)
    | (refine wpList_store_run rfl 28 _ _ rfl _ _ _ rfl rfl RS.out ?_; clear RS)
    | (go_at_call 8; refine (P2 _ _ HN.out.1 HN.out.2).mono ?_; rintro e w2 ⟨es2, rfl, RS, HX⟩; clear P2 HN; have c1 := (box_all HX.out.1).2.1; have RL : Hid _ := LD _ _ _ _ HX.out.2.1 HX.out.1)
    | (refine wpList_load_g 28 _ rfl _ _ rfl RL.out (by go_simp) ?_)
    | (go_at_call 18; refine (CP _ _ HX.out.2.1 HX.out.2.2).mono ?_; rintro e w3 ⟨rfl, hb⟩; have HX2 := STP _ _ _ _ HX.out hb; clear hb HX RL c1; have RL : Hid _ := LD _ _ _ _ HX2.2.1 HX2.1; have HX : Hid _ := HX2; clear HX2)
    | (go_at_call 20; refine (CD _ _ HX.out.2.1).mono ?_; rintro e w3 ⟨rfl, hb⟩; have HX2 := STP _ _ _ _ HX.out hb; clear hb HX RL; have RL : Hid _ := LD _ _ _ _ HX2.2.1 HX2.1; have HX : Hid _ := HX2; clear HX2)
    | (go_at_call 22; refine (CS _ _ HX.out.2.1).mono ?_; rintro e w3 ⟨rfl, hb⟩; have HX2 := STP _ _ _ _ HX.out hb; clear hb HX RL; have HX : Hid _ := HX2; clear HX2))
  go_ret
  exact ⟨rfl, HX.out.2.2⟩
end Go.Proofs.YtljfkkpkcjigpaaGreatDoor

/- How much of a budget a tree leaves. -/
namespace Go.Proofs.YtljfkkpkcjigpaaGreatDoor
open Go.RowKit Go.Fm
set_option maxRecDepth 100000
set_option linter.unusedVariables false
set_option linter.unusedSimpArgs false
/-- The nodes of the first kids. -/
def szK (l : List T) (k : Nat) : Nat := ((l.take k).map zT).sum
theorem szK_succ (l : List T) (k : Nat) (s : T) (h : l[k]? = some s) : szK l (k + 1) = szK l k + zT s := by
  unfold szK
  rw [List.take_add_one, h]
  simp
theorem szK_all (l : List T) : szK l l.length = (l.map zT).sum := by unfold szK; rw [List.take_of_length_le (Nat.le_refl _)]
theorem szK_lt (l : List T) (k : Nat) (h : k < l.length) : szK l k + 1 ≤ (l.map zT).sum := by
  have h3 : (l.map zT).sum = ((l.take k).map zT).sum + ((l.drop k).map zT).sum := by rw [← List.sum_append, ← List.map_append, List.take_append_drop]
  have h4 : 1 ≤ ((l.drop k).map zT).sum := by
    rw [List.drop_eq_getElem_cons h, List.map_cons, List.sum_cons]
    have : 1 ≤ zT l[k] := by unfold zT; omega
    omega
  unfold szK
  omega
theorem szK_le (l : List T) : ∀ k, k ≤ l.length → k ≤ szK l k
  | 0, _ => Nat.zero_le _
  | k + 1, h => by
    have := szK_le l k (by omega)
    rw [szK_succ l k l[k] (List.getElem?_eq_getElem (by omega))]
    have : 1 ≤ zT l[k] := by unfold zT; omega
    omega
set_option maxHeartbeats 8000000 in
theorem left_any : ∀ t : T, ∀ (w : World) (es : Array Value), NT w es t → ∀ b : Nat, 1 ≤ b → b ≤ 1000000 → Calls Tryz.prog 30 #[.agg es, .int .i64 (b : Nat)] w fun e w' => e = .returned (.int .i64 ((b - zT t : Nat) : Int)) ∧ Below w.heap.size w w' := by
  refine ind ?_
  intro t ih w es h b hb1 hb2
  have hzT : zT t = ((kids t.2).map zT).sum + 1 := by unfold zT; rw [size_kids]; rfl
  obtain ⟨p, n, c, rfl, hs⟩ := h
  have HK : Hid (∀ s ∈ kids t.2, ∀ (w : World) (es : Array Value), NT w es s → ∀ b : Nat, 1 ≤ b → b ≤ 1000000 → Calls Tryz.prog 30 #[.agg es, .int .i64 (b : Nat)] w fun e w' => e = .returned (.int .i64 ((b - zT s : Nat) : Int)) ∧ Below w.heap.size w w') := ih
  have c17 := cell17 (heap_alloc_new w (.cells (lcs t.1 (.slice p n c)) 28))
  have HB0 : Hid (Below w.heap.size w (w.alloc (.cells (lcs t.1 (.slice p n c)) 28))) := bel_alloc (Below.refl _ _) _
  have hd1 : (b : Int) - 1 = ((b - 1 : Nat) : Int) := by omega
  have hwr : IntKind.i64.wrap ((b - 1 : Nat) : Int) = ((b - 1 : Nat) : Int) := by simp [IntKind.wrap, IntKind.bits, IntKind.signed]; omega
  have HS : Hid (SF w p n t.2) := hs
  have HL : Hid ((kids t.2).length = n) := hs.1.symm
  have HF : Hid (((kids t.2).map zT).sum + 1 = zT t) := hzT.symm
  have HBB : Hid (1 ≤ b ∧ b ≤ 1000000) := ⟨hb1, hb2⟩
  obtain ⟨b1, hbe⟩ : ∃ b1, b - 1 = b1 := ⟨_, rfl⟩
  have HBE : Hid (b = b1 + 1) := by show _ = _; omega
  rw [hbe] at hd1 hwr
  clear ih hs hzT hbe hb1 hb2
  generalize hq : ((b - zT t : Nat) : Int) = q
  have HQ : Hid (((b - zT t : Nat) : Int) = q) := hq
  clear hq
  generalize (b : Int) = bi at *
  generalize lcs t.1 (.slice p n c) = bx at *
  go_enter Tryz.func30, Tryz.ntmps30
  go_wp2
  go_loopw [1, 12] (fun bud i wr => ∃ k : Nat, k ≤ n ∧ i = .int .i64 (k : Nat) ∧ bud = .int .i64 ((b1 - szK (kids t.2) k : Nat) : Int) ∧ Hid (Below w.heap.size w wr)) (fun _ i _ => n - (intOf i).toNat)
  case atStart => exact ⟨0, Nat.zero_le _, rfl, by simp [szK], HB0⟩
  case round =>
    obtain ⟨k, hk, rfl, rfl, HB⟩ := hrel
    clear HB0
    by_cases hlt : k < n
    · have hki : (k : Int) < n := by omega
      obtain ⟨a', es, s, rfl, RL, HI, RS, RL2, HNT, HM⟩ := HS.out.step HB.out hlt
      have hkl : k < (kids t.2).length := by have := HL.out; omega
      by_cases hz : b1 - szK (kids t.2) k ≤ 0
      · have hzi : ((b1 - szK (kids t.2) k : Nat) : Int) ≤ 0 := by omega
        have HQ2 : Hid (q = 0) := by
          show _ = _
          rw [← HQ.out]
          have h1 := szK_lt _ _ hkl
          have h2 := HF.out
          have h3 := HBE.out
          omega
        have HBf : Hid (Below w.heap.size w (wr.alloc (.cells es 28))) := bel_alloc HB.out _
        clear hz HNT HM HI HQ
        generalize ((b1 - szK (kids t.2) k : Nat) : Int) = bd at *
        go_wp2_with (first
          | (refine wpList_load_run rfl 28 _ rfl _ _ rfl RL.out ?_; clear RL)
          | (refine wpList_store_run rfl 28 _ _ rfl _ _ _ rfl rfl RS.out ?_; clear RS))
        go_ret
        exact ⟨by rw [HQ2.out]; first | done | rfl, HBf.out⟩
      · have hzi : ¬ ((b1 - szK (kids t.2) k : Nat) : Int) ≤ 0 := by omega
        have C := HK.out s HM.out _ _ HNT.out (b1 - szK (kids t.2) k) (by omega) (by have := HBB.out; have := HBE.out; omega)
        have HN : Hid (b1 - szK (kids t.2) k - zT s = b1 - szK (kids t.2) (k + 1)) := by
          show _ = _
          rw [szK_succ _ _ _ HI.out]; omega
        have hkb : k ≤ 1000000 := by
          have := szK_le (kids t.2) k (by omega)
          have := HBB.out
          have := HBE.out
          omega
        clear hz HNT HM HI HQ
        generalize hbd : b1 - szK (kids t.2) k = bd at *
        clear hbd
        go_wp2_with (first
          | (refine wpList_load_run rfl 28 _ rfl _ _ rfl RL.out ?_; clear RL)
          | (refine wpList_store_run rfl 28 _ _ rfl _ _ _ rfl rfl RS.out ?_; clear RS)
          | (refine wpList_load_run rfl 28 _ rfl _ _ rfl RL2.out ?_; clear RL2)
          | (go_at_call 30; refine C.mono ?_; rintro e w3 ⟨rfl, hs⟩; have HU2 : Hid (Below w.heap.size w w3) := bel_step (bel_alloc HB.out _) hs; clear hs))
        go_roundw
        case rel => exact ⟨k + 1, by omega, by go_num, by rw [HN.out], HU2⟩
        case measure => simp [intOf]; omega
    · have hki : ¬ (k : Int) < n := by omega
      have HQ2 : Hid (q = ((b1 - szK (kids t.2) k : Nat) : Int)) := by
        show _ = _
        have h1 : k = (kids t.2).length := by have := HL.out; omega
        rw [← HQ.out, h1, szK_all]
        have h2 := HF.out
        have h3 := HBE.out
        omega
      generalize ((b1 - szK (kids t.2) k : Nat) : Int) = bd at *
      go_wp2
      go_ret
      exact ⟨by rw [HQ2.out]; first | done | rfl, HB.out⟩
set_option maxHeartbeats 1000000 in
/-- Is a tree too big? -/
theorem big_any {t : T} {w : World} {es : Array Value} (h : NT w es t) {b : Nat} (h1 : 1 ≤ b) (h2 : b ≤ 1000000) : Calls Tryz.prog 13 #[.agg es, .int .i64 (b : Nat)] w fun e w' => e = .returned (.bool (decide (b ≤ zT t))) ∧ Below w.heap.size w w' := by
  have C := left_any t (w.alloc (.cells es 28)) es (h.below (bel_alloc (Below.refl _ _) _)) b h1 h2
  have RL : Hid _ := (nbox_at h).2 (heap_alloc_new w (.cells es 28))
  have HQ : Hid (decide (((b - zT t : Nat) : Int) ≤ 0) = decide (b ≤ zT t)) := by show _ = _; simp; omega
  clear h
  generalize ((b - zT t : Nat) : Int) = q at *
  go_enter Tryz.func13, Tryz.ntmps13
  go_wp2_with (first
    | (refine wpList_load_run rfl 28 _ rfl _ _ rfl RL.out ?_; clear RL)
    | (go_at_call 30; refine C.mono ?_; rintro e w2 ⟨rfl, hs⟩; have HU2 : Hid (Below w.heap.size w w2) := bel1 hs; clear hs))
  go_ret
  exact ⟨by rw [← HQ.out]; first | done | rfl, HU2.out⟩
end Go.Proofs.YtljfkkpkcjigpaaGreatDoor

/- The law FormulaSizes, walked. -/
namespace Go.Proofs.YtljfkkpkcjigpaaGreatDoor
open Go.RowKit Go.Fm
set_option maxRecDepth 100000
set_option linter.unusedVariables false
set_option linter.unusedSimpArgs false
/-- A boxed node, and what is older. -/
structure QX (w : World) (es : Array Value) (u : World) : Prop where
  b : u.heap[w.heap.size]? = some (.cells es 28)
  l : Below w.heap.size w u
theorem QX.begin (w : World) (es : Array Value) : QX w es (w.alloc (.cells es 28)) := ⟨heap_alloc_new _ _, bel_alloc (Below.refl _ _) _⟩
theorem QX.bel {w u u' : World} {es : Array Value} (h : QX w es u) (hb : Below u.heap.size u u') : QX w es u' := ⟨(hb.block _ (lt_of h.b)).trans h.b, bel_step h.l hb⟩
theorem QX.load {w u : World} {es : Array Value} {t : T} (h : QX w es u) (hN : NT w es t) : (Instr.loadAt 28 (.pointer (some ⟨w.heap.size, 0, none⟩))).run Tryz.prog u = .ok (.agg es) u := (nbox_at hN).2 h.b
theorem gT_mono : ∀ t : T, ∀ d, gT okL d t = true → gT okL (d + 1) t = true := by
  refine ind ?_
  intro t ih d h
  rw [gT_eq, Bool.and_eq_true, Bool.and_eq_true] at h ⊢
  refine ⟨⟨by simp, h.1.2⟩, ?_⟩
  rw [List.all_eq_true] at *
  intro s hs
  have h0 : d ≠ 0 := by simpa using h.1.1
  have := ih s hs (d - 1) (h.2 s hs)
  rw [show d + 1 - 1 = d - 1 + 1 by omega]
  exact this
theorem good_kid {t s : T} (h : gT okL 24 t = true) (hs : s ∈ kids t.2) : gT okL 24 s = true := gT_mono s 23 ((good_split h).2 s hs)
section
variable {t : T} {w : World} {es : Array Value}
set_option maxHeartbeats 4000000 in
theorem sizes_big (hb : 400 ≤ zT t) (h : NT w es t) (T : Tab9 w) : Calls Tryz.prog 7 #[.agg es] w fun e w' => e = .returned (.bool true) ∧ Below w.heap.size w w' := by
  have Zc : Hid (QX w es (w.alloc (.cells es 28))) := QX.begin _ _
  have RL : Hid _ := Zc.out.load h
  have B := big_any (h.below Zc.out.l) (b := 400) (by omega) (by omega)
  rw [decide_eq_true hb] at B
  have LV := fun (u : World) (hu : Below w.heap.size w u) => lives_any u (T.below hu)
  clear h T hb
  go_enter Tryz.func7, Tryz.ntmps7
  go_wp2_with (first
    | (refine wpList_load_run rfl 28 _ rfl _ _ rfl RL.out ?_; clear RL)
    | (go_at_call 13; refine B.mono ?_; rintro e w1 ⟨rfl, hb⟩; have Z1 := Zc.out.bel hb; clear hb Zc B; have Zc : Hid _ := Z1; clear Z1)
    | (go_at_call 12; refine (LV _ Zc.out.l).mono ?_; rintro e w1 ⟨rfl, hb⟩; have Z1 := Zc.out.bel hb; clear hb Zc; have Zc : Hid _ := Z1; clear Z1))
  go_ret
  exact ⟨rfl, Zc.out.l⟩
set_option maxHeartbeats 16000000 in
theorem sizes_small (hb : zT t < 400) (hZ : ZT t) (h : NT w es t) (T : Tab9 w) : Calls Tryz.prog 7 #[.agg es] w fun e w' => e = .returned (.bool true) ∧ Below w.heap.size w w' := by
  have Zc : Hid (QX w es (w.alloc (.cells es 28))) := QX.begin _ _
  have RLD : Hid (∀ u, QX w es u → (Instr.loadAt 28 (.pointer (some ⟨w.heap.size, 0, none⟩))).run Tryz.prog u = .ok (.agg es) u) := fun u hu => hu.load h
  have RL : Hid _ := RLD.out _ Zc.out
  have B := big_any (h.below Zc.out.l) (b := 400) (by omega) (by omega)
  rw [decide_eq_false (by omega)] at B
  have LV := fun (u : World) (hu : Below w.heap.size w u) => lives_any u (T.below hu)
  have CD : Hid (∀ u, QX w es u → Calls Tryz.prog 20 #[.agg es] u fun e w' => e = .returned (.int .i64 (dT t : Nat)) ∧ Below u.heap.size u w') := fun u hu => depth_any t (by omega) u es (h.below hu.l)
  have CS : Hid (∀ u, QX w es u → Calls Tryz.prog 22 #[.agg es] u fun e w' => e = .returned (.int .i64 (zT t : Nat)) ∧ Below u.heap.size u w') := fun u hu => fsize_any t (by omega) u es (h.below hu.l)
  have CG : Hid (∀ u, QX w es u → Calls Tryz.prog 16 #[.agg es] u fun e w' => e = .returned (.bool (gT okL 24 t)) ∧ Below u.heap.size u w') := fun u hu => good_tree (by omega) hZ (h.below hu.l) (T.below hu.l).t.t
  have KG : Hid (∀ s ∈ kids t.2, ∀ (u : World) (es' : Array Value), NT u es' s → Below w.heap.size w u → Calls Tryz.prog 16 #[.agg es'] u fun e w' => e = .returned (.bool (gT okL 24 s)) ∧ Below u.heap.size u w') := fun s hs u es' hN hu => good_tree (by have := zT_kid hs; omega) (hZ.kid hs) hN (T.below hu).t.t
  have KS : Hid (∀ s ∈ kids t.2, ∀ (u : World) (es' : Array Value), NT u es' s → Calls Tryz.prog 22 #[.agg es'] u fun e w' => e = .returned (.int .i64 (zT s : Nat)) ∧ Below u.heap.size u w') := fun s hs u es' hN => fsize_any s (by have := zT_kid hs; omega) u es' hN
  have KK : Hid (∀ s ∈ kids t.2, gT okL 24 t = true → gT okL 24 s = true) := fun s hs hg => good_kid hg hs
  have hdz := dT_le t
  have hd1 : 1 ≤ dT t := by unfold dT; omega
  have hzT : zT t = ((kids t.2).map zT).sum + 1 := by unfold zT; rw [size_kids]; rfl
  have HZT : Hid (zT t = ((kids t.2).map zT).sum + 1) := hzT
  obtain ⟨p, n, c, hes, hs⟩ := h
  have HS : Hid (SF w p n t.2) := hs
  have HL : Hid ((kids t.2).length = n) := hs.1.symm
  have hn : n ≤ 400 := by have := kids_le t; have := hs.1; omega
  have C17 : Hid (∀ u, QX w es u → u.cell? ⟨w.heap.size, 17, none⟩ = some (.slice p n c)) := fun u hu => cell17 (by have := hu.b; rw [hes] at this; exact this)
  have hgt : ¬ ((zT t : Nat) : Int) < ((dT t : Nat) : Int) := by omega
  have hlt1 : ¬ ((dT t : Nat) : Int) < 1 := by omega
  have HB4 : Hid (zT t < 400) := hb
  clear hZ T hs hes hb hzT hdz hd1
  generalize hD : ((dT t : Nat) : Int) = D at *
  generalize hY : ((zT t : Nat) : Int) = Y at *
  clear hD
  have HY : Hid (((zT t : Nat) : Int) = Y) := hY
  clear hY
  go_enter Tryz.func7, Tryz.ntmps7
  go_wp2_with (first
    | (refine wpList_load_run rfl 28 _ rfl _ _ rfl RL.out ?_; clear RL)
    | (go_at_call 13; refine B.mono ?_; rintro e w1 ⟨rfl, hb⟩; have Z1 := Zc.out.bel hb; clear hb Zc B; have Zc : Hid _ := Z1; clear Z1))
  refine wp_region_d (fun u => (Instr.loadAt 28 (.pointer (some ⟨w.heap.size, 0, none⟩))).run Tryz.prog u = .ok (.agg es) u) (fun _ => false) (by kernel_rfl) ?_
  have Z1 := Zc.out.bel (Below.refl _ _).drew
  clear Zc
  have Zc : Hid _ := Z1
  clear Z1
  refine wpAnyD_loadd (i := 0) (v := .agg es) rfl rfl (by kernel_rfl) (by kernel_rfl) (by kernel_rfl) (by kernel_rfl) (fun _ _ _ h => h) (by go_simp) (fun u hSu => exec_load_run rfl rfl hSu) (RLD.out _ Zc.out) ?_
  try simp only [Act.put, List.setIfInBounds_toArray, List.set_cons_zero, List.set_cons_succ]
  refine wpAnyD_loadd (i := 2) (v := .agg es) rfl rfl (by kernel_rfl) (by kernel_rfl) (by kernel_rfl) (by kernel_rfl) (fun _ _ _ h => h) (by go_simp) (fun u hSu => exec_load_run rfl rfl hSu) (RLD.out _ Zc.out) ?_
  try simp only [Act.put, List.setIfInBounds_toArray, List.set_cons_zero, List.set_cons_succ]
  refine wpAnyD_one (i := 1) (by kernel_rfl) rfl ?_
  intro K hK
  go_simp
  refine (CD.out _ Zc.out).mono ?_
  rintro e w2 ⟨rfl, hb⟩
  have Z1 := Zc.out.bel hb
  clear hb Zc
  have Zc : Hid _ := Z1
  clear Z1
  refine hK _ _ (.inr fun _ => RLD.out _ Zc.out) ?_
  clear hK
  try simp only [Act.put, List.setIfInBounds_toArray, List.set_cons_zero, List.set_cons_succ]
  refine wpAnyD_one (i := 3) (by kernel_rfl) rfl ?_
  intro K hK
  go_simp
  refine (CS.out _ Zc.out).mono ?_
  rintro e w3 ⟨rfl, hb⟩
  have Z1 := Zc.out.bel hb
  clear hb Zc
  have Zc : Hid _ := Z1
  clear Z1
  refine hK _ _ (.inr fun _ => RLD.out _ Zc.out) ?_
  clear hK
  try simp only [Act.put, List.setIfInBounds_toArray, List.set_cons_zero, List.set_cons_succ]
  refine wpAnyD_pured (i := 4) (v := .bool false) rfl rfl (by kernel_rfl) (by kernel_rfl) (by kernel_rfl) (fun _ _ _ h => h) (by go_simp) (by intro u; go_simp) ?_
  try simp only [Act.put, List.setIfInBounds_toArray, List.set_cons_zero, List.set_cons_succ]
  refine wpAnyD_pured (i := 5) (v := .bool false) rfl rfl (by kernel_rfl) (by kernel_rfl) (by kernel_rfl) (fun _ _ _ h => h) (by go_simp) (by intro u; go_simp) ?_
  try simp only [Act.put, List.setIfInBounds_toArray, List.set_cons_zero, List.set_cons_succ]
  refine wpAnyD_loadd (i := 6) (v := .agg es) rfl rfl (by kernel_rfl) (by kernel_rfl) (by kernel_rfl) (by kernel_rfl) (fun _ _ _ h => h) (by go_simp) (fun u hSu => exec_load_run rfl rfl hSu) (RLD.out _ Zc.out) ?_
  try simp only [Act.put, List.setIfInBounds_toArray, List.set_cons_zero, List.set_cons_succ]
  refine wpAnyD_one (i := 7) (by kernel_rfl) rfl ?_
  intro K hK
  go_simp
  refine (CD.out _ Zc.out).mono ?_
  rintro e w4 ⟨rfl, hb⟩
  have Z1 := Zc.out.bel hb
  clear hb Zc
  have Zc : Hid _ := Z1
  clear Z1
  refine hK _ _ (.inr fun _ => RLD.out _ Zc.out) ?_
  clear hK
  try simp only [Act.put, List.setIfInBounds_toArray, List.set_cons_zero, List.set_cons_succ]
  refine wpAnyD_pured (i := 8) (v := .bool false) rfl rfl (by kernel_rfl) (by kernel_rfl) (by kernel_rfl) (fun _ _ _ h => h) (by go_simp) (by intro u; go_simp) ?_
  try simp only [Act.put, List.setIfInBounds_toArray, List.set_cons_zero, List.set_cons_succ]
  refine wpAnyD_pured (i := 9) (v := .bool false) rfl rfl (by kernel_rfl) (by kernel_rfl) (by kernel_rfl) (fun _ _ _ h => h) (by go_simp) (by intro u; go_simp) ?_
  try simp only [Act.put, List.setIfInBounds_toArray, List.set_cons_zero, List.set_cons_succ]
  refine wpAnyD_done (by kernel_rfl) ?_ _
  have RL : Hid _ := RLD.out _ Zc.out
  go_wp2_with (first
    | (refine wpList_load_run rfl 28 _ rfl _ _ rfl RL.out ?_; clear RL)
    | (go_at_call 16; refine (CG.out _ Zc.out).mono ?_; rintro e w5 ⟨rfl, hb⟩; have Z1 := Zc.out.bel hb; clear hb Zc; have c17 := C17.out _ Z1; have Zc : Hid _ := Z1; clear Z1))
  generalize hG : gT okL 24 t = G at *
  clear hG
  go_loopw [4, 25] (fun sz i wr => ∃ k : Nat, k ≤ n ∧ i = .int .i64 (k : Nat) ∧ sz = .int .i64 ((1 + szK (kids t.2) k : Nat) : Int) ∧ Hid (QX w es wr)) (fun _ i _ => n - (intOf i).toNat)
  case atStart => exact ⟨0, Nat.zero_le _, rfl, by simp [szK], Zc⟩
  case round =>
    obtain ⟨k, hk, rfl, rfl, HX⟩ := hrel
    clear Zc c17
    by_cases hlt : k < n
    · have hki : (k : Int) < n := by omega
      obtain ⟨a', es', s, rfl, RL, HI, RS, RL2, HNT, HM⟩ := HS.out.step HX.out.l hlt
      have hkl : k < (kids t.2).length := by have := HL.out; omega
      have B1 : Below wr.heap.size wr (wr.alloc (.cells es' 28)) := bel_alloc (Below.refl _ _) _
      have CG1 := KG.out s HM.out _ _ HNT.out (HX.out.bel B1).l
      have KH : Hid (G = true → gT okL 24 s = true) := KK.out s HM.out
      have CS1 := fun u (hu : Below (wr.alloc (.cells es' 28)).heap.size (wr.alloc (.cells es' 28)) u) => KS.out s HM.out u es' (HNT.out.below hu)
      have RLs : Hid (∀ u, Below (wr.alloc (.cells es' 28)).heap.size (wr.alloc (.cells es' 28)) u → (Instr.loadAt 28 (.pointer (some ⟨wr.heap.size, 0, none⟩))).run Tryz.prog u = .ok (.agg es') u) := fun u hu => (nbox_at HNT.out).2 ((hu.block _ (by simp)).trans (heap_alloc_new _ _))
      have hsz : szK (kids t.2) (k + 1) = szK (kids t.2) k + zT s := szK_succ _ _ _ HI.out
      have hle : szK (kids t.2) (k + 1) ≤ 400 := by
        have h1 := HB4.out
        have h2 := HZT.out
        rcases Nat.lt_or_ge (k + 1) (kids t.2).length with h | h
        · have := szK_lt _ _ h; omega
        · have e : k + 1 = (kids t.2).length := by omega
          rw [e, szK_all]; omega
      have HN : Hid (((1 + szK (kids t.2) k : Nat) : Int) + ((zT s : Nat) : Int) = ((1 + szK (kids t.2) (k + 1) : Nat) : Int)) := by show _ = _; omega
      have hwr : IntKind.i64.wrap (((1 + szK (kids t.2) k : Nat) : Int) + ((zT s : Nat) : Int)) = ((1 + szK (kids t.2) k : Nat) : Int) + ((zT s : Nat) : Int) := by
        rw [HN.out]
        have : 1 + szK (kids t.2) (k + 1) ≤ 401 := by omega
        generalize 1 + szK (kids t.2) (k + 1) = q at this
        simp [IntKind.wrap, IntKind.bits, IntKind.signed]; omega
      have HX1 : Hid (QX w es (wr.alloc (.cells es' 28))) := HX.out.bel B1
      have HB1 : Hid (Below (wr.alloc (.cells es' 28)).heap.size (wr.alloc (.cells es' 28)) (wr.alloc (.cells es' 28))) := Below.refl _ _
      clear B1 HNT HM HI hsz hle
      generalize ((1 + szK (kids t.2) k : Nat) : Int) = z0 at *
      generalize ((zT s : Nat) : Int) = zs at *
      cases G
      · have RLc : Hid _ := RLs.out _ HB1.out
        have CS2 := CS1 _ HB1.out
        go_wp2_with (first
          | (refine wpList_load_run rfl 28 _ rfl _ _ rfl RL.out ?_; clear RL)
          | (refine wpList_store_run rfl 28 _ _ rfl _ _ _ rfl rfl RS.out ?_; clear RS)
          | (refine wpList_load_run rfl 28 _ rfl _ _ rfl RLc.out ?_; clear RLc)
          | (go_at_call 22; refine CS2.mono ?_; rintro e w6 ⟨rfl, hb⟩; have HX2 : Hid _ := HX1.out.bel hb; clear hb))
        go_roundw
        case rel => exact ⟨k + 1, by omega, by go_num, by rw [← HN.out]; first | done | rfl, HX2⟩
        case measure => simp [intOf]; omega
      · have hgs := KH.out rfl
        rw [hgs] at CG1
        have RLc : Hid _ := RLs.out _ HB1.out
        have CG2 := CG1.mono (R' := fun e w6 => e = .returned (.bool true) ∧ Hid ((Instr.loadAt 28 (.pointer (some ⟨wr.heap.size, 0, none⟩))).run Tryz.prog w6 = .ok (.agg es') w6) ∧ Hid (QX w es w6) ∧ Calls Tryz.prog 22 #[.agg es'] w6 (fun e w' => e = .returned (.int .i64 zs) ∧ Below w6.heap.size w6 w')) (by
          rintro e w6 ⟨rfl, hb⟩
          exact ⟨rfl, RLs.out _ hb, HX1.out.bel hb, CS1 _ hb⟩)
        clear CG1 CS1 RLs HX1 hgs
        go_wp2_with (first
          | (refine wpList_load_run rfl 28 _ rfl _ _ rfl RL.out ?_; clear RL)
          | (refine wpList_store_run rfl 28 _ _ rfl _ _ _ rfl rfl RS.out ?_; clear RS)
          | (refine wpList_load_g 28 _ rfl _ _ rfl RLc.out (by go_simp) ?_; clear RLc)
          | (go_at_call 16; refine CG2.mono ?_; rintro e w6 ⟨rfl, RLd, HX1, CS2⟩; clear CG2)
          | (refine wpList_load_run rfl 28 _ rfl _ _ rfl RLd.out ?_; clear RLd)
          | (go_at_call 22; refine CS2.mono ?_; rintro e w7 ⟨rfl, hb⟩; have HX2 : Hid _ := HX1.out.bel hb; clear hb))
        go_roundw
        case rel => exact ⟨k + 1, by omega, by go_num, by rw [← HN.out]; first | done | rfl, HX2⟩
        case measure => simp [intOf]; omega
    · have hki : ¬ (k : Int) < n := by omega
      have HE : Hid (((1 + szK (kids t.2) k : Nat) : Int) = Y) := by
        show _ = _
        have h1 : k = (kids t.2).length := by have := HL.out; omega
        rw [← HY.out, h1, szK_all]
        have := HZT.out
        omega
      have heb : ((1 + szK (kids t.2) k : Nat) : Int) == Y := by rw [HE.out]; simp
      generalize ((1 + szK (kids t.2) k : Nat) : Int) = z0 at *
      have RLc : Hid _ := RLD.out _ HX.out
      go_wp2_with (first
        | (refine wpList_load_run rfl 28 _ rfl _ _ rfl RLc.out ?_; clear RLc)
        | (go_at_call 22; refine (CS.out _ HX.out).mono ?_; rintro e w6 ⟨rfl, hb⟩; have HX2 : Hid _ := HX.out.bel hb; clear hb)
        | (go_at_call 12; refine (LV _ HX2.out.l).mono ?_; rintro e w7 ⟨rfl, hb⟩; have HX3 : Hid _ := HX2.out.bel hb; clear hb))
      go_ret
      exact ⟨rfl, HX3.out.l⟩
end
theorem sizes_walk {t : T} {w : World} {es : Array Value} (hZ : ZT t) (h : NT w es t) (T : Tab9 w) : Calls Tryz.prog 7 #[.agg es] w fun e w' => e = .returned (.bool true) ∧ Below w.heap.size w w' := by
  rcases Nat.lt_or_ge (zT t) 400 with hb | hb
  · exact sizes_small hb hZ h T
  · exact sizes_big hb h T
end Go.Proofs.YtljfkkpkcjigpaaGreatDoor
