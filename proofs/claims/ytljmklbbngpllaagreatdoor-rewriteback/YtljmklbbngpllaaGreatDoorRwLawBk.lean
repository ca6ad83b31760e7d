/- RRight, FLeft, PlW0, RwLaw. -/
import Derived.Test.YtljmklbbngpllaaGreatDoorRRight3Bk
import Derived.Test.YtljmklbbngpllaaGreatDoorRRight4Bk
import Derived.Test.YtljmklbbngpllaaGreatDoorRRight6Bk
import Derived.Test.YtljmklbbngpllaaGreatDoorRRight7Bk
set_option linter.unusedVariables false
set_option linter.unusedSimpArgs false
set_option maxHeartbeats 16000000
set_option maxRecDepth 100000
namespace Go.Proofs.YtljmklbbngpllaaGreatDoor
open Go.RowKit Go.Fm
theorem aEx : tX := by
 intro t hz Z w es h T
 obtain ⟨p, n, c, rfl, hs⟩ := h
 obtain ⟨a, f⟩ := t
 have hn : n = (kids f).length := hs.1
 have ZL := Z.top
 show Calls Tryz.prog 65 #[.agg (lcs a (.slice p n c))] w fun e w' => e = .returned (.bool (okL a (kids f).length)) ∧ Below w.heap.size w w'
 rw [← hn]
 by_cases h1 : a.k = 1
 ·exact aIX h1 ZL hz hs
 by_cases h2 : a.k = 2
 ·exact aIY h2 ZL hz hs
 by_cases h3 : a.k = 3
 ·exact aIZ h3 ZL hz hs T
 by_cases h4 : a.k = 4
 ·exact aI0 h4 ZL hz hs
 by_cases h5 : a.k = 5
 ·exact aI1 h5 hz hs
 by_cases h6 : a.k = 6
 ·exact aI2 h6 hz hs
 by_cases h7 : a.k = 7
 ·exact aI3 h7 ZL hz hs
 have e : okL a n = false := by
  unfold okL fD
  rw [if_neg h1, if_neg h2, if_neg h3, if_neg h4, if_neg h5, if_neg h6, if_neg h7, Bool.and_false]
 rw [e]
 exact aCc (by simpa using h1) (by simpa using h2) (by simpa using h3) (by simpa using h4) (by simpa using h5) (by simpa using h6) (by simpa using h7)
def szK (l : List T) (k : Nat) : Nat := ((l.take k).map zT).sum
theorem aAM (l : List T) (k : Nat) (s : T) (h : l[k]? = some s) : szK l (k + 1) = szK l k + zT s := by
 unfold szK
 rw [List.take_add_one, h]
 simp
theorem aI4 (l : List T) : szK l l.length = (l.map zT).sum := by unfold szK; rw [List.take_of_length_le (Nat.le_refl _)]
theorem aKs (l : List T) (k : Nat) (h : k < l.length) : szK l k + 1 ≤ (l.map zT).sum := by
 have h3 : (l.map zT).sum = ((l.take k).map zT).sum + ((l.drop k).map zT).sum := by rw [← List.sum_append, ← List.map_append, List.take_append_drop]
 have h4 : 1 ≤ ((l.drop k).map zT).sum := by
  rw [List.drop_eq_getElem_cons h, List.map_cons, List.sum_cons]
  have : 1 ≤ zT l[k] := by unfold zT; omega
  omega
 unfold szK
 omega
theorem aGY (l : List T) : ∀ k, k ≤ l.length → k ≤ szK l k
 | 0, _ => Nat.zero_le _
 | k + 1, h => by
  have := aGY l k (by omega)
  rw [aAM l k l[k] (List.getElem?_eq_getElem (by omega))]
  have : 1 ≤ zT l[k] := by unfold zT; omega
  omega
theorem aGZ : ∀ t : T, ∀ (w : World) (es : Array Value), NT w es t → ∀ b : Nat, 1 ≤ b → b ≤ 1000000 → Calls Tryz.prog 22 #[.agg es, .int .i64 (b : Nat)] w fun e w' => e = .returned (.int .i64 ((b - zT t : Nat) : Int)) ∧ Below w.heap.size w w' := by
 refine ind ?_
 intro t ih w es h b hb1 hb2
 have hzT : zT t = ((kids t.2).map zT).sum + 1 := by unfold zT; rw [gL]; rfl
 obtain ⟨p, n, c, rfl, hs⟩ := h
 have HK : Hid (∀ s ∈ kids t.2, ∀ (w : World) (es : Array Value), NT w es s → ∀ b : Nat, 1 ≤ b → b ≤ 1000000 → Calls Tryz.prog 22 #[.agg es, .int .i64 (b : Nat)] w fun e w' => e = .returned (.int .i64 ((b - zT s : Nat) : Int)) ∧ Below w.heap.size w w') := ih
 have c17 := aU (heap_alloc_new w (.cells (lcs t.1 (.slice p n c)) 28))
 have HB0 : Hid (Below w.heap.size w (w.alloc (.cells (lcs t.1 (.slice p n c)) 28))) := aC (Below.refl _ _) _
 have hd1 : (b : Int) - 1 = ((b - 1 : Nat) : Int) := by omega
 have hwr : IntKind.i64.wrap ((b - 1 : Nat) : Int) = ((b - 1 : Nat) : Int) := by simp [IntKind.wrap, IntKind.bits, IntKind.signed]; omega
 have HS : Hid (SF w p n t.2) := hs
 have HL : Hid ((kids t.2).length = n) := hs.1.symm
 have HF : Hid (((kids t.2).map zT).sum + 1 = zT t) := hzT.symm
 have HBB : Hid (1 ≤ b ∧ b ≤ 1000000) := ⟨hb1, hb2⟩
 obtain ⟨b1, hbe⟩ : ∃ b1, b - 1 = b1 := ⟨_, rfl⟩
 have HBE : Hid (b = b1 + 1) := by show _ = _; omega
 rw [hbe] at hd1 hwr
 clear ih hs hzT hbe hb1 hb2
 generalize hq : ((b - zT t : Nat) : Int) = q
 have HQ : Hid (((b - zT t : Nat) : Int) = q) := hq
 clear hq
 generalize (b : Int) = bi at *
 generalize lcs t.1 (.slice p n c) = bx at *
 go_enter Tryz.func22, Tryz.ntmps22
 go_wp2
 go_loopw [1, 12] (fun bud i wr => ∃ k : Nat, k ≤ n ∧ i = .int .i64 (k : Nat) ∧ bud = .int .i64 ((b1 - szK (kids t.2) k : Nat) : Int) ∧ Hid (Below w.heap.size w wr)) (fun _ i _ => n - (intOf i).toNat)
 case atStart => exact ⟨0, Nat.zero_le _, rfl, by simp [szK], HB0⟩
 case round =>
  obtain ⟨k, hk, rfl, rfl, HB⟩ := hrel
  clear HB0
  by_cases hlt : k < n
  ·have hki : (k : Int) < n := by omega
   obtain ⟨a', es, s, rfl, RL, HI, RS, RL2, HNT, HM⟩ := HS.out.step HB.out hlt
   have hkl : k < (kids t.2).length := by have := HL.out; omega
   by_cases hz : b1 - szK (kids t.2) k ≤ 0
   ·have hzi : ((b1 - szK (kids t.2) k : Nat) : Int) ≤ 0 := by omega
    have HQ2 : Hid (q = 0) := by
     show _ = _
     rw [← HQ.out]
     have h1 := aKs _ _ hkl
     have h2 := HF.out
     have h3 := HBE.out
     omega
    have HBf : Hid (Below w.heap.size w (wr.alloc (.cells es 28))) := aC HB.out _
    clear hz HNT HM HI HQ
    generalize ((b1 - szK (kids t.2) k : Nat) : Int) = bd at *
    go_wp2_with (first
     | (refine aA rfl 28 _ rfl _ _ rfl RL.out ?_; clear RL)
     | (refine aB rfl 28 _ _ rfl _ _ _ rfl rfl RS.out ?_; clear RS))
    go_ret
    exact ⟨by rw [HQ2.out]; first | done | rfl, HBf.out⟩
   ·have hzi : ¬ ((b1 - szK (kids t.2) k : Nat) : Int) ≤ 0 := by omega
    have C := HK.out s HM.out _ _ HNT.out (b1 - szK (kids t.2) k) (by omega) (by have := HBB.out; have := HBE.out; omega)
    have HN : Hid (b1 - szK (kids t.2) k - zT s = b1 - szK (kids t.2) (k + 1)) := by
     show _ = _
     rw [aAM _ _ _ HI.out]; omega
    have hkb : k ≤ 1000000 := by
     have := aGY (kids t.2) k (by omega)
     have := HBB.out
     have := HBE.out
     omega
    clear hz HNT HM HI HQ
    generalize hbd : b1 - szK (kids t.2) k = bd at *
    clear hbd
    go_wp2_with (first
     | (refine aA rfl 28 _ rfl _ _ rfl RL.out ?_; clear RL)
     | (refine aB rfl 28 _ _ rfl _ _ _ rfl rfl RS.out ?_; clear RS)
     | (refine aA rfl 28 _ rfl _ _ rfl RL2.out ?_; clear RL2)
     | (go_at_call 22; refine C.mono ?_; rintro e w3 ⟨rfl, hs⟩; have HU2 : Hid (Below w.heap.size w w3) := aJ (aC HB.out _) hs; clear hs))
    go_roundw
    case rel => exact ⟨k + 1, by omega, by go_num, by rw [HN.out], HU2⟩
    case measure => simp [intOf]; omega
  ·have hki : ¬ (k : Int) < n := by omega
   have HQ2 : Hid (q = ((b1 - szK (kids t.2) k : Nat) : Int)) := by
    show _ = _
    have h1 : k = (kids t.2).length := by have := HL.out; omega
    rw [← HQ.out, h1, aI4]
    have h2 := HF.out
    have h3 := HBE.out
    omega
   generalize ((b1 - szK (kids t.2) k : Nat) : Int) = bd at *
   go_wp2
   go_ret
   exact ⟨by rw [HQ2.out]; first | done | rfl, HB.out⟩
theorem aI5 {t : T} {w : World} {es : Array Value} (h : NT w es t) {b : Nat} (h1 : 1 ≤ b) (h2 : b ≤ 1000000) : Calls Tryz.prog 8 #[.agg es, .int .i64 (b : Nat)] w fun e w' => e = .returned (.bool (decide (b ≤ zT t))) ∧ Below w.heap.size w w' := by
 have C := aGZ t (w.alloc (.cells es 28)) es (h.below (aC (Below.refl _ _) _)) b h1 h2
 have RL : Hid _ := (iA h).2 (heap_alloc_new w (.cells es 28))
 have HQ : Hid (decide (((b - zT t : Nat) : Int) ≤ 0) = decide (b ≤ zT t)) := by show _ = _; simp; omega
 clear h
 generalize ((b - zT t : Nat) : Int) = q at *
 go_enter Tryz.func8, Tryz.ntmps8
 go_wp2_with (first
  | (refine aA rfl 28 _ rfl _ _ rfl RL.out ?_; clear RL)
  | (go_at_call 22; refine C.mono ?_; rintro e w2 ⟨rfl, hs⟩; have HU2 : Hid (Below w.heap.size w w2) := aS hs; clear hs))
 go_ret
 exact ⟨by rw [← HQ.out]; first | done | rfl, HU2.out⟩
end Go.Proofs.YtljmklbbngpllaaGreatDoor
namespace Go.Proofs.YtljmklbbngpllaaGreatDoor.Rw
open Go.RowKit Go.Fm
attribute [local go_sem] eP bJ
abbrev rfN (x : Rf) : Array Value := lcs (jH x) (.slice none 0 0)
structure PB (w : World) (x : Rf) (H : Hm) (C : Chg) (u : World) : Prop where
 b0 : u.heap[w.heap.size]? = some (rfO x)
 b1 : u.heap[w.heap.size + 1]? = some (bK H.hb H.hs H.hr H.hc)
 b2 : u.heap[w.heap.size + 2]? = some (.cells (bT C) 34)
 b3 : u.heap[w.heap.size + 3]? = some (.cells (rfN x) 28)
 bel : Below w.heap.size w u
theorem dI {u : World} {g : Nat} {C : Chg} (h : u.heap[g]? = some (.cells (bT C) 34)) : u.cell? ⟨g, 2, none⟩ = some (.bool C.dr) ∧ u.cell? ⟨g, 3, none⟩ = some (.bool C.co) ∧ u.cell? ⟨g, 4, none⟩ = some (.int .i64 C.a) ∧ u.cell? ⟨g, 5, none⟩ = some (.int .i64 C.n) ∧ u.cell? ⟨g, 6, none⟩ = some (.int .i64 C.m) := by
 simp [World.cell?, h]
theorem dM {u : World} {g : Nat} {C : Chg} (h : u.heap[g]? = some (.cells (bT C) 34)) : (Instr.loadAt 32 (.pointer (some ⟨g, 4, none⟩))).run Tryz.prog u = .ok (Hs.shV C.a C.n C.m) u := by
 obtain ⟨_, _, h4, h5, h6⟩ := dI h
 exact bW (P := Tryz.prog) u ⟨g, 4, none⟩ 32 [.int .i64 C.a, .int .i64 C.n, .int .i64 C.m] _ (fun j v hj => by
  have hadd : (⟨g, 4, none⟩ : Addr).add j = ⟨g, 4 + j, none⟩ := by unfold Addr.add; split <;> simp_all
  rw [hadd]
  match j, hj with
  | 0, hj => cases hj; exact h4
  | 1, hj => cases hj; exact h5
  | 2, hj => cases hj; exact h6) Tryz.underlying32 rfl (by kernel_rfl)
end Go.Proofs.YtljmklbbngpllaaGreatDoor.Rw
namespace Go.Proofs.YtljmklbbngpllaaGreatDoor.Rw
open Go.RowKit Go.Fm
structure LB (w : World) (es : Array Value) (H : Hm) (C : Chg) (u : World) : Prop where
 b0 : u.heap[w.heap.size]? = some (.cells es 28)
 b1 : u.heap[w.heap.size + 1]? = some (bK H.hb H.hs H.hr H.hc)
 b2 : u.heap[w.heap.size + 2]? = some (.cells (bT C) 34)
 bel : Below w.heap.size w u
theorem LB.step {w : World} {es : Array Value} {H : Hm} {C : Chg} {u v : World} (h : LB w es H C u) (hb : Below u.heap.size u v) : LB w es H C v :=
 ⟨(hb.block _ (aW h.b0)).trans h.b0, (hb.block _ (aW h.b1)).trans h.b1, (hb.block _ (aW h.b2)).trans h.b2, aJ h.bel hb⟩
theorem LB.new (w : World) (es : Array Value) (H : Hm) (C : Chg) : LB w es H C (((w.alloc (.cells es 28)).alloc (bK H.hb H.hs H.hr H.hc)).alloc (.cells (bT C) 34)) := by
 obtain ⟨q0, q1, q2⟩ := aHd (Below.refl ((((w.alloc (.cells es 28)).alloc (bK H.hb H.hs H.hr H.hc)).alloc (.cells (bT C) 34))).heap.size (((w.alloc (.cells es 28)).alloc (bK H.hb H.hs H.hr H.hc)).alloc (.cells (bT C) 34)))
 exact ⟨q0, q1, q2, aC (aC (aC (Below.refl _ _) _) _) _⟩
structure TB (t : T) (g : Nat) (es : Array Value) (u : World) : Prop where
 h : u.heap[g]? = some (.cells es 28)
 n : NT u es t
end Go.Proofs.YtljmklbbngpllaaGreatDoor.Rw
