/- BkW. -/
import Derived.Test.YtljmklbbngpllaaGreatDoorBkW1Bk
set_option linter.unusedVariables false
set_option linter.unusedSimpArgs false
set_option maxHeartbeats 16000000
set_option maxRecDepth 100000
namespace Go.Proofs.YtljmklbbngpllaaGreatDoor.Rw
open Go.RowKit Go.Fm
theorem aHa {t : T} {es : Array Value} (H : Hm) (C : Chg) {w : World} (hN : NT w es t) (hZ : ZT t) (T : cZ w) :
  Calls Tryz.prog 6 #[.agg es, hmV H, .agg (bT C)] w fun e w' => e = .returned (.bool true) ∧ Below w.heap.size w w' := by
 have HLv : Hid (∀ u, LB w es H C u → Calls Tryz.prog 9 #[] u fun e w' => e = .returned (.bool true) ∧ Below u.heap.size u w') := fun u hu => vV u (T.below hu.bel)
 have aL2 : Hid (∀ u, LB w es H (neg C) u → Calls Tryz.prog 9 #[] u fun e w' => e = .returned (.bool true) ∧ Below u.heap.size u w') := fun u hu => vV u (T.below hu.bel)
 have fC : Hid (∀ u, LB w es H C u → TK (KO w) t w.heap.size es u → Calls Tryz.prog 8 #[.agg es, .int .i64 400] u fun e w' => e = .returned (.bool (decide (400 ≤ zT t))) ∧ Below u.heap.size u w') := fun u hu ht => aI5 (b := 400) ht.n.nt (by omega) (by omega)
 by_cases hb : 400 ≤ zT t
 ·rw [decide_eq_true hb] at fC
  exact aG7 hN fC HLv
 rw [decide_eq_false hb] at fC
 have hz : zT t ≤ 900 := by omega
 have HG : Hid (∀ u, LB w es H C u → TK (KO w) t w.heap.size es u → Calls Tryz.prog 18 #[.agg es] u fun e w' => e = .returned (.bool (gT okL 24 t)) ∧ Below u.heap.size u w') := fun u hu ht => aCb aEx (by omega) hZ ht.n.nt (T.below hu.bel)
 cases hg : gT okL 24 t
 ·rw [hg] at HG
  exact aG8 hN fC HG HLv
 rw [hg] at HG
 cases hd : C.dr
 case true => exact aEy hd hN fC HG HLv
 by_cases hn : C.n < 1
 ·exact aG9 hd hn hN fC HG HLv
 have hn1 : 1 ≤ C.n := by omega
 have HGs : Hid (∀ u, LB w es H C u → TK (KO w) t w.heap.size es u → Calls Tryz.prog 19 #[Hs.shV C.a C.n C.m] u fun e w' => e = .returned (.bool (Hs.bB C.a C.n C.m)) ∧ Below u.heap.size u w') := fun u _ _ => Hs.iG _ _ _ u
 cases hs : Hs.bB C.a C.n C.m
 ·rw [hs] at HGs
  exact aCi hd hn1 hN fC HG HGs HLv
 rw [hs] at HGs
 have hbd := Hs.qN hs
 by_cases hm : 64 < C.m
 ·exact aEz hd hn1 hm hN fC HG HGs HLv
 have hm1 : C.m ≤ 64 := by omega
 have HFl : Hid (∀ u, LB w es H C u → TK (KO w) t w.heap.size es u → Calls Tryz.prog 20 #[.agg es, Hs.shV C.a C.n C.m, .bool C.co] u fun e w' => e = .returned (.bool ((dA t).any (fun x => flL C.co C.n C.m x.1))) ∧ Below u.heap.size u w') := fun u _ ht => by
  cases hc : C.co
  ·exact aAP hz ht.n.nt _ _ _ (aJp hg) hn1 (by omega)
  ·exact aCf hz ht.n.nt _ _ _ (aJp hg) hn1 (by omega)
 cases hf : (dA t).any (fun x => flL C.co C.n C.m x.1)
 case true =>
  rw [hf] at HFl
  exact aCj hd hn1 hm1 hN fC HG HGs HFl HLv
 rw [hf] at HFl
 have hback := aG5 (H := H) hd hs hn1 hg hf
 have hz1 : zT (rwT C H t) ≤ 900 := Nat.le_trans (aGt C H t) hz
 have hz2 : zT (rwT (neg C) H (rwT C H t)) ≤ 900 := Nat.le_trans (aGt (neg C) H _) hz1
 have HN1 : Hid (∀ u, LB w es H C u → TK (KO w) t w.heap.size es u → Calls Tryz.prog 10 #[.agg es, hmV H, .agg (bT C)] u fun e w' => ∃ es', e = .returned (.tuple #[.agg es', .bool (rwB C H t)]) ∧ NK (KN w) w' es' (rwT C H t) ∧ Below u.heap.size u w') := fun u hu ht => by
  have hlt := aW hu.b2
  refine (kE C H hz ht.n (fun i hi => by have : i < w.heap.size := hi; omega)).mono ?_
  rintro e w' ⟨es', rfl, hk, hbl⟩
  exact ⟨es', rfl, hk.mono (fun i hi _ => by show w.heap.size + 3 ≤ i; omega), hbl⟩
 have HN2 : Hid (∀ u g es', LB w es H (neg C) u → TK (KN w) (rwT C H t) g es' u → Calls Tryz.prog 10 #[.agg es', hmV H, .agg (bT (neg C))] u fun e w' => ∃ es2, e = .returned (.tuple #[.agg es2, .bool (rwB (neg C) H (rwT C H t))]) ∧ NK (KN w) w' es2 (rwT (neg C) H (rwT C H t)) ∧ Below u.heap.size u w') := fun u g es' hu hq => by
  have hlt := aW hu.b2
  refine (kE (neg C) H hz1 hq.n.nt.nk (fun i hi => hi)).mono ?_
  rintro e w' ⟨es2, rfl, hk, hbl⟩
  exact ⟨es2, rfl, hk.mono (fun i hi _ => by show w.heap.size + 3 ≤ i; omega), hbl⟩
 have HSm : Hid (∀ u g es2, LB w es H (neg C) u → TK (KO w) t w.heap.size es u → TK (KN w) (rwT (neg C) H (rwT C H t)) g es2 u → Calls Tryz.prog 13 #[.agg es2, .agg es] u fun e w' => e = .returned (.bool true) ∧ Below u.heap.size u w') := fun u g es2 hu ht hq => by
  have := vX _ (by omega) t u es2 es hq.n.nt ht.n.nt
  rw [hback] at this
  exact this
 exact aEA hd hn1 hm1 (aAN (by omega) (by omega)) hN fC HG HGs HFl HN1 HN2 HSm aL2
end Go.Proofs.YtljmklbbngpllaaGreatDoor.Rw
