/- OtW. -/
import Derived.Test.YtljmklbbngpllaaGreatDoorOtW0Ot
set_option linter.unusedVariables false
set_option linter.unusedSimpArgs false
set_option maxHeartbeats 16000000
set_option maxRecDepth 100000
namespace Go.Proofs.YtljmklbbngpllaaGreatDoor.Rw
open Go.RowKit Go.Fm
theorem others_any {t : T} {es : Array Value} (H : Hm) (C : Chg) {w : World} (hN : NT w es t) (hZ : ZT t) (T : Tab9 w) :
  Calls Tryz.prog 5 #[.agg es, hmV H, .agg (chgC C)] w fun e w' => e = .returned (.bool true) ∧ Below w.heap.size w w' := by
 have HLv : Hid (∀ u, LB w es H C u → Calls Tryz.prog 9 #[] u fun e w' => e = .returned (.bool true) ∧ Below u.heap.size u w') := fun u hu => lives_any u (T.below hu.bel)
 have HBig : Hid (∀ u, LB w es H C u → TB t w.heap.size es u → Calls Tryz.prog 8 #[.agg es, .int .i64 400] u fun e w' => e = .returned (.bool (decide (400 ≤ zT t))) ∧ Below u.heap.size u w') := fun u hu ht => big_any (b := 400) ht.n (by omega) (by omega)
 by_cases hb : 400 ≤ zT t
 ·rw [decide_eq_true hb] at HBig
  exact others_big (t' := t) hN HBig HLv
 rw [decide_eq_false hb] at HBig
 have hz : zT t ≤ 900 := by omega
 have HG : Hid (∀ u, LB w es H C u → TB t w.heap.size es u → Calls Tryz.prog 18 #[.agg es] u fun e w' => e = .returned (.bool (gT okL 24 t)) ∧ Below u.heap.size u w') := fun u hu ht => rgood_tree right_all (by omega) hZ ht.n (T.below hu.bel)
 cases hg : gT okL 24 t
 ·rw [hg] at HG
  exact others_bad (t' := t) hN HBig HG HLv
 rw [hg] at HG
 have hmo : most C = if C.co = true then 26 else 64 := rfl
 by_cases hm : most C < C.m
 ·rw [hmo] at hm
  cases hc : C.co
  ·rw [hc] at hm; exact others_mostf (t' := t) hc hm hN HBig HG HLv
  ·rw [hc] at hm; exact others_mostt (t' := t) hc hm hN HBig HG HLv
 have hm1 : C.m ≤ most C := by omega
 have hzr : zT (rwT C H t) ≤ 900 := Nat.le_trans (zT_rw C H t) hz
 have HNo : Hid (∀ u, LB w es H C u → TB t w.heap.size es u → Calls Tryz.prog 10 #[.agg es, hmV H, .agg (chgC C)] u fun e w' => ∃ es', e = .returned (.tuple #[.agg es', .bool (rwB C H t)]) ∧ NT w' es' (rwT C H t) ∧ Below u.heap.size u w') := fun u hu ht => by
  refine (rwnode_any C H hz ht.n.nk (fun i hi => hi)).mono ?_
  rintro e w' ⟨es', rfl, hn, hb⟩
  exact ⟨es', rfl, hn.nt, hb⟩
 have HNm : Hid (∀ u, LB w es H C u → TB t w.heap.size es u → Calls Tryz.prog 14 #[.agg es, hmV H, .agg (chgC C)] u fun e w' => e = .returned (.bool (nmT C H t)) ∧ Below u.heap.size u w') := fun u hu ht => rwnames_any C H hz ht.n.nk (fun i hi => hi)
 have HSm : Hid (∀ u es' g, LB w es H C u → TB t w.heap.size es u → TB (rwT C H t) g es' u → Calls Tryz.prog 13 #[.agg es', .agg es] u fun e w' => e = .returned (.bool (sT (rwT C H t) t)) ∧ Below u.heap.size u w') := fun u es' g hu ht hq => rsame_any _ (by omega) t u es' es hq.n ht.n
 have HG2 : Hid (∀ u es' g, LB w es H C u → TB (rwT C H t) g es' u → Calls Tryz.prog 18 #[.agg es'] u fun e w' => e = .returned (.bool true) ∧ Below u.heap.size u w') := fun u es' g hu hq => by
  have := rgood_tree right_all (by omega) (ZT_rw (C := C) (H := H) hZ) hq.n (T.below hu.bel)
  rw [gT_rw hm1 hg] at this
  exact this
 have HNm2 : Hid (∀ u es' g, LB w es H C u → TB (rwT C H t) g es' u → Calls Tryz.prog 14 #[.agg es', hmV H, .agg (chgC C)] u fun e w' => e = .returned (.bool (nmT C H (rwT C H t))) ∧ Below u.heap.size u w') := fun u es' g hu hq => rwnames_any C H hzr hq.n.nk (fun i hi => hi)
 have ha := rwT_tell (C := C) (H := H) hg
 rw [ha] at HNo
 have hst : nmT C H t = false → sT (rwT C H t) t = true := fun e => (rwT_stay e).1
 have hgo : C.dr = true → nmT C H (rwT C H t) = false := fun e => rwT_gone e t
 clear ha T
 generalize rwT C H t = t' at *
 cases hn : nmT C H t
 ·rw [hn] at HNm
  have hs := hst hn
  rw [hs] at HSm HNo
  cases hd : C.dr
  ·exact others_ff (sq := false) hd hN HBig HG HNo HNm HSm HG2 HNm2 HLv
  ·rw [hgo hd] at HNm2
   exact others_tf (sq := false) (nq := false) hd hN HBig HG HNo HNm HSm HG2 HNm2 HLv
 ·rw [hn] at HNm
  cases hd : C.dr
  ·exact others_ft hd hN HBig HG HNo HNm HSm HG2 HNm2 HLv
  ·rw [hgo hd] at HNm2
   exact others_tt (nq := false) hd hN HBig HG HNo HNm HSm HG2 HNm2 HLv
end Go.Proofs.YtljmklbbngpllaaGreatDoor.Rw
