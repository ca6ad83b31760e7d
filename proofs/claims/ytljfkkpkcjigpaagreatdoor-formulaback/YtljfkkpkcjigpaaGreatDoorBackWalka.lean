/- Back3, Back4, Back5, Back6, BackWalk. -/
import Derived.Test.YtljfkkpkcjigpaaGreatDoorBack2a
set_option linter.unusedVariables false
set_option linter.unusedSimpArgs false
namespace Go.Proofs.YtljfkkpkcjigpaaGreatDoor
open Go.RowKit Go.Fm
set_option maxRecDepth 100000
section
variable {t : T} {w : World} {es : Array Value}
set_option maxHeartbeats 16000000 in
theorem back_long_err {l : List UInt8} (hz : zT t < 400) (hZ : ZT t) (h : NT w es t) (T : Tab9 w) (hg : gT okL 24 t = true) (hl : ¬ (printN t).length ≤ 255) (he : (parF l).2 ≠ 0) : Calls Tryz.prog 6 #[.agg es, .string (ba l)] w fun e w' => e = .returned (.bool true) ∧ Below w.heap.size w w' := by
  have Zc : Hid (QX w es (w.alloc (.cells es 28))) := QX.begin _ _
  have RLD : Hid (∀ u, QX w es u → (Instr.loadAt 28 (.pointer (some ⟨w.heap.size, 0, none⟩))).run Tryz.prog u = .ok (.agg es) u) := fun u hu => hu.load h
  have RL1 : Hid _ := RLD.out _ Zc.out
  have B := big_any (h.below Zc.out.l) (b := 400) (by omega) (by omega)
  rw [decide_eq_false (by omega)] at B
  have CG : Hid (∀ u, QX w es u → Calls Tryz.prog 16 #[.agg es] u fun e w' => e = .returned (.bool (gT okL 24 t)) ∧ Below u.heap.size u w') := fun u hu => good_tree (by omega) hZ (h.below hu.l) (T.below hu.l).t.t
  rw [hg] at CG
  have CQ : Hid (∀ u, QX w es u → Calls Tryz.prog 8 #[.string (ba l)] u fun e w' => ∃ fs, e = .returned (.tuple #[.agg fs, .int .i64 (parF l).2]) ∧ Hid (QX w es w') ∧ Hid (NT w' fs (parF l).1)) := fun u hu => (parseF_any l u (T.below hu.l)).mono (by
    rintro e w' ⟨fs, rfl, h1, h2, h3⟩
    exact ⟨fs, rfl, hu.bel h3, h1⟩)
  have CP : Hid (∀ u, QX w es u → Calls Tryz.prog 18 #[.agg es] u fun e w' => e = .returned (.string (ba (printN t))) ∧ Below u.heap.size u w') := fun u hu => printF_any (by omega) hZ (h.below hu.l) (T.below hu.l)
  have CR : Hid (∀ u, QX w es u → Calls Tryz.prog 8 #[.string (ba (printN t))] u fun e w' => ∃ fs, e = .returned (.tuple #[.agg fs, .int .i64 (parF (printN t)).2]) ∧ Hid (QX w es w') ∧ Hid (NT w' fs (parF (printN t)).1)) := fun u hu => (parseF_any (printN t) u (T.below hu.l)).mono (by
    rintro e w' ⟨fs, rfl, h1, h2, h3⟩
    exact ⟨fs, rfl, hu.bel h3, h1⟩)
  have hsz : (ba (printN t)).size = (printN t).length := size_mk _
  have hA : decide (((ba (printN t)).size : Int) ≤ 255) = false := by rw [decide_eq_false_iff_not]; omega
  have hne : ((parF l).2 == 0) = false := by simpa using he
  have LV : Hid (∀ u, QX w es u → Calls Tryz.prog 12 #[] u fun e w' => e = .returned (.bool true) ∧ Below u.heap.size u w') := fun u hu => lives_any u (T.below hu.l)
  clear h T hg hZ he hz hl hsz
  generalize ba (printN t) = A at *
  generalize (parF (printN t)).2 = ea at *
  generalize ba l = S at *
  generalize (parF l).2 = el at *
  go_enter Tryz.func6, Tryz.ntmps6
  go_wp2_with (first
    | (refine wpList_load_run rfl 28 _ rfl _ _ rfl RL1.out ?_; clear RL1)
    | (go_at_call 13; refine B.mono ?_; rintro e w1 ⟨rfl, hb⟩; have Z1 := Zc.out.bel hb; clear hb Zc; have Zc : Hid _ := Z1; clear Z1; have RL2 : Hid _ := RLD.out _ Zc.out; clear B)
    | (refine wpList_load_run rfl 28 _ rfl _ _ rfl RL2.out ?_; clear RL2)
    | (go_at_call 16; refine (CG.out _ Zc.out).mono ?_; rintro e w2 ⟨rfl, hb⟩; have Z1 := Zc.out.bel hb; clear hb Zc; have Zc : Hid _ := Z1; clear Z1; have RL3 : Hid _ := RLD.out _ Zc.out; clear CG)
    | (refine wpList_load_run rfl 28 _ rfl _ _ rfl RL3.out ?_; clear RL3)
    | (go_at_call 18; refine (CP.out _ Zc.out).mono ?_; rintro e w3 ⟨rfl, hb⟩; have Z1 := Zc.out.bel hb; clear hb Zc; have Zc : Hid _ := Z1; clear Z1; clear CP)
    | (go_at_call 8; refine (CR.out _ Zc.out).mono ?_; rintro e w4 ⟨fs, rfl, hq, hn⟩; obtain ⟨RS4, Y4⟩ := hq.out.box hn.out; clear CR Zc hq hn)
    | (refine wpList_store_run rfl 28 _ _ rfl _ _ _ rfl rfl RS4.out ?_; clear RS4; have RL4 : Hid _ := Y4.out.load; have RL5 : Hid _ := RLD.out _ Y4.out.q; have Zc : Hid _ := Y4.out.q)
    | (go_at_call 8; refine (CQ.out _ Zc.out).mono ?_; rintro e w6 ⟨fs6, rfl, hq, hn⟩; obtain ⟨RS6, Y6⟩ := hq.out.box hn.out; clear CQ Zc hq hn)
    | (refine wpList_store_run rfl 28 _ _ rfl _ _ _ rfl rfl RS6.out ?_; clear RS6; have RL6 : Hid _ := Y6.out.load)
    | (go_at_call 12; refine (LV.out _ Y6.out.q).mono ?_; rintro e wl ⟨rfl, hb⟩; have HE : Hid (Below w.heap.size w wl) := bel_step Y6.out.q.l hb; clear hb))
  go_ret
  exact ⟨by first | rfl | (simp; done), HE.out⟩
end
end Go.Proofs.YtljfkkpkcjigpaaGreatDoor

namespace Go.Proofs.YtljfkkpkcjigpaaGreatDoor
open Go.RowKit Go.Fm
set_option maxRecDepth 100000
section
variable {t : T} {w : World} {es : Array Value}
set_option maxHeartbeats 16000000 in
theorem back_long_ok {l : List UInt8} (hz : zT t < 400) (hZ : ZT t) (h : NT w es t) (T : Tab9 w) (hg : gT okL 24 t = true) (hl : ¬ (printN t).length ≤ 255) (he : (parF l).2 = 0) : Calls Tryz.prog 6 #[.agg es, .string (ba l)] w fun e w' => e = .returned (.bool true) ∧ Below w.heap.size w w' := by
  have Zc : Hid (QX w es (w.alloc (.cells es 28))) := QX.begin _ _
  have RLD : Hid (∀ u, QX w es u → (Instr.loadAt 28 (.pointer (some ⟨w.heap.size, 0, none⟩))).run Tryz.prog u = .ok (.agg es) u) := fun u hu => hu.load h
  have RL1 : Hid _ := RLD.out _ Zc.out
  have B := big_any (h.below Zc.out.l) (b := 400) (by omega) (by omega)
  rw [decide_eq_false (by omega)] at B
  have CG : Hid (∀ u, QX w es u → Calls Tryz.prog 16 #[.agg es] u fun e w' => e = .returned (.bool (gT okL 24 t)) ∧ Below u.heap.size u w') := fun u hu => good_tree (by omega) hZ (h.below hu.l) (T.below hu.l).t.t
  rw [hg] at CG
  have CQ : Hid (∀ u, QX w es u → Calls Tryz.prog 8 #[.string (ba l)] u fun e w' => ∃ fs, e = .returned (.tuple #[.agg fs, .int .i64 (parF l).2]) ∧ Hid (QX w es w') ∧ Hid (NT w' fs (parF l).1)) := fun u hu => (parseF_any l u (T.below hu.l)).mono (by
    rintro e w' ⟨fs, rfl, h1, h2, h3⟩
    exact ⟨fs, rfl, hu.bel h3, h1⟩)
  have CP : Hid (∀ u, QX w es u → Calls Tryz.prog 18 #[.agg es] u fun e w' => e = .returned (.string (ba (printN t))) ∧ Below u.heap.size u w') := fun u hu => printF_any (by omega) hZ (h.below hu.l) (T.below hu.l)
  have CR : Hid (∀ u, QX w es u → Calls Tryz.prog 8 #[.string (ba (printN t))] u fun e w' => ∃ fs, e = .returned (.tuple #[.agg fs, .int .i64 (parF (printN t)).2]) ∧ Hid (QX w es w') ∧ Hid (NT w' fs (parF (printN t)).1)) := fun u hu => (parseF_any (printN t) u (T.below hu.l)).mono (by
    rintro e w' ⟨fs, rfl, h1, h2, h3⟩
    exact ⟨fs, rfl, hu.bel h3, h1⟩)
  have hsz : (ba (printN t)).size = (printN t).length := size_mk _
  have hA : decide (((ba (printN t)).size : Int) ≤ 255) = false := by rw [decide_eq_false_iff_not]; omega
  obtain ⟨p, hp⟩ : ∃ p, parF l = (p, 0) := ⟨(parF l).1, by rw [← he]⟩
  obtain ⟨hgp, hlp, hl255⟩ := par_back hp
  rw [hp] at CQ
  have hZp := good_ZT p 24 hgp
  have hzp : zT p ≤ 256 := par_zT hp
  have KP : Hid (∀ u g fs, YX w es g fs p u → Calls Tryz.prog 18 #[.agg fs] u fun e w' => e = .returned (.string (ba (printN p))) ∧ Below u.heap.size u w') := fun u g fs hu => printF_any (by omega) hZp hu.n (T.below hu.q.l)
  have KR : Hid (∀ u g fs, YX w es g fs p u → Calls Tryz.prog 8 #[.string (ba (printN p))] u fun e w' => ∃ gs, e = .returned (.tuple #[.agg gs, .int .i64 0]) ∧ Hid (YX w es g fs p w') ∧ Hid (NT w' gs (nT p))) := fun u g fs hu => by
    have := parseF_any (printN p) u (T.below hu.q.l)
    rw [good_back hgp (by omega)] at this
    refine this.mono ?_
    rintro e w' ⟨gs, rfl, h1, h2, h3⟩
    exact ⟨gs, rfl, hu.bel h3, h1⟩
  have KG : Hid (∀ u g fs g' fs', VX w es g fs p g' fs' (nT p) u → Calls Tryz.prog 16 #[.agg fs] u fun e w' => e = .returned (.bool true) ∧ Below u.heap.size u w') := fun u g fs g' fs' hu => by
    have := good_tree (by omega) hZp hu.y.n (T.below hu.y.q.l).t.t
    rw [hgp] at this
    exact this
  have KS : Hid (∀ u g fs g' fs', VX w es g fs p g' fs' (nT p) u → Calls Tryz.prog 11 #[.agg fs', .agg fs] u fun e w' => e = .returned (.bool true) ∧ Below u.heap.size u w') := fun u g fs g' fs' hu => by
    have := rsame_any (nT p) (by rw [zT_nT]; omega) p u fs' fs hu.n hu.y.n
    rw [sT_nT] at this
    exact this
  have LV : Hid (∀ u g fs g' fs', VX w es g fs p g' fs' (nT p) u → Calls Tryz.prog 12 #[] u fun e w' => e = .returned (.bool true) ∧ Below u.heap.size u w') := fun u g fs g' fs' hu => lives_any u (T.below hu.y.q.l)
  have hlen : ((ba (printN p)).size : Int) ≤ ((ba l).size : Int) := by rw [size_mk, size_mk]; omega
  clear h T hg hZ he hz hl hsz
  clear hgp hlp hl255 hZp hzp
  generalize ba (printN t) = A at *
  generalize (parF (printN t)).2 = ea at *
  generalize ba l = S at *
  generalize ba (printN p) = P at *
  go_enter Tryz.func6, Tryz.ntmps6
  go_wp2_with (first
    | (refine wpList_load_run rfl 28 _ rfl _ _ rfl RL1.out ?_; clear RL1)
    | (go_at_call 13; refine B.mono ?_; rintro e w1 ⟨rfl, hb⟩; have Z1 := Zc.out.bel hb; clear hb Zc; have Zc : Hid _ := Z1; clear Z1; have RL2 : Hid _ := RLD.out _ Zc.out; clear B)
    | (refine wpList_load_run rfl 28 _ rfl _ _ rfl RL2.out ?_; clear RL2)
    | (go_at_call 16; refine (CG.out _ Zc.out).mono ?_; rintro e w2 ⟨rfl, hb⟩; have Z1 := Zc.out.bel hb; clear hb Zc; have Zc : Hid _ := Z1; clear Z1; have RL3 : Hid _ := RLD.out _ Zc.out; clear CG)
    | (refine wpList_load_run rfl 28 _ rfl _ _ rfl RL3.out ?_; clear RL3)
    | (go_at_call 18; refine (CP.out _ Zc.out).mono ?_; rintro e w3 ⟨rfl, hb⟩; have Z1 := Zc.out.bel hb; clear hb Zc; have Zc : Hid _ := Z1; clear Z1; clear CP)
    | (go_at_call 8; refine (CR.out _ Zc.out).mono ?_; rintro e w4 ⟨fs, rfl, hq, hn⟩; obtain ⟨RS4, Y4⟩ := hq.out.box hn.out; clear CR Zc hq hn)
    | (refine wpList_store_run rfl 28 _ _ rfl _ _ _ rfl rfl RS4.out ?_; clear RS4; have RL4 : Hid _ := Y4.out.load; have RL5 : Hid _ := RLD.out _ Y4.out.q; have Zc : Hid _ := Y4.out.q)
    | (go_at_call 8; refine (CQ.out _ Zc.out).mono ?_; rintro e w6 ⟨fs6, rfl, hq, hn⟩; obtain ⟨RS6, Y6⟩ := hq.out.box hn.out; clear CQ Zc hq hn)
    | (refine wpList_store_run rfl 28 _ _ rfl _ _ _ rfl rfl RS6.out ?_; clear RS6; have RL6 : Hid _ := Y6.out.load)
    | (refine wpList_load_run rfl 28 _ rfl _ _ rfl RL6.out ?_; clear RL6)
    | (go_at_call 18; refine (KP.out _ _ _ Y6.out).mono ?_; rintro e w7 ⟨rfl, hb⟩; have Y7 : Hid _ := Y6.out.bel hb; clear hb KP Y6)
    | (go_at_call 8; refine (KR.out _ _ _ Y7.out).mono ?_; rintro e w8 ⟨gs, rfl, hq, hn⟩; obtain ⟨RS8, V8⟩ := hq.out.box hn.out; clear KR Y7 hq hn)
    | (refine wpList_store_run rfl 28 _ _ rfl _ _ _ rfl rfl RS8.out ?_; clear RS8; have RL8 : Hid _ := V8.out.y.load)
    | (refine wpList_load_run rfl 28 _ rfl _ _ rfl RL8.out ?_; clear RL8)
    | (go_at_call 16; refine (KG.out _ _ _ _ _ V8.out).mono ?_; rintro e w9 ⟨rfl, hb⟩; have Z1 := V8.out.bel hb; clear hb V8; have V8 : Hid _ := Z1; clear Z1; have RL9 : Hid _ := V8.out.load; have RL10 : Hid _ := V8.out.y.load; clear KG)
    | (refine wpList_load_g 28 _ rfl _ _ rfl RL9.out (by go_simp) ?_; clear RL9)
    | (refine wpList_load_g 28 _ rfl _ _ rfl RL10.out (by go_simp) ?_; clear RL10)
    | (go_at_call 11; refine (KS.out _ _ _ _ _ V8.out).mono ?_; rintro e w10 ⟨rfl, hb⟩; have Z1 := V8.out.bel hb; clear hb V8; have V8 : Hid _ := Z1; clear Z1; clear KS)
    | (go_at_call 12; refine (LV.out _ _ _ _ _ V8.out).mono ?_; rintro e wl ⟨rfl, hb⟩; have HE : Hid (Below w.heap.size w wl) := bel_step V8.out.y.q.l hb; clear hb))
  go_ret
  exact ⟨by first | rfl | (simp; done), HE.out⟩
end
end Go.Proofs.YtljfkkpkcjigpaaGreatDoor

namespace Go.Proofs.YtljfkkpkcjigpaaGreatDoor
open Go.RowKit Go.Fm
set_option maxRecDepth 100000
section
variable {t : T} {w : World} {es : Array Value}
set_option maxHeartbeats 16000000 in
theorem back_bad_err {l : List UInt8} (hz : zT t < 400) (hZ : ZT t) (h : NT w es t) (T : Tab9 w) (hg : gT okL 24 t = false) (he : (parF l).2 ≠ 0) : Calls Tryz.prog 6 #[.agg es, .string (ba l)] w fun e w' => e = .returned (.bool true) ∧ Below w.heap.size w w' := by
  have Zc : Hid (QX w es (w.alloc (.cells es 28))) := QX.begin _ _
  have RLD : Hid (∀ u, QX w es u → (Instr.loadAt 28 (.pointer (some ⟨w.heap.size, 0, none⟩))).run Tryz.prog u = .ok (.agg es) u) := fun u hu => hu.load h
  have RL1 : Hid _ := RLD.out _ Zc.out
  have B := big_any (h.below Zc.out.l) (b := 400) (by omega) (by omega)
  rw [decide_eq_false (by omega)] at B
  have CG : Hid (∀ u, QX w es u → Calls Tryz.prog 16 #[.agg es] u fun e w' => e = .returned (.bool (gT okL 24 t)) ∧ Below u.heap.size u w') := fun u hu => good_tree (by omega) hZ (h.below hu.l) (T.below hu.l).t.t
  rw [hg] at CG
  have CQ : Hid (∀ u, QX w es u → Calls Tryz.prog 8 #[.string (ba l)] u fun e w' => ∃ fs, e = .returned (.tuple #[.agg fs, .int .i64 (parF l).2]) ∧ Hid (QX w es w') ∧ Hid (NT w' fs (parF l).1)) := fun u hu => (parseF_any l u (T.below hu.l)).mono (by
    rintro e w' ⟨fs, rfl, h1, h2, h3⟩
    exact ⟨fs, rfl, hu.bel h3, h1⟩)
  have hne : ((parF l).2 == 0) = false := by simpa using he
  have LV : Hid (∀ u, QX w es u → Calls Tryz.prog 12 #[] u fun e w' => e = .returned (.bool true) ∧ Below u.heap.size u w') := fun u hu => lives_any u (T.below hu.l)
  clear h T hg hZ he hz
  generalize ba l = S at *
  generalize (parF l).2 = el at *
  go_enter Tryz.func6, Tryz.ntmps6
  go_wp2_with (first
    | (refine wpList_load_run rfl 28 _ rfl _ _ rfl RL1.out ?_; clear RL1)
    | (go_at_call 13; refine B.mono ?_; rintro e w1 ⟨rfl, hb⟩; have Z1 := Zc.out.bel hb; clear hb Zc; have Zc : Hid _ := Z1; clear Z1; have RL2 : Hid _ := RLD.out _ Zc.out; clear B)
    | (refine wpList_load_run rfl 28 _ rfl _ _ rfl RL2.out ?_; clear RL2)
    | (go_at_call 16; refine (CG.out _ Zc.out).mono ?_; rintro e w2 ⟨rfl, hb⟩; have Z1 := Zc.out.bel hb; clear hb Zc; have Zc : Hid _ := Z1; clear Z1; have RL3 : Hid _ := RLD.out _ Zc.out; clear CG)
    | (go_at_call 8; refine (CQ.out _ Zc.out).mono ?_; rintro e w6 ⟨fs6, rfl, hq, hn⟩; obtain ⟨RS6, Y6⟩ := hq.out.box hn.out; clear CQ Zc hq hn)
    | (refine wpList_store_run rfl 28 _ _ rfl _ _ _ rfl rfl RS6.out ?_; clear RS6; have RL6 : Hid _ := Y6.out.load)
    | (go_at_call 12; refine (LV.out _ Y6.out.q).mono ?_; rintro e wl ⟨rfl, hb⟩; have HE : Hid (Below w.heap.size w wl) := bel_step Y6.out.q.l hb; clear hb))
  go_ret
  exact ⟨by first | rfl | (simp; done), HE.out⟩
end
end Go.Proofs.YtljfkkpkcjigpaaGreatDoor

namespace Go.Proofs.YtljfkkpkcjigpaaGreatDoor
open Go.RowKit Go.Fm
set_option maxRecDepth 100000
section
variable {t : T} {w : World} {es : Array Value}
set_option maxHeartbeats 16000000 in
theorem back_bad_ok {l : List UInt8} (hz : zT t < 400) (hZ : ZT t) (h : NT w es t) (T : Tab9 w) (hg : gT okL 24 t = false) (he : (parF l).2 = 0) : Calls Tryz.prog 6 #[.agg es, .string (ba l)] w fun e w' => e = .returned (.bool true) ∧ Below w.heap.size w w' := by
  have Zc : Hid (QX w es (w.alloc (.cells es 28))) := QX.begin _ _
  have RLD : Hid (∀ u, QX w es u → (Instr.loadAt 28 (.pointer (some ⟨w.heap.size, 0, none⟩))).run Tryz.prog u = .ok (.agg es) u) := fun u hu => hu.load h
  have RL1 : Hid _ := RLD.out _ Zc.out
  have B := big_any (h.below Zc.out.l) (b := 400) (by omega) (by omega)
  rw [decide_eq_false (by omega)] at B
  have CG : Hid (∀ u, QX w es u → Calls Tryz.prog 16 #[.agg es] u fun e w' => e = .returned (.bool (gT okL 24 t)) ∧ Below u.heap.size u w') := fun u hu => good_tree (by omega) hZ (h.below hu.l) (T.below hu.l).t.t
  rw [hg] at CG
  have CQ : Hid (∀ u, QX w es u → Calls Tryz.prog 8 #[.string (ba l)] u fun e w' => ∃ fs, e = .returned (.tuple #[.agg fs, .int .i64 (parF l).2]) ∧ Hid (QX w es w') ∧ Hid (NT w' fs (parF l).1)) := fun u hu => (parseF_any l u (T.below hu.l)).mono (by
    rintro e w' ⟨fs, rfl, h1, h2, h3⟩
    exact ⟨fs, rfl, hu.bel h3, h1⟩)
  obtain ⟨p, hp⟩ : ∃ p, parF l = (p, 0) := ⟨(parF l).1, by rw [← he]⟩
  obtain ⟨hgp, hlp, hl255⟩ := par_back hp
  rw [hp] at CQ
  have hZp := good_ZT p 24 hgp
  have hzp : zT p ≤ 256 := par_zT hp
  have KP : Hid (∀ u g fs, YX w es g fs p u → Calls Tryz.prog 18 #[.agg fs] u fun e w' => e = .returned (.string (ba (printN p))) ∧ Below u.heap.size u w') := fun u g fs hu => printF_any (by omega) hZp hu.n (T.below hu.q.l)
  have KR : Hid (∀ u g fs, YX w es g fs p u → Calls Tryz.prog 8 #[.string (ba (printN p))] u fun e w' => ∃ gs, e = .returned (.tuple #[.agg gs, .int .i64 0]) ∧ Hid (YX w es g fs p w') ∧ Hid (NT w' gs (nT p))) := fun u g fs hu => by
    have := parseF_any (printN p) u (T.below hu.q.l)
    rw [good_back hgp (by omega)] at this
    refine this.mono ?_
    rintro e w' ⟨gs, rfl, h1, h2, h3⟩
    exact ⟨gs, rfl, hu.bel h3, h1⟩
  have KG : Hid (∀ u g fs g' fs', VX w es g fs p g' fs' (nT p) u → Calls Tryz.prog 16 #[.agg fs] u fun e w' => e = .returned (.bool true) ∧ Below u.heap.size u w') := fun u g fs g' fs' hu => by
    have := good_tree (by omega) hZp hu.y.n (T.below hu.y.q.l).t.t
    rw [hgp] at this
    exact this
  have KS : Hid (∀ u g fs g' fs', VX w es g fs p g' fs' (nT p) u → Calls Tryz.prog 11 #[.agg fs', .agg fs] u fun e w' => e = .returned (.bool true) ∧ Below u.heap.size u w') := fun u g fs g' fs' hu => by
    have := rsame_any (nT p) (by rw [zT_nT]; omega) p u fs' fs hu.n hu.y.n
    rw [sT_nT] at this
    exact this
  have LV : Hid (∀ u g fs g' fs', VX w es g fs p g' fs' (nT p) u → Calls Tryz.prog 12 #[] u fun e w' => e = .returned (.bool true) ∧ Below u.heap.size u w') := fun u g fs g' fs' hu => lives_any u (T.below hu.y.q.l)
  have hlen : ((ba (printN p)).size : Int) ≤ ((ba l).size : Int) := by rw [size_mk, size_mk]; omega
  clear h T hg hZ he hz
  clear hgp hlp hl255 hZp hzp
  generalize ba l = S at *
  generalize ba (printN p) = P at *
  go_enter Tryz.func6, Tryz.ntmps6
  go_wp2_with (first
    | (refine wpList_load_run rfl 28 _ rfl _ _ rfl RL1.out ?_; clear RL1)
    | (go_at_call 13; refine B.mono ?_; rintro e w1 ⟨rfl, hb⟩; have Z1 := Zc.out.bel hb; clear hb Zc; have Zc : Hid _ := Z1; clear Z1; have RL2 : Hid _ := RLD.out _ Zc.out; clear B)
    | (refine wpList_load_run rfl 28 _ rfl _ _ rfl RL2.out ?_; clear RL2)
    | (go_at_call 16; refine (CG.out _ Zc.out).mono ?_; rintro e w2 ⟨rfl, hb⟩; have Z1 := Zc.out.bel hb; clear hb Zc; have Zc : Hid _ := Z1; clear Z1; have RL3 : Hid _ := RLD.out _ Zc.out; clear CG)
    | (go_at_call 8; refine (CQ.out _ Zc.out).mono ?_; rintro e w6 ⟨fs6, rfl, hq, hn⟩; obtain ⟨RS6, Y6⟩ := hq.out.box hn.out; clear CQ Zc hq hn)
    | (refine wpList_store_run rfl 28 _ _ rfl _ _ _ rfl rfl RS6.out ?_; clear RS6; have RL6 : Hid _ := Y6.out.load)
    | (refine wpList_load_run rfl 28 _ rfl _ _ rfl RL6.out ?_; clear RL6)
    | (go_at_call 18; refine (KP.out _ _ _ Y6.out).mono ?_; rintro e w7 ⟨rfl, hb⟩; have Y7 : Hid _ := Y6.out.bel hb; clear hb KP Y6)
    | (go_at_call 8; refine (KR.out _ _ _ Y7.out).mono ?_; rintro e w8 ⟨gs, rfl, hq, hn⟩; obtain ⟨RS8, V8⟩ := hq.out.box hn.out; clear KR Y7 hq hn)
    | (refine wpList_store_run rfl 28 _ _ rfl _ _ _ rfl rfl RS8.out ?_; clear RS8; have RL8 : Hid _ := V8.out.y.load)
    | (refine wpList_load_run rfl 28 _ rfl _ _ rfl RL8.out ?_; clear RL8)
    | (go_at_call 16; refine (KG.out _ _ _ _ _ V8.out).mono ?_; rintro e w9 ⟨rfl, hb⟩; have Z1 := V8.out.bel hb; clear hb V8; have V8 : Hid _ := Z1; clear Z1; have RL9 : Hid _ := V8.out.load; have RL10 : Hid _ := V8.out.y.load; clear KG)
    | (refine wpList_load_g 28 _ rfl _ _ rfl RL9.out (by go_simp) ?_; clear RL9)
    | (refine wpList_load_g 28 _ rfl _ _ rfl RL10.out (by go_simp) ?_; clear RL10)
    | (go_at_call 11; refine (KS.out _ _ _ _ _ V8.out).mono ?_; rintro e w10 ⟨rfl, hb⟩; have Z1 := V8.out.bel hb; clear hb V8; have V8 : Hid _ := Z1; clear Z1; clear KS)
    | (go_at_call 12; refine (LV.out _ _ _ _ _ V8.out).mono ?_; rintro e wl ⟨rfl, hb⟩; have HE : Hid (Below w.heap.size w wl) := bel_step V8.out.y.q.l hb; clear hb))
  go_ret
  exact ⟨by first | rfl | (simp; done), HE.out⟩
end
end Go.Proofs.YtljfkkpkcjigpaaGreatDoor

namespace Go.Proofs.YtljfkkpkcjigpaaGreatDoor
open Go.RowKit Go.Fm
set_option maxRecDepth 100000
theorem back_walk {t : T} {w : World} {es : Array Value} {A : ByteArray} (hZ : ZT t) (h : NT w es t) (T : Tab9 w) : Calls Tryz.prog 6 #[.agg es, .string A] w fun e w' => e = .returned (.bool true) ∧ Below w.heap.size w w' := by
  obtain ⟨l, rfl⟩ : ∃ l, A = ba l := ⟨A.data.toList, rfl⟩
  rcases Nat.lt_or_ge (zT t) 400 with hz | hz
  · by_cases he : (parF l).2 = 0
    · cases hg : gT okL 24 t
      · exact back_bad_ok hz hZ h T hg he
      · by_cases hl : (printN t).length ≤ 255
        · exact back_good_ok hz hZ h T hg hl he
        · exact back_long_ok hz hZ h T hg hl he
    · cases hg : gT okL 24 t
      · exact back_bad_err hz hZ h T hg he
      · by_cases hl : (printN t).length ≤ 255
        · exact back_good_err hz hZ h T hg hl he
        · exact back_long_err hz hZ h T hg hl he
  · exact back_big hz h T
end Go.Proofs.YtljfkkpkcjigpaaGreatDoor
