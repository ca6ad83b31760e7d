/- OtW0. -/
import Derived.Test.YtljmklbbngpllaaGreatDoorRwLawOt
set_option linter.unusedVariables false
set_option linter.unusedSimpArgs false
set_option maxHeartbeats 16000000
set_option maxRecDepth 100000
namespace Go.Proofs.YtljmklbbngpllaaGreatDoor.Rw
open Go.RowKit Go.Fm
theorem others_big {t t' : T} {es : Array Value} {H : Hm} {C : Chg} {w : World}  (h0 : NT w es t)
  (HBig : Hid (∀ u, LB w es H C u → TB t w.heap.size es u → Calls Tryz.prog 8 #[.agg es, .int .i64 400] u fun e w' => e = .returned (.bool true) ∧ Below u.heap.size u w'))
  (HLv : Hid (∀ u, LB w es H C u → Calls Tryz.prog 9 #[] u fun e w' => e = .returned (.bool true) ∧ Below u.heap.size u w')) :
  Calls Tryz.prog 5 #[.agg es, hmV H, .agg (chgC C)] w fun e w' => e = .returned (.bool true) ∧ Below w.heap.size w w' := by
 have HX : Hid (LB w es H C (((w.alloc (.cells es 28)).alloc (plcO H.hb H.hs H.hr H.hc)).alloc (.cells (chgC C) 34))) := LB.new w es H C
 have HT : Hid (TB t w.heap.size es (((w.alloc (.cells es 28)).alloc (plcO H.hb H.hs H.hr H.hc)).alloc (.cells (chgC C) 34))) := ⟨HX.out.b0, h0.below HX.out.bel⟩
 clear h0
 have RN : Hid _ := HT.out.lod
 have RH : Hid _ := hlod HX.out.b1
 have RC : Hid _ := clod HX.out.b2
 obtain ⟨d2, d3, d4, d5, d6⟩ := chg34 HX.out.b2
 skip
 go_enter Tryz.func5, Tryz.ntmps5
 go_wp2_with (first
  | ((with_reducible show wpList _ _ _ ({ dst := _, op := Op.load 28 _, type := _, pos := _, after := _, guard := none } :: _) _ _); refine wpList_load_run rfl 28 _ rfl _ _ rfl RN.out ?_)
  | ((with_reducible show wpList _ _ _ ({ dst := _, op := Op.load 28 _, type := _, pos := _, after := _, guard := some _ } :: _) _ _); refine wpList_load_g 28 _ rfl _ _ rfl RN.out ?hw ?_; (case hw => (go_simp; done)))
  | ((with_reducible show wpList _ _ _ ({ dst := _, op := Op.load 30 _, type := _, pos := _, after := _, guard := none } :: _) _ _); refine wpList_load_run rfl 30 _ rfl _ _ rfl RH.out ?_)
  | ((with_reducible show wpList _ _ _ ({ dst := _, op := Op.load 30 _, type := _, pos := _, after := _, guard := some _ } :: _) _ _); refine wpList_load_g 30 _ rfl _ _ rfl RH.out ?hw ?_; (case hw => (go_simp; done)))
  | ((with_reducible show wpList _ _ _ ({ dst := _, op := Op.load 34 _, type := _, pos := _, after := _, guard := none } :: _) _ _); refine wpList_load_run rfl 34 _ rfl _ _ rfl RC.out ?_)
  | ((with_reducible show wpList _ _ _ ({ dst := _, op := Op.load 34 _, type := _, pos := _, after := _, guard := some _ } :: _) _ _); refine wpList_load_g 34 _ rfl _ _ rfl RC.out ?hw ?_; (case hw => (go_simp; done)))
  | (go_at_call 8; refine (HBig.out _ HX.out HT.out).mono ?_; clear HBig; rintro e u8 ⟨rfl, hb⟩; have HX : Hid _ := HX.out.step hb; have HT : Hid _ := HT.out.step hb; clear hb; clear RN RH RC d2 d3 d4 d5 d6; have RN : Hid _ := HT.out.lod; have RH : Hid _ := hlod HX.out.b1; have RC : Hid _ := clod HX.out.b2; obtain ⟨d2, d3, d4, d5, d6⟩ := chg34 HX.out.b2; skip)
  | (go_at_call 9; refine (HLv.out _ HX.out).mono ?_; clear HLv; rintro e u9 ⟨rfl, hb⟩; have HX : Hid _ := HX.out.step hb; clear hb))
 all_goals (go_ret; exact ⟨rfl, HX.out.bel⟩)
theorem others_bad {t t' : T} {es : Array Value} {H : Hm} {C : Chg} {w : World}  (h0 : NT w es t)
  (HBig : Hid (∀ u, LB w es H C u → TB t w.heap.size es u → Calls Tryz.prog 8 #[.agg es, .int .i64 400] u fun e w' => e = .returned (.bool false) ∧ Below u.heap.size u w'))
  (HG : Hid (∀ u, LB w es H C u → TB t w.heap.size es u → Calls Tryz.prog 18 #[.agg es] u fun e w' => e = .returned (.bool false) ∧ Below u.heap.size u w'))
  (HLv : Hid (∀ u, LB w es H C u → Calls Tryz.prog 9 #[] u fun e w' => e = .returned (.bool true) ∧ Below u.heap.size u w')) :
  Calls Tryz.prog 5 #[.agg es, hmV H, .agg (chgC C)] w fun e w' => e = .returned (.bool true) ∧ Below w.heap.size w w' := by
 have HX : Hid (LB w es H C (((w.alloc (.cells es 28)).alloc (plcO H.hb H.hs H.hr H.hc)).alloc (.cells (chgC C) 34))) := LB.new w es H C
 have HT : Hid (TB t w.heap.size es (((w.alloc (.cells es 28)).alloc (plcO H.hb H.hs H.hr H.hc)).alloc (.cells (chgC C) 34))) := ⟨HX.out.b0, h0.below HX.out.bel⟩
 clear h0
 have RN : Hid _ := HT.out.lod
 have RH : Hid _ := hlod HX.out.b1
 have RC : Hid _ := clod HX.out.b2
 obtain ⟨d2, d3, d4, d5, d6⟩ := chg34 HX.out.b2
 skip
 go_enter Tryz.func5, Tryz.ntmps5
 go_wp2_with (first
  | ((with_reducible show wpList _ _ _ ({ dst := _, op := Op.load 28 _, type := _, pos := _, after := _, guard := none } :: _) _ _); refine wpList_load_run rfl 28 _ rfl _ _ rfl RN.out ?_)
  | ((with_reducible show wpList _ _ _ ({ dst := _, op := Op.load 28 _, type := _, pos := _, after := _, guard := some _ } :: _) _ _); refine wpList_load_g 28 _ rfl _ _ rfl RN.out ?hw ?_; (case hw => (go_simp; done)))
  | ((with_reducible show wpList _ _ _ ({ dst := _, op := Op.load 30 _, type := _, pos := _, after := _, guard := none } :: _) _ _); refine wpList_load_run rfl 30 _ rfl _ _ rfl RH.out ?_)
  | ((with_reducible show wpList _ _ _ ({ dst := _, op := Op.load 30 _, type := _, pos := _, after := _, guard := some _ } :: _) _ _); refine wpList_load_g 30 _ rfl _ _ rfl RH.out ?hw ?_; (case hw => (go_simp; done)))
  | ((with_reducible show wpList _ _ _ ({ dst := _, op := Op.load 34 _, type := _, pos := _, after := _, guard := none } :: _) _ _); refine wpList_load_run rfl 34 _ rfl _ _ rfl RC.out ?_)
  | ((with_reducible show wpList _ _ _ ({ dst := _, op := Op.load 34 _, type := _, pos := _, after := _, guard := some _ } :: _) _ _); refine wpList_load_g 34 _ rfl _ _ rfl RC.out ?hw ?_; (case hw => (go_simp; done)))
  | (go_at_call 8; refine (HBig.out _ HX.out HT.out).mono ?_; clear HBig; rintro e u8 ⟨rfl, hb⟩; have HX : Hid _ := HX.out.step hb; have HT : Hid _ := HT.out.step hb; clear hb; clear RN RH RC d2 d3 d4 d5 d6; have RN : Hid _ := HT.out.lod; have RH : Hid _ := hlod HX.out.b1; have RC : Hid _ := clod HX.out.b2; obtain ⟨d2, d3, d4, d5, d6⟩ := chg34 HX.out.b2; skip)
  | (go_at_call 18; refine (HG.out _ HX.out HT.out).mono ?_; clear HG; rintro e u1 ⟨rfl, hb⟩; have HX : Hid _ := HX.out.step hb; have HT : Hid _ := HT.out.step hb; clear hb; clear RN RH RC d2 d3 d4 d5 d6; have RN : Hid _ := HT.out.lod; have RH : Hid _ := hlod HX.out.b1; have RC : Hid _ := clod HX.out.b2; obtain ⟨d2, d3, d4, d5, d6⟩ := chg34 HX.out.b2; skip)
  | (go_at_call 9; refine (HLv.out _ HX.out).mono ?_; clear HLv; rintro e u9 ⟨rfl, hb⟩; have HX : Hid _ := HX.out.step hb; clear hb))
 all_goals (go_ret; exact ⟨rfl, HX.out.bel⟩)
theorem others_mostf {t t' : T} {es : Array Value} {H : Hm} {C : Chg} {w : World} (hc : C.co = false) (hm : 64 < C.m) (h0 : NT w es t)
  (HBig : Hid (∀ u, LB w es H C u → TB t w.heap.size es u → Calls Tryz.prog 8 #[.agg es, .int .i64 400] u fun e w' => e = .returned (.bool false) ∧ Below u.heap.size u w'))
  (HG : Hid (∀ u, LB w es H C u → TB t w.heap.size es u → Calls Tryz.prog 18 #[.agg es] u fun e w' => e = .returned (.bool true) ∧ Below u.heap.size u w'))
  (HLv : Hid (∀ u, LB w es H C u → Calls Tryz.prog 9 #[] u fun e w' => e = .returned (.bool true) ∧ Below u.heap.size u w')) :
  Calls Tryz.prog 5 #[.agg es, hmV H, .agg (chgC C)] w fun e w' => e = .returned (.bool true) ∧ Below w.heap.size w w' := by
 have HX : Hid (LB w es H C (((w.alloc (.cells es 28)).alloc (plcO H.hb H.hs H.hr H.hc)).alloc (.cells (chgC C) 34))) := LB.new w es H C
 have HT : Hid (TB t w.heap.size es (((w.alloc (.cells es 28)).alloc (plcO H.hb H.hs H.hr H.hc)).alloc (.cells (chgC C) 34))) := ⟨HX.out.b0, h0.below HX.out.bel⟩
 clear h0
 have RN : Hid _ := HT.out.lod
 have RH : Hid _ := hlod HX.out.b1
 have RC : Hid _ := clod HX.out.b2
 obtain ⟨d2, d3, d4, d5, d6⟩ := chg34 HX.out.b2
 rw [hc] at d3
 go_enter Tryz.func5, Tryz.ntmps5
 go_wp2_with (first
  | ((with_reducible show wpList _ _ _ ({ dst := _, op := Op.load 28 _, type := _, pos := _, after := _, guard := none } :: _) _ _); refine wpList_load_run rfl 28 _ rfl _ _ rfl RN.out ?_)
  | ((with_reducible show wpList _ _ _ ({ dst := _, op := Op.load 28 _, type := _, pos := _, after := _, guard := some _ } :: _) _ _); refine wpList_load_g 28 _ rfl _ _ rfl RN.out ?hw ?_; (case hw => (go_simp; done)))
  | ((with_reducible show wpList _ _ _ ({ dst := _, op := Op.load 30 _, type := _, pos := _, after := _, guard := none } :: _) _ _); refine wpList_load_run rfl 30 _ rfl _ _ rfl RH.out ?_)
  | ((with_reducible show wpList _ _ _ ({ dst := _, op := Op.load 30 _, type := _, pos := _, after := _, guard := some _ } :: _) _ _); refine wpList_load_g 30 _ rfl _ _ rfl RH.out ?hw ?_; (case hw => (go_simp; done)))
  | ((with_reducible show wpList _ _ _ ({ dst := _, op := Op.load 34 _, type := _, pos := _, after := _, guard := none } :: _) _ _); refine wpList_load_run rfl 34 _ rfl _ _ rfl RC.out ?_)
  | ((with_reducible show wpList _ _ _ ({ dst := _, op := Op.load 34 _, type := _, pos := _, after := _, guard := some _ } :: _) _ _); refine wpList_load_g 34 _ rfl _ _ rfl RC.out ?hw ?_; (case hw => (go_simp; done)))
  | (go_at_call 8; refine (HBig.out _ HX.out HT.out).mono ?_; clear HBig; rintro e u8 ⟨rfl, hb⟩; have HX : Hid _ := HX.out.step hb; have HT : Hid _ := HT.out.step hb; clear hb; clear RN RH RC d2 d3 d4 d5 d6; have RN : Hid _ := HT.out.lod; have RH : Hid _ := hlod HX.out.b1; have RC : Hid _ := clod HX.out.b2; obtain ⟨d2, d3, d4, d5, d6⟩ := chg34 HX.out.b2; rw [hc] at d3)
  | (go_at_call 18; refine (HG.out _ HX.out HT.out).mono ?_; clear HG; rintro e u1 ⟨rfl, hb⟩; have HX : Hid _ := HX.out.step hb; have HT : Hid _ := HT.out.step hb; clear hb; clear RN RH RC d2 d3 d4 d5 d6; have RN : Hid _ := HT.out.lod; have RH : Hid _ := hlod HX.out.b1; have RC : Hid _ := clod HX.out.b2; obtain ⟨d2, d3, d4, d5, d6⟩ := chg34 HX.out.b2; rw [hc] at d3)
  | (go_at_call 9; refine (HLv.out _ HX.out).mono ?_; clear HLv; rintro e u9 ⟨rfl, hb⟩; have HX : Hid _ := HX.out.step hb; clear hb))
 all_goals (go_ret; exact ⟨rfl, HX.out.bel⟩)
theorem others_mostt {t t' : T} {es : Array Value} {H : Hm} {C : Chg} {w : World} (hc : C.co = true) (hm : 26 < C.m) (h0 : NT w es t)
  (HBig : Hid (∀ u, LB w es H C u → TB t w.heap.size es u → Calls Tryz.prog 8 #[.agg es, .int .i64 400] u fun e w' => e = .returned (.bool false) ∧ Below u.heap.size u w'))
  (HG : Hid (∀ u, LB w es H C u → TB t w.heap.size es u → Calls Tryz.prog 18 #[.agg es] u fun e w' => e = .returned (.bool true) ∧ Below u.heap.size u w'))
  (HLv : Hid (∀ u, LB w es H C u → Calls Tryz.prog 9 #[] u fun e w' => e = .returned (.bool true) ∧ Below u.heap.size u w')) :
  Calls Tryz.prog 5 #[.agg es, hmV H, .agg (chgC C)] w fun e w' => e = .returned (.bool true) ∧ Below w.heap.size w w' := by
 have HX : Hid (LB w es H C (((w.alloc (.cells es 28)).alloc (plcO H.hb H.hs H.hr H.hc)).alloc (.cells (chgC C) 34))) := LB.new w es H C
 have HT : Hid (TB t w.heap.size es (((w.alloc (.cells es 28)).alloc (plcO H.hb H.hs H.hr H.hc)).alloc (.cells (chgC C) 34))) := ⟨HX.out.b0, h0.below HX.out.bel⟩
 clear h0
 have RN : Hid _ := HT.out.lod
 have RH : Hid _ := hlod HX.out.b1
 have RC : Hid _ := clod HX.out.b2
 obtain ⟨d2, d3, d4, d5, d6⟩ := chg34 HX.out.b2
 rw [hc] at d3
 go_enter Tryz.func5, Tryz.ntmps5
 go_wp2_with (first
  | ((with_reducible show wpList _ _ _ ({ dst := _, op := Op.load 28 _, type := _, pos := _, after := _, guard := none } :: _) _ _); refine wpList_load_run rfl 28 _ rfl _ _ rfl RN.out ?_)
  | ((with_reducible show wpList _ _ _ ({ dst := _, op := Op.load 28 _, type := _, pos := _, after := _, guard := some _ } :: _) _ _); refine wpList_load_g 28 _ rfl _ _ rfl RN.out ?hw ?_; (case hw => (go_simp; done)))
  | ((with_reducible show wpList _ _ _ ({ dst := _, op := Op.load 30 _, type := _, pos := _, after := _, guard := none } :: _) _ _); refine wpList_load_run rfl 30 _ rfl _ _ rfl RH.out ?_)
  | ((with_reducible show wpList _ _ _ ({ dst := _, op := Op.load 30 _, type := _, pos := _, after := _, guard := some _ } :: _) _ _); refine wpList_load_g 30 _ rfl _ _ rfl RH.out ?hw ?_; (case hw => (go_simp; done)))
  | ((with_reducible show wpList _ _ _ ({ dst := _, op := Op.load 34 _, type := _, pos := _, after := _, guard := none } :: _) _ _); refine wpList_load_run rfl 34 _ rfl _ _ rfl RC.out ?_)
  | ((with_reducible show wpList _ _ _ ({ dst := _, op := Op.load 34 _, type := _, pos := _, after := _, guard := some _ } :: _) _ _); refine wpList_load_g 34 _ rfl _ _ rfl RC.out ?hw ?_; (case hw => (go_simp; done)))
  | (go_at_call 8; refine (HBig.out _ HX.out HT.out).mono ?_; clear HBig; rintro e u8 ⟨rfl, hb⟩; have HX : Hid _ := HX.out.step hb; have HT : Hid _ := HT.out.step hb; clear hb; clear RN RH RC d2 d3 d4 d5 d6; have RN : Hid _ := HT.out.lod; have RH : Hid _ := hlod HX.out.b1; have RC : Hid _ := clod HX.out.b2; obtain ⟨d2, d3, d4, d5, d6⟩ := chg34 HX.out.b2; rw [hc] at d3)
  | (go_at_call 18; refine (HG.out _ HX.out HT.out).mono ?_; clear HG; rintro e u1 ⟨rfl, hb⟩; have HX : Hid _ := HX.out.step hb; have HT : Hid _ := HT.out.step hb; clear hb; clear RN RH RC d2 d3 d4 d5 d6; have RN : Hid _ := HT.out.lod; have RH : Hid _ := hlod HX.out.b1; have RC : Hid _ := clod HX.out.b2; obtain ⟨d2, d3, d4, d5, d6⟩ := chg34 HX.out.b2; rw [hc] at d3)
  | (go_at_call 9; refine (HLv.out _ HX.out).mono ?_; clear HLv; rintro e u9 ⟨rfl, hb⟩; have HX : Hid _ := HX.out.step hb; clear hb))
 all_goals (go_ret; exact ⟨rfl, HX.out.bel⟩)
theorem others_ft {t t' : T} {es : Array Value} {H : Hm} {C : Chg} {w : World} (hd : C.dr = false) {nq sq : Bool} (h0 : NT w es t)
  (HBig : Hid (∀ u, LB w es H C u → TB t w.heap.size es u → Calls Tryz.prog 8 #[.agg es, .int .i64 400] u fun e w' => e = .returned (.bool false) ∧ Below u.heap.size u w'))
  (HG : Hid (∀ u, LB w es H C u → TB t w.heap.size es u → Calls Tryz.prog 18 #[.agg es] u fun e w' => e = .returned (.bool true) ∧ Below u.heap.size u w'))
  (HNo : Hid (∀ u, LB w es H C u → TB t w.heap.size es u → Calls Tryz.prog 10 #[.agg es, hmV H, .agg (chgC C)] u fun e w' => ∃ es', e = .returned (.tuple #[.agg es', .bool (!sq)]) ∧ NT w' es' t' ∧ Below u.heap.size u w'))
  (HNm : Hid (∀ u, LB w es H C u → TB t w.heap.size es u → Calls Tryz.prog 14 #[.agg es, hmV H, .agg (chgC C)] u fun e w' => e = .returned (.bool true) ∧ Below u.heap.size u w'))
  (HSm : Hid (∀ u es' g, LB w es H C u → TB t w.heap.size es u → TB t' g es' u → Calls Tryz.prog 13 #[.agg es', .agg es] u fun e w' => e = .returned (.bool sq) ∧ Below u.heap.size u w'))
  (HG2 : Hid (∀ u es' g, LB w es H C u → TB t' g es' u → Calls Tryz.prog 18 #[.agg es'] u fun e w' => e = .returned (.bool true) ∧ Below u.heap.size u w'))
  (HNm2 : Hid (∀ u es' g, LB w es H C u → TB t' g es' u → Calls Tryz.prog 14 #[.agg es', hmV H, .agg (chgC C)] u fun e w' => e = .returned (.bool nq) ∧ Below u.heap.size u w'))
  (HLv : Hid (∀ u, LB w es H C u → Calls Tryz.prog 9 #[] u fun e w' => e = .returned (.bool true) ∧ Below u.heap.size u w')) :
  Calls Tryz.prog 5 #[.agg es, hmV H, .agg (chgC C)] w fun e w' => e = .returned (.bool true) ∧ Below w.heap.size w w' := by
 have HX : Hid (LB w es H C (((w.alloc (.cells es 28)).alloc (plcO H.hb H.hs H.hr H.hc)).alloc (.cells (chgC C) 34))) := LB.new w es H C
 have HT : Hid (TB t w.heap.size es (((w.alloc (.cells es 28)).alloc (plcO H.hb H.hs H.hr H.hc)).alloc (.cells (chgC C) 34))) := ⟨HX.out.b0, h0.below HX.out.bel⟩
 clear h0
 have RN : Hid _ := HT.out.lod
 have RH : Hid _ := hlod HX.out.b1
 have RC : Hid _ := clod HX.out.b2
 obtain ⟨d2, d3, d4, d5, d6⟩ := chg34 HX.out.b2
 rw [hd] at d2
 go_enter Tryz.func5, Tryz.ntmps5
 go_wp2_with (first
  | ((with_reducible show wpList _ _ _ ({ dst := _, op := Op.load 28 _, type := _, pos := _, after := _, guard := none } :: _) _ _); refine wpList_load_run rfl 28 _ rfl _ _ rfl RN.out ?_)
  | ((with_reducible show wpList _ _ _ ({ dst := _, op := Op.load 28 _, type := _, pos := _, after := _, guard := some _ } :: _) _ _); refine wpList_load_g 28 _ rfl _ _ rfl RN.out ?hw ?_; (case hw => (go_simp; done)))
  | ((with_reducible show wpList _ _ _ ({ dst := _, op := Op.load 28 _, type := _, pos := _, after := _, guard := none } :: _) _ _); refine wpList_load_run rfl 28 _ rfl _ _ rfl RM.out ?_)
  | ((with_reducible show wpList _ _ _ ({ dst := _, op := Op.load 28 _, type := _, pos := _, after := _, guard := some _ } :: _) _ _); refine wpList_load_g 28 _ rfl _ _ rfl RM.out ?hw ?_; (case hw => (go_simp; done)))
  | ((with_reducible show wpList _ _ _ ({ dst := _, op := Op.store 28 _ _, type := _, pos := _, after := _, guard := none } :: _) _ _); refine wpList_store_run rfl 28 _ _ rfl _ _ _ rfl rfl RS.out ?_)
  | ((with_reducible show wpList _ _ _ ({ dst := _, op := Op.load 30 _, type := _, pos := _, after := _, guard := none } :: _) _ _); refine wpList_load_run rfl 30 _ rfl _ _ rfl RH.out ?_)
  | ((with_reducible show wpList _ _ _ ({ dst := _, op := Op.load 30 _, type := _, pos := _, after := _, guard := some _ } :: _) _ _); refine wpList_load_g 30 _ rfl _ _ rfl RH.out ?hw ?_; (case hw => (go_simp; done)))
  | ((with_reducible show wpList _ _ _ ({ dst := _, op := Op.load 34 _, type := _, pos := _, after := _, guard := none } :: _) _ _); refine wpList_load_run rfl 34 _ rfl _ _ rfl RC.out ?_)
  | ((with_reducible show wpList _ _ _ ({ dst := _, op := Op.load 34 _, type := _, pos := _, after := _, guard := some _ } :: _) _ _); refine wpList_load_g 34 _ rfl _ _ rfl RC.out ?hw ?_; (case hw => (go_simp; done)))
  | (go_at_call 8; refine (HBig.out _ HX.out HT.out).mono ?_; clear HBig; rintro e u8 ⟨rfl, hb⟩; have HX : Hid _ := HX.out.step hb; have HT : Hid _ := HT.out.step hb; clear hb; clear RN RH RC d2 d3 d4 d5 d6; have RN : Hid _ := HT.out.lod; have RH : Hid _ := hlod HX.out.b1; have RC : Hid _ := clod HX.out.b2; obtain ⟨d2, d3, d4, d5, d6⟩ := chg34 HX.out.b2; rw [hd] at d2)
  | (go_at_call 18; refine (HG.out _ HX.out HT.out).mono ?_; clear HG; rintro e u1 ⟨rfl, hb⟩; have HX : Hid _ := HX.out.step hb; have HT : Hid _ := HT.out.step hb; clear hb; clear RN RH RC d2 d3 d4 d5 d6; have RN : Hid _ := HT.out.lod; have RH : Hid _ := hlod HX.out.b1; have RC : Hid _ := clod HX.out.b2; obtain ⟨d2, d3, d4, d5, d6⟩ := chg34 HX.out.b2; rw [hd] at d2)
  | (go_at_call 10; refine (HNo.out _ HX.out HT.out).mono ?_; clear HNo; rintro e w3 ⟨es', rfl, hn, hb⟩; obtain ⟨q1, q2⟩ := TB.new hn; have HX0 := HX.out.step hb; have HX : Hid _ := HX0.step (bel_alloc (Below.refl _ _) (.cells es' 28)); have HT0 := HT.out.step hb; have HT : Hid _ := HT0.step (bel_alloc (Below.refl _ _) (.cells es' 28)); have HQ : Hid _ := q1; have RS : Hid _ := q2; clear hb hn HX0 HT0 q1 q2; clear RN RH RC d2 d3 d4 d5 d6; have RN : Hid _ := HT.out.lod; have RH : Hid _ := hlod HX.out.b1; have RC : Hid _ := clod HX.out.b2; obtain ⟨d2, d3, d4, d5, d6⟩ := chg34 HX.out.b2; rw [hd] at d2; have RM : Hid _ := HQ.out.lod; skip)
  | (go_at_call 14; refine (HNm.out _ HX.out HT.out).mono ?_; clear HNm; rintro e u2 ⟨rfl, hb⟩; have HX : Hid _ := HX.out.step hb; have HT : Hid _ := HT.out.step hb; have HQ : Hid _ := HQ.out.step hb; clear hb RM; clear RN RH RC d2 d3 d4 d5 d6; have RN : Hid _ := HT.out.lod; have RH : Hid _ := hlod HX.out.b1; have RC : Hid _ := clod HX.out.b2; obtain ⟨d2, d3, d4, d5, d6⟩ := chg34 HX.out.b2; rw [hd] at d2; have RM : Hid _ := HQ.out.lod; skip)
  | (go_at_call 13; refine (HSm.out _ _ _ HX.out HT.out HQ.out).mono ?_; rintro e u4 ⟨rfl, hb⟩; have HX : Hid _ := HX.out.step hb; have HT : Hid _ := HT.out.step hb; have HQ : Hid _ := HQ.out.step hb; clear hb RM; clear RN RH RC d2 d3 d4 d5 d6; have RN : Hid _ := HT.out.lod; have RH : Hid _ := hlod HX.out.b1; have RC : Hid _ := clod HX.out.b2; obtain ⟨d2, d3, d4, d5, d6⟩ := chg34 HX.out.b2; rw [hd] at d2; have RM : Hid _ := HQ.out.lod; skip)
  | (go_at_call 18; refine (HG2.out _ _ _ HX.out HQ.out).mono ?_; rintro e u5 ⟨rfl, hb⟩; have HX : Hid _ := HX.out.step hb; have HT : Hid _ := HT.out.step hb; have HQ : Hid _ := HQ.out.step hb; clear hb RM; clear RN RH RC d2 d3 d4 d5 d6; have RN : Hid _ := HT.out.lod; have RH : Hid _ := hlod HX.out.b1; have RC : Hid _ := clod HX.out.b2; obtain ⟨d2, d3, d4, d5, d6⟩ := chg34 HX.out.b2; rw [hd] at d2; have RM : Hid _ := HQ.out.lod; skip)
  | (go_at_call 14; refine (HNm2.out _ _ _ HX.out HQ.out).mono ?_; rintro e u6 ⟨rfl, hb⟩; have HX : Hid _ := HX.out.step hb; have HT : Hid _ := HT.out.step hb; have HQ : Hid _ := HQ.out.step hb; clear hb RM; clear RN RH RC d2 d3 d4 d5 d6; have RN : Hid _ := HT.out.lod; have RH : Hid _ := hlod HX.out.b1; have RC : Hid _ := clod HX.out.b2; obtain ⟨d2, d3, d4, d5, d6⟩ := chg34 HX.out.b2; rw [hd] at d2; have RM : Hid _ := HQ.out.lod; skip)
  | (go_at_call 9; refine (HLv.out _ HX.out).mono ?_; clear HLv; rintro e u9 ⟨rfl, hb⟩; have HX : Hid _ := HX.out.step hb; clear hb))
 all_goals (go_ret; exact ⟨rfl, HX.out.bel⟩)
theorem others_ff {t t' : T} {es : Array Value} {H : Hm} {C : Chg} {w : World} (hd : C.dr = false) {nq sq : Bool} (h0 : NT w es t)
  (HBig : Hid (∀ u, LB w es H C u → TB t w.heap.size es u → Calls Tryz.prog 8 #[.agg es, .int .i64 400] u fun e w' => e = .returned (.bool false) ∧ Below u.heap.size u w'))
  (HG : Hid (∀ u, LB w es H C u → TB t w.heap.size es u → Calls Tryz.prog 18 #[.agg es] u fun e w' => e = .returned (.bool true) ∧ Below u.heap.size u w'))
  (HNo : Hid (∀ u, LB w es H C u → TB t w.heap.size es u → Calls Tryz.prog 10 #[.agg es, hmV H, .agg (chgC C)] u fun e w' => ∃ es', e = .returned (.tuple #[.agg es', .bool false]) ∧ NT w' es' t' ∧ Below u.heap.size u w'))
  (HNm : Hid (∀ u, LB w es H C u → TB t w.heap.size es u → Calls Tryz.prog 14 #[.agg es, hmV H, .agg (chgC C)] u fun e w' => e = .returned (.bool false) ∧ Below u.heap.size u w'))
  (HSm : Hid (∀ u es' g, LB w es H C u → TB t w.heap.size es u → TB t' g es' u → Calls Tryz.prog 13 #[.agg es', .agg es] u fun e w' => e = .returned (.bool true) ∧ Below u.heap.size u w'))
  (HG2 : Hid (∀ u es' g, LB w es H C u → TB t' g es' u → Calls Tryz.prog 18 #[.agg es'] u fun e w' => e = .returned (.bool true) ∧ Below u.heap.size u w'))
  (HNm2 : Hid (∀ u es' g, LB w es H C u → TB t' g es' u → Calls Tryz.prog 14 #[.agg es', hmV H, .agg (chgC C)] u fun e w' => e = .returned (.bool nq) ∧ Below u.heap.size u w'))
  (HLv : Hid (∀ u, LB w es H C u → Calls Tryz.prog 9 #[] u fun e w' => e = .returned (.bool true) ∧ Below u.heap.size u w')) :
  Calls Tryz.prog 5 #[.agg es, hmV H, .agg (chgC C)] w fun e w' => e = .returned (.bool true) ∧ Below w.heap.size w w' := by
 have HX : Hid (LB w es H C (((w.alloc (.cells es 28)).alloc (plcO H.hb H.hs H.hr H.hc)).alloc (.cells (chgC C) 34))) := LB.new w es H C
 have HT : Hid (TB t w.heap.size es (((w.alloc (.cells es 28)).alloc (plcO H.hb H.hs H.hr H.hc)).alloc (.cells (chgC C) 34))) := ⟨HX.out.b0, h0.below HX.out.bel⟩
 clear h0
 have RN : Hid _ := HT.out.lod
 have RH : Hid _ := hlod HX.out.b1
 have RC : Hid _ := clod HX.out.b2
 obtain ⟨d2, d3, d4, d5, d6⟩ := chg34 HX.out.b2
 rw [hd] at d2
 go_enter Tryz.func5, Tryz.ntmps5
 go_wp2_with (first
  | ((with_reducible show wpList _ _ _ ({ dst := _, op := Op.load 28 _, type := _, pos := _, after := _, guard := none } :: _) _ _); refine wpList_load_run rfl 28 _ rfl _ _ rfl RN.out ?_)
  | ((with_reducible show wpList _ _ _ ({ dst := _, op := Op.load 28 _, type := _, pos := _, after := _, guard := some _ } :: _) _ _); refine wpList_load_g 28 _ rfl _ _ rfl RN.out ?hw ?_; (case hw => (go_simp; done)))
  | ((with_reducible show wpList _ _ _ ({ dst := _, op := Op.load 28 _, type := _, pos := _, after := _, guard := none } :: _) _ _); refine wpList_load_run rfl 28 _ rfl _ _ rfl RM.out ?_)
  | ((with_reducible show wpList _ _ _ ({ dst := _, op := Op.load 28 _, type := _, pos := _, after := _, guard := some _ } :: _) _ _); refine wpList_load_g 28 _ rfl _ _ rfl RM.out ?hw ?_; (case hw => (go_simp; done)))
  | ((with_reducible show wpList _ _ _ ({ dst := _, op := Op.store 28 _ _, type := _, pos := _, after := _, guard := none } :: _) _ _); refine wpList_store_run rfl 28 _ _ rfl _ _ _ rfl rfl RS.out ?_)
  | ((with_reducible show wpList _ _ _ ({ dst := _, op := Op.load 30 _, type := _, pos := _, after := _, guard := none } :: _) _ _); refine wpList_load_run rfl 30 _ rfl _ _ rfl RH.out ?_)
  | ((with_reducible show wpList _ _ _ ({ dst := _, op := Op.load 30 _, type := _, pos := _, after := _, guard := some _ } :: _) _ _); refine wpList_load_g 30 _ rfl _ _ rfl RH.out ?hw ?_; (case hw => (go_simp; done)))
  | ((with_reducible show wpList _ _ _ ({ dst := _, op := Op.load 34 _, type := _, pos := _, after := _, guard := none } :: _) _ _); refine wpList_load_run rfl 34 _ rfl _ _ rfl RC.out ?_)
  | ((with_reducible show wpList _ _ _ ({ dst := _, op := Op.load 34 _, type := _, pos := _, after := _, guard := some _ } :: _) _ _); refine wpList_load_g 34 _ rfl _ _ rfl RC.out ?hw ?_; (case hw => (go_simp; done)))
  | (go_at_call 8; refine (HBig.out _ HX.out HT.out).mono ?_; clear HBig; rintro e u8 ⟨rfl, hb⟩; have HX : Hid _ := HX.out.step hb; have HT : Hid _ := HT.out.step hb; clear hb; clear RN RH RC d2 d3 d4 d5 d6; have RN : Hid _ := HT.out.lod; have RH : Hid _ := hlod HX.out.b1; have RC : Hid _ := clod HX.out.b2; obtain ⟨d2, d3, d4, d5, d6⟩ := chg34 HX.out.b2; rw [hd] at d2)
  | (go_at_call 18; refine (HG.out _ HX.out HT.out).mono ?_; clear HG; rintro e u1 ⟨rfl, hb⟩; have HX : Hid _ := HX.out.step hb; have HT : Hid _ := HT.out.step hb; clear hb; clear RN RH RC d2 d3 d4 d5 d6; have RN : Hid _ := HT.out.lod; have RH : Hid _ := hlod HX.out.b1; have RC : Hid _ := clod HX.out.b2; obtain ⟨d2, d3, d4, d5, d6⟩ := chg34 HX.out.b2; rw [hd] at d2)
  | (go_at_call 10; refine (HNo.out _ HX.out HT.out).mono ?_; clear HNo; rintro e w3 ⟨es', rfl, hn, hb⟩; obtain ⟨q1, q2⟩ := TB.new hn; have HX0 := HX.out.step hb; have HX : Hid _ := HX0.step (bel_alloc (Below.refl _ _) (.cells es' 28)); have HT0 := HT.out.step hb; have HT : Hid _ := HT0.step (bel_alloc (Below.refl _ _) (.cells es' 28)); have HQ : Hid _ := q1; have RS : Hid _ := q2; clear hb hn HX0 HT0 q1 q2; clear RN RH RC d2 d3 d4 d5 d6; have RN : Hid _ := HT.out.lod; have RH : Hid _ := hlod HX.out.b1; have RC : Hid _ := clod HX.out.b2; obtain ⟨d2, d3, d4, d5, d6⟩ := chg34 HX.out.b2; rw [hd] at d2; have RM : Hid _ := HQ.out.lod; skip)
  | (go_at_call 14; refine (HNm.out _ HX.out HT.out).mono ?_; clear HNm; rintro e u2 ⟨rfl, hb⟩; have HX : Hid _ := HX.out.step hb; have HT : Hid _ := HT.out.step hb; have HQ : Hid _ := HQ.out.step hb; clear hb RM; clear RN RH RC d2 d3 d4 d5 d6; have RN : Hid _ := HT.out.lod; have RH : Hid _ := hlod HX.out.b1; have RC : Hid _ := clod HX.out.b2; obtain ⟨d2, d3, d4, d5, d6⟩ := chg34 HX.out.b2; rw [hd] at d2; have RM : Hid _ := HQ.out.lod; skip)
  | (go_at_call 13; refine (HSm.out _ _ _ HX.out HT.out HQ.out).mono ?_; rintro e u4 ⟨rfl, hb⟩; have HX : Hid _ := HX.out.step hb; have HT : Hid _ := HT.out.step hb; have HQ : Hid _ := HQ.out.step hb; clear hb RM; clear RN RH RC d2 d3 d4 d5 d6; have RN : Hid _ := HT.out.lod; have RH : Hid _ := hlod HX.out.b1; have RC : Hid _ := clod HX.out.b2; obtain ⟨d2, d3, d4, d5, d6⟩ := chg34 HX.out.b2; rw [hd] at d2; have RM : Hid _ := HQ.out.lod; skip)
  | (go_at_call 18; refine (HG2.out _ _ _ HX.out HQ.out).mono ?_; rintro e u5 ⟨rfl, hb⟩; have HX : Hid _ := HX.out.step hb; have HT : Hid _ := HT.out.step hb; have HQ : Hid _ := HQ.out.step hb; clear hb RM; clear RN RH RC d2 d3 d4 d5 d6; have RN : Hid _ := HT.out.lod; have RH : Hid _ := hlod HX.out.b1; have RC : Hid _ := clod HX.out.b2; obtain ⟨d2, d3, d4, d5, d6⟩ := chg34 HX.out.b2; rw [hd] at d2; have RM : Hid _ := HQ.out.lod; skip)
  | (go_at_call 14; refine (HNm2.out _ _ _ HX.out HQ.out).mono ?_; rintro e u6 ⟨rfl, hb⟩; have HX : Hid _ := HX.out.step hb; have HT : Hid _ := HT.out.step hb; have HQ : Hid _ := HQ.out.step hb; clear hb RM; clear RN RH RC d2 d3 d4 d5 d6; have RN : Hid _ := HT.out.lod; have RH : Hid _ := hlod HX.out.b1; have RC : Hid _ := clod HX.out.b2; obtain ⟨d2, d3, d4, d5, d6⟩ := chg34 HX.out.b2; rw [hd] at d2; have RM : Hid _ := HQ.out.lod; skip)
  | (go_at_call 9; refine (HLv.out _ HX.out).mono ?_; clear HLv; rintro e u9 ⟨rfl, hb⟩; have HX : Hid _ := HX.out.step hb; clear hb))
 all_goals (go_ret; exact ⟨rfl, HX.out.bel⟩)
theorem others_tt {t t' : T} {es : Array Value} {H : Hm} {C : Chg} {w : World} (hd : C.dr = true) {nq sq : Bool} (h0 : NT w es t)
  (HBig : Hid (∀ u, LB w es H C u → TB t w.heap.size es u → Calls Tryz.prog 8 #[.agg es, .int .i64 400] u fun e w' => e = .returned (.bool false) ∧ Below u.heap.size u w'))
  (HG : Hid (∀ u, LB w es H C u → TB t w.heap.size es u → Calls Tryz.prog 18 #[.agg es] u fun e w' => e = .returned (.bool true) ∧ Below u.heap.size u w'))
  (HNo : Hid (∀ u, LB w es H C u → TB t w.heap.size es u → Calls Tryz.prog 10 #[.agg es, hmV H, .agg (chgC C)] u fun e w' => ∃ es', e = .returned (.tuple #[.agg es', .bool (!sq)]) ∧ NT w' es' t' ∧ Below u.heap.size u w'))
  (HNm : Hid (∀ u, LB w es H C u → TB t w.heap.size es u → Calls Tryz.prog 14 #[.agg es, hmV H, .agg (chgC C)] u fun e w' => e = .returned (.bool true) ∧ Below u.heap.size u w'))
  (HSm : Hid (∀ u es' g, LB w es H C u → TB t w.heap.size es u → TB t' g es' u → Calls Tryz.prog 13 #[.agg es', .agg es] u fun e w' => e = .returned (.bool sq) ∧ Below u.heap.size u w'))
  (HG2 : Hid (∀ u es' g, LB w es H C u → TB t' g es' u → Calls Tryz.prog 18 #[.agg es'] u fun e w' => e = .returned (.bool true) ∧ Below u.heap.size u w'))
  (HNm2 : Hid (∀ u es' g, LB w es H C u → TB t' g es' u → Calls Tryz.prog 14 #[.agg es', hmV H, .agg (chgC C)] u fun e w' => e = .returned (.bool false) ∧ Below u.heap.size u w'))
  (HLv : Hid (∀ u, LB w es H C u → Calls Tryz.prog 9 #[] u fun e w' => e = .returned (.bool true) ∧ Below u.heap.size u w')) :
  Calls Tryz.prog 5 #[.agg es, hmV H, .agg (chgC C)] w fun e w' => e = .returned (.bool true) ∧ Below w.heap.size w w' := by
 have HX : Hid (LB w es H C (((w.alloc (.cells es 28)).alloc (plcO H.hb H.hs H.hr H.hc)).alloc (.cells (chgC C) 34))) := LB.new w es H C
 have HT : Hid (TB t w.heap.size es (((w.alloc (.cells es 28)).alloc (plcO H.hb H.hs H.hr H.hc)).alloc (.cells (chgC C) 34))) := ⟨HX.out.b0, h0.below HX.out.bel⟩
 clear h0
 have RN : Hid _ := HT.out.lod
 have RH : Hid _ := hlod HX.out.b1
 have RC : Hid _ := clod HX.out.b2
 obtain ⟨d2, d3, d4, d5, d6⟩ := chg34 HX.out.b2
 rw [hd] at d2
 go_enter Tryz.func5, Tryz.ntmps5
 go_wp2_with (first
  | ((with_reducible show wpList _ _ _ ({ dst := _, op := Op.load 28 _, type := _, pos := _, after := _, guard := none } :: _) _ _); refine wpList_load_run rfl 28 _ rfl _ _ rfl RN.out ?_)
  | ((with_reducible show wpList _ _ _ ({ dst := _, op := Op.load 28 _, type := _, pos := _, after := _, guard := some _ } :: _) _ _); refine wpList_load_g 28 _ rfl _ _ rfl RN.out ?hw ?_; (case hw => (go_simp; done)))
  | ((with_reducible show wpList _ _ _ ({ dst := _, op := Op.load 28 _, type := _, pos := _, after := _, guard := none } :: _) _ _); refine wpList_load_run rfl 28 _ rfl _ _ rfl RM.out ?_)
  | ((with_reducible show wpList _ _ _ ({ dst := _, op := Op.load 28 _, type := _, pos := _, after := _, guard := some _ } :: _) _ _); refine wpList_load_g 28 _ rfl _ _ rfl RM.out ?hw ?_; (case hw => (go_simp; done)))
  | ((with_reducible show wpList _ _ _ ({ dst := _, op := Op.store 28 _ _, type := _, pos := _, after := _, guard := none } :: _) _ _); refine wpList_store_run rfl 28 _ _ rfl _ _ _ rfl rfl RS.out ?_)
  | ((with_reducible show wpList _ _ _ ({ dst := _, op := Op.load 30 _, type := _, pos := _, after := _, guard := none } :: _) _ _); refine wpList_load_run rfl 30 _ rfl _ _ rfl RH.out ?_)
  | ((with_reducible show wpList _ _ _ ({ dst := _, op := Op.load 30 _, type := _, pos := _, after := _, guard := some _ } :: _) _ _); refine wpList_load_g 30 _ rfl _ _ rfl RH.out ?hw ?_; (case hw => (go_simp; done)))
  | ((with_reducible show wpList _ _ _ ({ dst := _, op := Op.load 34 _, type := _, pos := _, after := _, guard := none } :: _) _ _); refine wpList_load_run rfl 34 _ rfl _ _ rfl RC.out ?_)
  | ((with_reducible show wpList _ _ _ ({ dst := _, op := Op.load 34 _, type := _, pos := _, after := _, guard := some _ } :: _) _ _); refine wpList_load_g 34 _ rfl _ _ rfl RC.out ?hw ?_; (case hw => (go_simp; done)))
  | (go_at_call 8; refine (HBig.out _ HX.out HT.out).mono ?_; clear HBig; rintro e u8 ⟨rfl, hb⟩; have HX : Hid _ := HX.out.step hb; have HT : Hid _ := HT.out.step hb; clear hb; clear RN RH RC d2 d3 d4 d5 d6; have RN : Hid _ := HT.out.lod; have RH : Hid _ := hlod HX.out.b1; have RC : Hid _ := clod HX.out.b2; obtain ⟨d2, d3, d4, d5, d6⟩ := chg34 HX.out.b2; rw [hd] at d2)
  | (go_at_call 18; refine (HG.out _ HX.out HT.out).mono ?_; clear HG; rintro e u1 ⟨rfl, hb⟩; have HX : Hid _ := HX.out.step hb; have HT : Hid _ := HT.out.step hb; clear hb; clear RN RH RC d2 d3 d4 d5 d6; have RN : Hid _ := HT.out.lod; have RH : Hid _ := hlod HX.out.b1; have RC : Hid _ := clod HX.out.b2; obtain ⟨d2, d3, d4, d5, d6⟩ := chg34 HX.out.b2; rw [hd] at d2)
  | (go_at_call 10; refine (HNo.out _ HX.out HT.out).mono ?_; clear HNo; rintro e w3 ⟨es', rfl, hn, hb⟩; obtain ⟨q1, q2⟩ := TB.new hn; have HX0 := HX.out.step hb; have HX : Hid _ := HX0.step (bel_alloc (Below.refl _ _) (.cells es' 28)); have HT0 := HT.out.step hb; have HT : Hid _ := HT0.step (bel_alloc (Below.refl _ _) (.cells es' 28)); have HQ : Hid _ := q1; have RS : Hid _ := q2; clear hb hn HX0 HT0 q1 q2; clear RN RH RC d2 d3 d4 d5 d6; have RN : Hid _ := HT.out.lod; have RH : Hid _ := hlod HX.out.b1; have RC : Hid _ := clod HX.out.b2; obtain ⟨d2, d3, d4, d5, d6⟩ := chg34 HX.out.b2; rw [hd] at d2; have RM : Hid _ := HQ.out.lod; skip)
  | (go_at_call 14; refine (HNm.out _ HX.out HT.out).mono ?_; clear HNm; rintro e u2 ⟨rfl, hb⟩; have HX : Hid _ := HX.out.step hb; have HT : Hid _ := HT.out.step hb; have HQ : Hid _ := HQ.out.step hb; clear hb RM; clear RN RH RC d2 d3 d4 d5 d6; have RN : Hid _ := HT.out.lod; have RH : Hid _ := hlod HX.out.b1; have RC : Hid _ := clod HX.out.b2; obtain ⟨d2, d3, d4, d5, d6⟩ := chg34 HX.out.b2; rw [hd] at d2; have RM : Hid _ := HQ.out.lod; skip)
  | (go_at_call 13; refine (HSm.out _ _ _ HX.out HT.out HQ.out).mono ?_; rintro e u4 ⟨rfl, hb⟩; have HX : Hid _ := HX.out.step hb; have HT : Hid _ := HT.out.step hb; have HQ : Hid _ := HQ.out.step hb; clear hb RM; clear RN RH RC d2 d3 d4 d5 d6; have RN : Hid _ := HT.out.lod; have RH : Hid _ := hlod HX.out.b1; have RC : Hid _ := clod HX.out.b2; obtain ⟨d2, d3, d4, d5, d6⟩ := chg34 HX.out.b2; rw [hd] at d2; have RM : Hid _ := HQ.out.lod; skip)
  | (go_at_call 18; refine (HG2.out _ _ _ HX.out HQ.out).mono ?_; rintro e u5 ⟨rfl, hb⟩; have HX : Hid _ := HX.out.step hb; have HT : Hid _ := HT.out.step hb; have HQ : Hid _ := HQ.out.step hb; clear hb RM; clear RN RH RC d2 d3 d4 d5 d6; have RN : Hid _ := HT.out.lod; have RH : Hid _ := hlod HX.out.b1; have RC : Hid _ := clod HX.out.b2; obtain ⟨d2, d3, d4, d5, d6⟩ := chg34 HX.out.b2; rw [hd] at d2; have RM : Hid _ := HQ.out.lod; skip)
  | (go_at_call 14; refine (HNm2.out _ _ _ HX.out HQ.out).mono ?_; rintro e u6 ⟨rfl, hb⟩; have HX : Hid _ := HX.out.step hb; have HT : Hid _ := HT.out.step hb; have HQ : Hid _ := HQ.out.step hb; clear hb RM; clear RN RH RC d2 d3 d4 d5 d6; have RN : Hid _ := HT.out.lod; have RH : Hid _ := hlod HX.out.b1; have RC : Hid _ := clod HX.out.b2; obtain ⟨d2, d3, d4, d5, d6⟩ := chg34 HX.out.b2; rw [hd] at d2; have RM : Hid _ := HQ.out.lod; skip)
  | (go_at_call 9; refine (HLv.out _ HX.out).mono ?_; clear HLv; rintro e u9 ⟨rfl, hb⟩; have HX : Hid _ := HX.out.step hb; clear hb))
 all_goals (go_ret; exact ⟨rfl, HX.out.bel⟩)
theorem others_tf {t t' : T} {es : Array Value} {H : Hm} {C : Chg} {w : World} (hd : C.dr = true) {nq sq : Bool} (h0 : NT w es t)
  (HBig : Hid (∀ u, LB w es H C u → TB t w.heap.size es u → Calls Tryz.prog 8 #[.agg es, .int .i64 400] u fun e w' => e = .returned (.bool false) ∧ Below u.heap.size u w'))
  (HG : Hid (∀ u, LB w es H C u → TB t w.heap.size es u → Calls Tryz.prog 18 #[.agg es] u fun e w' => e = .returned (.bool true) ∧ Below u.heap.size u w'))
  (HNo : Hid (∀ u, LB w es H C u → TB t w.heap.size es u → Calls Tryz.prog 10 #[.agg es, hmV H, .agg (chgC C)] u fun e w' => ∃ es', e = .returned (.tuple #[.agg es', .bool false]) ∧ NT w' es' t' ∧ Below u.heap.size u w'))
  (HNm : Hid (∀ u, LB w es H C u → TB t w.heap.size es u → Calls Tryz.prog 14 #[.agg es, hmV H, .agg (chgC C)] u fun e w' => e = .returned (.bool false) ∧ Below u.heap.size u w'))
  (HSm : Hid (∀ u es' g, LB w es H C u → TB t w.heap.size es u → TB t' g es' u → Calls Tryz.prog 13 #[.agg es', .agg es] u fun e w' => e = .returned (.bool true) ∧ Below u.heap.size u w'))
  (HG2 : Hid (∀ u es' g, LB w es H C u → TB t' g es' u → Calls Tryz.prog 18 #[.agg es'] u fun e w' => e = .returned (.bool true) ∧ Below u.heap.size u w'))
  (HNm2 : Hid (∀ u es' g, LB w es H C u → TB t' g es' u → Calls Tryz.prog 14 #[.agg es', hmV H, .agg (chgC C)] u fun e w' => e = .returned (.bool false) ∧ Below u.heap.size u w'))
  (HLv : Hid (∀ u, LB w es H C u → Calls Tryz.prog 9 #[] u fun e w' => e = .returned (.bool true) ∧ Below u.heap.size u w')) :
  Calls Tryz.prog 5 #[.agg es, hmV H, .agg (chgC C)] w fun e w' => e = .returned (.bool true) ∧ Below w.heap.size w w' := by
 have HX : Hid (LB w es H C (((w.alloc (.cells es 28)).alloc (plcO H.hb H.hs H.hr H.hc)).alloc (.cells (chgC C) 34))) := LB.new w es H C
 have HT : Hid (TB t w.heap.size es (((w.alloc (.cells es 28)).alloc (plcO H.hb H.hs H.hr H.hc)).alloc (.cells (chgC C) 34))) := ⟨HX.out.b0, h0.below HX.out.bel⟩
 clear h0
 have RN : Hid _ := HT.out.lod
 have RH : Hid _ := hlod HX.out.b1
 have RC : Hid _ := clod HX.out.b2
 obtain ⟨d2, d3, d4, d5, d6⟩ := chg34 HX.out.b2
 rw [hd] at d2
 go_enter Tryz.func5, Tryz.ntmps5
 go_wp2_with (first
  | ((with_reducible show wpList _ _ _ ({ dst := _, op := Op.load 28 _, type := _, pos := _, after := _, guard := none } :: _) _ _); refine wpList_load_run rfl 28 _ rfl _ _ rfl RN.out ?_)
  | ((with_reducible show wpList _ _ _ ({ dst := _, op := Op.load 28 _, type := _, pos := _, after := _, guard := some _ } :: _) _ _); refine wpList_load_g 28 _ rfl _ _ rfl RN.out ?hw ?_; (case hw => (go_simp; done)))
  | ((with_reducible show wpList _ _ _ ({ dst := _, op := Op.load 28 _, type := _, pos := _, after := _, guard := none } :: _) _ _); refine wpList_load_run rfl 28 _ rfl _ _ rfl RM.out ?_)
  | ((with_reducible show wpList _ _ _ ({ dst := _, op := Op.load 28 _, type := _, pos := _, after := _, guard := some _ } :: _) _ _); refine wpList_load_g 28 _ rfl _ _ rfl RM.out ?hw ?_; (case hw => (go_simp; done)))
  | ((with_reducible show wpList _ _ _ ({ dst := _, op := Op.store 28 _ _, type := _, pos := _, after := _, guard := none } :: _) _ _); refine wpList_store_run rfl 28 _ _ rfl _ _ _ rfl rfl RS.out ?_)
  | ((with_reducible show wpList _ _ _ ({ dst := _, op := Op.load 30 _, type := _, pos := _, after := _, guard := none } :: _) _ _); refine wpList_load_run rfl 30 _ rfl _ _ rfl RH.out ?_)
  | ((with_reducible show wpList _ _ _ ({ dst := _, op := Op.load 30 _, type := _, pos := _, after := _, guard := some _ } :: _) _ _); refine wpList_load_g 30 _ rfl _ _ rfl RH.out ?hw ?_; (case hw => (go_simp; done)))
  | ((with_reducible show wpList _ _ _ ({ dst := _, op := Op.load 34 _, type := _, pos := _, after := _, guard := none } :: _) _ _); refine wpList_load_run rfl 34 _ rfl _ _ rfl RC.out ?_)
  | ((with_reducible show wpList _ _ _ ({ dst := _, op := Op.load 34 _, type := _, pos := _, after := _, guard := some _ } :: _) _ _); refine wpList_load_g 34 _ rfl _ _ rfl RC.out ?hw ?_; (case hw => (go_simp; done)))
  | (go_at_call 8; refine (HBig.out _ HX.out HT.out).mono ?_; clear HBig; rintro e u8 ⟨rfl, hb⟩; have HX : Hid _ := HX.out.step hb; have HT : Hid _ := HT.out.step hb; clear hb; clear RN RH RC d2 d3 d4 d5 d6; have RN : Hid _ := HT.out.lod; have RH : Hid _ := hlod HX.out.b1; have RC : Hid _ := clod HX.out.b2; obtain ⟨d2, d3, d4, d5, d6⟩ := chg34 HX.out.b2; rw [hd] at d2)
  | (go_at_call 18; refine (HG.out _ HX.out HT.out).mono ?_; clear HG; rintro e u1 ⟨rfl, hb⟩; have HX : Hid _ := HX.out.step hb; have HT : Hid _ := HT.out.step hb; clear hb; clear RN RH RC d2 d3 d4 d5 d6; have RN : Hid _ := HT.out.lod; have RH : Hid _ := hlod HX.out.b1; have RC : Hid _ := clod HX.out.b2; obtain ⟨d2, d3, d4, d5, d6⟩ := chg34 HX.out.b2; rw [hd] at d2)
  | (go_at_call 10; refine (HNo.out _ HX.out HT.out).mono ?_; clear HNo; rintro e w3 ⟨es', rfl, hn, hb⟩; obtain ⟨q1, q2⟩ := TB.new hn; have HX0 := HX.out.step hb; have HX : Hid _ := HX0.step (bel_alloc (Below.refl _ _) (.cells es' 28)); have HT0 := HT.out.step hb; have HT : Hid _ := HT0.step (bel_alloc (Below.refl _ _) (.cells es' 28)); have HQ : Hid _ := q1; have RS : Hid _ := q2; clear hb hn HX0 HT0 q1 q2; clear RN RH RC d2 d3 d4 d5 d6; have RN : Hid _ := HT.out.lod; have RH : Hid _ := hlod HX.out.b1; have RC : Hid _ := clod HX.out.b2; obtain ⟨d2, d3, d4, d5, d6⟩ := chg34 HX.out.b2; rw [hd] at d2; have RM : Hid _ := HQ.out.lod; skip)
  | (go_at_call 14; refine (HNm.out _ HX.out HT.out).mono ?_; clear HNm; rintro e u2 ⟨rfl, hb⟩; have HX : Hid _ := HX.out.step hb; have HT : Hid _ := HT.out.step hb; have HQ : Hid _ := HQ.out.step hb; clear hb RM; clear RN RH RC d2 d3 d4 d5 d6; have RN : Hid _ := HT.out.lod; have RH : Hid _ := hlod HX.out.b1; have RC : Hid _ := clod HX.out.b2; obtain ⟨d2, d3, d4, d5, d6⟩ := chg34 HX.out.b2; rw [hd] at d2; have RM : Hid _ := HQ.out.lod; skip)
  | (go_at_call 13; refine (HSm.out _ _ _ HX.out HT.out HQ.out).mono ?_; rintro e u4 ⟨rfl, hb⟩; have HX : Hid _ := HX.out.step hb; have HT : Hid _ := HT.out.step hb; have HQ : Hid _ := HQ.out.step hb; clear hb RM; clear RN RH RC d2 d3 d4 d5 d6; have RN : Hid _ := HT.out.lod; have RH : Hid _ := hlod HX.out.b1; have RC : Hid _ := clod HX.out.b2; obtain ⟨d2, d3, d4, d5, d6⟩ := chg34 HX.out.b2; rw [hd] at d2; have RM : Hid _ := HQ.out.lod; skip)
  | (go_at_call 18; refine (HG2.out _ _ _ HX.out HQ.out).mono ?_; rintro e u5 ⟨rfl, hb⟩; have HX : Hid _ := HX.out.step hb; have HT : Hid _ := HT.out.step hb; have HQ : Hid _ := HQ.out.step hb; clear hb RM; clear RN RH RC d2 d3 d4 d5 d6; have RN : Hid _ := HT.out.lod; have RH : Hid _ := hlod HX.out.b1; have RC : Hid _ := clod HX.out.b2; obtain ⟨d2, d3, d4, d5, d6⟩ := chg34 HX.out.b2; rw [hd] at d2; have RM : Hid _ := HQ.out.lod; skip)
  | (go_at_call 14; refine (HNm2.out _ _ _ HX.out HQ.out).mono ?_; rintro e u6 ⟨rfl, hb⟩; have HX : Hid _ := HX.out.step hb; have HT : Hid _ := HT.out.step hb; have HQ : Hid _ := HQ.out.step hb; clear hb RM; clear RN RH RC d2 d3 d4 d5 d6; have RN : Hid _ := HT.out.lod; have RH : Hid _ := hlod HX.out.b1; have RC : Hid _ := clod HX.out.b2; obtain ⟨d2, d3, d4, d5, d6⟩ := chg34 HX.out.b2; rw [hd] at d2; have RM : Hid _ := HQ.out.lod; skip)
  | (go_at_call 9; refine (HLv.out _ HX.out).mono ?_; clear HLv; rintro e u9 ⟨rfl, hb⟩; have HX : Hid _ := HX.out.step hb; clear hb))
 all_goals (go_ret; exact ⟨rfl, HX.out.bel⟩)
end Go.Proofs.YtljmklbbngpllaaGreatDoor.Rw
