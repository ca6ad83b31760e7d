/- PlW2. -/
import Derived.Test.YtljmklbbngpllaaGreatDoorPlW1Pl
set_option linter.unusedVariables false
set_option linter.unusedSimpArgs false
set_option maxHeartbeats 16000000
set_option maxRecDepth 100000
namespace Go.Proofs.YtljmklbbngpllaaGreatDoor.Rw
open Go.RowKit Go.Fm
attribute [local go_sem] run_eql_val run_eql_refB
theorem nq {u : World} {g : Nat} {a : Lab} {sl : Value} (h : u.heap[g]? = some (.cells (lcs a sl) 28)) : u.cell? ⟨g, 0, none⟩ = some (.int .i64 a.k) := (box_all h).1
theorem reB_refl (x : Rf) : reB x.b x.h x.r x.c x.fr x.fc x.b x.h x.r x.c x.fr x.fc = true := by unfold reB; simp
theorem nboxL (w : World) (a : Lab) {sl : Value} (h : ∃ p n c, sl = .slice p n c) : (Instr.storeAt 28 (.pointer (some ⟨w.heap.size, 0, none⟩)) (.agg (lcs a sl))).run Tryz.prog (w.alloc (.cells nd0 28)) = .ok () (w.alloc (.cells (lcs a sl) 28)) := by
 obtain ⟨p, n, c, rfl⟩ := h
 exact run_storeAt_new w 28 nd0 _ (by rw [lcs_size]; exact inf28) rfl (lcs_all _ _ _ _)
theorem veB_bad : veB 4 3 noB 4 3 noB = true := by unfold veB; simp
theorem places_row_off {x : Rf} {H : Hm} {C : Chg} {w : World} (hd : C.dr = false) (hc : C.co = false) {pf : Int}
  {an : Bool} (HNo : Hid (∀ u, PB w x H C u → Calls Tryz.prog 10 #[.agg (rfN x), hmV H, .agg (chgC C)] u fun e w' => ∃ sl, e = .returned (.tuple #[.agg (lcs (gone) sl), .bool an]) ∧ (∃ p n c, sl = .slice p n c) ∧ Below u.heap.size u w'))
  (HPo : Hid (∀ u, Calls Tryz.prog 21 #[Hs.shV C.a C.n C.m, .int .i64 x.r] u fun e w' => e = .returned (.tuple #[.int .i64 pf, .bool false]) ∧ Below u.heap.size u w'))
  (HG : Hid (∀ u, PB w x H C u → Calls Tryz.prog 18 #[.agg (rfN x)] u fun e w' => e = .returned (.bool true) ∧ Below u.heap.size u w'))
  (HNm : Hid (∀ u, PB w x H C u → Calls Tryz.prog 14 #[.agg (rfN x), hmV H, .agg (chgC C)] u fun e w' => e = .returned (.bool true) ∧ Below u.heap.size u w'))
  (HLv : Hid (∀ u, PB w x H C u → Calls Tryz.prog 9 #[] u fun e w' => e = .returned (.bool true) ∧ Below u.heap.size u w')) :
  Calls Tryz.prog 7 #[rfV x, hmV H, .agg (chgC C)] w fun e w' => e = .returned (.bool true) ∧ Below w.heap.size w w' := by
 have HX : Hid (PB w x H C ((((w.alloc (rfO x)).alloc (plcO H.hb H.hs H.hr H.hc)).alloc (.cells (chgC C) 34)).alloc (.cells (rfN x) 28))) := PB.new w x H C
 have RX : Hid _ := rlod HX.out.b0
 have RN : Hid _ := nlod HX.out.b3
 have RH : Hid _ := hlod HX.out.b1
 have RC : Hid _ := clod HX.out.b2
 obtain ⟨d2, d3, d4, d5, d6⟩ := chg34 HX.out.b2
 obtain ⟨_, _, x2, x3, _, _⟩ := r_cells HX.out.b0
 have RX : Hid ((Instr.loadAt 25 (.pointer (some ⟨w.heap.size, 0, none⟩))).run Tryz.prog (((w.alloc (rfO x)).alloc (plcO H.hb H.hs H.hr H.hc)).alloc (.cells (chgC C) 34)) = .ok (rfV x) (((w.alloc (rfO x)).alloc (plcO H.hb H.hs H.hr H.hc)).alloc (.cells (chgC C) 34))) := rlod ((new3 (Below.refl _ _)).1)
 have RB : Hid _ := build_rf (((w.alloc (rfO x)).alloc (plcO H.hb H.hs H.hr H.hc)).alloc (.cells (chgC C) 34)) x
 have RS0 := (nbox (((w.alloc (rfO x)).alloc (plcO H.hb H.hs H.hr H.hc)).alloc (.cells (chgC C) 34)) (NK_rf x (((w.alloc (rfO x)).alloc (plcO H.hb H.hs H.hr H.hc)).alloc (.cells (chgC C) 34))).nt).1
 simp only [World.size_alloc] at RS0
 have RS : Hid _ := RS0
 clear RS0
 rw [hd] at d2
 rw [hc] at d3
 have hre := reB_refl ⟨x.b, x.h, pf, x.c, x.fr, x.fc⟩
 have hve := veB_bad
 go_enter Tryz.func7, Tryz.ntmps7
 go_wp2_with (first
  | ((with_reducible show wpList _ _ _ ({ dst := _, op := Op.load 25 _, type := _, pos := _, after := _, guard := none } :: _) _ _); refine wpList_load_run rfl 25 _ rfl _ _ rfl RX.out ?_)
  | ((with_reducible show wpList _ _ _ ({ dst := _, op := Op.build 28 _, type := _, pos := _, after := _, guard := none } :: _) _ _); refine wpList_build_run rfl 28 _ rfl _ _ rfl RB.out ?_)
  | ((with_reducible show wpList _ _ _ ({ dst := _, op := Op.store 28 _ _, type := _, pos := _, after := _, guard := none } :: _) _ _); refine wpList_store_run rfl 28 _ _ rfl _ _ _ rfl rfl RS.out ?_)
  | ((with_reducible show wpList _ _ _ ({ dst := _, op := Op.load 28 _, type := _, pos := _, after := _, guard := none } :: _) _ _); refine wpList_load_run rfl 28 _ rfl _ _ rfl RN.out ?_)
  | ((with_reducible show wpList _ _ _ ({ dst := _, op := Op.load 28 _, type := _, pos := _, after := _, guard := some _ } :: _) _ _); refine wpList_load_g 28 _ rfl _ _ rfl RN.out ?hw ?_; (case hw => (go_simp; done)))
  | ((with_reducible show wpList _ _ _ ({ dst := _, op := Op.load 30 _, type := _, pos := _, after := _, guard := some _ } :: _) _ _); refine wpList_load_g 30 _ rfl _ _ rfl RH.out ?hw ?_; (case hw => (go_simp; done)))
  | ((with_reducible show wpList _ _ _ ({ dst := _, op := Op.load 34 _, type := _, pos := _, after := _, guard := some _ } :: _) _ _); refine wpList_load_g 34 _ rfl _ _ rfl RC.out ?hw ?_; (case hw => (go_simp; done)))
  | ((with_reducible show wpList _ _ _ ({ dst := _, op := Op.load 30 _, type := _, pos := _, after := _, guard := none } :: _) _ _); refine wpList_load_run rfl 30 _ rfl _ _ rfl RH.out ?_)
  | ((with_reducible show wpList _ _ _ ({ dst := _, op := Op.load 34 _, type := _, pos := _, after := _, guard := none } :: _) _ _); refine wpList_load_run rfl 34 _ rfl _ _ rfl RC.out ?_)
  | (go_at_call 18; refine (HG.out _ HX.out).mono ?_; clear HG; rintro e u1 ⟨rfl, hb⟩; have HX : Hid _ := HX.out.step hb; clear hb; clear RX RN RH RC d2 d3 d4 d5 d6 x2 x3; have RX : Hid _ := rlod HX.out.b0; have RN : Hid _ := nlod HX.out.b3; have RH : Hid _ := hlod HX.out.b1; have RC : Hid _ := clod HX.out.b2; obtain ⟨d2, d3, d4, d5, d6⟩ := chg34 HX.out.b2; obtain ⟨_, _, x2, x3, _, _⟩ := r_cells HX.out.b0; rw [hd] at d2; rw [hc] at d3)
  | (go_at_call 14; refine (HNm.out _ HX.out).mono ?_; clear HNm; rintro e u2 ⟨rfl, hb⟩; have HX : Hid _ := HX.out.step hb; clear hb; clear RX RN RH RC d2 d3 d4 d5 d6 x2 x3; have RX : Hid _ := rlod HX.out.b0; have RN : Hid _ := nlod HX.out.b3; have RH : Hid _ := hlod HX.out.b1; have RC : Hid _ := clod HX.out.b2; obtain ⟨d2, d3, d4, d5, d6⟩ := chg34 HX.out.b2; obtain ⟨_, _, x2, x3, _, _⟩ := r_cells HX.out.b0; rw [hd] at d2; rw [hc] at d3)
  | (go_at_call 9; refine (HLv.out _ HX.out).mono ?_; clear HLv; rintro e u9 ⟨rfl, hb⟩; have HX : Hid _ := HX.out.step hb; clear hb)
  | (go_at_call 10; refine (HNo.out _ HX.out).mono ?_; clear HNo; rintro e w3 ⟨sl, rfl, hsl, hb⟩; have HX0 := HX.out.step hb; have HX : Hid _ := HX0.step (bel_alloc (Below.refl _ _) (.cells (lcs (gone) sl) 28)); have n1 := (nboxL w3 (gone) hsl); have RS : Hid _ := n1; have HQ : Hid _ := heap_alloc_new w3 (.cells (lcs (gone) sl) 28); clear hb HX0 n1 hsl; clear RX RN RH RC d2 d3 d4 d5 d6 x2 x3; have RX : Hid _ := rlod HX.out.b0; have RN : Hid _ := nlod HX.out.b3; have RH : Hid _ := hlod HX.out.b1; have RC : Hid _ := clod HX.out.b2; obtain ⟨d2, d3, d4, d5, d6⟩ := chg34 HX.out.b2; obtain ⟨_, _, x2, x3, _, _⟩ := r_cells HX.out.b0; rw [hd] at d2; rw [hc] at d3; have RSh : Hid _ := shlod HX.out.b2)
  | ((with_reducible show wpList _ _ _ ({ dst := _, op := Op.load 32 _, type := _, pos := _, after := _, guard := none } :: _) _ _); refine wpList_load_run rfl 32 _ rfl _ _ rfl RSh.out ?_)
  | (go_at_call 21; refine (HPo.out _).mono ?_; clear HPo; rintro e u5 ⟨rfl, hb⟩; have HX : Hid _ := HX.out.step hb; have HQ : Hid (u5.heap[w3.heap.size]? = some (.cells (lcs (gone) sl) 28)) := (hb.block _ (lt_of HQ.out)).trans HQ.out; clear d2 d3 d4 d5 d6 x2 x3; have q0 := nq HQ.out; have q2 : Hid ((Instr.loadAt 23 (.pointer (some ⟨w3.heap.size, 2, none⟩))).run Tryz.prog u5 = .ok (val 4 3 noB) u5) := (box_all HQ.out).2.2.1; skip; clear hb)
  | ((with_reducible show wpList _ _ _ ({ dst := _, op := Op.load 23 _, type := _, pos := _, after := _, guard := some _ } :: _) _ _); refine wpList_load_g 23 _ rfl _ _ rfl q2.out ?hw ?_; (case hw => (go_simp; done))))
 go_ret
 exact ⟨rfl, HX.out.bel⟩
theorem places_row_on {x : Rf} {H : Hm} {C : Chg} {w : World} (hd : C.dr = false) (hc : C.co = false) {pf : Int}
  {an : Bool} (HNo : Hid (∀ u, PB w x H C u → Calls Tryz.prog 10 #[.agg (rfN x), hmV H, .agg (chgC C)] u fun e w' => ∃ sl, e = .returned (.tuple #[.agg (lcs (labRf ⟨x.b, x.h, pf, x.c, x.fr, x.fc⟩) sl), .bool an]) ∧ (∃ p n c, sl = .slice p n c) ∧ Below u.heap.size u w'))
  (HPo : Hid (∀ u, Calls Tryz.prog 21 #[Hs.shV C.a C.n C.m, .int .i64 x.r] u fun e w' => e = .returned (.tuple #[.int .i64 pf, .bool true]) ∧ Below u.heap.size u w'))
  (HG : Hid (∀ u, PB w x H C u → Calls Tryz.prog 18 #[.agg (rfN x)] u fun e w' => e = .returned (.bool true) ∧ Below u.heap.size u w'))
  (HNm : Hid (∀ u, PB w x H C u → Calls Tryz.prog 14 #[.agg (rfN x), hmV H, .agg (chgC C)] u fun e w' => e = .returned (.bool true) ∧ Below u.heap.size u w'))
  (HLv : Hid (∀ u, PB w x H C u → Calls Tryz.prog 9 #[] u fun e w' => e = .returned (.bool true) ∧ Below u.heap.size u w')) :
  Calls Tryz.prog 7 #[rfV x, hmV H, .agg (chgC C)] w fun e w' => e = .returned (.bool true) ∧ Below w.heap.size w w' := by
 have HX : Hid (PB w x H C ((((w.alloc (rfO x)).alloc (plcO H.hb H.hs H.hr H.hc)).alloc (.cells (chgC C) 34)).alloc (.cells (rfN x) 28))) := PB.new w x H C
 have RX : Hid _ := rlod HX.out.b0
 have RN : Hid _ := nlod HX.out.b3
 have RH : Hid _ := hlod HX.out.b1
 have RC : Hid _ := clod HX.out.b2
 obtain ⟨d2, d3, d4, d5, d6⟩ := chg34 HX.out.b2
 obtain ⟨_, _, x2, x3, _, _⟩ := r_cells HX.out.b0
 have RX : Hid ((Instr.loadAt 25 (.pointer (some ⟨w.heap.size, 0, none⟩))).run Tryz.prog (((w.alloc (rfO x)).alloc (plcO H.hb H.hs H.hr H.hc)).alloc (.cells (chgC C) 34)) = .ok (rfV x) (((w.alloc (rfO x)).alloc (plcO H.hb H.hs H.hr H.hc)).alloc (.cells (chgC C) 34))) := rlod ((new3 (Below.refl _ _)).1)
 have RB : Hid _ := build_rf (((w.alloc (rfO x)).alloc (plcO H.hb H.hs H.hr H.hc)).alloc (.cells (chgC C) 34)) x
 have RS0 := (nbox (((w.alloc (rfO x)).alloc (plcO H.hb H.hs H.hr H.hc)).alloc (.cells (chgC C) 34)) (NK_rf x (((w.alloc (rfO x)).alloc (plcO H.hb H.hs H.hr H.hc)).alloc (.cells (chgC C) 34))).nt).1
 simp only [World.size_alloc] at RS0
 have RS : Hid _ := RS0
 clear RS0
 rw [hd] at d2
 rw [hc] at d3
 have hre := reB_refl ⟨x.b, x.h, pf, x.c, x.fr, x.fc⟩
 have hve := veB_bad
 go_enter Tryz.func7, Tryz.ntmps7
 go_wp2_with (first
  | ((with_reducible show wpList _ _ _ ({ dst := _, op := Op.load 25 _, type := _, pos := _, after := _, guard := none } :: _) _ _); refine wpList_load_run rfl 25 _ rfl _ _ rfl RX.out ?_)
  | ((with_reducible show wpList _ _ _ ({ dst := _, op := Op.build 28 _, type := _, pos := _, after := _, guard := none } :: _) _ _); refine wpList_build_run rfl 28 _ rfl _ _ rfl RB.out ?_)
  | ((with_reducible show wpList _ _ _ ({ dst := _, op := Op.store 28 _ _, type := _, pos := _, after := _, guard := none } :: _) _ _); refine wpList_store_run rfl 28 _ _ rfl _ _ _ rfl rfl RS.out ?_)
  | ((with_reducible show wpList _ _ _ ({ dst := _, op := Op.load 28 _, type := _, pos := _, after := _, guard := none } :: _) _ _); refine wpList_load_run rfl 28 _ rfl _ _ rfl RN.out ?_)
  | ((with_reducible show wpList _ _ _ ({ dst := _, op := Op.load 28 _, type := _, pos := _, after := _, guard := some _ } :: _) _ _); refine wpList_load_g 28 _ rfl _ _ rfl RN.out ?hw ?_; (case hw => (go_simp; done)))
  | ((with_reducible show wpList _ _ _ ({ dst := _, op := Op.load 30 _, type := _, pos := _, after := _, guard := some _ } :: _) _ _); refine wpList_load_g 30 _ rfl _ _ rfl RH.out ?hw ?_; (case hw => (go_simp; done)))
  | ((with_reducible show wpList _ _ _ ({ dst := _, op := Op.load 34 _, type := _, pos := _, after := _, guard := some _ } :: _) _ _); refine wpList_load_g 34 _ rfl _ _ rfl RC.out ?hw ?_; (case hw => (go_simp; done)))
  | ((with_reducible show wpList _ _ _ ({ dst := _, op := Op.load 30 _, type := _, pos := _, after := _, guard := none } :: _) _ _); refine wpList_load_run rfl 30 _ rfl _ _ rfl RH.out ?_)
  | ((with_reducible show wpList _ _ _ ({ dst := _, op := Op.load 34 _, type := _, pos := _, after := _, guard := none } :: _) _ _); refine wpList_load_run rfl 34 _ rfl _ _ rfl RC.out ?_)
  | (go_at_call 18; refine (HG.out _ HX.out).mono ?_; clear HG; rintro e u1 ⟨rfl, hb⟩; have HX : Hid _ := HX.out.step hb; clear hb; clear RX RN RH RC d2 d3 d4 d5 d6 x2 x3; have RX : Hid _ := rlod HX.out.b0; have RN : Hid _ := nlod HX.out.b3; have RH : Hid _ := hlod HX.out.b1; have RC : Hid _ := clod HX.out.b2; obtain ⟨d2, d3, d4, d5, d6⟩ := chg34 HX.out.b2; obtain ⟨_, _, x2, x3, _, _⟩ := r_cells HX.out.b0; rw [hd] at d2; rw [hc] at d3)
  | (go_at_call 14; refine (HNm.out _ HX.out).mono ?_; clear HNm; rintro e u2 ⟨rfl, hb⟩; have HX : Hid _ := HX.out.step hb; clear hb; clear RX RN RH RC d2 d3 d4 d5 d6 x2 x3; have RX : Hid _ := rlod HX.out.b0; have RN : Hid _ := nlod HX.out.b3; have RH : Hid _ := hlod HX.out.b1; have RC : Hid _ := clod HX.out.b2; obtain ⟨d2, d3, d4, d5, d6⟩ := chg34 HX.out.b2; obtain ⟨_, _, x2, x3, _, _⟩ := r_cells HX.out.b0; rw [hd] at d2; rw [hc] at d3)
  | (go_at_call 9; refine (HLv.out _ HX.out).mono ?_; clear HLv; rintro e u9 ⟨rfl, hb⟩; have HX : Hid _ := HX.out.step hb; clear hb)
  | (go_at_call 10; refine (HNo.out _ HX.out).mono ?_; clear HNo; rintro e w3 ⟨sl, rfl, hsl, hb⟩; have HX0 := HX.out.step hb; have HX : Hid _ := HX0.step (bel_alloc (Below.refl _ _) (.cells (lcs (labRf ⟨x.b, x.h, pf, x.c, x.fr, x.fc⟩) sl) 28)); have n1 := (nboxL w3 (labRf ⟨x.b, x.h, pf, x.c, x.fr, x.fc⟩) hsl); have RS : Hid _ := n1; have HQ : Hid _ := heap_alloc_new w3 (.cells (lcs (labRf ⟨x.b, x.h, pf, x.c, x.fr, x.fc⟩) sl) 28); clear hb HX0 n1 hsl; clear RX RN RH RC d2 d3 d4 d5 d6 x2 x3; have RX : Hid _ := rlod HX.out.b0; have RN : Hid _ := nlod HX.out.b3; have RH : Hid _ := hlod HX.out.b1; have RC : Hid _ := clod HX.out.b2; obtain ⟨d2, d3, d4, d5, d6⟩ := chg34 HX.out.b2; obtain ⟨_, _, x2, x3, _, _⟩ := r_cells HX.out.b0; rw [hd] at d2; rw [hc] at d3; have RSh : Hid _ := shlod HX.out.b2)
  | ((with_reducible show wpList _ _ _ ({ dst := _, op := Op.load 32 _, type := _, pos := _, after := _, guard := none } :: _) _ _); refine wpList_load_run rfl 32 _ rfl _ _ rfl RSh.out ?_)
  | (go_at_call 21; refine (HPo.out _).mono ?_; clear HPo; rintro e u5 ⟨rfl, hb⟩; have HX : Hid _ := HX.out.step hb; have HQ : Hid (u5.heap[w3.heap.size]? = some (.cells (lcs (labRf ⟨x.b, x.h, pf, x.c, x.fr, x.fc⟩) sl) 28)) := (hb.block _ (lt_of HQ.out)).trans HQ.out; have HXa := HX.out.step (bel_alloc (Below.refl _ _) (rfO x)); clear d2 d3 d4 d5 d6 x2 x3; have RX : Hid _ := rlod HX.out.b0; obtain ⟨d2, d3, d4, d5, d6⟩ := chg34 HXa.b2; rw [hc] at d3; have HQ : Hid ((u5.alloc (rfO ⟨x.b, x.h, pf, x.c, x.fr, x.fc⟩)).heap[w3.heap.size]? = some (.cells (lcs (labRf ⟨x.b, x.h, pf, x.c, x.fr, x.fc⟩) sl) 28)) := (Below.heap_alloc _ _ _ (lt_of HQ.out)).trans HQ.out; have HX : Hid _ := HX.out.step (bel_alloc (Below.refl _ _) (rfO ⟨x.b, x.h, pf, x.c, x.fr, x.fc⟩)); have q0 := nq HQ.out; have q5 : Hid ((Instr.loadAt 25 (.pointer (some ⟨w3.heap.size, 5, none⟩))).run Tryz.prog (u5.alloc (rfO ⟨x.b, x.h, pf, x.c, x.fr, x.fc⟩)) = .ok (rfV ⟨x.b, x.h, pf, x.c, x.fr, x.fc⟩) (u5.alloc (rfO ⟨x.b, x.h, pf, x.c, x.fr, x.fc⟩))) := (box_all HQ.out).2.2.2.1; have RY : Hid _ := rlod (heap_alloc_new u5 (rfO ⟨x.b, x.h, pf, x.c, x.fr, x.fc⟩)); clear HXa; clear hb)
  | ((with_reducible show wpList _ _ _ ({ dst := _, op := Op.load 25 _, type := _, pos := _, after := _, guard := some _ } :: _) _ _); refine wpList_load_g 25 _ rfl _ _ rfl q5.out ?hw ?_; (case hw => (go_simp; done)))
  | ((with_reducible show wpList _ _ _ ({ dst := _, op := Op.load 25 _, type := _, pos := _, after := _, guard := some _ } :: _) _ _); refine wpList_load_g 25 _ rfl _ _ rfl RY.out ?hw ?_; (case hw => (go_simp; done))))
 go_ret
 exact ⟨rfl, HX.out.bel⟩
theorem places_col_off {x : Rf} {H : Hm} {C : Chg} {w : World} (hd : C.dr = false) (hc : C.co = true) {pf : Int}
  {an : Bool} (HNo : Hid (∀ u, PB w x H C u → Calls Tryz.prog 10 #[.agg (rfN x), hmV H, .agg (chgC C)] u fun e w' => ∃ sl, e = .returned (.tuple #[.agg (lcs (gone) sl), .bool an]) ∧ (∃ p n c, sl = .slice p n c) ∧ Below u.heap.size u w'))
  (HPo : Hid (∀ u, Calls Tryz.prog 21 #[Hs.shV C.a C.n C.m, .int .i64 x.c] u fun e w' => e = .returned (.tuple #[.int .i64 pf, .bool false]) ∧ Below u.heap.size u w'))
  (HG : Hid (∀ u, PB w x H C u → Calls Tryz.prog 18 #[.agg (rfN x)] u fun e w' => e = .returned (.bool true) ∧ Below u.heap.size u w'))
  (HNm : Hid (∀ u, PB w x H C u → Calls Tryz.prog 14 #[.agg (rfN x), hmV H, .agg (chgC C)] u fun e w' => e = .returned (.bool true) ∧ Below u.heap.size u w'))
  (HLv : Hid (∀ u, PB w x H C u → Calls Tryz.prog 9 #[] u fun e w' => e = .returned (.bool true) ∧ Below u.heap.size u w')) :
  Calls Tryz.prog 7 #[rfV x, hmV H, .agg (chgC C)] w fun e w' => e = .returned (.bool true) ∧ Below w.heap.size w w' := by
 have HX : Hid (PB w x H C ((((w.alloc (rfO x)).alloc (plcO H.hb H.hs H.hr H.hc)).alloc (.cells (chgC C) 34)).alloc (.cells (rfN x) 28))) := PB.new w x H C
 have RX : Hid _ := rlod HX.out.b0
 have RN : Hid _ := nlod HX.out.b3
 have RH : Hid _ := hlod HX.out.b1
 have RC : Hid _ := clod HX.out.b2
 obtain ⟨d2, d3, d4, d5, d6⟩ := chg34 HX.out.b2
 obtain ⟨_, _, x2, x3, _, _⟩ := r_cells HX.out.b0
 have RX : Hid ((Instr.loadAt 25 (.pointer (some ⟨w.heap.size, 0, none⟩))).run Tryz.prog (((w.alloc (rfO x)).alloc (plcO H.hb H.hs H.hr H.hc)).alloc (.cells (chgC C) 34)) = .ok (rfV x) (((w.alloc (rfO x)).alloc (plcO H.hb H.hs H.hr H.hc)).alloc (.cells (chgC C) 34))) := rlod ((new3 (Below.refl _ _)).1)
 have RB : Hid _ := build_rf (((w.alloc (rfO x)).alloc (plcO H.hb H.hs H.hr H.hc)).alloc (.cells (chgC C) 34)) x
 have RS0 := (nbox (((w.alloc (rfO x)).alloc (plcO H.hb H.hs H.hr H.hc)).alloc (.cells (chgC C) 34)) (NK_rf x (((w.alloc (rfO x)).alloc (plcO H.hb H.hs H.hr H.hc)).alloc (.cells (chgC C) 34))).nt).1
 simp only [World.size_alloc] at RS0
 have RS : Hid _ := RS0
 clear RS0
 rw [hd] at d2
 rw [hc] at d3
 have hre := reB_refl ⟨x.b, x.h, x.r, pf, x.fr, x.fc⟩
 have hve := veB_bad
 go_enter Tryz.func7, Tryz.ntmps7
 go_wp2_with (first
  | ((with_reducible show wpList _ _ _ ({ dst := _, op := Op.load 25 _, type := _, pos := _, after := _, guard := none } :: _) _ _); refine wpList_load_run rfl 25 _ rfl _ _ rfl RX.out ?_)
  | ((with_reducible show wpList _ _ _ ({ dst := _, op := Op.build 28 _, type := _, pos := _, after := _, guard := none } :: _) _ _); refine wpList_build_run rfl 28 _ rfl _ _ rfl RB.out ?_)
  | ((with_reducible show wpList _ _ _ ({ dst := _, op := Op.store 28 _ _, type := _, pos := _, after := _, guard := none } :: _) _ _); refine wpList_store_run rfl 28 _ _ rfl _ _ _ rfl rfl RS.out ?_)
  | ((with_reducible show wpList _ _ _ ({ dst := _, op := Op.load 28 _, type := _, pos := _, after := _, guard := none } :: _) _ _); refine wpList_load_run rfl 28 _ rfl _ _ rfl RN.out ?_)
  | ((with_reducible show wpList _ _ _ ({ dst := _, op := Op.load 28 _, type := _, pos := _, after := _, guard := some _ } :: _) _ _); refine wpList_load_g 28 _ rfl _ _ rfl RN.out ?hw ?_; (case hw => (go_simp; done)))
  | ((with_reducible show wpList _ _ _ ({ dst := _, op := Op.load 30 _, type := _, pos := _, after := _, guard := some _ } :: _) _ _); refine wpList_load_g 30 _ rfl _ _ rfl RH.out ?hw ?_; (case hw => (go_simp; done)))
  | ((with_reducible show wpList _ _ _ ({ dst := _, op := Op.load 34 _, type := _, pos := _, after := _, guard := some _ } :: _) _ _); refine wpList_load_g 34 _ rfl _ _ rfl RC.out ?hw ?_; (case hw => (go_simp; done)))
  | ((with_reducible show wpList _ _ _ ({ dst := _, op := Op.load 30 _, type := _, pos := _, after := _, guard := none } :: _) _ _); refine wpList_load_run rfl 30 _ rfl _ _ rfl RH.out ?_)
  | ((with_reducible show wpList _ _ _ ({ dst := _, op := Op.load 34 _, type := _, pos := _, after := _, guard := none } :: _) _ _); refine wpList_load_run rfl 34 _ rfl _ _ rfl RC.out ?_)
  | (go_at_call 18; refine (HG.out _ HX.out).mono ?_; clear HG; rintro e u1 ⟨rfl, hb⟩; have HX : Hid _ := HX.out.step hb; clear hb; clear RX RN RH RC d2 d3 d4 d5 d6 x2 x3; have RX : Hid _ := rlod HX.out.b0; have RN : Hid _ := nlod HX.out.b3; have RH : Hid _ := hlod HX.out.b1; have RC : Hid _ := clod HX.out.b2; obtain ⟨d2, d3, d4, d5, d6⟩ := chg34 HX.out.b2; obtain ⟨_, _, x2, x3, _, _⟩ := r_cells HX.out.b0; rw [hd] at d2; rw [hc] at d3)
  | (go_at_call 14; refine (HNm.out _ HX.out).mono ?_; clear HNm; rintro e u2 ⟨rfl, hb⟩; have HX : Hid _ := HX.out.step hb; clear hb; clear RX RN RH RC d2 d3 d4 d5 d6 x2 x3; have RX : Hid _ := rlod HX.out.b0; have RN : Hid _ := nlod HX.out.b3; have RH : Hid _ := hlod HX.out.b1; have RC : Hid _ := clod HX.out.b2; obtain ⟨d2, d3, d4, d5, d6⟩ := chg34 HX.out.b2; obtain ⟨_, _, x2, x3, _, _⟩ := r_cells HX.out.b0; rw [hd] at d2; rw [hc] at d3)
  | (go_at_call 9; refine (HLv.out _ HX.out).mono ?_; clear HLv; rintro e u9 ⟨rfl, hb⟩; have HX : Hid _ := HX.out.step hb; clear hb)
  | (go_at_call 10; refine (HNo.out _ HX.out).mono ?_; clear HNo; rintro e w3 ⟨sl, rfl, hsl, hb⟩; have HX0 := HX.out.step hb; have HX : Hid _ := HX0.step (bel_alloc (Below.refl _ _) (.cells (lcs (gone) sl) 28)); have n1 := (nboxL w3 (gone) hsl); have RS : Hid _ := n1; have HQ : Hid _ := heap_alloc_new w3 (.cells (lcs (gone) sl) 28); clear hb HX0 n1 hsl; clear RX RN RH RC d2 d3 d4 d5 d6 x2 x3; have RX : Hid _ := rlod HX.out.b0; have RN : Hid _ := nlod HX.out.b3; have RH : Hid _ := hlod HX.out.b1; have RC : Hid _ := clod HX.out.b2; obtain ⟨d2, d3, d4, d5, d6⟩ := chg34 HX.out.b2; obtain ⟨_, _, x2, x3, _, _⟩ := r_cells HX.out.b0; rw [hd] at d2; rw [hc] at d3; have RSh : Hid _ := shlod HX.out.b2)
  | ((with_reducible show wpList _ _ _ ({ dst := _, op := Op.load 32 _, type := _, pos := _, after := _, guard := none } :: _) _ _); refine wpList_load_run rfl 32 _ rfl _ _ rfl RSh.out ?_)
  | (go_at_call 21; refine (HPo.out _).mono ?_; clear HPo; rintro e u5 ⟨rfl, hb⟩; have HX : Hid _ := HX.out.step hb; have HQ : Hid (u5.heap[w3.heap.size]? = some (.cells (lcs (gone) sl) 28)) := (hb.block _ (lt_of HQ.out)).trans HQ.out; clear d2 d3 d4 d5 d6 x2 x3; have q0 := nq HQ.out; have q2 : Hid ((Instr.loadAt 23 (.pointer (some ⟨w3.heap.size, 2, none⟩))).run Tryz.prog u5 = .ok (val 4 3 noB) u5) := (box_all HQ.out).2.2.1; skip; clear hb)
  | ((with_reducible show wpList _ _ _ ({ dst := _, op := Op.load 23 _, type := _, pos := _, after := _, guard := some _ } :: _) _ _); refine wpList_load_g 23 _ rfl _ _ rfl q2.out ?hw ?_; (case hw => (go_simp; done))))
 go_ret
 exact ⟨rfl, HX.out.bel⟩
theorem places_col_on {x : Rf} {H : Hm} {C : Chg} {w : World} (hd : C.dr = false) (hc : C.co = true) {pf : Int}
  {an : Bool} (HNo : Hid (∀ u, PB w x H C u → Calls Tryz.prog 10 #[.agg (rfN x), hmV H, .agg (chgC C)] u fun e w' => ∃ sl, e = .returned (.tuple #[.agg (lcs (labRf ⟨x.b, x.h, x.r, pf, x.fr, x.fc⟩) sl), .bool an]) ∧ (∃ p n c, sl = .slice p n c) ∧ Below u.heap.size u w'))
  (HPo : Hid (∀ u, Calls Tryz.prog 21 #[Hs.shV C.a C.n C.m, .int .i64 x.c] u fun e w' => e = .returned (.tuple #[.int .i64 pf, .bool true]) ∧ Below u.heap.size u w'))
  (HG : Hid (∀ u, PB w x H C u → Calls Tryz.prog 18 #[.agg (rfN x)] u fun e w' => e = .returned (.bool true) ∧ Below u.heap.size u w'))
  (HNm : Hid (∀ u, PB w x H C u → Calls Tryz.prog 14 #[.agg (rfN x), hmV H, .agg (chgC C)] u fun e w' => e = .returned (.bool true) ∧ Below u.heap.size u w'))
  (HLv : Hid (∀ u, PB w x H C u → Calls Tryz.prog 9 #[] u fun e w' => e = .returned (.bool true) ∧ Below u.heap.size u w')) :
  Calls Tryz.prog 7 #[rfV x, hmV H, .agg (chgC C)] w fun e w' => e = .returned (.bool true) ∧ Below w.heap.size w w' := by
 have HX : Hid (PB w x H C ((((w.alloc (rfO x)).alloc (plcO H.hb H.hs H.hr H.hc)).alloc (.cells (chgC C) 34)).alloc (.cells (rfN x) 28))) := PB.new w x H C
 have RX : Hid _ := rlod HX.out.b0
 have RN : Hid _ := nlod HX.out.b3
 have RH : Hid _ := hlod HX.out.b1
 have RC : Hid _ := clod HX.out.b2
 obtain ⟨d2, d3, d4, d5, d6⟩ := chg34 HX.out.b2
 obtain ⟨_, _, x2, x3, _, _⟩ := r_cells HX.out.b0
 have RX : Hid ((Instr.loadAt 25 (.pointer (some ⟨w.heap.size, 0, none⟩))).run Tryz.prog (((w.alloc (rfO x)).alloc (plcO H.hb H.hs H.hr H.hc)).alloc (.cells (chgC C) 34)) = .ok (rfV x) (((w.alloc (rfO x)).alloc (plcO H.hb H.hs H.hr H.hc)).alloc (.cells (chgC C) 34))) := rlod ((new3 (Below.refl _ _)).1)
 have RB : Hid _ := build_rf (((w.alloc (rfO x)).alloc (plcO H.hb H.hs H.hr H.hc)).alloc (.cells (chgC C) 34)) x
 have RS0 := (nbox (((w.alloc (rfO x)).alloc (plcO H.hb H.hs H.hr H.hc)).alloc (.cells (chgC C) 34)) (NK_rf x (((w.alloc (rfO x)).alloc (plcO H.hb H.hs H.hr H.hc)).alloc (.cells (chgC C) 34))).nt).1
 simp only [World.size_alloc] at RS0
 have RS : Hid _ := RS0
 clear RS0
 rw [hd] at d2
 rw [hc] at d3
 have hre := reB_refl ⟨x.b, x.h, x.r, pf, x.fr, x.fc⟩
 have hve := veB_bad
 go_enter Tryz.func7, Tryz.ntmps7
 go_wp2_with (first
  | ((with_reducible show wpList _ _ _ ({ dst := _, op := Op.load 25 _, type := _, pos := _, after := _, guard := none } :: _) _ _); refine wpList_load_run rfl 25 _ rfl _ _ rfl RX.out ?_)
  | ((with_reducible show wpList _ _ _ ({ dst := _, op := Op.build 28 _, type := _, pos := _, after := _, guard := none } :: _) _ _); refine wpList_build_run rfl 28 _ rfl _ _ rfl RB.out ?_)
  | ((with_reducible show wpList _ _ _ ({ dst := _, op := Op.store 28 _ _, type := _, pos := _, after := _, guard := none } :: _) _ _); refine wpList_store_run rfl 28 _ _ rfl _ _ _ rfl rfl RS.out ?_)
  | ((with_reducible show wpList _ _ _ ({ dst := _, op := Op.load 28 _, type := _, pos := _, after := _, guard := none } :: _) _ _); refine wpList_load_run rfl 28 _ rfl _ _ rfl RN.out ?_)
  | ((with_reducible show wpList _ _ _ ({ dst := _, op := Op.load 28 _, type := _, pos := _, after := _, guard := some _ } :: _) _ _); refine wpList_load_g 28 _ rfl _ _ rfl RN.out ?hw ?_; (case hw => (go_simp; done)))
  | ((with_reducible show wpList _ _ _ ({ dst := _, op := Op.load 30 _, type := _, pos := _, after := _, guard := some _ } :: _) _ _); refine wpList_load_g 30 _ rfl _ _ rfl RH.out ?hw ?_; (case hw => (go_simp; done)))
  | ((with_reducible show wpList _ _ _ ({ dst := _, op := Op.load 34 _, type := _, pos := _, after := _, guard := some _ } :: _) _ _); refine wpList_load_g 34 _ rfl _ _ rfl RC.out ?hw ?_; (case hw => (go_simp; done)))
  | ((with_reducible show wpList _ _ _ ({ dst := _, op := Op.load 30 _, type := _, pos := _, after := _, guard := none } :: _) _ _); refine wpList_load_run rfl 30 _ rfl _ _ rfl RH.out ?_)
  | ((with_reducible show wpList _ _ _ ({ dst := _, op := Op.load 34 _, type := _, pos := _, after := _, guard := none } :: _) _ _); refine wpList_load_run rfl 34 _ rfl _ _ rfl RC.out ?_)
  | (go_at_call 18; refine (HG.out _ HX.out).mono ?_; clear HG; rintro e u1 ⟨rfl, hb⟩; have HX : Hid _ := HX.out.step hb; clear hb; clear RX RN RH RC d2 d3 d4 d5 d6 x2 x3; have RX : Hid _ := rlod HX.out.b0; have RN : Hid _ := nlod HX.out.b3; have RH : Hid _ := hlod HX.out.b1; have RC : Hid _ := clod HX.out.b2; obtain ⟨d2, d3, d4, d5, d6⟩ := chg34 HX.out.b2; obtain ⟨_, _, x2, x3, _, _⟩ := r_cells HX.out.b0; rw [hd] at d2; rw [hc] at d3)
  | (go_at_call 14; refine (HNm.out _ HX.out).mono ?_; clear HNm; rintro e u2 ⟨rfl, hb⟩; have HX : Hid _ := HX.out.step hb; clear hb; clear RX RN RH RC d2 d3 d4 d5 d6 x2 x3; have RX : Hid _ := rlod HX.out.b0; have RN : Hid _ := nlod HX.out.b3; have RH : Hid _ := hlod HX.out.b1; have RC : Hid _ := clod HX.out.b2; obtain ⟨d2, d3, d4, d5, d6⟩ := chg34 HX.out.b2; obtain ⟨_, _, x2, x3, _, _⟩ := r_cells HX.out.b0; rw [hd] at d2; rw [hc] at d3)
  | (go_at_call 9; refine (HLv.out _ HX.out).mono ?_; clear HLv; rintro e u9 ⟨rfl, hb⟩; have HX : Hid _ := HX.out.step hb; clear hb)
  | (go_at_call 10; refine (HNo.out _ HX.out).mono ?_; clear HNo; rintro e w3 ⟨sl, rfl, hsl, hb⟩; have HX0 := HX.out.step hb; have HX : Hid _ := HX0.step (bel_alloc (Below.refl _ _) (.cells (lcs (labRf ⟨x.b, x.h, x.r, pf, x.fr, x.fc⟩) sl) 28)); have n1 := (nboxL w3 (labRf ⟨x.b, x.h, x.r, pf, x.fr, x.fc⟩) hsl); have RS : Hid _ := n1; have HQ : Hid _ := heap_alloc_new w3 (.cells (lcs (labRf ⟨x.b, x.h, x.r, pf, x.fr, x.fc⟩) sl) 28); clear hb HX0 n1 hsl; clear RX RN RH RC d2 d3 d4 d5 d6 x2 x3; have RX : Hid _ := rlod HX.out.b0; have RN : Hid _ := nlod HX.out.b3; have RH : Hid _ := hlod HX.out.b1; have RC : Hid _ := clod HX.out.b2; obtain ⟨d2, d3, d4, d5, d6⟩ := chg34 HX.out.b2; obtain ⟨_, _, x2, x3, _, _⟩ := r_cells HX.out.b0; rw [hd] at d2; rw [hc] at d3; have RSh : Hid _ := shlod HX.out.b2)
  | ((with_reducible show wpList _ _ _ ({ dst := _, op := Op.load 32 _, type := _, pos := _, after := _, guard := none } :: _) _ _); refine wpList_load_run rfl 32 _ rfl _ _ rfl RSh.out ?_)
  | (go_at_call 21; refine (HPo.out _).mono ?_; clear HPo; rintro e u5 ⟨rfl, hb⟩; have HX : Hid _ := HX.out.step hb; have HQ : Hid (u5.heap[w3.heap.size]? = some (.cells (lcs (labRf ⟨x.b, x.h, x.r, pf, x.fr, x.fc⟩) sl) 28)) := (hb.block _ (lt_of HQ.out)).trans HQ.out; have HXa := HX.out.step (bel_alloc (Below.refl _ _) (rfO x)); clear d2 d3 d4 d5 d6 x2 x3; have RX : Hid _ := rlod HX.out.b0; obtain ⟨d2, d3, d4, d5, d6⟩ := chg34 HXa.b2; rw [hc] at d3; have HQ : Hid ((u5.alloc (rfO ⟨x.b, x.h, x.r, pf, x.fr, x.fc⟩)).heap[w3.heap.size]? = some (.cells (lcs (labRf ⟨x.b, x.h, x.r, pf, x.fr, x.fc⟩) sl) 28)) := (Below.heap_alloc _ _ _ (lt_of HQ.out)).trans HQ.out; have HX : Hid _ := HX.out.step (bel_alloc (Below.refl _ _) (rfO ⟨x.b, x.h, x.r, pf, x.fr, x.fc⟩)); have q0 := nq HQ.out; have q5 : Hid ((Instr.loadAt 25 (.pointer (some ⟨w3.heap.size, 5, none⟩))).run Tryz.prog (u5.alloc (rfO ⟨x.b, x.h, x.r, pf, x.fr, x.fc⟩)) = .ok (rfV ⟨x.b, x.h, x.r, pf, x.fr, x.fc⟩) (u5.alloc (rfO ⟨x.b, x.h, x.r, pf, x.fr, x.fc⟩))) := (box_all HQ.out).2.2.2.1; have RY : Hid _ := rlod (heap_alloc_new u5 (rfO ⟨x.b, x.h, x.r, pf, x.fr, x.fc⟩)); clear HXa; clear hb)
  | ((with_reducible show wpList _ _ _ ({ dst := _, op := Op.load 25 _, type := _, pos := _, after := _, guard := some _ } :: _) _ _); refine wpList_load_g 25 _ rfl _ _ rfl q5.out ?hw ?_; (case hw => (go_simp; done)))
  | ((with_reducible show wpList _ _ _ ({ dst := _, op := Op.load 25 _, type := _, pos := _, after := _, guard := some _ } :: _) _ _); refine wpList_load_g 25 _ rfl _ _ rfl RY.out ?hw ?_; (case hw => (go_simp; done))))
 go_ret
 exact ⟨rfl, HX.out.bel⟩
end Go.Proofs.YtljmklbbngpllaaGreatDoor.Rw
namespace Go.Proofs.YtljmklbbngpllaaGreatDoor.Rw
open Go.RowKit Go.Fm
theorem places_any {x : Rf} (hx1 : x.b.size ≤ maxLen) (hx2 : x.h.size ≤ maxLen) (H : Hm) (C : Chg) {w : World} (T : Tab9 w) :
  Calls Tryz.prog 7 #[rfV x, hmV H, .agg (chgC C)] w fun e w' => e = .returned (.bool true) ∧ Below w.heap.size w w' := by
 have HG : Hid (∀ u, PB w x H C u → Calls Tryz.prog 18 #[.agg (rfN x)] u fun e w' => e = .returned (.bool (gT okL 24 (tR x))) ∧ Below u.heap.size u w') := fun u hu =>
  rgood_tree right_all (by rw [zT_rf]; omega) (ZT_rf hx1 hx2) (NK_rf x u).nt (T.below hu.bel)
 have HNm : Hid (∀ u, PB w x H C u → Calls Tryz.prog 14 #[.agg (rfN x), hmV H, .agg (chgC C)] u fun e w' => e = .returned (.bool (nmT C H (tR x))) ∧ Below u.heap.size u w') := fun u hu =>
  rwnames_any C H (by rw [zT_rf]; omega) (NK_rf x u) (fun i hi => hi)
 have HLv : Hid (∀ u, PB w x H C u → Calls Tryz.prog 9 #[] u fun e w' => e = .returned (.bool true) ∧ Below u.heap.size u w') := fun u hu => lives_any u (T.below hu.bel)
 have HNo : Hid (∀ u, PB w x H C u → Calls Tryz.prog 10 #[.agg (rfN x), hmV H, .agg (chgC C)] u fun e w' => ∃ es', e = .returned (.tuple #[.agg es', .bool (rwB C H (tR x))]) ∧ (∃ p n c, es' = lcs (rwT C H (tR x)).1 (.slice p n c)) ∧ Below u.heap.size u w') := fun u hu => by
  refine (rwnode_any C H (by rw [zT_rf]; omega) (NK_rf x u) (fun i hi => hi)).mono ?_
  rintro e w' ⟨es', rfl, ⟨p, n, c, h1, _⟩, hb⟩
  exact ⟨es', rfl, ⟨p, n, c, h1⟩, hb⟩
 clear T
 cases hg : gT okL 24 (tR x)
 ·rw [hg] at HG
  exact places_bad HG HNm HLv
 rw [hg] at HG
 cases hn : nmT C H (tR x)
 ·rw [hn] at HNm
  exact places_none HG HNm HLv
 rw [hn] at HNm
 have hnm : nm C H (labRf x) = true := by
  have : nmT C H (tR x) = (nm C H (labRf x) || false) := rfl
  rw [this, Bool.or_false] at hn
  exact hn
 have hT : (rwT C H (tR x)).1 = rfL C x := by
  have : rwT C H (tR x) = if nm C H (labRf x) = true then (rwL C (labRf x), .nil) else (labRf x, .nil) := rfl
  rw [this, if_pos hnm]
  rfl
 cases hd : C.dr
 ·have hL : rfL C x = if Hs.posB C.a C.n C.m (ln C x) = true then labRf (setLn C x (Hs.posF C.a C.n C.m (ln C x))) else gone := by
   unfold rfL mvB mvX
   rw [hd]
   rfl
  have HPo : Hid (∀ u, Calls Tryz.prog 21 #[Hs.shV C.a C.n C.m, .int .i64 (ln C x)] u fun e w' => e = .returned (.tuple #[.int .i64 (Hs.posF C.a C.n C.m (ln C x)), .bool (Hs.posB C.a C.n C.m (ln C x))]) ∧ Below u.heap.size u w') := fun u => Hs.pos_any _ _ _ _ u
  rw [hT, hL] at HNo
  clear hT hL hnm hn hg
  have HNo' : Hid (∀ u, PB w x H C u → Calls Tryz.prog 10 #[.agg (rfN x), hmV H, .agg (chgC C)] u fun e w' => ∃ sl, e = .returned (.tuple #[.agg (lcs (if Hs.posB C.a C.n C.m (ln C x) = true then labRf (setLn C x (Hs.posF C.a C.n C.m (ln C x))) else gone) sl), .bool (rwB C H (tR x))]) ∧ (∃ p n c, sl = .slice p n c) ∧ Below u.heap.size u w') := fun u hu => by
   refine (HNo.out u hu).mono ?_
   rintro e w' ⟨es', rfl, ⟨p, n, c, rfl⟩, hb⟩
   exact ⟨_, rfl, ⟨p, n, c, rfl⟩, hb⟩
  clear HNo
  cases hc : C.co
  ·have e1 : ln C x = x.r := by unfold ln; rw [hc]; rfl
   have e2 : ∀ v, setLn C x v = ⟨x.b, x.h, v, x.c, x.fr, x.fc⟩ := fun v => by unfold setLn; rw [hc]; rfl
   rw [e1, e2] at HNo'
   rw [e1] at HPo
   generalize Hs.posF C.a C.n C.m x.r = pf at *
   cases hb : Hs.posB C.a C.n C.m x.r
   ·rw [hb] at HPo HNo'
    exact places_row_off hd hc HNo' HPo HG HNm HLv
   ·rw [hb] at HPo HNo'
    exact places_row_on hd hc HNo' HPo HG HNm HLv
  ·have e1 : ln C x = x.c := by unfold ln; rw [hc]; rfl
   have e2 : ∀ v, setLn C x v = ⟨x.b, x.h, x.r, v, x.fr, x.fc⟩ := fun v => by unfold setLn; rw [hc]; rfl
   rw [e1, e2] at HNo'
   rw [e1] at HPo
   generalize Hs.posF C.a C.n C.m x.c = pf at *
   cases hb : Hs.posB C.a C.n C.m x.c
   ·rw [hb] at HPo HNo'
    exact places_col_off hd hc HNo' HPo HG HNm HLv
   ·rw [hb] at HPo HNo'
    exact places_col_on hd hc HNo' HPo HG HNm HLv
 ·exact places_drop hd HG HNm HLv
end Go.Proofs.YtljmklbbngpllaaGreatDoor.Rw
