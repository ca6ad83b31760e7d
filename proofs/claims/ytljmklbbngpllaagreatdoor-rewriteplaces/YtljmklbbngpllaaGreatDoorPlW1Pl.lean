/- RRight, PlW0, PlW1. -/
import Derived.Test.YtljmklbbngpllaaGreatDoorRRight2Pl
import Derived.Test.YtljmklbbngpllaaGreatDoorRRight3Pl
import Derived.Test.YtljmklbbngpllaaGreatDoorRRight4Pl
import Derived.Test.YtljmklbbngpllaaGreatDoorRRight6Pl
import Derived.Test.YtljmklbbngpllaaGreatDoorRRight7Pl
import Derived.Test.YtljmklbbngpllaaGreatDoorRwWithPl
set_option linter.unusedVariables false
set_option linter.unusedSimpArgs false
set_option maxHeartbeats 16000000
set_option maxRecDepth 100000
namespace Go.Proofs.YtljmklbbngpllaaGreatDoor
open Go.RowKit Go.Fm
theorem right_all : RightC := by
 intro t hz Z w es h T
 obtain ⟨p, n, c, rfl, hs⟩ := h
 obtain ⟨a, f⟩ := t
 have hn : n = (kids f).length := hs.1
 have ZL := Z.top
 show Calls Tryz.prog 65 #[.agg (lcs a (.slice p n c))] w fun e w' => e = .returned (.bool (okL a (kids f).length)) ∧ Below w.heap.size w w'
 rw [← hn]
 by_cases h1 : a.k = 1
 ·exact right_1 h1 ZL hz hs
 by_cases h2 : a.k = 2
 ·exact right_2 h2 ZL hz hs
 by_cases h3 : a.k = 3
 ·exact right_3 h3 ZL hz hs T
 by_cases h4 : a.k = 4
 ·exact right_4 h4 ZL hz hs
 by_cases h5 : a.k = 5
 ·exact right_5 h5 hz hs
 by_cases h6 : a.k = 6
 ·exact right_6 h6 hz hs
 by_cases h7 : a.k = 7
 ·exact right_7 h7 ZL hz hs
 have e : okL a n = false := by
  unfold okL partsB
  rw [if_neg h1, if_neg h2, if_neg h3, if_neg h4, if_neg h5, if_neg h6, if_neg h7, Bool.and_false]
 rw [e]
 exact right_else (by simpa using h1) (by simpa using h2) (by simpa using h3) (by simpa using h4) (by simpa using h5) (by simpa using h6) (by simpa using h7)
end Go.Proofs.YtljmklbbngpllaaGreatDoor
namespace Go.Proofs.YtljmklbbngpllaaGreatDoor.Rw
open Go.RowKit Go.Fm
attribute [local go_sem] run_eql_val run_eql_refB
def tR (x : Rf) : T := (labRf x, .nil)
abbrev rfN (x : Rf) : Array Value := lcs (labRf x) (.slice none 0 0)
structure PB (w : World) (x : Rf) (H : Hm) (C : Chg) (u : World) : Prop where
 b0 : u.heap[w.heap.size]? = some (rfO x)
 b1 : u.heap[w.heap.size + 1]? = some (plcO H.hb H.hs H.hr H.hc)
 b2 : u.heap[w.heap.size + 2]? = some (.cells (chgC C) 34)
 b3 : u.heap[w.heap.size + 3]? = some (.cells (rfN x) 28)
 bel : Below w.heap.size w u
theorem PB.step {w : World} {x : Rf} {H : Hm} {C : Chg} {u v : World} (h : PB w x H C u) (hb : Below u.heap.size u v) : PB w x H C v :=
 ⟨(hb.block _ (lt_of h.b0)).trans h.b0, (hb.block _ (lt_of h.b1)).trans h.b1, (hb.block _ (lt_of h.b2)).trans h.b2, (hb.block _ (lt_of h.b3)).trans h.b3, bel_step h.bel hb⟩
theorem PB.new (w : World) (x : Rf) (H : Hm) (C : Chg) : PB w x H C ((((w.alloc (rfO x)).alloc (plcO H.hb H.hs H.hr H.hc)).alloc (.cells (chgC C) 34)).alloc (.cells (rfN x) 28)) := by
 have hu := Below.refl ((((w.alloc (rfO x)).alloc (plcO H.hb H.hs H.hr H.hc)).alloc (.cells (chgC C) 34)).alloc (.cells (rfN x) 28)).heap.size ((((w.alloc (rfO x)).alloc (plcO H.hb H.hs H.hr H.hc)).alloc (.cells (chgC C) 34)).alloc (.cells (rfN x) 28))
 have q3 := new1 hu
 have q2 := new1 (bel1 hu)
 have q1 := new1 (bel1 (bel1 hu))
 have q0 := new1 (bel1 (bel1 (bel1 hu)))
 simp only [World.size_alloc] at q0 q1 q2 q3
 exact ⟨q0, q1, q2, q3, bel_alloc (bel_alloc (bel_alloc (bel_alloc (Below.refl _ _) _) _) _) _⟩
theorem chg34 {u : World} {g : Nat} {C : Chg} (h : u.heap[g]? = some (.cells (chgC C) 34)) : u.cell? ⟨g, 2, none⟩ = some (.bool C.dr) ∧ u.cell? ⟨g, 3, none⟩ = some (.bool C.co) ∧ u.cell? ⟨g, 4, none⟩ = some (.int .i64 C.a) ∧ u.cell? ⟨g, 5, none⟩ = some (.int .i64 C.n) ∧ u.cell? ⟨g, 6, none⟩ = some (.int .i64 C.m) := by
 simp [World.cell?, h]
theorem shlod {u : World} {g : Nat} {C : Chg} (h : u.heap[g]? = some (.cells (chgC C) 34)) : (Instr.loadAt 32 (.pointer (some ⟨g, 4, none⟩))).run Tryz.prog u = .ok (Hs.shV C.a C.n C.m) u := by
 obtain ⟨_, _, h4, h5, h6⟩ := chg34 h
 exact run_loadVar_any (P := Tryz.prog) u ⟨g, 4, none⟩ 32 [.int .i64 C.a, .int .i64 C.n, .int .i64 C.m] _ (fun j v hj => by
  have hadd : (⟨g, 4, none⟩ : Addr).add j = ⟨g, 4 + j, none⟩ := by unfold Addr.add; split <;> simp_all
  rw [hadd]
  match j, hj with
  | 0, hj => cases hj; exact h4
  | 1, hj => cases hj; exact h5
  | 2, hj => cases hj; exact h6) Tryz.underlying32 rfl (by kernel_rfl)
theorem NK_rf (x : Rf) (w : World) : NK (fun i => i < w.heap.size) w (rfN x) (tR x) := ⟨_, _, _, rfl, rfl, .inl rfl⟩
theorem zT_rf (x : Rf) : zT (tR x) = 1 := rfl
theorem ZT_rf {x : Rf} (h1 : x.b.size ≤ maxLen) (h2 : x.h.size ≤ maxLen) : ZT (tR x) := fun y hy => by
 have : y = tR x := by simpa [preT, tR, pre] using hy
 subst this
 exact ⟨(by show 0 ≤ 9223372036854775807; omega), h1, h2, (by show 0 ≤ 9223372036854775807; omega), (by show 0 ≤ 9223372036854775807; omega)⟩
end Go.Proofs.YtljmklbbngpllaaGreatDoor.Rw
namespace Go.Proofs.YtljmklbbngpllaaGreatDoor.Rw
open Go.RowKit Go.Fm
attribute [local go_sem] run_eql_val run_eql_refB
theorem nlod {u : World} {g : Nat} {a : Lab} {sl : Value} (h : u.heap[g]? = some (.cells (lcs a sl) 28)) : (Instr.loadAt 28 (.pointer (some ⟨g, 0, none⟩))).run Tryz.prog u = .ok (.agg (lcs a sl)) u := lod h rfl Tryz.underlying28 (by rw [lcs_size]; exact inf28)
theorem places_bad {x : Rf} {H : Hm} {C : Chg} {w : World} 
  {b : Bool} (HG : Hid (∀ u, PB w x H C u → Calls Tryz.prog 18 #[.agg (rfN x)] u fun e w' => e = .returned (.bool false) ∧ Below u.heap.size u w'))
  (HNm : Hid (∀ u, PB w x H C u → Calls Tryz.prog 14 #[.agg (rfN x), hmV H, .agg (chgC C)] u fun e w' => e = .returned (.bool b) ∧ Below u.heap.size u w'))
  (HLv : Hid (∀ u, PB w x H C u → Calls Tryz.prog 9 #[] u fun e w' => e = .returned (.bool true) ∧ Below u.heap.size u w')) :
  Calls Tryz.prog 7 #[rfV x, hmV H, .agg (chgC C)] w fun e w' => e = .returned (.bool true) ∧ Below w.heap.size w w' := by
 have HX : Hid (PB w x H C ((((w.alloc (rfO x)).alloc (plcO H.hb H.hs H.hr H.hc)).alloc (.cells (chgC C) 34)).alloc (.cells (rfN x) 28))) := PB.new w x H C
 have RX : Hid _ := rlod HX.out.b0
 have RN : Hid _ := nlod HX.out.b3
 have RH : Hid _ := hlod HX.out.b1
 have RC : Hid _ := clod HX.out.b2
 obtain ⟨d2, d3, d4, d5, d6⟩ := chg34 HX.out.b2
 obtain ⟨_, _, x2, x3, _, _⟩ := r_cells HX.out.b0
 have RX : Hid ((Instr.loadAt 25 (.pointer (some ⟨w.heap.size, 0, none⟩))).run Tryz.prog (((w.alloc (rfO x)).alloc (plcO H.hb H.hs H.hr H.hc)).alloc (.cells (chgC C) 34)) = .ok (rfV x) (((w.alloc (rfO x)).alloc (plcO H.hb H.hs H.hr H.hc)).alloc (.cells (chgC C) 34))) := rlod ((new3 (Below.refl _ _)).1)
 have RB : Hid _ := build_rf (((w.alloc (rfO x)).alloc (plcO H.hb H.hs H.hr H.hc)).alloc (.cells (chgC C) 34)) x
 have RS0 := (nbox (((w.alloc (rfO x)).alloc (plcO H.hb H.hs H.hr H.hc)).alloc (.cells (chgC C) 34)) (NK_rf x (((w.alloc (rfO x)).alloc (plcO H.hb H.hs H.hr H.hc)).alloc (.cells (chgC C) 34))).nt).1
 simp only [World.size_alloc] at RS0
 have RS : Hid _ := RS0
 clear RS0
 skip
 go_enter Tryz.func7, Tryz.ntmps7
 go_wp2_with (first
  | ((with_reducible show wpList _ _ _ ({ dst := _, op := Op.load 25 _, type := _, pos := _, after := _, guard := none } :: _) _ _); refine wpList_load_run rfl 25 _ rfl _ _ rfl RX.out ?_)
  | ((with_reducible show wpList _ _ _ ({ dst := _, op := Op.build 28 _, type := _, pos := _, after := _, guard := none } :: _) _ _); refine wpList_build_run rfl 28 _ rfl _ _ rfl RB.out ?_)
  | ((with_reducible show wpList _ _ _ ({ dst := _, op := Op.store 28 _ _, type := _, pos := _, after := _, guard := none } :: _) _ _); refine wpList_store_run rfl 28 _ _ rfl _ _ _ rfl rfl RS.out ?_)
  | ((with_reducible show wpList _ _ _ ({ dst := _, op := Op.load 28 _, type := _, pos := _, after := _, guard := none } :: _) _ _); refine wpList_load_run rfl 28 _ rfl _ _ rfl RN.out ?_)
  | ((with_reducible show wpList _ _ _ ({ dst := _, op := Op.load 28 _, type := _, pos := _, after := _, guard := some _ } :: _) _ _); refine wpList_load_g 28 _ rfl _ _ rfl RN.out ?hw ?_; (case hw => (go_simp; done)))
  | ((with_reducible show wpList _ _ _ ({ dst := _, op := Op.load 30 _, type := _, pos := _, after := _, guard := some _ } :: _) _ _); refine wpList_load_g 30 _ rfl _ _ rfl RH.out ?hw ?_; (case hw => (go_simp; done)))
  | ((with_reducible show wpList _ _ _ ({ dst := _, op := Op.load 34 _, type := _, pos := _, after := _, guard := some _ } :: _) _ _); refine wpList_load_g 34 _ rfl _ _ rfl RC.out ?hw ?_; (case hw => (go_simp; done)))
  | ((with_reducible show wpList _ _ _ ({ dst := _, op := Op.load 30 _, type := _, pos := _, after := _, guard := none } :: _) _ _); refine wpList_load_run rfl 30 _ rfl _ _ rfl RH.out ?_)
  | ((with_reducible show wpList _ _ _ ({ dst := _, op := Op.load 34 _, type := _, pos := _, after := _, guard := none } :: _) _ _); refine wpList_load_run rfl 34 _ rfl _ _ rfl RC.out ?_)
  | (go_at_call 18; refine (HG.out _ HX.out).mono ?_; clear HG; rintro e u1 ⟨rfl, hb⟩; have HX : Hid _ := HX.out.step hb; clear hb; clear RX RN RH RC d2 d3 d4 d5 d6 x2 x3; have RX : Hid _ := rlod HX.out.b0; have RN : Hid _ := nlod HX.out.b3; have RH : Hid _ := hlod HX.out.b1; have RC : Hid _ := clod HX.out.b2; obtain ⟨d2, d3, d4, d5, d6⟩ := chg34 HX.out.b2; obtain ⟨_, _, x2, x3, _, _⟩ := r_cells HX.out.b0)
  | (go_at_call 14; refine (HNm.out _ HX.out).mono ?_; clear HNm; rintro e u2 ⟨rfl, hb⟩; have HX : Hid _ := HX.out.step hb; clear hb; clear RX RN RH RC d2 d3 d4 d5 d6 x2 x3; have RX : Hid _ := rlod HX.out.b0; have RN : Hid _ := nlod HX.out.b3; have RH : Hid _ := hlod HX.out.b1; have RC : Hid _ := clod HX.out.b2; obtain ⟨d2, d3, d4, d5, d6⟩ := chg34 HX.out.b2; obtain ⟨_, _, x2, x3, _, _⟩ := r_cells HX.out.b0)
  | (go_at_call 9; refine (HLv.out _ HX.out).mono ?_; clear HLv; rintro e u9 ⟨rfl, hb⟩; have HX : Hid _ := HX.out.step hb; clear hb))
 go_ret
 exact ⟨rfl, HX.out.bel⟩
theorem places_none {x : Rf} {H : Hm} {C : Chg} {w : World} 
  (HG : Hid (∀ u, PB w x H C u → Calls Tryz.prog 18 #[.agg (rfN x)] u fun e w' => e = .returned (.bool true) ∧ Below u.heap.size u w'))
  (HNm : Hid (∀ u, PB w x H C u → Calls Tryz.prog 14 #[.agg (rfN x), hmV H, .agg (chgC C)] u fun e w' => e = .returned (.bool false) ∧ Below u.heap.size u w'))
  (HLv : Hid (∀ u, PB w x H C u → Calls Tryz.prog 9 #[] u fun e w' => e = .returned (.bool true) ∧ Below u.heap.size u w')) :
  Calls Tryz.prog 7 #[rfV x, hmV H, .agg (chgC C)] w fun e w' => e = .returned (.bool true) ∧ Below w.heap.size w w' := by
 have HX : Hid (PB w x H C ((((w.alloc (rfO x)).alloc (plcO H.hb H.hs H.hr H.hc)).alloc (.cells (chgC C) 34)).alloc (.cells (rfN x) 28))) := PB.new w x H C
 have RX : Hid _ := rlod HX.out.b0
 have RN : Hid _ := nlod HX.out.b3
 have RH : Hid _ := hlod HX.out.b1
 have RC : Hid _ := clod HX.out.b2
 obtain ⟨d2, d3, d4, d5, d6⟩ := chg34 HX.out.b2
 obtain ⟨_, _, x2, x3, _, _⟩ := r_cells HX.out.b0
 have RX : Hid ((Instr.loadAt 25 (.pointer (some ⟨w.heap.size, 0, none⟩))).run Tryz.prog (((w.alloc (rfO x)).alloc (plcO H.hb H.hs H.hr H.hc)).alloc (.cells (chgC C) 34)) = .ok (rfV x) (((w.alloc (rfO x)).alloc (plcO H.hb H.hs H.hr H.hc)).alloc (.cells (chgC C) 34))) := rlod ((new3 (Below.refl _ _)).1)
 have RB : Hid _ := build_rf (((w.alloc (rfO x)).alloc (plcO H.hb H.hs H.hr H.hc)).alloc (.cells (chgC C) 34)) x
 have RS0 := (nbox (((w.alloc (rfO x)).alloc (plcO H.hb H.hs H.hr H.hc)).alloc (.cells (chgC C) 34)) (NK_rf x (((w.alloc (rfO x)).alloc (plcO H.hb H.hs H.hr H.hc)).alloc (.cells (chgC C) 34))).nt).1
 simp only [World.size_alloc] at RS0
 have RS : Hid _ := RS0
 clear RS0
 skip
 go_enter Tryz.func7, Tryz.ntmps7
 go_wp2_with (first
  | ((with_reducible show wpList _ _ _ ({ dst := _, op := Op.load 25 _, type := _, pos := _, after := _, guard := none } :: _) _ _); refine wpList_load_run rfl 25 _ rfl _ _ rfl RX.out ?_)
  | ((with_reducible show wpList _ _ _ ({ dst := _, op := Op.build 28 _, type := _, pos := _, after := _, guard := none } :: _) _ _); refine wpList_build_run rfl 28 _ rfl _ _ rfl RB.out ?_)
  | ((with_reducible show wpList _ _ _ ({ dst := _, op := Op.store 28 _ _, type := _, pos := _, after := _, guard := none } :: _) _ _); refine wpList_store_run rfl 28 _ _ rfl _ _ _ rfl rfl RS.out ?_)
  | ((with_reducible show wpList _ _ _ ({ dst := _, op := Op.load 28 _, type := _, pos := _, after := _, guard := none } :: _) _ _); refine wpList_load_run rfl 28 _ rfl _ _ rfl RN.out ?_)
  | ((with_reducible show wpList _ _ _ ({ dst := _, op := Op.load 28 _, type := _, pos := _, after := _, guard := some _ } :: _) _ _); refine wpList_load_g 28 _ rfl _ _ rfl RN.out ?hw ?_; (case hw => (go_simp; done)))
  | ((with_reducible show wpList _ _ _ ({ dst := _, op := Op.load 30 _, type := _, pos := _, after := _, guard := some _ } :: _) _ _); refine wpList_load_g 30 _ rfl _ _ rfl RH.out ?hw ?_; (case hw => (go_simp; done)))
  | ((with_reducible show wpList _ _ _ ({ dst := _, op := Op.load 34 _, type := _, pos := _, after := _, guard := some _ } :: _) _ _); refine wpList_load_g 34 _ rfl _ _ rfl RC.out ?hw ?_; (case hw => (go_simp; done)))
  | ((with_reducible show wpList _ _ _ ({ dst := _, op := Op.load 30 _, type := _, pos := _, after := _, guard := none } :: _) _ _); refine wpList_load_run rfl 30 _ rfl _ _ rfl RH.out ?_)
  | ((with_reducible show wpList _ _ _ ({ dst := _, op := Op.load 34 _, type := _, pos := _, after := _, guard := none } :: _) _ _); refine wpList_load_run rfl 34 _ rfl _ _ rfl RC.out ?_)
  | (go_at_call 18; refine (HG.out _ HX.out).mono ?_; clear HG; rintro e u1 ⟨rfl, hb⟩; have HX : Hid _ := HX.out.step hb; clear hb; clear RX RN RH RC d2 d3 d4 d5 d6 x2 x3; have RX : Hid _ := rlod HX.out.b0; have RN : Hid _ := nlod HX.out.b3; have RH : Hid _ := hlod HX.out.b1; have RC : Hid _ := clod HX.out.b2; obtain ⟨d2, d3, d4, d5, d6⟩ := chg34 HX.out.b2; obtain ⟨_, _, x2, x3, _, _⟩ := r_cells HX.out.b0)
  | (go_at_call 14; refine (HNm.out _ HX.out).mono ?_; clear HNm; rintro e u2 ⟨rfl, hb⟩; have HX : Hid _ := HX.out.step hb; clear hb; clear RX RN RH RC d2 d3 d4 d5 d6 x2 x3; have RX : Hid _ := rlod HX.out.b0; have RN : Hid _ := nlod HX.out.b3; have RH : Hid _ := hlod HX.out.b1; have RC : Hid _ := clod HX.out.b2; obtain ⟨d2, d3, d4, d5, d6⟩ := chg34 HX.out.b2; obtain ⟨_, _, x2, x3, _, _⟩ := r_cells HX.out.b0)
  | (go_at_call 9; refine (HLv.out _ HX.out).mono ?_; clear HLv; rintro e u9 ⟨rfl, hb⟩; have HX : Hid _ := HX.out.step hb; clear hb))
 go_ret
 exact ⟨rfl, HX.out.bel⟩
theorem places_drop {x : Rf} {H : Hm} {C : Chg} {w : World} (hd : C.dr = true)
  (HG : Hid (∀ u, PB w x H C u → Calls Tryz.prog 18 #[.agg (rfN x)] u fun e w' => e = .returned (.bool true) ∧ Below u.heap.size u w'))
  (HNm : Hid (∀ u, PB w x H C u → Calls Tryz.prog 14 #[.agg (rfN x), hmV H, .agg (chgC C)] u fun e w' => e = .returned (.bool true) ∧ Below u.heap.size u w'))
  (HLv : Hid (∀ u, PB w x H C u → Calls Tryz.prog 9 #[] u fun e w' => e = .returned (.bool true) ∧ Below u.heap.size u w')) :
  Calls Tryz.prog 7 #[rfV x, hmV H, .agg (chgC C)] w fun e w' => e = .returned (.bool true) ∧ Below w.heap.size w w' := by
 have HX : Hid (PB w x H C ((((w.alloc (rfO x)).alloc (plcO H.hb H.hs H.hr H.hc)).alloc (.cells (chgC C) 34)).alloc (.cells (rfN x) 28))) := PB.new w x H C
 have RX : Hid _ := rlod HX.out.b0
 have RN : Hid _ := nlod HX.out.b3
 have RH : Hid _ := hlod HX.out.b1
 have RC : Hid _ := clod HX.out.b2
 obtain ⟨d2, d3, d4, d5, d6⟩ := chg34 HX.out.b2
 obtain ⟨_, _, x2, x3, _, _⟩ := r_cells HX.out.b0
 have RX : Hid ((Instr.loadAt 25 (.pointer (some ⟨w.heap.size, 0, none⟩))).run Tryz.prog (((w.alloc (rfO x)).alloc (plcO H.hb H.hs H.hr H.hc)).alloc (.cells (chgC C) 34)) = .ok (rfV x) (((w.alloc (rfO x)).alloc (plcO H.hb H.hs H.hr H.hc)).alloc (.cells (chgC C) 34))) := rlod ((new3 (Below.refl _ _)).1)
 have RB : Hid _ := build_rf (((w.alloc (rfO x)).alloc (plcO H.hb H.hs H.hr H.hc)).alloc (.cells (chgC C) 34)) x
 have RS0 := (nbox (((w.alloc (rfO x)).alloc (plcO H.hb H.hs H.hr H.hc)).alloc (.cells (chgC C) 34)) (NK_rf x (((w.alloc (rfO x)).alloc (plcO H.hb H.hs H.hr H.hc)).alloc (.cells (chgC C) 34))).nt).1
 simp only [World.size_alloc] at RS0
 have RS : Hid _ := RS0
 clear RS0
 rw [hd] at d2
 skip
 go_enter Tryz.func7, Tryz.ntmps7
 go_wp2_with (first
  | ((with_reducible show wpList _ _ _ ({ dst := _, op := Op.load 25 _, type := _, pos := _, after := _, guard := none } :: _) _ _); refine wpList_load_run rfl 25 _ rfl _ _ rfl RX.out ?_)
  | ((with_reducible show wpList _ _ _ ({ dst := _, op := Op.build 28 _, type := _, pos := _, after := _, guard := none } :: _) _ _); refine wpList_build_run rfl 28 _ rfl _ _ rfl RB.out ?_)
  | ((with_reducible show wpList _ _ _ ({ dst := _, op := Op.store 28 _ _, type := _, pos := _, after := _, guard := none } :: _) _ _); refine wpList_store_run rfl 28 _ _ rfl _ _ _ rfl rfl RS.out ?_)
  | ((with_reducible show wpList _ _ _ ({ dst := _, op := Op.load 28 _, type := _, pos := _, after := _, guard := none } :: _) _ _); refine wpList_load_run rfl 28 _ rfl _ _ rfl RN.out ?_)
  | ((with_reducible show wpList _ _ _ ({ dst := _, op := Op.load 28 _, type := _, pos := _, after := _, guard := some _ } :: _) _ _); refine wpList_load_g 28 _ rfl _ _ rfl RN.out ?hw ?_; (case hw => (go_simp; done)))
  | ((with_reducible show wpList _ _ _ ({ dst := _, op := Op.load 30 _, type := _, pos := _, after := _, guard := some _ } :: _) _ _); refine wpList_load_g 30 _ rfl _ _ rfl RH.out ?hw ?_; (case hw => (go_simp; done)))
  | ((with_reducible show wpList _ _ _ ({ dst := _, op := Op.load 34 _, type := _, pos := _, after := _, guard := some _ } :: _) _ _); refine wpList_load_g 34 _ rfl _ _ rfl RC.out ?hw ?_; (case hw => (go_simp; done)))
  | ((with_reducible show wpList _ _ _ ({ dst := _, op := Op.load 30 _, type := _, pos := _, after := _, guard := none } :: _) _ _); refine wpList_load_run rfl 30 _ rfl _ _ rfl RH.out ?_)
  | ((with_reducible show wpList _ _ _ ({ dst := _, op := Op.load 34 _, type := _, pos := _, after := _, guard := none } :: _) _ _); refine wpList_load_run rfl 34 _ rfl _ _ rfl RC.out ?_)
  | (go_at_call 18; refine (HG.out _ HX.out).mono ?_; clear HG; rintro e u1 ⟨rfl, hb⟩; have HX : Hid _ := HX.out.step hb; clear hb; clear RX RN RH RC d2 d3 d4 d5 d6 x2 x3; have RX : Hid _ := rlod HX.out.b0; have RN : Hid _ := nlod HX.out.b3; have RH : Hid _ := hlod HX.out.b1; have RC : Hid _ := clod HX.out.b2; obtain ⟨d2, d3, d4, d5, d6⟩ := chg34 HX.out.b2; obtain ⟨_, _, x2, x3, _, _⟩ := r_cells HX.out.b0; rw [hd] at d2)
  | (go_at_call 14; refine (HNm.out _ HX.out).mono ?_; clear HNm; rintro e u2 ⟨rfl, hb⟩; have HX : Hid _ := HX.out.step hb; clear hb; clear RX RN RH RC d2 d3 d4 d5 d6 x2 x3; have RX : Hid _ := rlod HX.out.b0; have RN : Hid _ := nlod HX.out.b3; have RH : Hid _ := hlod HX.out.b1; have RC : Hid _ := clod HX.out.b2; obtain ⟨d2, d3, d4, d5, d6⟩ := chg34 HX.out.b2; obtain ⟨_, _, x2, x3, _, _⟩ := r_cells HX.out.b0; rw [hd] at d2)
  | (go_at_call 9; refine (HLv.out _ HX.out).mono ?_; clear HLv; rintro e u9 ⟨rfl, hb⟩; have HX : Hid _ := HX.out.step hb; clear hb))
 go_ret
 exact ⟨rfl, HX.out.bel⟩
end Go.Proofs.YtljmklbbngpllaaGreatDoor.Rw
