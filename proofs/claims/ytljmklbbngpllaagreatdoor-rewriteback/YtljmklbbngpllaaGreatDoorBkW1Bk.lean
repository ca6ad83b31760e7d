/- BkW0, BkW1. -/
import Derived.Test.YtljmklbbngpllaaGreatDoorRwMath3Bk
set_option linter.unusedVariables false
set_option linter.unusedSimpArgs false
set_option maxHeartbeats 16000000
set_option maxRecDepth 100000
namespace Go.Proofs.YtljmklbbngpllaaGreatDoor.Rw
open Go.RowKit Go.Fm
structure TK (K : Nat → Prop) (t : T) (g : Nat) (es : Array Value) (u : World) : Prop where
 h : u.heap[g]? = some (.cells es 28)
 n : NK K u es t
theorem TK.step {K : Nat → Prop} {t : T} {g : Nat} {es : Array Value} {u v : World} (h : TK K t g es u) (hb : Below u.heap.size u v) : TK K t g es v := ⟨(hb.block _ (aW h.h)).trans h.h, h.n.below hb⟩
theorem TK.lod {K : Nat → Prop} {t : T} {g : Nat} {es : Array Value} {u : World} (h : TK K t g es u) : (Instr.loadAt 28 (.pointer (some ⟨g, 0, none⟩))).run Tryz.prog u = .ok (.agg es) u := (iA h.n.nt).2 h.h
theorem TK.cell {K : Nat → Prop} {t : T} {g : Nat} {es : Array Value} {u : World} (h : TK K t g es u) {b i : Nat} (hg : g ≠ b) (hK : ¬ K b) (v : Value) : TK K t g es (u.setCell ⟨b, i, none⟩ v) :=
 ⟨(heap_setCell_other u _ _ _ hg).trans h.h, h.n.grown (Go.Lib.grownBy_setCell _ _ _ _) (fun g' e hk => by cases e; exact hK hk)⟩
theorem TK.new {K : Nat → Prop} {t : T} {es : Array Value} {u : World} (h : NK K u es t) : TK K t u.heap.size es (u.alloc (.cells es 28)) ∧ (Instr.storeAt 28 (.pointer (some ⟨u.heap.size, 0, none⟩)) (.agg es)).run Tryz.prog (u.alloc (.cells nd0 28)) = .ok () (u.alloc (.cells es 28)) :=
 ⟨⟨heap_alloc_new u _, h.below (aC (Below.refl _ _) _)⟩, (mY u h.nt).1⟩
theorem LB.neg {w : World} {es : Array Value} {H : Hm} {C : Chg} {u : World} (h : LB w es H C u) : LB w es H (neg C) (u.setCell ⟨w.heap.size + 2, 5, none⟩ (.int .i64 (-C.n))) :=
 ⟨(heap_setCell_other u _ _ _ (by simp)).trans h.b0, (heap_setCell_other u _ _ _ (by simp)).trans h.b1, by rw [heap_setCell_same u (w.heap.size + 2) 5 _ 34 _ h.b2]; rfl, h.bel.setCell (by simp) _⟩
abbrev KO (w : World) : Nat → Prop := fun i => i < w.heap.size
abbrev KN (w : World) : Nat → Prop := fun i => w.heap.size + 3 ≤ i
theorem aG7 {t : T} {es : Array Value} {H : Hm} {C : Chg} {w : World}  (h0 : NT w es t)
  (fC : Hid (∀ u, LB w es H C u → TK (KO w) t w.heap.size es u → Calls Tryz.prog 8 #[.agg es, .int .i64 400] u fun e w' => e = .returned (.bool true) ∧ Below u.heap.size u w'))
  (HLv : Hid (∀ u, LB w es H C u → Calls Tryz.prog 9 #[] u fun e w' => e = .returned (.bool true) ∧ Below u.heap.size u w')) :
  Calls Tryz.prog 6 #[.agg es, hmV H, .agg (bT C)] w fun e w' => e = .returned (.bool true) ∧ Below w.heap.size w w' := by
 have HX : Hid (LB w es H C (((w.alloc (.cells es 28)).alloc (bK H.hb H.hs H.hr H.hc)).alloc (.cells (bT C) 34))) := LB.new w es H C
 have HT : Hid (TK (KO w) t w.heap.size es (((w.alloc (.cells es 28)).alloc (bK H.hb H.hs H.hr H.hc)).alloc (.cells (bT C) 34))) := ⟨HX.out.b0, h0.nk.below HX.out.bel⟩
 clear h0
 have RN : Hid _ := HT.out.lod
 have RH : Hid _ := fB HX.out.b1
 have RC : Hid _ := fA HX.out.b2
 have RSh : Hid _ := dM HX.out.b2
 obtain ⟨d2, d3, d4, d5, d6⟩ := dI HX.out.b2
 skip
 go_enter Tryz.func6, Tryz.ntmps6
 go_wp2_with (first
  | ((with_reducible show wpList _ _ _ ({ dst := _, op := Op.load 28 _, type := _, pos := _, after := _, guard := none } :: _) _ _); refine aA rfl 28 _ rfl _ _ rfl RN.out ?_)
  | ((with_reducible show wpList _ _ _ ({ dst := _, op := Op.load 28 _, type := _, pos := _, after := _, guard := some _ } :: _) _ _); refine aI 28 _ rfl _ _ rfl RN.out ?hw ?_; (case hw => (go_simp; done)))
  | ((with_reducible show wpList _ _ _ ({ dst := _, op := Op.load 32 _, type := _, pos := _, after := _, guard := some _ } :: _) _ _); refine aI 32 _ rfl _ _ rfl RSh.out ?hw ?_; (case hw => (go_simp; done)))
  | (go_at_call 8; refine (fC.out _ HX.out HT.out).mono ?_; clear fC; rintro e u8 ⟨rfl, hb⟩; have HX : Hid _ := HX.out.step hb; have HT : Hid _ := HT.out.step hb; clear hb; clear RN RH RC RSh d2 d3 d4 d5 d6; have RN : Hid _ := HT.out.lod; have RH : Hid _ := fB HX.out.b1; have RC : Hid _ := fA HX.out.b2; have RSh : Hid _ := dM HX.out.b2; obtain ⟨d2, d3, d4, d5, d6⟩ := dI HX.out.b2; skip)
  | (go_at_call 9; refine (HLv.out _ HX.out).mono ?_; clear HLv; rintro e u9 ⟨rfl, hb⟩; have HX : Hid _ := HX.out.step hb; clear hb))
 go_ret
 exact ⟨rfl, HX.out.bel⟩
theorem aG8 {t : T} {es : Array Value} {H : Hm} {C : Chg} {w : World}  (h0 : NT w es t)
  (fC : Hid (∀ u, LB w es H C u → TK (KO w) t w.heap.size es u → Calls Tryz.prog 8 #[.agg es, .int .i64 400] u fun e w' => e = .returned (.bool false) ∧ Below u.heap.size u w'))
  (HG : Hid (∀ u, LB w es H C u → TK (KO w) t w.heap.size es u → Calls Tryz.prog 18 #[.agg es] u fun e w' => e = .returned (.bool false) ∧ Below u.heap.size u w'))
  (HLv : Hid (∀ u, LB w es H C u → Calls Tryz.prog 9 #[] u fun e w' => e = .returned (.bool true) ∧ Below u.heap.size u w')) :
  Calls Tryz.prog 6 #[.agg es, hmV H, .agg (bT C)] w fun e w' => e = .returned (.bool true) ∧ Below w.heap.size w w' := by
 have HX : Hid (LB w es H C (((w.alloc (.cells es 28)).alloc (bK H.hb H.hs H.hr H.hc)).alloc (.cells (bT C) 34))) := LB.new w es H C
 have HT : Hid (TK (KO w) t w.heap.size es (((w.alloc (.cells es 28)).alloc (bK H.hb H.hs H.hr H.hc)).alloc (.cells (bT C) 34))) := ⟨HX.out.b0, h0.nk.below HX.out.bel⟩
 clear h0
 have RN : Hid _ := HT.out.lod
 have RH : Hid _ := fB HX.out.b1
 have RC : Hid _ := fA HX.out.b2
 have RSh : Hid _ := dM HX.out.b2
 obtain ⟨d2, d3, d4, d5, d6⟩ := dI HX.out.b2
 skip
 go_enter Tryz.func6, Tryz.ntmps6
 go_wp2_with (first
  | ((with_reducible show wpList _ _ _ ({ dst := _, op := Op.load 28 _, type := _, pos := _, after := _, guard := none } :: _) _ _); refine aA rfl 28 _ rfl _ _ rfl RN.out ?_)
  | ((with_reducible show wpList _ _ _ ({ dst := _, op := Op.load 28 _, type := _, pos := _, after := _, guard := some _ } :: _) _ _); refine aI 28 _ rfl _ _ rfl RN.out ?hw ?_; (case hw => (go_simp; done)))
  | ((with_reducible show wpList _ _ _ ({ dst := _, op := Op.load 32 _, type := _, pos := _, after := _, guard := some _ } :: _) _ _); refine aI 32 _ rfl _ _ rfl RSh.out ?hw ?_; (case hw => (go_simp; done)))
  | (go_at_call 8; refine (fC.out _ HX.out HT.out).mono ?_; clear fC; rintro e u8 ⟨rfl, hb⟩; have HX : Hid _ := HX.out.step hb; have HT : Hid _ := HT.out.step hb; clear hb; clear RN RH RC RSh d2 d3 d4 d5 d6; have RN : Hid _ := HT.out.lod; have RH : Hid _ := fB HX.out.b1; have RC : Hid _ := fA HX.out.b2; have RSh : Hid _ := dM HX.out.b2; obtain ⟨d2, d3, d4, d5, d6⟩ := dI HX.out.b2; skip)
  | (go_at_call 18; refine (HG.out _ HX.out HT.out).mono ?_; clear HG; rintro e u18 ⟨rfl, hb⟩; have HX : Hid _ := HX.out.step hb; have HT : Hid _ := HT.out.step hb; clear hb; clear RN RH RC RSh d2 d3 d4 d5 d6; have RN : Hid _ := HT.out.lod; have RH : Hid _ := fB HX.out.b1; have RC : Hid _ := fA HX.out.b2; have RSh : Hid _ := dM HX.out.b2; obtain ⟨d2, d3, d4, d5, d6⟩ := dI HX.out.b2; skip)
  | (go_at_call 9; refine (HLv.out _ HX.out).mono ?_; clear HLv; rintro e u9 ⟨rfl, hb⟩; have HX : Hid _ := HX.out.step hb; clear hb))
 go_ret
 exact ⟨rfl, HX.out.bel⟩
theorem aEy {t : T} {es : Array Value} {H : Hm} {C : Chg} {w : World} (hd : C.dr = true) (h0 : NT w es t)
  (fC : Hid (∀ u, LB w es H C u → TK (KO w) t w.heap.size es u → Calls Tryz.prog 8 #[.agg es, .int .i64 400] u fun e w' => e = .returned (.bool false) ∧ Below u.heap.size u w'))
  (HG : Hid (∀ u, LB w es H C u → TK (KO w) t w.heap.size es u → Calls Tryz.prog 18 #[.agg es] u fun e w' => e = .returned (.bool true) ∧ Below u.heap.size u w'))
  (HLv : Hid (∀ u, LB w es H C u → Calls Tryz.prog 9 #[] u fun e w' => e = .returned (.bool true) ∧ Below u.heap.size u w')) :
  Calls Tryz.prog 6 #[.agg es, hmV H, .agg (bT C)] w fun e w' => e = .returned (.bool true) ∧ Below w.heap.size w w' := by
 have HX : Hid (LB w es H C (((w.alloc (.cells es 28)).alloc (bK H.hb H.hs H.hr H.hc)).alloc (.cells (bT C) 34))) := LB.new w es H C
 have HT : Hid (TK (KO w) t w.heap.size es (((w.alloc (.cells es 28)).alloc (bK H.hb H.hs H.hr H.hc)).alloc (.cells (bT C) 34))) := ⟨HX.out.b0, h0.nk.below HX.out.bel⟩
 clear h0
 have RN : Hid _ := HT.out.lod
 have RH : Hid _ := fB HX.out.b1
 have RC : Hid _ := fA HX.out.b2
 have RSh : Hid _ := dM HX.out.b2
 obtain ⟨d2, d3, d4, d5, d6⟩ := dI HX.out.b2
 rw [hd] at d2
 go_enter Tryz.func6, Tryz.ntmps6
 go_wp2_with (first
  | ((with_reducible show wpList _ _ _ ({ dst := _, op := Op.load 28 _, type := _, pos := _, after := _, guard := none } :: _) _ _); refine aA rfl 28 _ rfl _ _ rfl RN.out ?_)
  | ((with_reducible show wpList _ _ _ ({ dst := _, op := Op.load 28 _, type := _, pos := _, after := _, guard := some _ } :: _) _ _); refine aI 28 _ rfl _ _ rfl RN.out ?hw ?_; (case hw => (go_simp; done)))
  | ((with_reducible show wpList _ _ _ ({ dst := _, op := Op.load 32 _, type := _, pos := _, after := _, guard := some _ } :: _) _ _); refine aI 32 _ rfl _ _ rfl RSh.out ?hw ?_; (case hw => (go_simp; done)))
  | (go_at_call 8; refine (fC.out _ HX.out HT.out).mono ?_; clear fC; rintro e u8 ⟨rfl, hb⟩; have HX : Hid _ := HX.out.step hb; have HT : Hid _ := HT.out.step hb; clear hb; clear RN RH RC RSh d2 d3 d4 d5 d6; have RN : Hid _ := HT.out.lod; have RH : Hid _ := fB HX.out.b1; have RC : Hid _ := fA HX.out.b2; have RSh : Hid _ := dM HX.out.b2; obtain ⟨d2, d3, d4, d5, d6⟩ := dI HX.out.b2; rw [hd] at d2)
  | (go_at_call 18; refine (HG.out _ HX.out HT.out).mono ?_; clear HG; rintro e u18 ⟨rfl, hb⟩; have HX : Hid _ := HX.out.step hb; have HT : Hid _ := HT.out.step hb; clear hb; clear RN RH RC RSh d2 d3 d4 d5 d6; have RN : Hid _ := HT.out.lod; have RH : Hid _ := fB HX.out.b1; have RC : Hid _ := fA HX.out.b2; have RSh : Hid _ := dM HX.out.b2; obtain ⟨d2, d3, d4, d5, d6⟩ := dI HX.out.b2; rw [hd] at d2)
  | (go_at_call 9; refine (HLv.out _ HX.out).mono ?_; clear HLv; rintro e u9 ⟨rfl, hb⟩; have HX : Hid _ := HX.out.step hb; clear hb))
 go_ret
 exact ⟨rfl, HX.out.bel⟩
theorem aG9 {t : T} {es : Array Value} {H : Hm} {C : Chg} {w : World} (hd : C.dr = false) (hn : C.n < 1) (h0 : NT w es t)
  (fC : Hid (∀ u, LB w es H C u → TK (KO w) t w.heap.size es u → Calls Tryz.prog 8 #[.agg es, .int .i64 400] u fun e w' => e = .returned (.bool false) ∧ Below u.heap.size u w'))
  (HG : Hid (∀ u, LB w es H C u → TK (KO w) t w.heap.size es u → Calls Tryz.prog 18 #[.agg es] u fun e w' => e = .returned (.bool true) ∧ Below u.heap.size u w'))
  (HLv : Hid (∀ u, LB w es H C u → Calls Tryz.prog 9 #[] u fun e w' => e = .returned (.bool true) ∧ Below u.heap.size u w')) :
  Calls Tryz.prog 6 #[.agg es, hmV H, .agg (bT C)] w fun e w' => e = .returned (.bool true) ∧ Below w.heap.size w w' := by
 have HX : Hid (LB w es H C (((w.alloc (.cells es 28)).alloc (bK H.hb H.hs H.hr H.hc)).alloc (.cells (bT C) 34))) := LB.new w es H C
 have HT : Hid (TK (KO w) t w.heap.size es (((w.alloc (.cells es 28)).alloc (bK H.hb H.hs H.hr H.hc)).alloc (.cells (bT C) 34))) := ⟨HX.out.b0, h0.nk.below HX.out.bel⟩
 clear h0
 have RN : Hid _ := HT.out.lod
 have RH : Hid _ := fB HX.out.b1
 have RC : Hid _ := fA HX.out.b2
 have RSh : Hid _ := dM HX.out.b2
 obtain ⟨d2, d3, d4, d5, d6⟩ := dI HX.out.b2
 rw [hd] at d2
 go_enter Tryz.func6, Tryz.ntmps6
 go_wp2_with (first
  | ((with_reducible show wpList _ _ _ ({ dst := _, op := Op.load 28 _, type := _, pos := _, after := _, guard := none } :: _) _ _); refine aA rfl 28 _ rfl _ _ rfl RN.out ?_)
  | ((with_reducible show wpList _ _ _ ({ dst := _, op := Op.load 28 _, type := _, pos := _, after := _, guard := some _ } :: _) _ _); refine aI 28 _ rfl _ _ rfl RN.out ?hw ?_; (case hw => (go_simp; done)))
  | ((with_reducible show wpList _ _ _ ({ dst := _, op := Op.load 32 _, type := _, pos := _, after := _, guard := some _ } :: _) _ _); refine aI 32 _ rfl _ _ rfl RSh.out ?hw ?_; (case hw => (go_simp; done)))
  | (go_at_call 8; refine (fC.out _ HX.out HT.out).mono ?_; clear fC; rintro e u8 ⟨rfl, hb⟩; have HX : Hid _ := HX.out.step hb; have HT : Hid _ := HT.out.step hb; clear hb; clear RN RH RC RSh d2 d3 d4 d5 d6; have RN : Hid _ := HT.out.lod; have RH : Hid _ := fB HX.out.b1; have RC : Hid _ := fA HX.out.b2; have RSh : Hid _ := dM HX.out.b2; obtain ⟨d2, d3, d4, d5, d6⟩ := dI HX.out.b2; rw [hd] at d2)
  | (go_at_call 18; refine (HG.out _ HX.out HT.out).mono ?_; clear HG; rintro e u18 ⟨rfl, hb⟩; have HX : Hid _ := HX.out.step hb; have HT : Hid _ := HT.out.step hb; clear hb; clear RN RH RC RSh d2 d3 d4 d5 d6; have RN : Hid _ := HT.out.lod; have RH : Hid _ := fB HX.out.b1; have RC : Hid _ := fA HX.out.b2; have RSh : Hid _ := dM HX.out.b2; obtain ⟨d2, d3, d4, d5, d6⟩ := dI HX.out.b2; rw [hd] at d2)
  | (go_at_call 9; refine (HLv.out _ HX.out).mono ?_; clear HLv; rintro e u9 ⟨rfl, hb⟩; have HX : Hid _ := HX.out.step hb; clear hb))
 go_ret
 exact ⟨rfl, HX.out.bel⟩
theorem aCi {t : T} {es : Array Value} {H : Hm} {C : Chg} {w : World} (hd : C.dr = false) (hn : 1 ≤ C.n) (h0 : NT w es t)
  (fC : Hid (∀ u, LB w es H C u → TK (KO w) t w.heap.size es u → Calls Tryz.prog 8 #[.agg es, .int .i64 400] u fun e w' => e = .returned (.bool false) ∧ Below u.heap.size u w'))
  (HG : Hid (∀ u, LB w es H C u → TK (KO w) t w.heap.size es u → Calls Tryz.prog 18 #[.agg es] u fun e w' => e = .returned (.bool true) ∧ Below u.heap.size u w'))
  (HGs : Hid (∀ u, LB w es H C u → TK (KO w) t w.heap.size es u → Calls Tryz.prog 19 #[Hs.shV C.a C.n C.m] u fun e w' => e = .returned (.bool false) ∧ Below u.heap.size u w'))
  (HLv : Hid (∀ u, LB w es H C u → Calls Tryz.prog 9 #[] u fun e w' => e = .returned (.bool true) ∧ Below u.heap.size u w')) :
  Calls Tryz.prog 6 #[.agg es, hmV H, .agg (bT C)] w fun e w' => e = .returned (.bool true) ∧ Below w.heap.size w w' := by
 have HX : Hid (LB w es H C (((w.alloc (.cells es 28)).alloc (bK H.hb H.hs H.hr H.hc)).alloc (.cells (bT C) 34))) := LB.new w es H C
 have HT : Hid (TK (KO w) t w.heap.size es (((w.alloc (.cells es 28)).alloc (bK H.hb H.hs H.hr H.hc)).alloc (.cells (bT C) 34))) := ⟨HX.out.b0, h0.nk.below HX.out.bel⟩
 clear h0
 have RN : Hid _ := HT.out.lod
 have RH : Hid _ := fB HX.out.b1
 have RC : Hid _ := fA HX.out.b2
 have RSh : Hid _ := dM HX.out.b2
 obtain ⟨d2, d3, d4, d5, d6⟩ := dI HX.out.b2
 rw [hd] at d2
 go_enter Tryz.func6, Tryz.ntmps6
 go_wp2_with (first
  | ((with_reducible show wpList _ _ _ ({ dst := _, op := Op.load 28 _, type := _, pos := _, after := _, guard := none } :: _) _ _); refine aA rfl 28 _ rfl _ _ rfl RN.out ?_)
  | ((with_reducible show wpList _ _ _ ({ dst := _, op := Op.load 28 _, type := _, pos := _, after := _, guard := some _ } :: _) _ _); refine aI 28 _ rfl _ _ rfl RN.out ?hw ?_; (case hw => (go_simp; done)))
  | ((with_reducible show wpList _ _ _ ({ dst := _, op := Op.load 32 _, type := _, pos := _, after := _, guard := some _ } :: _) _ _); refine aI 32 _ rfl _ _ rfl RSh.out ?hw ?_; (case hw => (go_simp; done)))
  | (go_at_call 8; refine (fC.out _ HX.out HT.out).mono ?_; clear fC; rintro e u8 ⟨rfl, hb⟩; have HX : Hid _ := HX.out.step hb; have HT : Hid _ := HT.out.step hb; clear hb; clear RN RH RC RSh d2 d3 d4 d5 d6; have RN : Hid _ := HT.out.lod; have RH : Hid _ := fB HX.out.b1; have RC : Hid _ := fA HX.out.b2; have RSh : Hid _ := dM HX.out.b2; obtain ⟨d2, d3, d4, d5, d6⟩ := dI HX.out.b2; rw [hd] at d2)
  | (go_at_call 18; refine (HG.out _ HX.out HT.out).mono ?_; clear HG; rintro e u18 ⟨rfl, hb⟩; have HX : Hid _ := HX.out.step hb; have HT : Hid _ := HT.out.step hb; clear hb; clear RN RH RC RSh d2 d3 d4 d5 d6; have RN : Hid _ := HT.out.lod; have RH : Hid _ := fB HX.out.b1; have RC : Hid _ := fA HX.out.b2; have RSh : Hid _ := dM HX.out.b2; obtain ⟨d2, d3, d4, d5, d6⟩ := dI HX.out.b2; rw [hd] at d2)
  | (go_at_call 19; refine (HGs.out _ HX.out HT.out).mono ?_; clear HGs; rintro e u19 ⟨rfl, hb⟩; have HX : Hid _ := HX.out.step hb; have HT : Hid _ := HT.out.step hb; clear hb; clear RN RH RC RSh d2 d3 d4 d5 d6; have RN : Hid _ := HT.out.lod; have RH : Hid _ := fB HX.out.b1; have RC : Hid _ := fA HX.out.b2; have RSh : Hid _ := dM HX.out.b2; obtain ⟨d2, d3, d4, d5, d6⟩ := dI HX.out.b2; rw [hd] at d2)
  | (go_at_call 9; refine (HLv.out _ HX.out).mono ?_; clear HLv; rintro e u9 ⟨rfl, hb⟩; have HX : Hid _ := HX.out.step hb; clear hb))
 go_ret
 exact ⟨rfl, HX.out.bel⟩
theorem aEz {t : T} {es : Array Value} {H : Hm} {C : Chg} {w : World} (hd : C.dr = false) (hn : 1 ≤ C.n) (hm : 64 < C.m) (h0 : NT w es t)
  (fC : Hid (∀ u, LB w es H C u → TK (KO w) t w.heap.size es u → Calls Tryz.prog 8 #[.agg es, .int .i64 400] u fun e w' => e = .returned (.bool false) ∧ Below u.heap.size u w'))
  (HG : Hid (∀ u, LB w es H C u → TK (KO w) t w.heap.size es u → Calls Tryz.prog 18 #[.agg es] u fun e w' => e = .returned (.bool true) ∧ Below u.heap.size u w'))
  (HGs : Hid (∀ u, LB w es H C u → TK (KO w) t w.heap.size es u → Calls Tryz.prog 19 #[Hs.shV C.a C.n C.m] u fun e w' => e = .returned (.bool true) ∧ Below u.heap.size u w'))
  (HLv : Hid (∀ u, LB w es H C u → Calls Tryz.prog 9 #[] u fun e w' => e = .returned (.bool true) ∧ Below u.heap.size u w')) :
  Calls Tryz.prog 6 #[.agg es, hmV H, .agg (bT C)] w fun e w' => e = .returned (.bool true) ∧ Below w.heap.size w w' := by
 have HX : Hid (LB w es H C (((w.alloc (.cells es 28)).alloc (bK H.hb H.hs H.hr H.hc)).alloc (.cells (bT C) 34))) := LB.new w es H C
 have HT : Hid (TK (KO w) t w.heap.size es (((w.alloc (.cells es 28)).alloc (bK H.hb H.hs H.hr H.hc)).alloc (.cells (bT C) 34))) := ⟨HX.out.b0, h0.nk.below HX.out.bel⟩
 clear h0
 have RN : Hid _ := HT.out.lod
 have RH : Hid _ := fB HX.out.b1
 have RC : Hid _ := fA HX.out.b2
 have RSh : Hid _ := dM HX.out.b2
 obtain ⟨d2, d3, d4, d5, d6⟩ := dI HX.out.b2
 rw [hd] at d2
 go_enter Tryz.func6, Tryz.ntmps6
 go_wp2_with (first
  | ((with_reducible show wpList _ _ _ ({ dst := _, op := Op.load 28 _, type := _, pos := _, after := _, guard := none } :: _) _ _); refine aA rfl 28 _ rfl _ _ rfl RN.out ?_)
  | ((with_reducible show wpList _ _ _ ({ dst := _, op := Op.load 28 _, type := _, pos := _, after := _, guard := some _ } :: _) _ _); refine aI 28 _ rfl _ _ rfl RN.out ?hw ?_; (case hw => (go_simp; done)))
  | ((with_reducible show wpList _ _ _ ({ dst := _, op := Op.load 32 _, type := _, pos := _, after := _, guard := some _ } :: _) _ _); refine aI 32 _ rfl _ _ rfl RSh.out ?hw ?_; (case hw => (go_simp; done)))
  | (go_at_call 8; refine (fC.out _ HX.out HT.out).mono ?_; clear fC; rintro e u8 ⟨rfl, hb⟩; have HX : Hid _ := HX.out.step hb; have HT : Hid _ := HT.out.step hb; clear hb; clear RN RH RC RSh d2 d3 d4 d5 d6; have RN : Hid _ := HT.out.lod; have RH : Hid _ := fB HX.out.b1; have RC : Hid _ := fA HX.out.b2; have RSh : Hid _ := dM HX.out.b2; obtain ⟨d2, d3, d4, d5, d6⟩ := dI HX.out.b2; rw [hd] at d2)
  | (go_at_call 18; refine (HG.out _ HX.out HT.out).mono ?_; clear HG; rintro e u18 ⟨rfl, hb⟩; have HX : Hid _ := HX.out.step hb; have HT : Hid _ := HT.out.step hb; clear hb; clear RN RH RC RSh d2 d3 d4 d5 d6; have RN : Hid _ := HT.out.lod; have RH : Hid _ := fB HX.out.b1; have RC : Hid _ := fA HX.out.b2; have RSh : Hid _ := dM HX.out.b2; obtain ⟨d2, d3, d4, d5, d6⟩ := dI HX.out.b2; rw [hd] at d2)
  | (go_at_call 19; refine (HGs.out _ HX.out HT.out).mono ?_; clear HGs; rintro e u19 ⟨rfl, hb⟩; have HX : Hid _ := HX.out.step hb; have HT : Hid _ := HT.out.step hb; clear hb; clear RN RH RC RSh d2 d3 d4 d5 d6; have RN : Hid _ := HT.out.lod; have RH : Hid _ := fB HX.out.b1; have RC : Hid _ := fA HX.out.b2; have RSh : Hid _ := dM HX.out.b2; obtain ⟨d2, d3, d4, d5, d6⟩ := dI HX.out.b2; rw [hd] at d2)
  | (go_at_call 9; refine (HLv.out _ HX.out).mono ?_; clear HLv; rintro e u9 ⟨rfl, hb⟩; have HX : Hid _ := HX.out.step hb; clear hb))
 go_ret
 exact ⟨rfl, HX.out.bel⟩
theorem aCj {t : T} {es : Array Value} {H : Hm} {C : Chg} {w : World} (hd : C.dr = false) (hn : 1 ≤ C.n) (hm : C.m ≤ 64) (h0 : NT w es t)
  (fC : Hid (∀ u, LB w es H C u → TK (KO w) t w.heap.size es u → Calls Tryz.prog 8 #[.agg es, .int .i64 400] u fun e w' => e = .returned (.bool false) ∧ Below u.heap.size u w'))
  (HG : Hid (∀ u, LB w es H C u → TK (KO w) t w.heap.size es u → Calls Tryz.prog 18 #[.agg es] u fun e w' => e = .returned (.bool true) ∧ Below u.heap.size u w'))
  (HGs : Hid (∀ u, LB w es H C u → TK (KO w) t w.heap.size es u → Calls Tryz.prog 19 #[Hs.shV C.a C.n C.m] u fun e w' => e = .returned (.bool true) ∧ Below u.heap.size u w'))
  (HFl : Hid (∀ u, LB w es H C u → TK (KO w) t w.heap.size es u → Calls Tryz.prog 20 #[.agg es, Hs.shV C.a C.n C.m, .bool C.co] u fun e w' => e = .returned (.bool true) ∧ Below u.heap.size u w'))
  (HLv : Hid (∀ u, LB w es H C u → Calls Tryz.prog 9 #[] u fun e w' => e = .returned (.bool true) ∧ Below u.heap.size u w')) :
  Calls Tryz.prog 6 #[.agg es, hmV H, .agg (bT C)] w fun e w' => e = .returned (.bool true) ∧ Below w.heap.size w w' := by
 have HX : Hid (LB w es H C (((w.alloc (.cells es 28)).alloc (bK H.hb H.hs H.hr H.hc)).alloc (.cells (bT C) 34))) := LB.new w es H C
 have HT : Hid (TK (KO w) t w.heap.size es (((w.alloc (.cells es 28)).alloc (bK H.hb H.hs H.hr H.hc)).alloc (.cells (bT C) 34))) := ⟨HX.out.b0, h0.nk.below HX.out.bel⟩
 clear h0
 have RN : Hid _ := HT.out.lod
 have RH : Hid _ := fB HX.out.b1
 have RC : Hid _ := fA HX.out.b2
 have RSh : Hid _ := dM HX.out.b2
 obtain ⟨d2, d3, d4, d5, d6⟩ := dI HX.out.b2
 rw [hd] at d2
 go_enter Tryz.func6, Tryz.ntmps6
 go_wp2_with (first
  | ((with_reducible show wpList _ _ _ ({ dst := _, op := Op.load 28 _, type := _, pos := _, after := _, guard := none } :: _) _ _); refine aA rfl 28 _ rfl _ _ rfl RN.out ?_)
  | ((with_reducible show wpList _ _ _ ({ dst := _, op := Op.load 28 _, type := _, pos := _, after := _, guard := some _ } :: _) _ _); refine aI 28 _ rfl _ _ rfl RN.out ?hw ?_; (case hw => (go_simp; done)))
  | ((with_reducible show wpList _ _ _ ({ dst := _, op := Op.load 32 _, type := _, pos := _, after := _, guard := some _ } :: _) _ _); refine aI 32 _ rfl _ _ rfl RSh.out ?hw ?_; (case hw => (go_simp; done)))
  | (go_at_call 8; refine (fC.out _ HX.out HT.out).mono ?_; clear fC; rintro e u8 ⟨rfl, hb⟩; have HX : Hid _ := HX.out.step hb; have HT : Hid _ := HT.out.step hb; clear hb; clear RN RH RC RSh d2 d3 d4 d5 d6; have RN : Hid _ := HT.out.lod; have RH : Hid _ := fB HX.out.b1; have RC : Hid _ := fA HX.out.b2; have RSh : Hid _ := dM HX.out.b2; obtain ⟨d2, d3, d4, d5, d6⟩ := dI HX.out.b2; rw [hd] at d2)
  | (go_at_call 18; refine (HG.out _ HX.out HT.out).mono ?_; clear HG; rintro e u18 ⟨rfl, hb⟩; have HX : Hid _ := HX.out.step hb; have HT : Hid _ := HT.out.step hb; clear hb; clear RN RH RC RSh d2 d3 d4 d5 d6; have RN : Hid _ := HT.out.lod; have RH : Hid _ := fB HX.out.b1; have RC : Hid _ := fA HX.out.b2; have RSh : Hid _ := dM HX.out.b2; obtain ⟨d2, d3, d4, d5, d6⟩ := dI HX.out.b2; rw [hd] at d2)
  | (go_at_call 19; refine (HGs.out _ HX.out HT.out).mono ?_; clear HGs; rintro e u19 ⟨rfl, hb⟩; have HX : Hid _ := HX.out.step hb; have HT : Hid _ := HT.out.step hb; clear hb; clear RN RH RC RSh d2 d3 d4 d5 d6; have RN : Hid _ := HT.out.lod; have RH : Hid _ := fB HX.out.b1; have RC : Hid _ := fA HX.out.b2; have RSh : Hid _ := dM HX.out.b2; obtain ⟨d2, d3, d4, d5, d6⟩ := dI HX.out.b2; rw [hd] at d2)
  | (go_at_call 20; refine (HFl.out _ HX.out HT.out).mono ?_; clear HFl; rintro e u20 ⟨rfl, hb⟩; have HX : Hid _ := HX.out.step hb; have HT : Hid _ := HT.out.step hb; clear hb; clear RN RH RC RSh d2 d3 d4 d5 d6; have RN : Hid _ := HT.out.lod; have RH : Hid _ := fB HX.out.b1; have RC : Hid _ := fA HX.out.b2; have RSh : Hid _ := dM HX.out.b2; obtain ⟨d2, d3, d4, d5, d6⟩ := dI HX.out.b2; rw [hd] at d2)
  | (go_at_call 9; refine (HLv.out _ HX.out).mono ?_; clear HLv; rintro e u9 ⟨rfl, hb⟩; have HX : Hid _ := HX.out.step hb; clear hb))
 go_ret
 exact ⟨rfl, HX.out.bel⟩
theorem aEA {t : T} {es : Array Value} {H : Hm} {C : Chg} {w : World} (hd : C.dr = false) (hn : 1 ≤ C.n) (hm : C.m ≤ 64) (hw : IntKind.i64.wrap (-C.n) = -C.n) (h0 : NT w es t)
  (fC : Hid (∀ u, LB w es H C u → TK (KO w) t w.heap.size es u → Calls Tryz.prog 8 #[.agg es, .int .i64 400] u fun e w' => e = .returned (.bool false) ∧ Below u.heap.size u w'))
  (HG : Hid (∀ u, LB w es H C u → TK (KO w) t w.heap.size es u → Calls Tryz.prog 18 #[.agg es] u fun e w' => e = .returned (.bool true) ∧ Below u.heap.size u w'))
  (HGs : Hid (∀ u, LB w es H C u → TK (KO w) t w.heap.size es u → Calls Tryz.prog 19 #[Hs.shV C.a C.n C.m] u fun e w' => e = .returned (.bool true) ∧ Below u.heap.size u w'))
  (HFl : Hid (∀ u, LB w es H C u → TK (KO w) t w.heap.size es u → Calls Tryz.prog 20 #[.agg es, Hs.shV C.a C.n C.m, .bool C.co] u fun e w' => e = .returned (.bool false) ∧ Below u.heap.size u w'))
  {t1 t2 : T} {a1 a2 : Bool}
  (HN1 : Hid (∀ u, LB w es H C u → TK (KO w) t w.heap.size es u → Calls Tryz.prog 10 #[.agg es, hmV H, .agg (bT C)] u fun e w' => ∃ es', e = .returned (.tuple #[.agg es', .bool a1]) ∧ NK (KN w) w' es' t1 ∧ Below u.heap.size u w'))
  (HN2 : Hid (∀ u g es', LB w es H (neg C) u → TK (KN w) t1 g es' u → Calls Tryz.prog 10 #[.agg es', hmV H, .agg (bT (neg C))] u fun e w' => ∃ es2, e = .returned (.tuple #[.agg es2, .bool a2]) ∧ NK (KN w) w' es2 t2 ∧ Below u.heap.size u w'))
  (HSm : Hid (∀ u g es2, LB w es H (neg C) u → TK (KO w) t w.heap.size es u → TK (KN w) t2 g es2 u → Calls Tryz.prog 13 #[.agg es2, .agg es] u fun e w' => e = .returned (.bool true) ∧ Below u.heap.size u w'))
  (HLv : Hid (∀ u, LB w es H (neg C) u → Calls Tryz.prog 9 #[] u fun e w' => e = .returned (.bool true) ∧ Below u.heap.size u w')) :
  Calls Tryz.prog 6 #[.agg es, hmV H, .agg (bT C)] w fun e w' => e = .returned (.bool true) ∧ Below w.heap.size w w' := by
 have HX : Hid (LB w es H C (((w.alloc (.cells es 28)).alloc (bK H.hb H.hs H.hr H.hc)).alloc (.cells (bT C) 34))) := LB.new w es H C
 have HT : Hid (TK (KO w) t w.heap.size es (((w.alloc (.cells es 28)).alloc (bK H.hb H.hs H.hr H.hc)).alloc (.cells (bT C) 34))) := ⟨HX.out.b0, h0.nk.below HX.out.bel⟩
 clear h0
 have RN : Hid _ := HT.out.lod
 have RH : Hid _ := fB HX.out.b1
 have RC : Hid _ := fA HX.out.b2
 have RSh : Hid _ := dM HX.out.b2
 obtain ⟨d2, d3, d4, d5, d6⟩ := dI HX.out.b2
 rw [hd] at d2
 go_enter Tryz.func6, Tryz.ntmps6
 go_wp2_with (first
  | ((with_reducible show wpList _ _ _ ({ dst := _, op := Op.load 28 _, type := _, pos := _, after := _, guard := none } :: _) _ _); refine aA rfl 28 _ rfl _ _ rfl RN.out ?_)
  | ((with_reducible show wpList _ _ _ ({ dst := _, op := Op.load 28 _, type := _, pos := _, after := _, guard := some _ } :: _) _ _); refine aI 28 _ rfl _ _ rfl RN.out ?hw ?_; (case hw => (go_simp; done)))
  | ((with_reducible show wpList _ _ _ ({ dst := _, op := Op.load 32 _, type := _, pos := _, after := _, guard := some _ } :: _) _ _); refine aI 32 _ rfl _ _ rfl RSh.out ?hw ?_; (case hw => (go_simp; done)))
  | (go_at_call 8; refine (fC.out _ HX.out HT.out).mono ?_; clear fC; rintro e u8 ⟨rfl, hb⟩; have HX : Hid _ := HX.out.step hb; have HT : Hid _ := HT.out.step hb; clear hb; clear RN RH RC RSh d2 d3 d4 d5 d6; have RN : Hid _ := HT.out.lod; have RH : Hid _ := fB HX.out.b1; have RC : Hid _ := fA HX.out.b2; have RSh : Hid _ := dM HX.out.b2; obtain ⟨d2, d3, d4, d5, d6⟩ := dI HX.out.b2; rw [hd] at d2)
  | (go_at_call 18; refine (HG.out _ HX.out HT.out).mono ?_; clear HG; rintro e u18 ⟨rfl, hb⟩; have HX : Hid _ := HX.out.step hb; have HT : Hid _ := HT.out.step hb; clear hb; clear RN RH RC RSh d2 d3 d4 d5 d6; have RN : Hid _ := HT.out.lod; have RH : Hid _ := fB HX.out.b1; have RC : Hid _ := fA HX.out.b2; have RSh : Hid _ := dM HX.out.b2; obtain ⟨d2, d3, d4, d5, d6⟩ := dI HX.out.b2; rw [hd] at d2)
  | (go_at_call 19; refine (HGs.out _ HX.out HT.out).mono ?_; clear HGs; rintro e u19 ⟨rfl, hb⟩; have HX : Hid _ := HX.out.step hb; have HT : Hid _ := HT.out.step hb; clear hb; clear RN RH RC RSh d2 d3 d4 d5 d6; have RN : Hid _ := HT.out.lod; have RH : Hid _ := fB HX.out.b1; have RC : Hid _ := fA HX.out.b2; have RSh : Hid _ := dM HX.out.b2; obtain ⟨d2, d3, d4, d5, d6⟩ := dI HX.out.b2; rw [hd] at d2)
  | (go_at_call 20; refine (HFl.out _ HX.out HT.out).mono ?_; clear HFl; rintro e u20 ⟨rfl, hb⟩; have HX : Hid _ := HX.out.step hb; have HT : Hid _ := HT.out.step hb; clear hb; clear RN RH RC RSh d2 d3 d4 d5 d6; have RN : Hid _ := HT.out.lod; have RH : Hid _ := fB HX.out.b1; have RC : Hid _ := fA HX.out.b2; have RSh : Hid _ := dM HX.out.b2; obtain ⟨d2, d3, d4, d5, d6⟩ := dI HX.out.b2; rw [hd] at d2)
  | ((with_reducible show wpList _ _ _ ({ dst := _, op := Op.load 30 _, type := _, pos := _, after := _, guard := none } :: _) _ _); refine aA rfl 30 _ rfl _ _ rfl RH.out ?_)
  | ((with_reducible show wpList _ _ _ ({ dst := _, op := Op.load 34 _, type := _, pos := _, after := _, guard := none } :: _) _ _); refine aA rfl 34 _ rfl _ _ rfl RC.out ?_)
  | ((with_reducible show wpList _ _ _ ({ dst := _, op := Op.load 28 _, type := _, pos := _, after := _, guard := none } :: _) _ _); refine aA rfl 28 _ rfl _ _ rfl RM.out ?_)
  | ((with_reducible show wpList _ _ _ ({ dst := _, op := Op.store 28 _ _, type := _, pos := _, after := _, guard := none } :: _) _ _); refine aB rfl 28 _ _ rfl _ _ _ rfl rfl RS.out ?_)
  | (go_at_call 10; refine (HN1.out _ HX.out HT.out).mono ?_; clear HN1; rintro e w3 ⟨es', rfl, hn, hb⟩; have hlt : w.heap.size + 2 < w3.heap.size := Nat.lt_of_lt_of_le (aW HX.out.b2) hb.size; have RS : Hid _ := (TK.new hn).2; have HX0 := HX.out.step hb; have HX1 := HX0.step (aC (Below.refl _ _) (.cells es' 28)); obtain ⟨e2, e3, e4, e5, e6⟩ := dI HX1.b2; have RH : Hid _ := fB HX1.b1; have hfz := frozen_of_row (w3.alloc (.cells es' 28)) (w.heap.size + 2) 5 _ 34 HX1.b2; have hn2 : NK (KN w) (w3.setCell ⟨w.heap.size + 2, 5, none⟩ (.int .i64 (-C.n))) es' t1 := hn.grown (Go.Lib.grownBy_setCell _ _ _ _) (fun g e hk => by cases e; exact absurd hk (by show ¬ w.heap.size + 3 ≤ w.heap.size + 2; omega)); obtain ⟨q1, _⟩ := TK.new hn2; have hsz : (w3.setCell ⟨w.heap.size + 2, 5, none⟩ (.int .i64 (-C.n))).heap.size = w3.heap.size := (by simp); rw [hsz] at q1; have HX : Hid _ := HX0.neg.step (aC (Below.refl _ _) (.cells es' 28)); have HT : Hid _ := ((HT.out.step hb).cell (b := w.heap.size + 2) (i := 5) (by omega) (by show ¬ w.heap.size + 2 < w.heap.size; omega) (.int .i64 (-C.n))).step (aC (Below.refl _ _) (.cells es' 28)); have HQ : Hid _ := q1; clear RN RC RSh d2 d3 d4 d5 d6; have RN : Hid _ := HT.out.lod; have RM : Hid _ := HQ.out.lod; have RH : Hid _ := fB HX.out.b1; have RC : Hid _ := fA HX.out.b2; clear hb hn hn2 HX0 HX1 q1)
  | (go_at_call 10; refine (HN2.out _ _ _ HX.out HQ.out).mono ?_; clear HN2; rintro e w4 ⟨es2, rfl, hn, hb⟩; obtain ⟨q1, q2⟩ := TK.new hn; have HXa := HX.out.step hb; have HX : Hid _ := HXa.step (aC (Below.refl _ _) (.cells es2 28)); have HTa := HT.out.step hb; have HT : Hid _ := HTa.step (aC (Below.refl _ _) (.cells es2 28)); have HQ : Hid _ := q1; have RS : Hid _ := q2; clear hb hn HXa HTa q1 q2; clear RN RM; have RN : Hid _ := HT.out.lod; have RM : Hid _ := HQ.out.lod)
  | (go_at_call 13; refine (HSm.out _ _ _ HX.out HT.out HQ.out).mono ?_; clear HSm; rintro e u13 ⟨rfl, hb⟩; have HX : Hid _ := HX.out.step hb; clear hb)
  | (go_at_call 9; refine (HLv.out _ HX.out).mono ?_; clear HLv; rintro e u9 ⟨rfl, hb⟩; have HX : Hid _ := HX.out.step hb; clear hb))
 go_ret
 exact ⟨rfl, HX.out.bel⟩
end Go.Proofs.YtljmklbbngpllaaGreatDoor.Rw
