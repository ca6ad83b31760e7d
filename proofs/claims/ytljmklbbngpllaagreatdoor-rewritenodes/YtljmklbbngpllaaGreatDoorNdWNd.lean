/- NdW0, NdW. -/
import Derived.Test.YtljmklbbngpllaaGreatDoorRwRbNd
set_option linter.unusedVariables false
set_option linter.unusedSimpArgs false
set_option maxHeartbeats 16000000
set_option maxRecDepth 100000
namespace Go.Proofs.YtljmklbbngpllaaGreatDoor.Rw
open Go.RowKit Go.Fm
theorem aD1 {t : T} {es : Array Value} {H : Hm} {C : Chg} {w : World} (h0 : NT w es t)
  (tH : Hid (∀ u, LB w es H C u → TB t w.heap.size es u → Calls Tryz.prog 8 #[.agg es, .int .i64 400] u fun e w' => e = .returned (.bool true) ∧ Below u.heap.size u w'))
  (HLv : Hid (∀ u, LB w es H C u → Calls Tryz.prog 9 #[] u fun e w' => e = .returned (.bool true) ∧ Below u.heap.size u w')) :
  Calls Tryz.prog 3 #[.agg es, hmV H, .agg (aW C)] w fun e w' => e = .returned (.bool true) ∧ Below w.heap.size w w' := by
 have HX : Hid (LB w es H C (((w.alloc (.cells es 28)).alloc (bF H.hb H.hs H.hr H.hc)).alloc (.cells (aW C) 34))) := LB.new w es H C
 have HT : Hid (TB t w.heap.size es (((w.alloc (.cells es 28)).alloc (bF H.hb H.hs H.hr H.hc)).alloc (.cells (aW C) 34))) := ⟨HX.out.b0, h0.below HX.out.bel⟩
 clear h0
 have RN : Hid _ := HT.out.lod
 have RH : Hid _ := kF HX.out.b1
 have RC : Hid _ := pV HX.out.b2
 go_enter Tryz.func3, Tryz.ntmps3
 go_wp2_with (first
  | ((with_reducible show wpList _ _ _ ({ dst := _, op := Op.load 28 _, type := _, pos := _, after := _, guard := none } :: _) _ _); refine aB rfl 28 _ rfl _ _ rfl RN.out ?_)
  | (go_at_call 8; refine (tH.out _ HX.out HT.out).mono ?_; clear tH; rintro e u8 ⟨rfl, hb⟩; have HX : Hid _ := HX.out.step hb; have HT : Hid _ := HT.out.step hb; clear hb; clear RN RH RC; have RN : Hid _ := HT.out.lod; have RH : Hid _ := kF HX.out.b1; have RC : Hid _ := pV HX.out.b2)
  | (go_at_call 9; refine (HLv.out _ HX.out).mono ?_; clear HLv; rintro e u9 ⟨rfl, hb⟩; have HX : Hid _ := HX.out.step hb; clear hb))
 all_goals (go_ret; exact ⟨rfl, HX.out.bel⟩)
theorem aBM {t t' : T} {es : Array Value} {H : Hm} {C : Chg} {w : World} {rb nb : Bool} (h0 : NT w es t)
  (tH : Hid (∀ u, LB w es H C u → TB t w.heap.size es u → Calls Tryz.prog 8 #[.agg es, .int .i64 400] u fun e w' => e = .returned (.bool false) ∧ Below u.heap.size u w'))
  (HNo : Hid (∀ u, LB w es H C u → TB t w.heap.size es u → Calls Tryz.prog 10 #[.agg es, hmV H, .agg (aW C)] u fun e w' => ∃ es', e = .returned (.tuple #[.agg es', .bool rb]) ∧ NT w' es' t' ∧ Below u.heap.size u w'))
  (HRn : Hid (∀ u, LB w es H C u → TB t w.heap.size es u → Calls Tryz.prog 11 #[.agg es, hmV H, .agg (aW C)] u fun e w' => ∃ es', e = .returned (.tuple #[.agg es', .bool rb]) ∧ NK (fun i => u.heap.size ≤ i) w' es' t' ∧ Below u.heap.size u w'))
  (HSm : Hid (∀ u g1 e1 g2 e2, TB t' g1 e1 u → TB t' g2 e2 u → Calls Tryz.prog 13 #[.agg e1, .agg e2] u fun e w' => e = .returned (.bool true) ∧ Below u.heap.size u w'))
  (HNm : Hid (∀ u, LB w es H C u → TB t w.heap.size es u → Calls Tryz.prog 14 #[.agg es, hmV H, .agg (aW C)] u fun e w' => e = .returned (.bool nb) ∧ Below u.heap.size u w'))
  (HRm : Hid (∀ u, LB w es H C u → TB t w.heap.size es u → Calls Tryz.prog 15 #[.agg es, hmV H, .agg (aW C)] u fun e w' => e = .returned (.bool nb) ∧ Below u.heap.size u w'))
  (HLv : Hid (∀ u, LB w es H C u → Calls Tryz.prog 9 #[] u fun e w' => e = .returned (.bool true) ∧ Below u.heap.size u w')) :
  Calls Tryz.prog 3 #[.agg es, hmV H, .agg (aW C)] w fun e w' => e = .returned (.bool true) ∧ Below w.heap.size w w' := by
 have HPl := fun u => aDV C u
 have HX : Hid (LB w es H C (((w.alloc (.cells es 28)).alloc (bF H.hb H.hs H.hr H.hc)).alloc (.cells (aW C) 34))) := LB.new w es H C
 have HT : Hid (TB t w.heap.size es (((w.alloc (.cells es 28)).alloc (bF H.hb H.hs H.hr H.hc)).alloc (.cells (aW C) 34))) := ⟨HX.out.b0, h0.below HX.out.bel⟩
 clear h0
 have RN : Hid _ := HT.out.lod
 have RH : Hid _ := kF HX.out.b1
 have RC : Hid _ := pV HX.out.b2
 go_enter Tryz.func3, Tryz.ntmps3
 go_upto_region 4 with (first
  | ((with_reducible show wpList _ _ _ ({ dst := _, op := Op.load 28 _, type := _, pos := _, after := _, guard := none } :: _) _ _); refine aB rfl 28 _ rfl _ _ rfl RN.out ?_)
  | ((with_reducible show wpList _ _ _ ({ dst := _, op := Op.load 30 _, type := _, pos := _, after := _, guard := none } :: _) _ _); refine aB rfl 30 _ rfl _ _ rfl RH.out ?_)
  | ((with_reducible show wpList _ _ _ ({ dst := _, op := Op.load 34 _, type := _, pos := _, after := _, guard := none } :: _) _ _); refine aB rfl 34 _ rfl _ _ rfl RC.out ?_)
  | (go_at_call 8; refine (tH.out _ HX.out HT.out).mono ?_; clear tH; rintro e u8 ⟨rfl, hb⟩; have HX : Hid _ := HX.out.step hb; have HT : Hid _ := HT.out.step hb; clear hb; clear RN RH RC; have RN : Hid _ := HT.out.lod; have RH : Hid _ := kF HX.out.b1; have RC : Hid _ := pV HX.out.b2)
  | (go_at_call 10; refine (HNo.out _ HX.out HT.out).mono ?_; clear HNo; rintro e w3 ⟨es7, rfl, hn, hb⟩; obtain ⟨q1, q2⟩ := TB.new hn; have HX0 := HX.out.step hb; have HX : Hid _ := HX0.step (aA (Below.refl _ _) (.cells es7 28)); have HT0 := HT.out.step hb; have HT : Hid _ := HT0.step (aA (Below.refl _ _) (.cells es7 28)); have HQ : Hid _ := q1; have RS : Hid _ := q2; clear hb hn HX0 HT0 q1 q2 RN RH RC)
  | ((with_reducible show wpList _ _ _ ({ dst := _, op := Op.store 28 _ _, type := _, pos := _, after := _, guard := none } :: _) _ _); refine aD rfl 28 _ _ rfl _ _ _ rfl rfl RS.out ?_; clear RS))
 show Code.wp Tryz.prog _ _ _ (w3.alloc (.cells es7 28))
 generalize w3.alloc (.cells es7 28) = W at *
 generalize w3.heap.size = g7 at *
 have HN : Hid (∀ u, Below W.heap.size W u → LB w es H C u ∧ TB t w.heap.size es u ∧ TB t' g7 es7 u) := fun u hu => ⟨HX.out.step hu, HT.out.step hu, HQ.out.step hu⟩
 have HNz : Hid (∀ u g, Below W.heap.size W u → u.heap[g]? = some (.cells nd0 28) → W.heap.size ≤ g → ∀ (e2 : Array Value) (K : Nat → Prop), NK K u e2 t' → ¬ K g → Hid ((Instr.storeAt 28 (.pointer (some ⟨g, 0, none⟩)) (.agg e2)).run Tryz.prog u = .ok () (u.setRow g e2)) ∧ Hid (TB t' g e2 (u.setRow g e2) ∧ Below W.heap.size W (u.setRow g e2))) := fun u g hu hg hge e2 K hk hnK => by
  have hG : u.grownBy (u.setRow g e2) (some g) := aC _ _ _
  exact ⟨hk.sto hg rfl, ⟨setRow_heap _ _ _ _ _ _ hg, (hk.grown hG (fun j e hh => by cases e; exact hnK hh)).nt⟩, hu.grown hG hu.size (fun j e => by cases e; exact hge)⟩
 have HW : Hid (Below W.heap.size W W.drew) := (Below.refl _ _).drew
 clear HX HT HQ
 go_cut [9, 10] (fun p q wx => ∃ g9 e9, p = .pointer (some ⟨g9, 0, none⟩) ∧ q = .bool rb ∧ Hid (TB t' g9 e9 wx ∧ Below W.heap.size W wx))
 case first =>
  clear HSm HNm HRm HLv
  refine aQ (fun u => Below W.heap.size W u) (fun j => false) (by kernel_rfl) ?_
  refine dwl 0 (.agg es) ?_ (hS := HW.out) (hy := (fun u hSu => aI rfl rfl (HN.out u hSu).2.1.lod))
  refine dwl 1 (hmV H) ?_ (hS := HW.out) (hy := (fun u hSu => aI rfl rfl (kF (HN.out u hSu).1.b1)))
  refine dwl 2 (.agg (aW C)) ?_ (hS := HW.out) (hy := (fun u hSu => aI rfl rfl (pV (HN.out u hSu).1.b2)))
  refine bL (i := 3) (j := 8) (by kernel_rfl) rfl rfl ?_ ?_
  ·intro K' hK'
   go_simp
   refine (HPl _).mono ?_
   rintro e u1 ⟨rfl, hb⟩
   have SB1 : Below W.heap.size W u1 := aG HW.out hb
   refine hK' _ _ (.inr fun _ => SB1) ?_
   clear hK'
   try simp only [Act.put, List.setIfInBounds_toArray, List.set_cons_zero, List.set_cons_succ]
   refine bL (i := 4) (j := 8) (by kernel_rfl) rfl rfl ?_ ?_
   ·intro K' hK'
    go_simp
    refine (HRn.out _ (HN.out _ SB1).1 (HN.out _ SB1).2.1).mono ?_
    rintro e u2 ⟨e2, rfl, hk2, hb⟩
    have SB2 : Below W.heap.size W u2 := aG SB1 hb
    refine hK' _ _ (.inr fun _ => SB2) ?_
    clear hK'
    try simp only [Act.put, List.setIfInBounds_toArray, List.set_cons_zero, List.set_cons_succ]
    refine dwp 5 (.tuple #[.agg e2, .bool rb]) ?_
    refine dwp 6 (.agg e2) ?_
    refine dwp 7 (.bool rb) ?_
    refine aH (i := 8) (by kernel_rfl) rfl ?_
    ·intro K' hK'
     go_simp
     have SB3 : Below W.heap.size W (World.alloc u2 (.cells nd0 28)) := aA SB2 _
     have G3 := heap_alloc_new u2 (.cells nd0 28)
     have L3 := Below.size SB2
     try simp only [World.size_alloc] at L3
     have N3 : NK (fun i => i ≠ (u2).heap.size) (World.alloc u2 (.cells nd0 28)) _ t' := NK.below (NK.mono hk2 (fun i hi hl => Nat.ne_of_lt hl)) (aA (Below.refl _ _) (.cells nd0 28))
     refine hK' _ _ (.inr fun _ => SB3) ?_
     clear hK'
     try simp only [Act.put, List.setIfInBounds_toArray, List.set_cons_zero, List.set_cons_succ]
     obtain ⟨RS, HE⟩ := HNz.out _ _ SB3 G3 L3 _ _ N3 (fun h => h rfl)
     refine aH (i := 9) (by kernel_rfl) rfl ?_
     intro K' hK'
     rw [if_pos (by go_simp)]
     refine aJ none rfl 28 _ _ rfl _ _ rfl rfl RS.out (hK' _ _ (.inr fun _ => HE.out.2) ?_)
     clear hK'
     try simp only [Act.put, List.setIfInBounds_toArray, List.set_cons_zero, List.set_cons_succ]
     refine dwp 10 (.bool rb) ?_
     refine aK (by kernel_rfl) ?_ _
     go_wp2
     go_meet
     exact ⟨_, _, rfl, rfl, HE.out.1, HE.out.2⟩
   ·intro K' hK'
    go_simp
    have SB4 : Below W.heap.size W (World.alloc u1 (.cells nd0 28)) := aA SB1 _
    have G4 := heap_alloc_new u1 (.cells nd0 28)
    have L4 := Below.size SB1
    try simp only [World.size_alloc] at L4
    refine hK' _ _ (.inr fun _ => SB4) ?_
    clear hK'
    try simp only [Act.put, List.setIfInBounds_toArray, List.set_cons_zero, List.set_cons_succ]
    refine aH (i := 4) (by kernel_rfl) rfl ?_
    ·intro K' hK'
     go_simp
     refine (HRn.out _ (HN.out _ SB4).1 (HN.out _ SB4).2.1).mono ?_
     rintro e u5 ⟨e5, rfl, hk5, hb⟩
     have SB5 : Below W.heap.size W u5 := aG SB4 hb
     have G5 := (hb.block _ (aS G4)).trans G4
     have K5 := aS G4
     refine hK' _ _ (.inr fun _ => SB5) ?_
     clear hK'
     try simp only [Act.put, List.setIfInBounds_toArray, List.set_cons_zero, List.set_cons_succ]
     refine dwp 5 (.tuple #[.agg e5, .bool rb]) ?_
     refine dwp 6 (.agg e5) ?_
     refine dwp 7 (.bool rb) ?_
     obtain ⟨RS, HE⟩ := HNz.out _ _ SB5 G5 L4 _ _ hk5 (fun h => by have := K5; omega)
     refine aH (i := 9) (by kernel_rfl) rfl ?_
     intro K' hK'
     rw [if_pos (by go_simp)]
     refine aJ none rfl 28 _ _ rfl _ _ rfl rfl RS.out (hK' _ _ (.inr fun _ => HE.out.2) ?_)
     clear hK'
     try simp only [Act.put, List.setIfInBounds_toArray, List.set_cons_zero, List.set_cons_succ]
     refine dwp 10 (.bool rb) ?_
     refine aK (by kernel_rfl) ?_ _
     go_wp2
     go_meet
     exact ⟨_, _, rfl, rfl, HE.out.1, HE.out.2⟩
  ·intro K' hK'
   go_simp
   have SB6 : Below W.heap.size W (World.alloc W.drew (.cells nd0 28)) := aA HW.out _
   have G6 := heap_alloc_new W.drew (.cells nd0 28)
   have L6 := Below.size HW.out
   try simp only [World.size_alloc] at L6
   refine hK' _ _ (.inr fun _ => SB6) ?_
   clear hK'
   try simp only [Act.put, List.setIfInBounds_toArray, List.set_cons_zero, List.set_cons_succ]
   refine aH (i := 3) (by kernel_rfl) rfl ?_
   ·intro K' hK'
    go_simp
    refine (HPl _).mono ?_
    rintro e u7 ⟨rfl, hb⟩
    have SB7 : Below W.heap.size W u7 := aG SB6 hb
    have G7 := (hb.block _ (aS G6)).trans G6
    refine hK' _ _ (.inr fun _ => SB7) ?_
    clear hK'
    try simp only [Act.put, List.setIfInBounds_toArray, List.set_cons_zero, List.set_cons_succ]
    refine aH (i := 4) (by kernel_rfl) rfl ?_
    ·intro K' hK'
     go_simp
     refine (HRn.out _ (HN.out _ SB7).1 (HN.out _ SB7).2.1).mono ?_
     rintro e u8 ⟨e8, rfl, hk8, hb⟩
     have SB8 : Below W.heap.size W u8 := aG SB7 hb
     have G8 := (hb.block _ (aS G7)).trans G7
     have K8 := aS G7
     refine hK' _ _ (.inr fun _ => SB8) ?_
     clear hK'
     try simp only [Act.put, List.setIfInBounds_toArray, List.set_cons_zero, List.set_cons_succ]
     refine dwp 5 (.tuple #[.agg e8, .bool rb]) ?_
     refine dwp 6 (.agg e8) ?_
     refine dwp 7 (.bool rb) ?_
     obtain ⟨RS, HE⟩ := HNz.out _ _ SB8 G8 L6 _ _ hk8 (fun h => by have := K8; omega)
     refine aH (i := 9) (by kernel_rfl) rfl ?_
     intro K' hK'
     rw [if_pos (by go_simp)]
     refine aJ none rfl 28 _ _ rfl _ _ rfl rfl RS.out (hK' _ _ (.inr fun _ => HE.out.2) ?_)
     clear hK'
     try simp only [Act.put, List.setIfInBounds_toArray, List.set_cons_zero, List.set_cons_succ]
     refine dwp 10 (.bool rb) ?_
     refine aK (by kernel_rfl) ?_ _
     go_wp2
     go_meet
     exact ⟨_, _, rfl, rfl, HE.out.1, HE.out.2⟩
 case rest =>
  obtain ⟨g9, e9, rfl, rfl, HX⟩ := hcut
  have HQ : Hid (∀ u, Below W.heap.size W u → Below wc.heap.size wc u → LB w es H C u ∧ TB t w.heap.size es u ∧ TB t' g7 es7 u ∧ TB t' g9 e9 u) := fun u hu hv => ⟨(HN.out u hu).1, (HN.out u hu).2.1, (HN.out u hu).2.2, HX.out.1.step hv⟩
  have HWc : Hid (Below W.heap.size W wc.drew ∧ Below wc.heap.size wc wc.drew) := ⟨HX.out.2.drew, (Below.refl _ _).drew⟩
  clear HN HNz HW HRn HX
  go_upto_region 5 with fail
  refine aQ (fun u => Below W.heap.size W u ∧ Below wc.heap.size wc u) (fun j => false) (by kernel_rfl) ?_
  refine dwl 0 (.agg es7) ?_ (hS := HWc.out) (hy := (fun u hSu => aI rfl rfl (HQ.out u hSu.1 hSu.2).2.2.1.lod))
  refine dwl 1 (.agg e9) ?_ (hS := HWc.out) (hy := (fun u hSu => aI rfl rfl (HQ.out u hSu.1 hSu.2).2.2.2.lod))
  refine aH (i := 2) (by kernel_rfl) rfl ?_
  intro K' hK'
  go_simp
  refine (HSm.out _ _ _ _ _ (HQ.out _ (HWc.out).1 (HWc.out).2).2.2.1 (HQ.out _ (HWc.out).1 (HWc.out).2).2.2.2).mono ?_
  rintro e u1 ⟨rfl, hb⟩
  have SB1 : Below W.heap.size W u1 ∧ Below wc.heap.size wc u1 := ⟨aG (HWc.out).1 hb, aG (HWc.out).2 hb⟩
  refine hK' _ _ (.inr fun _ => SB1) ?_
  clear hK' hb
  try simp only [Act.put, List.setIfInBounds_toArray, List.set_cons_zero, List.set_cons_succ]
  refine dwp 3 (.bool true) ?_
  refine dwp 4 (.bool rb) ?_
  refine dwp 5 (.bool rb) ?_
  refine dwp 6 (.bool true) ?_
  refine dwp 7 (.bool true) ?_
  refine dwp 8 (.bool true) ?_
  refine dwl 9 (.agg es) ?_ (hS := SB1) (hy := (fun u hSu => aI rfl rfl (HQ.out u hSu.1 hSu.2).2.1.lod))
  refine dwl 10 (hmV H) ?_ (hS := SB1) (hy := (fun u hSu => aI rfl rfl (kF (HQ.out u hSu.1 hSu.2).1.b1)))
  refine dwl 11 (.agg (aW C)) ?_ (hS := SB1) (hy := (fun u hSu => aI rfl rfl (pV (HQ.out u hSu.1 hSu.2).1.b2)))
  refine dwl 13 (.agg es) ?_ (hS := SB1) (hy := (fun u hSu => aI rfl rfl (HQ.out u hSu.1 hSu.2).2.1.lod))
  refine dwl 14 (hmV H) ?_ (hS := SB1) (hy := (fun u hSu => aI rfl rfl (kF (HQ.out u hSu.1 hSu.2).1.b1)))
  refine dwl 15 (.agg (aW C)) ?_ (hS := SB1) (hy := (fun u hSu => aI rfl rfl (pV (HQ.out u hSu.1 hSu.2).1.b2)))
  refine aH (i := 12) (by kernel_rfl) rfl ?_
  ·intro K' hK'
   go_simp
   refine (HNm.out _ (HQ.out _ (SB1).1 (SB1).2).1 (HQ.out _ (SB1).1 (SB1).2).2.1).mono ?_
   rintro e u11 ⟨rfl, hb⟩
   have oM : Below W.heap.size W u11 ∧ Below wc.heap.size wc u11 := ⟨aG (SB1).1 hb, aG (SB1).2 hb⟩
   refine hK' _ _ (.inr fun _ => oM) ?_
   clear hK' hb
   try simp only [Act.put, List.setIfInBounds_toArray, List.set_cons_zero, List.set_cons_succ]
   refine aH (i := 16) (by kernel_rfl) rfl ?_
   ·intro K' hK'
    go_simp
    refine (HPl _).mono ?_
    rintro e u12 ⟨rfl, hb⟩
    have jJ : Below W.heap.size W u12 ∧ Below wc.heap.size wc u12 := ⟨aG (oM).1 hb, aG (oM).2 hb⟩
    refine hK' _ _ (.inr fun _ => jJ) ?_
    clear hK' hb
    try simp only [Act.put, List.setIfInBounds_toArray, List.set_cons_zero, List.set_cons_succ]
    refine aH (i := 17) (by kernel_rfl) rfl ?_
    ·intro K' hK'
     go_simp
     refine (HRm.out _ (HQ.out _ (jJ).1 (jJ).2).1 (HQ.out _ (jJ).1 (jJ).2).2.1).mono ?_
     rintro e u13 ⟨rfl, hb⟩
     have oN : Below W.heap.size W u13 ∧ Below wc.heap.size wc u13 := ⟨aG (jJ).1 hb, aG (jJ).2 hb⟩
     refine hK' _ _ (.inr fun _ => oN) ?_
     clear hK' hb
     try simp only [Act.put, List.setIfInBounds_toArray, List.set_cons_zero, List.set_cons_succ]
     refine dwp 18 (.bool true) ?_
     refine dwp 19 (.bool true) ?_
     refine dwp 20 (.bool true) ?_
     refine aH (i := 21) (by kernel_rfl) rfl ?_
     intro K' hK'
     go_simp
     refine (HLv.out _ (HQ.out _ (oN).1 (oN).2).1).mono ?_
     rintro e u14 ⟨rfl, hb⟩
     have oO : Below W.heap.size W u14 ∧ Below wc.heap.size wc u14 := ⟨aG (oN).1 hb, aG (oN).2 hb⟩
     refine hK' _ _ (.inr fun _ => oO) ?_
     clear hK' hb
     try simp only [Act.put, List.setIfInBounds_toArray, List.set_cons_zero, List.set_cons_succ]
     refine dwp 22 (.bool true) ?_
     refine dwp 23 (.bool true) ?_
     refine aK (by kernel_rfl) ?_ _
     go_wp2
     have HLB := (HQ.out _ oO.1 oO.2).1.bel
     go_ret
     exact ⟨rfl, HLB⟩
theorem aD2 : ∀ f : F, sF f f = true := fun f => (wI f f).2 (by
 induction f with
 | nil => trivial
 | node b o l f r ihf ihr => exact ⟨rfl, ihf, ihr⟩)
theorem aIk (t : T) : sT t t = true := (aBf t t).2 ⟨rfl, (wI _ _).1 (aD2 t.2)⟩
theorem aD3 {t : T} {es : Array Value} (H : Hm) (C : Chg) {w : World} (hN : NT w es t) (T : dB w) :
  Calls Tryz.prog 3 #[.agg es, hmV H, .agg (aW C)] w fun e w' => e = .returned (.bool true) ∧ Below w.heap.size w w' := by
 have HLv : Hid (∀ u, LB w es H C u → Calls Tryz.prog 9 #[] u fun e w' => e = .returned (.bool true) ∧ Below u.heap.size u w') := fun u hu => aDR u (T.below hu.bel)
 have tH : Hid (∀ u, LB w es H C u → TB t w.heap.size es u → Calls Tryz.prog 8 #[.agg es, .int .i64 400] u fun e w' => e = .returned (.bool (decide (400 ≤ zT t))) ∧ Below u.heap.size u w') := fun u hu ht => aIg (b := 400) ht.n (by omega) (by omega)
 by_cases hb : 400 ≤ zT t
 ·rw [decide_eq_true hb] at tH
  exact aD1 hN tH HLv
 rw [decide_eq_false hb] at tH
 have hz : zT t ≤ 900 := by omega
 have hzr : zT (rwT C H t) ≤ 900 := Nat.le_trans (aIt C H t) hz
 refine aBM (t' := rwT C H t) (rb := rwB C H t) (nb := nmT C H t) hN tH ?_ ?_ ?_ ?_ ?_ HLv
 ·exact fun u hu ht => (mF C H hz ht.n.nk (fun i hi => hi)).mono fun e w' h => by
   obtain ⟨es', rfl, hn, hb⟩ := h
   exact ⟨es', rfl, hn.nt, hb⟩
 ·exact fun u hu ht => aD0 C H t hz _ u es ht.n.nk (fun i hi => hi)
 ·exact fun u g1 e1 g2 e2 h1 h2 => by
   have := aDT _ (by omega) (rwT C H t) u e1 e2 h1.n h2.n
   rwa [aIk] at this
 ·exact fun u hu ht => aAr C H hz ht.n.nk (fun i hi => hi)
 ·exact fun u hu ht => aAt C H hz ht.n
end Go.Proofs.YtljmklbbngpllaaGreatDoor.Rw
