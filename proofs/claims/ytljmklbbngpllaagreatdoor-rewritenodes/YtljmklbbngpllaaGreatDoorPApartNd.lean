/- RwNode, RwTop, PApart. -/
import Derived.Test.YtljmklbbngpllaaGreatDoorRwMvDNd
import Derived.Test.YtljmklbbngpllaaGreatDoorRwPartsNd
set_option linter.unusedVariables false
set_option linter.unusedSimpArgs false
set_option maxHeartbeats 16000000
set_option maxRecDepth 100000
namespace Go.Proofs.YtljmklbbngpllaaGreatDoor.Rw
open Go.RowKit Go.Fm
theorem aF8 {C : Chg} {H : Hm} {g : Nat} {w : World} (h : mD w g C) (x : Rf) : Calls Tryz.prog 48 #[.agg (eP C H g), rfV x] w fun e w' => e = .returned (.tuple #[.agg (lcs (rfL C x) (.slice none 0 0)), .bool (chR C x)]) ∧ Below w.heap.size w w' := by
 obtain ⟨bk, sh, dr, co, a, n, m⟩ := C
 cases dr
 ·rcases h with h | h
  ·cases h
  ·exact aDA (fun u hu => aF0 (h.below hu) x)
 ·exact aDz x w
theorem aDD {C : Chg} {H : Hm} {g : Nat} {w : World} (h : mD w g C) (x y : Rf) : Calls Tryz.prog 49 #[.agg (eP C H g), rfV x, rfV y] w fun e w' => e = .returned (.tuple #[.agg (lcs (arL C x y) (.slice none 0 0)), .bool (chA C x y)]) ∧ Below w.heap.size w w' := by
 obtain ⟨bk, sh, dr, co, a, n, m⟩ := C
 cases dr
 ·rcases h with h | h
  ·cases h
  ·exact aBm (fun u hu => aDy (h.below hu) (lo x y) (hi x y))
 ·exact aBv (fun u hu => wM (lo x y) (hi x y) u)
theorem aIy {u : World} {g : Nat} {es : Array Value} {K : Nat → Prop} {w : World} {t : T} (hn : NK K w es t) (h : u.heap[g]? = some (.cells nd0 28)) : (Instr.storeAt 28 (.pointer (some ⟨g, 0, none⟩)) (.agg es)).run Tryz.prog u = .ok () (u.setRow g es) ∧ (u.setRow g es).heap[g]? = some (.cells es 28) :=
 ⟨hn.sto h rfl, setRow_heap _ _ _ _ _ _ h⟩
theorem aF9 {fn : Func} {i j : Tmp} (hr : fn.results = #[.cell i 28, .tmp j]) {tmps : Array Value} {g : Nat} {u : World} {es : Array Value} {v : Value} (hs : es.size = 18) (hp : tmps.getD i undef = .pointer (some ⟨g, 0, none⟩)) (h : u.heap[g]? = some (.cells es 28)) (hv : tmps.getD j undef = v) :
  (results fn tmps).run Tryz.prog u = .ok (.tuple #[.agg es, v]) u :=
 fE hr hp h rfl Tryz.underlying28 (by rw [hs]; exact bS) hv
theorem sN (C : Chg) (H : Hm) (g : Nat) : ∀ t : T, zT t ≤ 900 → aIx C H g t := by
 refine ind ?_
 intro t ih hz K w es h hK hF
 have hkl := jF t
 have PA := kU hz (fun s hs => ih s hs (by have := iZ hs; omega))
 have hNK := h
 obtain ⟨p, n, c, rfl, hs⟩ := h
 have NA := fun u => nY C.bk C.sh H.hb H.hs H.hr H.hc (aFZ C g) (aBj C g) t.1 (.slice p n c) u
 have MR := fun u (hu : mD u g C) => aF8 (H := H) hu (top t.1)
 have MA := fun u (hu : mD u g C) => aDD (H := H) hu (top t.1) (tof t.1)
 have hsz : (eP C H g).size = 8 := rfl
 have hnm : (kd t.1.k && (((orS t.1.b1 H.hb).toList == C.bk.toList) && ((orS t.1.h1 H.hs).toList == C.sh.toList))) = nm C H t.1 := rfl
 have hT0 : nm C H t.1 = false → rwT C H t = (t.1, rwF C H t.2) ∧ rwB C H t = rwA C H t.2 := fun e => by unfold rwT rwB; rw [e]; exact ⟨rfl, rfl⟩
 have hT1 : nm C H t.1 = true → rwT C H t = (rwL C t.1, .nil) ∧ rwB C H t = rwC C t.1 := fun e => by unfold rwT rwB; rw [e]; exact ⟨rfl, rfl⟩
 have hk2 : nm C H t.1 = true → t.1.k = 2 ∨ t.1.k = 3 := fun e => by
  unfold nm kd at e
  simp only [Bool.and_eq_true, Bool.or_eq_true, beq_iff_eq] at e
  exact e.1
 rw [hnm] at NA
 have hbx : (lcs t.1 (.slice p n c)).size = 18 := rfl
 have aJ7 : Calls Tryz.prog 25 #[.agg (eP C H g), .agg (lcs t.1 (.slice p n c))] w fun e w' => ∃ es', e = .returned (.tuple #[.agg es', .bool (rwB C H t)]) ∧ NK (fun i => w.heap.size ≤ i) w' es' (rwT C H t) ∧ Below w.heap.size w w' := by
  show Calls _ _ #[.agg (eP C H g), _] _ _
  have NA : ∀ u, Calls Tryz.prog 46 #[.agg (eP C H g), .agg (lcs t.1 (.slice p n c))] u fun e w' => e = .returned (.bool (nm C H t.1)) ∧ Below u.heap.size u w' := NA
  generalize eP C H g = fv at *
  obtain ⟨W, hW⟩ : ∃ W, W = ((w.alloc (.cells fv 64)).alloc (.cells (lcs t.1 (.slice p n c)) 28)).alloc (.cells nd0 28) := ⟨_, rfl⟩
  have HB0 : Below w.heap.size w W := by rw [hW]; exact aA (aA (aA (Below.refl _ _) _) _) _
  have HN : Hid (∀ u, Below W.heap.size W u → u.heap[w.heap.size]? = some (.cells fv 64) ∧ u.heap[w.heap.size + 1]? = some (.cells (lcs t.1 (.slice p n c)) 28) ∧ u.heap[w.heap.size + 2]? = some (.cells nd0 28) ∧ Below w.heap.size w u ∧ mD u g C) := fun u hu => by
   have hu0 := hu
   rw [hW] at hu
   obtain ⟨q0, q1, q2⟩ := xE hu
   exact ⟨q0, q1, q2, aG HB0 hu0, hF.below (aG HB0 hu0)⟩
  have HNK : Hid (NK K w (lcs t.1 (.slice p n c)) t) := hNK
  have HKK : Hid (∀ i, K i → i < w.heap.size) := hK
  have HW : Hid (Below W.heap.size W W) := Below.refl _ _
  have HL : Hid (∀ u, Below W.heap.size W u → (Instr.loadAt 64 (.pointer (some ⟨w.heap.size, 0, none⟩))).run Tryz.prog u = .ok (.agg fv) u ∧ (Instr.loadAt 28 (.pointer (some ⟨w.heap.size + 1, 0, none⟩))).run Tryz.prog u = .ok (.agg (lcs t.1 (.slice p n c))) u) := fun u hu => ⟨aJg (HN.out u hu).1 hsz, lod (HN.out u hu).2.1 rfl Tryz.underlying28 (by rw [hbx]; exact bS)⟩
  have HLR : Hid (∀ u, Below W.heap.size W u → u.cell? ⟨w.heap.size + 1, 0, none⟩ = some (.int .i64 t.1.k) ∧ (Instr.loadAt 25 (.pointer (some ⟨w.heap.size + 1, 5, none⟩))).run Tryz.prog u = .ok (rfV (top t.1)) u ∧ (Instr.loadAt 25 (.pointer (some ⟨w.heap.size + 1, 11, none⟩))).run Tryz.prog u = .ok (rfV (tof t.1)) u) := fun u hu => ⟨(aN (HN.out u hu).2.1).1, (aN (HN.out u hu).2.1).2.2.2.1, (aN (HN.out u hu).2.1).2.2.2.2⟩
  have hWe : W = ((w.alloc (.cells fv 64)).alloc (.cells (lcs t.1 (.slice p n c)) 28)).alloc (.cells nd0 28) := hW
  clear HB0 hW ih hs hNK hK hF hnm
  subst hWe
  obtain ⟨RF1, RX1⟩ := HL.out _ HW.out
  have RF1 : Hid _ := RF1
  have RX1 : Hid _ := RX1
  cases hn : nm C H t.1
  ·rw [hn] at NA
   obtain ⟨e1, e2⟩ := hT0 hn
   rw [e1, e2]
   have PA : Hid (∀ u, Below _ _ u → Calls Tryz.prog 47 #[.agg fv, .agg (lcs t.1 (.slice p n c))] u fun e w' => ∃ es', e = .returned (.tuple #[.agg es', .bool (rwA C H t.2)]) ∧ NK (fun i => u.heap.size ≤ i) w' es' (t.1, rwF C H t.2) ∧ Below u.heap.size u w') := fun u hu => PA K u _ (HNK.out.below (HN.out u hu).2.2.2.1) (fun i hi => by have := HKK.out i hi; have := (HN.out u hu).2.2.2.1.size; omega) (HN.out u hu).2.2.2.2
   clear MR MA hT0 hT1 hk2 HNK HKK HLR e1 e2 hkl
   generalize lcs t.1 (.slice p n c) = bx at *
   generalize rwA C H t.2 = rb at *
   go_enter Tryz.func25, Tryz.ntmps25
   go_wp2_with (first
    | ((with_reducible show wpList _ _ _ ({ dst := _, op := Op.load 64 _, type := _, pos := _, after := _, guard := none } :: _) _ _); refine aB rfl 64 _ rfl _ _ rfl RF1.out ?_; clear RF1)
    | ((with_reducible show wpList _ _ _ ({ dst := _, op := Op.load 28 _, type := _, pos := _, after := _, guard := none } :: _) _ _); refine aB rfl 28 _ rfl _ _ rfl RX1.out ?_; clear RX1)
    | (go_at_call 46; refine (NA _).mono ?_; clear NA; rintro e w2 ⟨rfl, hb⟩; have HB2 : Hid _ := hb; have RF1 : Hid _ := (HL.out _ hb).1; have RX1 : Hid _ := (HL.out _ hb).2; clear hb)
    | (go_at_call 47; refine (PA.out _ HB2.out).mono ?_; clear PA; rintro e w3 ⟨es', rfl, hk3, hb⟩; have HB3 := aG HB2.out hb; have hz3 := HB2.out.size; obtain ⟨_, _, n0, n1, _⟩ := HN.out _ HB3; obtain ⟨s1, s2⟩ := aIy hk3 n0; have RS : Hid _ := s1; have HR : Hid _ := s2; have HZ : Hid (Below w.heap.size w (w3.setRow (w.heap.size + 2) es')) := n1.grown (aC _ _ _) n1.size (fun g e => by cases e; omega); have HE : Hid (es'.size = 18) := hk3.size; have HD : Hid (NK (fun i => w.heap.size ≤ i) (w3.setRow (w.heap.size + 2) es') es' (t.1, rwF C H t.2)) := (hk3.grown (aC _ _ _) (fun g e hh => by cases e; have := hz3; simp only [World.size_alloc] at this; omega)).mono (fun i hi _ => by have := hz3; simp only [World.size_alloc] at this; omega); clear hb HB3 n0 n1 s1 s2 hk3 hz3)
    | ((with_reducible show wpList _ _ _ ({ dst := _, op := Op.store 28 _ _, type := _, pos := _, after := _, guard := none } :: _) _ _); refine aD rfl 28 _ _ rfl _ _ _ rfl rfl RS.out ?_; clear RS))
   exact bodyPost_ret (aF9 rfl HE.out rfl HR.out rfl) rfl ⟨es', rfl, HD.out, HZ.out⟩
  ·rw [hn] at NA
   obtain ⟨e1, e2⟩ := hT1 hn
   rw [e1, e2]
   have hkd := hk2 hn
   clear hT0 hT1 hk2 e1 e2
   rcases hkd with hkk | hkk
   ·have e3 : rwL C t.1 = rfL C (top t.1) := by unfold rwL; rw [if_pos hkk]
    have e4 : rwC C t.1 = chR C (top t.1) := by unfold rwC; rw [if_pos hkk]
    rw [e3, e4]
    have MC : Hid (∀ u, Below _ _ u → Calls Tryz.prog 48 #[.agg fv, rfV (top t.1)] u fun e w' => e = .returned (.tuple #[.agg (lcs (rfL C (top t.1)) (.slice none 0 0)), .bool (chR C (top t.1))]) ∧ Below u.heap.size u w') := fun u hu => MR u (HN.out u hu).2.2.2.2
    clear MR MA PA HNK HKK hkl e3 e4
    generalize rfL C (top t.1) = la at *
    generalize chR C (top t.1) = rb at *
    generalize top t.1 = tp at *
    generalize tof t.1 = tq at *
    generalize t.1.k = kk at *
    generalize lcs t.1 (.slice p n c) = bx at *
    go_enter Tryz.func25, Tryz.ntmps25
    go_wp2_with (first
     | ((with_reducible show wpList _ _ _ ({ dst := _, op := Op.load 64 _, type := _, pos := _, after := _, guard := none } :: _) _ _); refine aB rfl 64 _ rfl _ _ rfl RF1.out ?_; clear RF1)
     | ((with_reducible show wpList _ _ _ ({ dst := _, op := Op.load 28 _, type := _, pos := _, after := _, guard := none } :: _) _ _); refine aB rfl 28 _ rfl _ _ rfl RX1.out ?_; clear RX1)
     | ((with_reducible show wpList _ _ _ ({ dst := _, op := Op.load 25 _, type := _, pos := _, after := _, guard := none } :: _) _ _); refine aB rfl 25 _ rfl _ _ rfl RT1.out ?_; clear RT1)
     | ((with_reducible show wpList _ _ _ ({ dst := _, op := Op.load 25 _, type := _, pos := _, after := _, guard := none } :: _) _ _); refine aB rfl 25 _ rfl _ _ rfl RT2.out ?_; clear RT2)
     | (go_at_call 46; refine (NA _).mono ?_; clear NA; rintro e w2 ⟨rfl, hb⟩; have HB2 : Hid _ := hb; have RF1 : Hid _ := (HL.out _ hb).1; have q0 := (HLR.out _ hb).1; have RT1 : Hid _ := (HLR.out _ hb).2.1; have RT2 : Hid _ := (HLR.out _ hb).2.2; clear hb)
     | (go_at_call 48; refine (MC.out _ HB2.out).mono ?_; clear MC; rintro e w3 ⟨rfl, hb⟩; have HB3 := aG HB2.out hb; obtain ⟨_, _, n0, n1, _⟩ := HN.out _ HB3; have RS : Hid _ := nN la n0; have HR : Hid _ := nO la n0; have HZ : Hid (Below w.heap.size w (w3.setRow (w.heap.size + 2) (lcs la (.slice none 0 0)))) := n1.grown (aC _ _ _) n1.size (fun g e => by cases e; omega); clear hb HB3 n0 n1)
     | ((with_reducible show wpList _ _ _ ({ dst := _, op := Op.store 28 _ _, type := _, pos := _, after := _, guard := none } :: _) _ _); refine aD rfl 28 _ _ rfl _ _ _ rfl rfl RS.out ?_; clear RS))
    exact bodyPost_ret (fA rfl rfl HR.out rfl) rfl ⟨_, rfl, ⟨_, _, _, rfl, rfl, .inl rfl⟩, HZ.out⟩
   ·have e3 : rwL C t.1 = arL C (top t.1) (tof t.1) := by unfold rwL; rw [if_neg (by omega)]
    have e4 : rwC C t.1 = chA C (top t.1) (tof t.1) := by unfold rwC; rw [if_neg (by omega)]
    rw [e3, e4]
    have MC : Hid (∀ u, Below _ _ u → Calls Tryz.prog 49 #[.agg fv, rfV (top t.1), rfV (tof t.1)] u fun e w' => e = .returned (.tuple #[.agg (lcs (arL C (top t.1) (tof t.1)) (.slice none 0 0)), .bool (chA C (top t.1) (tof t.1))]) ∧ Below u.heap.size u w') := fun u hu => MA u (HN.out u hu).2.2.2.2
    clear MR MA PA HNK HKK hkl e3 e4
    generalize arL C (top t.1) (tof t.1) = la at *
    generalize chA C (top t.1) (tof t.1) = rb at *
    generalize top t.1 = tp at *
    generalize tof t.1 = tq at *
    generalize t.1.k = kk at *
    generalize lcs t.1 (.slice p n c) = bx at *
    go_enter Tryz.func25, Tryz.ntmps25
    go_wp2_with (first
     | ((with_reducible show wpList _ _ _ ({ dst := _, op := Op.load 64 _, type := _, pos := _, after := _, guard := none } :: _) _ _); refine aB rfl 64 _ rfl _ _ rfl RF1.out ?_; clear RF1)
     | ((with_reducible show wpList _ _ _ ({ dst := _, op := Op.load 28 _, type := _, pos := _, after := _, guard := none } :: _) _ _); refine aB rfl 28 _ rfl _ _ rfl RX1.out ?_; clear RX1)
     | ((with_reducible show wpList _ _ _ ({ dst := _, op := Op.load 25 _, type := _, pos := _, after := _, guard := none } :: _) _ _); refine aB rfl 25 _ rfl _ _ rfl RT1.out ?_; clear RT1)
     | ((with_reducible show wpList _ _ _ ({ dst := _, op := Op.load 25 _, type := _, pos := _, after := _, guard := none } :: _) _ _); refine aB rfl 25 _ rfl _ _ rfl RT2.out ?_; clear RT2)
     | (go_at_call 46; refine (NA _).mono ?_; clear NA; rintro e w2 ⟨rfl, hb⟩; have HB2 : Hid _ := hb; have RF1 : Hid _ := (HL.out _ hb).1; have q0 := (HLR.out _ hb).1; have RT1 : Hid _ := (HLR.out _ hb).2.1; have RT2 : Hid _ := (HLR.out _ hb).2.2; clear hb)
     | (go_at_call 49; refine (MC.out _ HB2.out).mono ?_; clear MC; rintro e w3 ⟨rfl, hb⟩; have HB3 := aG HB2.out hb; obtain ⟨_, _, n0, n1, _⟩ := HN.out _ HB3; have RS : Hid _ := nN la n0; have HR : Hid _ := nO la n0; have HZ : Hid (Below w.heap.size w (w3.setRow (w.heap.size + 2) (lcs la (.slice none 0 0)))) := n1.grown (aC _ _ _) n1.size (fun g e => by cases e; omega); clear hb HB3 n0 n1)
     | ((with_reducible show wpList _ _ _ ({ dst := _, op := Op.store 28 _ _, type := _, pos := _, after := _, guard := none } :: _) _ _); refine aD rfl 28 _ _ rfl _ _ _ rfl rfl RS.out ?_; clear RS))
    exact bodyPost_ret (fA rfl rfl HR.out rfl) rfl ⟨_, rfl, ⟨_, _, _, rfl, rfl, .inl rfl⟩, HZ.out⟩
 exact aJ7
theorem pV {u : World} {g : Nat} {C : Chg} (h : u.heap[g]? = some (.cells (aW C) 34)) : (Instr.loadAt 34 (.pointer (some ⟨g, 0, none⟩))).run Tryz.prog u = .ok (.agg (aW C)) u :=
 lod h rfl Tryz.underlying34 (by kernel_rfl)
theorem kF {u : World} {g : Nat} {H : Hm} (h : u.heap[g]? = some (bF H.hb H.hs H.hr H.hc)) : (Instr.loadAt 30 (.pointer (some ⟨g, 0, none⟩))).run Tryz.prog u = .ok (hmV H) u :=
 lod h rfl Tryz.underlying30 (by kernel_rfl)
theorem mF (C : Chg) (H : Hm) {K : Nat → Prop} {t : T} (hz : zT t ≤ 900) {w : World} {es : Array Value} (h : NK K w es t) (hK : ∀ i, K i → i < w.heap.size) :
  Calls Tryz.prog 10 #[.agg es, hmV H, .agg (aW C)] w fun e w' => ∃ es', e = .returned (.tuple #[.agg es', .bool (rwB C H t)]) ∧ NK (fun i => w.heap.size ≤ i) w' es' (rwT C H t) ∧ Below w.heap.size w w' := by
 have aJi := h.size
 obtain ⟨W, hW⟩ : ∃ W, W = (((w.alloc (.cells es 28)).alloc (bF H.hb H.hs H.hr H.hc)).alloc (.cells (aW C) 34)).alloc (.cells nd0 28) := ⟨_, rfl⟩
 have HB0 : Below w.heap.size w W := by rw [hW]; exact aA (aA (aA (aA (Below.refl _ _) _) _) _) _
 have HWs : Hid (W.heap.size = w.heap.size + 4) := by show _ = _; rw [hW]; simp
 have HN : Hid (∀ u, Below W.heap.size W u → (u.heap[w.heap.size]? = some (.cells es 28) ∧ u.heap[w.heap.size + 1]? = some (bF H.hb H.hs H.hr H.hc) ∧ u.heap[w.heap.size + 2]? = some (.cells (aW C) 34) ∧ u.heap[w.heap.size + 3]? = some (.cells nd0 28)) ∧ Below w.heap.size w u) := fun u hu => by
  have hu0 := hu
  rw [hW] at hu
  have q3 := new1 hu
  have q2 := new1 (aR hu)
  have q1 := new1 (aR (aR hu))
  have q0 := new1 (aR (aR (aR hu)))
  simp only [World.size_alloc] at q0 q1 q2 q3
  exact ⟨⟨q0, q1, q2, q3⟩, aG HB0 hu0⟩
 have HW : Hid (Below W.heap.size W W.drew) := (Below.refl _ _).drew
 have HL : Hid (∀ u, Below W.heap.size W u → (Instr.loadAt 28 (.pointer (some ⟨w.heap.size, 0, none⟩))).run Tryz.prog u = .ok (.agg es) u) := fun u hu => lod (HN.out u hu).1.1 rfl Tryz.underlying28 (by rw [aJi]; exact bS)
 have HFo : Hid (∀ u, Below W.heap.size W u → Calls Tryz.prog 24 #[.agg (aW C), hmV H] u fun e w' => ∃ g, e = .returned (.agg (eP C H g)) ∧ mD w' g C ∧ Below W.heap.size W w') := fun u hu => (sJ C H u).mono fun e w' ⟨g, h1, h2, h3⟩ => ⟨g, h1, h2, aG hu h3⟩
 have HNo : Hid (∀ u g, Below W.heap.size W u → mD u g C → Calls Tryz.prog 25 #[.agg (eP C H g), .agg es] u fun e w' => ∃ es', e = .returned (.tuple #[.agg es', .bool (rwB C H t)]) ∧ NK (fun i => u.heap.size ≤ i) w' es' (rwT C H t) ∧ Below u.heap.size u w') := fun u g hu hg => sN C H g t hz K u es (h.below (HN.out u hu).2) (fun i hi => by have := hK i hi; have := (HN.out u hu).2.size; omega) hg
 have HWe : Hid (W = (((w.alloc (.cells es 28)).alloc (bF H.hb H.hs H.hr H.hc)).alloc (.cells (aW C) 34)).alloc (.cells nd0 28)) := hW
 clear h hK HB0 hW
 generalize rwB C H t = rb at *
 generalize rwT C H t = rt at *
 go_enter Tryz.func10, Tryz.ntmps10
 go_wp2
 rw [← HWe.out]
 refine aQ (fun u => Below W.heap.size W u) (fun j => j == 7) (by kernel_rfl) ?_
 refine dwl 0 (.agg (aW C)) ?_ (hS := HW.out) (hy := (fun u hSu => aI rfl rfl (pV (HN.out u hSu).1.2.2.1)))
 refine dwl 1 (hmV H) ?_ (hS := HW.out) (hy := (fun u hSu => aI rfl rfl (kF (HN.out u hSu).1.2.1)))
 refine dwl 3 (.agg es) ?_ (hS := HW.out) (hy := (fun u hSu => aI rfl rfl (HL.out u hSu)))
 refine aH (i := 2) (by kernel_rfl) rfl ?_
 intro K' hK'
 go_simp
 refine (HFo.out _ HW.out).mono ?_
 rintro e w2 ⟨g, rfl, hf, hb⟩
 refine hK' _ _ (.inr fun _ => hb) ?_
 clear hK'
 try simp only [Act.put, List.setIfInBounds_toArray, List.set_cons_zero, List.set_cons_succ]
 have NC := HNo.out _ g hb hf
 have HFE : Hid (eP C H g = eP C H g) := rfl
 generalize eP C H g = fv at *
 refine aH (i := 4) (by kernel_rfl) rfl ?_
 intro K' hK'
 go_simp
 refine NC.mono ?_
 rintro e w3 ⟨es', rfl, hn3, hb3⟩
 have hb4 := aG hb hb3
 refine hK' _ _ (.inr fun _ => hb4) ?_
 clear hK'
 try simp only [Act.put, List.setIfInBounds_toArray, List.set_cons_zero, List.set_cons_succ]
 obtain ⟨⟨_, _, _, n0⟩, n1⟩ := HN.out _ hb4
 obtain ⟨s1, s2⟩ := aIy hn3 n0
 have hsz := hb.size
 have HE : Hid (es'.size = 18) := hn3.size
 have HZ : Hid (Below w.heap.size w (w3.setRow (w.heap.size + 3) es')) := n1.grown (aC _ _ _) n1.size (fun g e => by cases e; omega)
 have HD : Hid (NK (fun i => w.heap.size ≤ i) (w3.setRow (w.heap.size + 3) es') es' rt) := (hn3.grown (aC _ _ _) (fun g e hh => by cases e; have := HWs.out; omega)).mono (fun i hi _ => by have := HWs.out; omega)
 have RS : Hid _ := s1
 have HR : Hid _ := s2
 clear NC n0 n1 s1 s2 hn3 hb3 hsz
 refine dwp 5 (.agg es') ?_
 refine dwp 6 (.bool rb) ?_
 refine aH (i := 7) (by kernel_rfl) rfl ?_
 intro K' hK'
 rw [if_pos (by go_simp)]
 refine aJ none rfl 28 _ _ rfl _ _ rfl rfl RS.out (hK' _ _ (.inl rfl) ?_)
 clear hK'
 try simp only [Act.put, List.setIfInBounds_toArray, List.set_cons_zero, List.set_cons_succ]
 refine dwp 8 (.bool rb) ?_
 refine aK (by kernel_rfl) ?_ _
 go_wp2
 exact bodyPost_ret (aF9 rfl HE.out rfl HR.out rfl) rfl ⟨es', rfl, HD.out, HZ.out⟩
end Go.Proofs.YtljmklbbngpllaaGreatDoor.Rw
namespace Go.Proofs.YtljmklbbngpllaaGreatDoor
open Go.RowKit
theorem oP (x y : List UInt8) : ((ba x).toList == y) = (x == y) := by rw [ByteArray.toList_eq]
theorem aO (x y : List UInt8) (w : World) : Calls Tryz.prog 128 #[.string (ba x), .string (ba y)] w fun e w' => e = .returned (.bool (oaF x y)) ∧ w' = w := by
 unfold oaF
 have y1 := oP y [61]
 have y2 := oP y [62]
 have y3 := oP y [62, 61]
 have x1 := oP x [60]
 have x2 := oP x [62]
 by_cases h60 : x = [60]
 ·subst h60
  rw [if_pos rfl]
  generalize ba y = Y at *
  cases h1 : (y == [61]) <;> cases h2 : (y == [62]) <;> cases h3 : (y == [62, 61])
  all_goals
   rw [h1] at y1
   rw [h2] at y2
   rw [h3] at y3
   clear h1 h2 h3 x1 x2
   go_enter Tryz.func128, Tryz.ntmps128
   go_wp2
   go_ret
   exact ⟨rfl, rfl⟩
 ·rw [if_neg h60]
  have x1' : ((ba x).toList == [60]) = false := by rw [x1]; exact beq_eq_false_iff_ne.2 h60
  by_cases h62 : x = [62]
  ·subst h62
   rw [if_pos rfl]
   generalize ba y = Y at *
   cases h1 : (y == [61])
   all_goals
    rw [h1] at y1
    clear h1 x1 x2 y2 y3
    go_enter Tryz.func128, Tryz.ntmps128
    go_wp2
    go_ret
    exact ⟨rfl, rfl⟩
  ·rw [if_neg h62]
   have x2' : ((ba x).toList == [62]) = false := by rw [x2]; exact beq_eq_false_iff_ne.2 h62
   clear x1 x2 y1 y2 y3
   generalize ba y = Y at *
   generalize ba x = X at *
   go_enter Tryz.func128, Tryz.ntmps128
   go_wp2
   go_ret
   exact ⟨rfl, rfl⟩
theorem aBw {a b : TT} {w : World} {q : Bool} (OA : ∀ u, Calls Tryz.prog 128 #[.string a.s, .string b.s] u fun e w' => e = .returned (.bool q) ∧ w' = u) :
  Calls Tryz.prog 90 #[.agg (tcs a.k a.n a.s a.b a.h a.r a.c a.fr a.fc), .agg (tcs b.k b.n b.s b.b b.h b.r b.c b.fr b.fc)] w fun e w' => e = .returned (.bool (if a.k = 5 then (if b.k = 5 then q else false) else (if b.k = 5 then false else true))) ∧ Below w.heap.size w w' := by
 obtain ⟨ak, an, ast, ab, ah, ar, ac, afr, afc⟩ := a
 obtain ⟨bk, bn, bs, bb, bh, br, bc, bfr, bfc⟩ := b
 simp only at OA ⊢
 by_cases h1 : ak = 5 <;> by_cases h2 : bk = 5
 ·subst h1 h2
  rw [if_pos rfl, if_pos rfl]
  go_enter Tryz.func90, Tryz.ntmps90
  go_wp2_with (go_at_call 128; refine (OA _).mono ?_; rintro e w' ⟨rfl, hw⟩; obtain rfl := hw.symm; clear hw)
  go_ret
  exact ⟨rfl, aA (aA (Below.refl _ _) _) _⟩
 all_goals
  clear OA
  have g1 : (ak == 5) = decide (ak = 5) := rfl
  have g2 : (bk == 5) = decide (bk = 5) := rfl
  simp only [h1, h2, decide_true, decide_false] at g1 g2
  go_enter Tryz.func90, Tryz.ntmps90
  go_wp2
  go_ret
  refine ⟨?_, aA (aA (Below.refl _ _) _) _⟩
  simp [h1, h2]
theorem aDE (a b : Tk.Tok) (w : World) : Calls Tryz.prog 90 #[.agg (tcs (tk a).k (tk a).n (tk a).s (tk a).b (tk a).h (tk a).r (tk a).c (tk a).fr (tk a).fc), .agg (tcs (tk b).k (tk b).n (tk b).s (tk b).b (tk b).h (tk b).r (tk b).c (tk b).fr (tk b).fc)] w fun e w' => e = .returned (.bool (apT a b)) ∧ Below w.heap.size w w' := by
 have key := fun (q : Bool) OA => aBw (a := tk a) (b := tk b) (w := w) (q := q) OA
 cases a using Tk.Tok.cs with
 | op x =>
  cases b using Tk.Tok.cs with
  | op y => exact key (oaF x y) (fun u => aO x y u)
  | num n => exact key _ (fun u => aO x [] u)
  | str s => exact key _ (fun u => aO x s u)
  | ref r => exact key _ (fun u => aO x [] u)
  | word b' s => exact key _ (fun u => aO x s u)
  | bad n => exact key _ (fun u => aO x [] u)
 | num n =>
  cases b using Tk.Tok.cs with
  | op y => exact key _ (fun u => aO [] y u)
  | num n => exact key _ (fun u => aO [] [] u)
  | str s => exact key _ (fun u => aO [] s u)
  | ref r => exact key _ (fun u => aO [] [] u)
  | word b' s => exact key _ (fun u => aO [] s u)
  | bad n => exact key _ (fun u => aO [] [] u)
 | str s0 =>
  cases b using Tk.Tok.cs with
  | op y => exact key _ (fun u => aO s0 y u)
  | num n => exact key _ (fun u => aO s0 [] u)
  | str s => exact key _ (fun u => aO s0 s u)
  | ref r => exact key _ (fun u => aO s0 [] u)
  | word b' s => exact key _ (fun u => aO s0 s u)
  | bad n => exact key _ (fun u => aO s0 [] u)
 | ref r0 =>
  cases b using Tk.Tok.cs with
  | op y => exact key _ (fun u => aO [] y u)
  | num n => exact key _ (fun u => aO [] [] u)
  | str s => exact key _ (fun u => aO [] s u)
  | ref r => exact key _ (fun u => aO [] [] u)
  | word b' s => exact key _ (fun u => aO [] s u)
  | bad n => exact key _ (fun u => aO [] [] u)
 | word b0 s0 =>
  cases b using Tk.Tok.cs with
  | op y => exact key _ (fun u => aO s0 y u)
  | num n => exact key _ (fun u => aO s0 [] u)
  | str s => exact key _ (fun u => aO s0 s u)
  | ref r => exact key _ (fun u => aO s0 [] u)
  | word b' s => exact key _ (fun u => aO s0 s u)
  | bad n => exact key _ (fun u => aO s0 [] u)
 | bad n0 =>
  cases b using Tk.Tok.cs with
  | op y => exact key _ (fun u => aO [] y u)
  | num n => exact key _ (fun u => aO [] [] u)
  | str s => exact key _ (fun u => aO [] s u)
  | ref r => exact key _ (fun u => aO [] [] u)
  | word b' s => exact key _ (fun u => aO [] s u)
  | bad n => exact key _ (fun u => aO [] [] u)
theorem aDF (x : List UInt8) (hx : x.length ≤ 1000) (w : World) : Calls Tryz.prog 133 #[.string (ba x)] w fun e w' => e = .returned (.string (ba (if x = [] then [] else 91 :: (x ++ [93])))) ∧ w' = w := by
 by_cases h : x = []
 ·subst h
  rw [if_pos rfl]
  go_enter Tryz.func133, Tryz.ntmps133
  go_wp2
  go_ret
  exact ⟨rfl, rfl⟩
 ·rw [if_neg h]
  have hne : ((ba x).toList == []) = false := by rw [oP]; exact beq_eq_false_iff_ne.2 h
  have e1 : (⟨#[91]⟩ : ByteArray) ++ ba x = ba (91 :: x) := nW [91] x
  have e2 : ba (91 :: x) ++ (⟨#[93]⟩ : ByteArray) = ba (91 :: (x ++ [93])) := nW (91 :: x) [93]
  have s0 : (ba x).size = x.length := size_mk x
  have s1 : (ba (91 :: x)).size = x.length + 1 := size_mk (91 :: x)
  obtain ⟨R, hR⟩ : ∃ R, R = ba (91 :: (x ++ [93])) := ⟨_, rfl⟩
  rw [← hR] at e2 ⊢
  generalize ba (91 :: x) = Y at *
  generalize ba x = X at *
  have n1 : ¬ 9223372036854775807 < 1 + x.length := by omega
  have n2 : ¬ 9223372036854775807 < x.length + 1 + 1 := by omega
  clear hR
  go_enter Tryz.func133, Tryz.ntmps133
  go_wp2
  go_ret
  exact ⟨rfl, rfl⟩
end Go.Proofs.YtljmklbbngpllaaGreatDoor
