/- RwText, RwLv. -/
import Derived.Test.YtljmklbbngpllaaGreatDoorFLivesNd
set_option linter.unusedVariables false
set_option linter.unusedSimpArgs false
set_option maxHeartbeats 16000000
set_option maxRecDepth 100000
namespace Go.Proofs.YtljmklbbngpllaaGreatDoor.Rw
open Go.RowKit Go.Fm Go.Tk
theorem aH8 (m : List UInt8) : (⟨#[61]⟩ : ByteArray) ++ ba m = ba (61 :: m) := by
 apply ByteArray.ext
 simp [ba]
theorem aKf (l : List UInt8) (u : World) : Calls Tryz.prog 33 #[.string (ba (61 :: l)), .string ⟨#[61]⟩] u fun e w' => e = .returned (.tuple #[.string (ba l), .bool true]) ∧ w' = u :=
 Tryz.strings_CutPrefix (ba (61 :: l)) ⟨#[61]⟩ u
structure XB (w : World) (H : Hm) (C : Chg) (u : World) : Prop where
 b0 : u.heap[w.heap.size]? = some (bF H.hb H.hs H.hr H.hc)
 b1 : u.heap[w.heap.size + 1]? = some (.cells (aW C) 34)
 bel : Below w.heap.size w u
theorem XB.step {w : World} {H : Hm} {C : Chg} {u v : World} (h : XB w H C u) (hb : Below u.heap.size u v) : XB w H C v :=
 ⟨(hb.block _ (aS h.b0)).trans h.b0, (hb.block _ (aS h.b1)).trans h.b1, aG h.bel hb⟩
theorem XB.new (w : World) (H : Hm) (C : Chg) : XB w H C ((w.alloc (bF H.hb H.hs H.hr H.hc)).alloc (.cells (aW C) 34)) :=
 ⟨(new2 (Below.refl _ _)).1, (new2 (Below.refl _ _)).2, aA (aA (Below.refl _ _) _) _⟩
theorem aGp {w w2 : World} {es es' : Array Value} {t : T} {g : Nat} (h : NT w es' t) (h2 : w2.heap[g]? = some (.cells es 28)) (h3 : es.size = 18) : (Instr.storeAt 28 (.pointer (some ⟨g, 0, none⟩)) (.agg es')).run Tryz.prog w2 = .ok () (w2.setRow g es') := by
 have := NK.sto h.nk h2 h3
 exact this
theorem aCt {w w1 w2 : World} {es : Array Value} (h : Below w.heap.size w w1) (h4 : Below w1.heap.size w1 w2) : Below w.heap.size w (w2.setRow w1.heap.size es) := by
 have hb := aG h h4
 exact hb.grown (aC _ _ _) hb.size (fun g e => by cases e; exact h.size)
theorem aDP {C : Chg} {H : Hm} {l : List UInt8} {t : T} (hp : tF l = (t, 0)) (hz : zT t ≤ 900) (hc : rwB C H t = false) (w : World) (T : dB w) :
  Calls Tryz.prog 16 #[.string (ba (61 :: l)), hmV H, .agg (aW C)] w fun e w' => e = .returned (.tuple #[.string (ba (61 :: l)), .bool false, .int .i64 0]) ∧ Below w.heap.size w w' := by
 have HX : Hid (XB w H C ((w.alloc (bF H.hb H.hs H.hr H.hc)).alloc (.cells (aW C) 34))) := XB.new w H C
 have CP := fun u => aKf l u
 have HP : Hid (∀ u, XB w H C u → Calls Tryz.prog 34 #[.string (ba l)] u fun e w1 => ∃ es, e = .returned (.tuple #[.agg es, .int .i64 0]) ∧ Hid (NT w1 es t ∧ Below u.heap.size u w1)) := fun u hu => by
  have := sS l u (T.below hu.bel)
  rw [hp] at this
  refine this.mono ?_
  rintro e w1 ⟨es, rfl, hN, _, hb⟩
  exact ⟨es, rfl, hN, hb⟩
 have HNo : Hid (∀ (w1 : World) (es : Array Value), NT w1 es t → Calls Tryz.prog 10 #[.agg es, hmV H, .agg (aW C)] (w1.alloc (.cells es 28)) fun e w2 => ∃ es', e = .returned (.tuple #[.agg es', .bool (rwB C H t)]) ∧ Hid (NT w2 es' (rwT C H t) ∧ (w2.heap[w1.heap.size]? = some (.cells es 28) ∧ es.size = 18) ∧ Below w1.heap.size w1 w2 ∧ NT (w2.setRow w1.heap.size es') es' (rwT C H t))) := fun w1 es hN => by
  have B := aA (Below.refl w1.heap.size w1) (.cells es 28)
  have hk := hN.nk
  refine (mF C H hz (hk.below B) (fun i hi => by simp; omega)).mono ?_
  rintro e w2 ⟨es', rfl, hn, hb⟩
  exact ⟨es', rfl, hn.nt, ⟨(hb.block _ (by simp)).trans (heap_alloc_new w1 _), hk.size⟩, aG B hb, (hn.grown (aC _ _ _) (fun g e h => by cases e; simp at h; omega)).nt⟩
 rw [hc] at HNo
 clear T hp hz hc
 generalize ba (61 :: l) = s1 at *
 generalize ba l = s0 at *
 go_enter Tryz.func16, Tryz.ntmps16
 go_wp2_with (first
  | (go_at_call 33; refine (CP _).mono ?_; rintro e w' ⟨rfl, hw⟩; obtain rfl := hw.symm; clear hw)
  | (go_at_call 34; refine (HP.out _ HX.out).mono ?_; clear HP; rintro e w1 ⟨es, rfl, hN⟩; obtain ⟨n1, n2⟩ := kC w1 hN.out.1; have HXn := HX.out.step hN.out.2; have HB1 : Hid (Below w.heap.size w w1) := HXn.bel; have HX : Hid _ := HXn.step (aA (Below.refl _ _) (.cells es 28)); clear HXn; have RS : Hid _ := n1; have RL : Hid _ := n2 _ (heap_alloc_new w1 _); have RH : Hid _ := kF HX.out.b0; have RC : Hid _ := pV HX.out.b1; have CN := HNo.out w1 es hN.out.1; clear n1 n2 HNo hN)
  | ((with_reducible show wpList _ _ _ ({ dst := _, op := Op.store 28 _ _, type := _, pos := _, after := _, guard := none } :: _) _ _); refine aD rfl 28 _ _ rfl _ _ _ rfl rfl RS.out ?_)
  | ((with_reducible show wpList _ _ _ ({ dst := _, op := Op.load 28 _, type := _, pos := _, after := _, guard := none } :: _) _ _); refine aB rfl 28 _ rfl _ _ rfl RL.out ?_)
  | ((with_reducible show wpList _ _ _ ({ dst := _, op := Op.load 30 _, type := _, pos := _, after := _, guard := none } :: _) _ _); refine aB rfl 30 _ rfl _ _ rfl RH.out ?_)
  | ((with_reducible show wpList _ _ _ ({ dst := _, op := Op.load 34 _, type := _, pos := _, after := _, guard := none } :: _) _ _); refine aB rfl 34 _ rfl _ _ rfl RC.out ?_)
  | (go_at_call 10; refine CN.mono ?_; clear CN; rintro e w2 ⟨es', rfl, hh⟩; obtain ⟨h1, ⟨h2, h3⟩, h4, h5⟩ := hh.out; have hq : (Instr.storeAt 28 (.pointer (some ⟨w1.heap.size, 0, none⟩)) (.agg es')).run Tryz.prog w2 = .ok () (w2.setRow w1.heap.size es') := aGp h1 h2 h3; have RS : Hid _ := hq; have HZ : Hid (Below w.heap.size w (w2.setRow w1.heap.size es')) := aCt HB1.out h4; clear h1 h2 h3 h4 h5 hq hh))
 refine bodyPost_ret (v := .tuple #[.string s1, .bool false, .int .i64 0]) (by simp [results, Tryz.results16, go_sem]) rfl ?_
 exact ⟨rfl, HZ.out⟩
theorem aJC {u : World} {g : Nat} {es : Array Value} {t : T} (h : NT u es t) (hg : u.heap[g]? = some (.cells es 28)) : (Instr.loadAt 28 (.pointer (some ⟨g, 0, none⟩))).run Tryz.prog u = .ok (.agg es) u := (jG h).2 hg
theorem aDQ {C : Chg} {H : Hm} {l m : List UInt8} {t : T} (hp : tF l = (t, 0)) (hz : zT t ≤ 900) (hc : rwB C H t = true) (hZ : ZT (rwT C H t)) (hm : wZ (rwT C H t) = m) (hl : m.length ≤ 254) (w : World) (T : dB w) :
  Calls Tryz.prog 16 #[.string (ba (61 :: l)), hmV H, .agg (aW C)] w fun e w' => e = .returned (.tuple #[.string (ba (61 :: m)), .bool true, .int .i64 0]) ∧ Below w.heap.size w w' := by
 have HX : Hid (XB w H C ((w.alloc (bF H.hb H.hs H.hr H.hc)).alloc (.cells (aW C) 34))) := XB.new w H C
 have CP := fun u => aKf l u
 have HP : Hid (∀ u, XB w H C u → Calls Tryz.prog 34 #[.string (ba l)] u fun e w1 => ∃ es, e = .returned (.tuple #[.agg es, .int .i64 0]) ∧ Hid (NT w1 es t ∧ Below u.heap.size u w1)) := fun u hu => by
  have := sS l u (T.below hu.bel)
  rw [hp] at this
  refine this.mono ?_
  rintro e w1 ⟨es, rfl, hN, _, hb⟩
  exact ⟨es, rfl, hN, hb⟩
 have HNo : Hid (∀ (w1 : World) (es : Array Value), NT w1 es t → Calls Tryz.prog 10 #[.agg es, hmV H, .agg (aW C)] (w1.alloc (.cells es 28)) fun e w2 => ∃ es', e = .returned (.tuple #[.agg es', .bool (rwB C H t)]) ∧ Hid (NT w2 es' (rwT C H t) ∧ (w2.heap[w1.heap.size]? = some (.cells es 28) ∧ es.size = 18) ∧ Below w1.heap.size w1 w2 ∧ NT (w2.setRow w1.heap.size es') es' (rwT C H t))) := fun w1 es hN => by
  have B := aA (Below.refl w1.heap.size w1) (.cells es 28)
  have hk := hN.nk
  refine (mF C H hz (hk.below B) (fun i hi => by simp; omega)).mono ?_
  rintro e w2 ⟨es', rfl, hn, hb⟩
  exact ⟨es', rfl, hn.nt, ⟨(hb.block _ (by simp)).trans (heap_alloc_new w1 _), hk.size⟩, aG B hb, (hn.grown (aC _ _ _) (fun g e h => by cases e; simp at h; omega)).nt⟩
 rw [hc] at HNo
 have hzr : zT (rwT C H t) ≤ 900 := Nat.le_trans (aIt C H t) hz
 have HPr : Hid (∀ (u : World) (es : Array Value), NT u es (rwT C H t) → Below w.heap.size w u → Calls Tryz.prog 35 #[.agg es] u fun e w' => e = .returned (.string (ba m)) ∧ Below u.heap.size u w') := fun u es hN hb => by
  have := aBC hzr hZ hN (T.below hb)
  rw [hm] at this
  exact this
 have HM : Hid ((⟨#[61]⟩ : ByteArray) ++ ba m = ba (61 :: m)) := aH8 m
 have hsz : (ba m).size = m.length := by simp [ba, ByteArray.size]
 clear T hp hz hc hzr hZ hm
 generalize rwT C H t = rt at *
 generalize ba (61 :: l) = s1 at *
 generalize ba l = s0 at *
 generalize ba (61 :: m) = m1 at *
 generalize ba m = m0 at *
 have hsi : (1 : Int) + (m0.size : Nat) ≤ 255 := by rw [hsz]; omega
 have hmx : ¬ 9223372036854775807 < 1 + m0.size := by rw [hsz]; omega
 clear hsz
 go_enter Tryz.func16, Tryz.ntmps16
 go_wp2_with (first
  | (go_at_call 33; refine (CP _).mono ?_; rintro e w' ⟨rfl, hw⟩; obtain rfl := hw.symm; clear hw)
  | (go_at_call 34; refine (HP.out _ HX.out).mono ?_; clear HP; rintro e w1 ⟨es, rfl, hN⟩; obtain ⟨n1, n2⟩ := kC w1 hN.out.1; have HXn := HX.out.step hN.out.2; have HB1 : Hid (Below w.heap.size w w1) := HXn.bel; have HX : Hid _ := HXn.step (aA (Below.refl _ _) (.cells es 28)); clear HXn; have RS : Hid _ := n1; have RL : Hid _ := n2 _ (heap_alloc_new w1 _); have RH : Hid _ := kF HX.out.b0; have RC : Hid _ := pV HX.out.b1; have CN := HNo.out w1 es hN.out.1; clear n1 n2 HNo hN)
  | ((with_reducible show wpList _ _ _ ({ dst := _, op := Op.store 28 _ _, type := _, pos := _, after := _, guard := none } :: _) _ _); refine aD rfl 28 _ _ rfl _ _ _ rfl rfl RS.out ?_)
  | ((with_reducible show wpList _ _ _ ({ dst := _, op := Op.load 28 _, type := _, pos := _, after := _, guard := none } :: _) _ _); refine aB rfl 28 _ rfl _ _ rfl RL.out ?_)
  | ((with_reducible show wpList _ _ _ ({ dst := _, op := Op.load 30 _, type := _, pos := _, after := _, guard := none } :: _) _ _); refine aB rfl 30 _ rfl _ _ rfl RH.out ?_)
  | ((with_reducible show wpList _ _ _ ({ dst := _, op := Op.load 34 _, type := _, pos := _, after := _, guard := none } :: _) _ _); refine aB rfl 34 _ rfl _ _ rfl RC.out ?_)
  | (go_at_call 10; refine CN.mono ?_; clear CN; rintro e w2 ⟨es', rfl, hh⟩; obtain ⟨h1, ⟨h2, h3⟩, h4, h5⟩ := hh.out; have hq : (Instr.storeAt 28 (.pointer (some ⟨w1.heap.size, 0, none⟩)) (.agg es')).run Tryz.prog w2 = .ok () (w2.setRow w1.heap.size es') := aGp h1 h2 h3; have RS : Hid _ := hq; have HZ : Hid (Below w.heap.size w (w2.setRow w1.heap.size es')) := aCt HB1.out h4; have hN3 : NT (w2.setRow w1.heap.size es') es' rt := h5; have RL : Hid _ := aJC hN3 (setRow_heap _ _ _ _ _ _ h2); have CPr := HPr.out _ es' hN3 HZ.out; clear h1 h2 h3 h4 h5 hq hh hN3)
  | (go_at_call 35; refine CPr.mono ?_; clear CPr; rintro e w4 ⟨rfl, hb⟩; have HY : Hid _ := aG HZ.out hb; clear hb))
 refine bodyPost_ret (v := .tuple #[.string (⟨#[61]⟩ ++ m0), .bool true, .int .i64 0]) (by simp [results, Tryz.results16, go_sem]) rfl ?_
 exact ⟨by rw [HM.out], HY.out⟩
def C1 : Chg := ⟨⟨#[98]⟩, ⟨#[83]⟩, false, false, 2, 2, 64⟩
def C2 : Chg := ⟨⟨#[98]⟩, ⟨#[83]⟩, true, false, 0, 0, 0⟩
def H1 : Hm := ⟨⟨#[98]⟩, ⟨#[83]⟩, 1, 1⟩
def t1 : T := (tF [65, 51, 43, 66, 49]).1
def t2 : T := (tF [84, 33, 65, 49]).1
theorem p1 : tF [65, 51, 43, 66, 49] = (t1, 0) := by
 have h : (tF [65, 51, 43, 66, 49]).2 = 0 := by kernel_rfl
 unfold t1
 rw [← h]
theorem p2 : tF [84, 33, 65, 49] = (t2, 0) := by
 have h : (tF [84, 33, 65, 49]).2 = 0 := by kernel_rfl
 unfold t2
 rw [← h]
theorem z1 : zT t1 = 3 := by kernel_rfl
theorem z2 : zT t2 = 1 := by kernel_rfl
theorem r1 : rwB C1 H1 t1 = true := by kernel_rfl
theorem r2 : rwB C2 H1 t2 = false := by kernel_rfl
theorem n1 : wZ (rwT C1 H1 t1) = [65, 53, 43, 66, 49] := by kernel_rfl
theorem aKg : ((dQ (rwT C1 H1 t1)).all fun x => zB x.1) = true := by kernel_rfl
theorem zt1 : ZT (rwT C1 H1 t1) := fun x hx => aKe (List.all_eq_true.1 aKg x hx)
theorem aAo (w : World) : Calls Tryz.prog 23 #[] w fun e w' => e = .returned (.agg #[.string ⟨#[98]⟩, .string ⟨#[83]⟩, .int .i64 1, .int .i64 1]) ∧ Below w.heap.size w w' := by
 go_enter Tryz.func23, Tryz.ntmps23
 go_wp2
 refine bodyPost_ret (v := .agg #[.string ⟨#[98]⟩, .string ⟨#[83]⟩, .int .i64 1, .int .i64 1]) (by simp [results, Tryz.results23, go_sem]; try rfl) rfl ?_
 refine ⟨rfl, ?_⟩
 repeat (first | exact Below.refl _ _ | refine Below.drew ?_ | refine Below.setCell ?_ (by simp) _ | refine aA ?_ _)
theorem tx1 (w : World) (T : dB w) : Calls Tryz.prog 16 #[.string ⟨#[61, 65, 51, 43, 66, 49]⟩, .agg #[.string ⟨#[98]⟩, .string ⟨#[83]⟩, .int .i64 1, .int .i64 1], .agg #[.string ⟨#[98]⟩, .string ⟨#[83]⟩, .bool false, .bool false, .int .i64 2, .int .i64 2, .int .i64 64]] w fun e w' => e = .returned (.tuple #[.string ⟨#[61, 65, 53, 43, 66, 49]⟩, .bool true, .int .i64 0]) ∧ Below w.heap.size w w' :=
 aDQ (C := C1) (H := H1) p1 (by rw [z1]; omega) r1 zt1 n1 (by simp) w T
theorem tx2 (w : World) (T : dB w) : Calls Tryz.prog 16 #[.string ⟨#[61, 84, 33, 65, 49]⟩, .agg #[.string ⟨#[98]⟩, .string ⟨#[83]⟩, .int .i64 1, .int .i64 1], .agg #[.string ⟨#[98]⟩, .string ⟨#[83]⟩, .bool true, .bool false, .int .i64 0, .int .i64 0, .int .i64 0]] w fun e w' => e = .returned (.tuple #[.string ⟨#[61, 84, 33, 65, 49]⟩, .bool false, .int .i64 0]) ∧ Below w.heap.size w w' :=
 aDP (C := C2) (H := H1) p2 (by rw [z2]; omega) r2 w T
theorem aGq (u : World) : (Instr.build 34 #[(0, .string ⟨#[98]⟩), (1, .string ⟨#[83]⟩), (2, .bool true)]).run Tryz.prog u = .ok (.agg #[.string ⟨#[98]⟩, .string ⟨#[83]⟩, .bool true, .bool false, .int .i64 0, .int .i64 0, .int .i64 0]) u := by kernel_rfl
theorem aDR (w : World) (T : dB w) : Calls Tryz.prog 9 #[] w fun e w' => e = .returned (.bool true) ∧ Below w.heap.size w w' := by
 obtain ⟨W, hW⟩ : ∃ W, W = w.alloc (.cells #[.string ⟨#[98]⟩, .string ⟨#[83]⟩, .bool false, .bool false, .int .i64 2, .int .i64 2, .int .i64 64] 34) := ⟨_, rfl⟩
 have HWe : Hid (W = w.alloc (.cells #[.string ⟨#[98]⟩, .string ⟨#[83]⟩, .bool false, .bool false, .int .i64 2, .int .i64 2, .int .i64 64] 34)) := hW
 have HB : Hid (Below w.heap.size w W) := by show Below _ _ _; rw [hW]; exact aA (Below.refl _ _) _
 have HL : Hid (∀ u, Below W.heap.size W u → (Instr.loadAt 34 (.pointer (some ⟨w.heap.size, 0, none⟩))).run Tryz.prog u = .ok (.agg #[.string ⟨#[98]⟩, .string ⟨#[83]⟩, .bool false, .bool false, .int .i64 2, .int .i64 2, .int .i64 64]) u) := fun u hu => by rw [hW] at hu; exact pV (C := C1) (new1 hu)
 have HW : Hid (Below W.heap.size W W.drew) := (Below.refl _ _).drew
 have TX1 : Hid (∀ u, Below w.heap.size w u → Calls Tryz.prog 16 #[.string ⟨#[61, 65, 51, 43, 66, 49]⟩, .agg #[.string ⟨#[98]⟩, .string ⟨#[83]⟩, .int .i64 1, .int .i64 1], .agg #[.string ⟨#[98]⟩, .string ⟨#[83]⟩, .bool false, .bool false, .int .i64 2, .int .i64 2, .int .i64 64]] u fun e w' => e = .returned (.tuple #[.string ⟨#[61, 65, 53, 43, 66, 49]⟩, .bool true, .int .i64 0]) ∧ Below u.heap.size u w') := fun u hu => tx1 u (T.below hu)
 have TX2 : Hid (∀ u, Below w.heap.size w u → Calls Tryz.prog 16 #[.string ⟨#[61, 84, 33, 65, 49]⟩, .agg #[.string ⟨#[98]⟩, .string ⟨#[83]⟩, .int .i64 1, .int .i64 1], .agg #[.string ⟨#[98]⟩, .string ⟨#[83]⟩, .bool true, .bool false, .int .i64 0, .int .i64 0, .int .i64 0]] u fun e w' => e = .returned (.tuple #[.string ⟨#[61, 84, 33, 65, 49]⟩, .bool false, .int .i64 0]) ∧ Below w.heap.size w w') := fun u hu => (tx2 u (T.below hu)).mono fun e w' hh => ⟨hh.1, aG hu hh.2⟩
 have HH : Hid (∀ u, Below w.heap.size w u → Calls Tryz.prog 23 #[] u fun e w' => e = .returned (.agg #[.string ⟨#[98]⟩, .string ⟨#[83]⟩, .int .i64 1, .int .i64 1]) ∧ Below w.heap.size w w') := fun u hu => (aAo u).mono fun e w' hh => ⟨hh.1, aG hu hh.2⟩
 have RB2 := aGq
 clear T hW
 go_enter Tryz.func9, Tryz.ntmps9
 go_upto_region 2 with fail
 rw [← HWe.out]
 refine aQ (fun u => Below W.heap.size W u) (fun j => false) (by kernel_rfl) ?_
 refine dwl 1 (.agg #[.string ⟨#[98]⟩, .string ⟨#[83]⟩, .bool false, .bool false, .int .i64 2, .int .i64 2, .int .i64 64]) ?_ (hS := HW.out) (hy := (fun u hSu => aI rfl rfl (HL.out u hSu)))
 refine aH (i := 0) (by kernel_rfl) rfl ?_
 intro K' hK'
 go_simp
 refine (aAo _).mono ?_
 rintro e w2 ⟨rfl, hb⟩
 have hb2 := aG HW.out hb
 refine hK' _ _ (.inr fun _ => hb2) ?_
 clear hK' hb
 try simp only [Act.put, List.setIfInBounds_toArray, List.set_cons_zero, List.set_cons_succ]
 refine aH (i := 2) (by kernel_rfl) rfl ?_
 intro K' hK'
 go_simp
 refine (TX1.out _ (aG HB.out hb2)).mono ?_
 rintro e w3 ⟨rfl, hb⟩
 have hb3 := aG hb2 hb
 refine hK' _ _ (.inr fun _ => hb3) ?_
 clear hK' hb
 try simp only [Act.put, List.setIfInBounds_toArray, List.set_cons_zero, List.set_cons_succ]
 refine dwp 3 (.tuple #[.string ⟨#[61, 65, 53, 43, 66, 49]⟩, .bool true, .int .i64 0]) ?_
 refine dwp 4 (.string ⟨#[61, 65, 53, 43, 66, 49]⟩) ?_
 refine dwp 5 (.bool true) ?_
 refine dwp 6 (.int .i64 0) ?_
 refine dwp 7 (.string ⟨#[61, 65, 53, 43, 66, 49]⟩) ?_
 refine dwp 8 (.bool true) ?_
 refine dwp 9 (.int .i64 0) ?_
 refine aK (by kernel_rfl) ?_ _
 have HX : Hid (Below w.heap.size w w3) := aG HB.out hb3
 clear hb2 hb3 HL HW HB HWe TX1
 go_wp2_with (first
  | (go_at_call 23; refine (HH.out _ HX.out).mono ?_; clear HH; rintro e w4 ⟨rfl, hb⟩; have HX : Hid _ := hb; clear hb)
  | ((with_reducible show wpList _ _ _ ({ dst := _, op := Op.build 34 _, type := _, pos := _, after := _, guard := none } :: _) _ _); refine aX rfl 34 _ rfl _ _ rfl (RB2 _) ?_)
  | (go_at_call 16; refine (TX2.out _ HX.out).mono ?_; clear TX2; rintro e w5 ⟨rfl, hb⟩; have HX : Hid _ := hb; clear hb))
 go_ret
 exact ⟨rfl, HX.out⟩
end Go.Proofs.YtljmklbbngpllaaGreatDoor.Rw
