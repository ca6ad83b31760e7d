/- RwText, RwLv, RAll, RBare, RRight0, RCell9. -/
import Derived.Test.YtljmklbbngpllaaGreatDoorFLivesBk
set_option linter.unusedVariables false
set_option linter.unusedSimpArgs false
set_option maxHeartbeats 16000000
set_option maxRecDepth 100000
namespace Go.Proofs.YtljmklbbngpllaaGreatDoor.Rw
open Go.RowKit Go.Fm Go.Tk
theorem aIM (m : List UInt8) : (⟨#[61]⟩ : ByteArray) ++ ba m = ba (61 :: m) := by
 apply ByteArray.ext
 simp [ba]
theorem aK4 (l : List UInt8) (u : World) : Calls Tryz.prog 33 #[.string (ba (61 :: l)), .string ⟨#[61]⟩] u fun e w' => e = .returned (.tuple #[.string (ba l), .bool true]) ∧ w' = u :=
 Tryz.strings_CutPrefix (ba (61 :: l)) ⟨#[61]⟩ u
structure XB (w : World) (H : Hm) (C : Chg) (u : World) : Prop where
 b0 : u.heap[w.heap.size]? = some (bK H.hb H.hs H.hr H.hc)
 b1 : u.heap[w.heap.size + 1]? = some (.cells (bT C) 34)
 bel : Below w.heap.size w u
theorem XB.step {w : World} {H : Hm} {C : Chg} {u v : World} (h : XB w H C u) (hb : Below u.heap.size u v) : XB w H C v :=
 ⟨(hb.block _ (aW h.b0)).trans h.b0, (hb.block _ (aW h.b1)).trans h.b1, aJ h.bel hb⟩
theorem XB.new (w : World) (H : Hm) (C : Chg) : XB w H C ((w.alloc (bK H.hb H.hs H.hr H.hc)).alloc (.cells (bT C) 34)) :=
 ⟨(new2 (Below.refl _ _)).1, (new2 (Below.refl _ _)).2, aC (aC (Below.refl _ _) _) _⟩
theorem aGV {w w2 : World} {es es' : Array Value} {t : T} {g : Nat} (h : NT w es' t) (h2 : w2.heap[g]? = some (.cells es 28)) (h3 : es.size = 18) : (Instr.storeAt 28 (.pointer (some ⟨g, 0, none⟩)) (.agg es')).run Tryz.prog w2 = .ok () (w2.setRow g es') := by
 have := NK.sto h.nk h2 h3
 exact this
theorem aC0 {w w1 w2 : World} {es : Array Value} (h : Below w.heap.size w w1) (h4 : Below w1.heap.size w1 w2) : Below w.heap.size w (w2.setRow w1.heap.size es) := by
 have hb := aJ h h4
 exact hb.grown (aD _ _ _) hb.size (fun g e => by cases e; exact h.size)
theorem aEp {C : Chg} {H : Hm} {l : List UInt8} {t : T} (hp : uO l = (t, 0)) (hz : zT t ≤ 900) (hc : rwB C H t = false) (w : World) (T : cZ w) :
  Calls Tryz.prog 16 #[.string (ba (61 :: l)), hmV H, .agg (bT C)] w fun e w' => e = .returned (.tuple #[.string (ba (61 :: l)), .bool false, .int .i64 0]) ∧ Below w.heap.size w w' := by
 have HX : Hid (XB w H C ((w.alloc (bK H.hb H.hs H.hr H.hc)).alloc (.cells (bT C) 34))) := XB.new w H C
 have CP := fun u => aK4 l u
 have HP : Hid (∀ u, XB w H C u → Calls Tryz.prog 34 #[.string (ba l)] u fun e w1 => ∃ es, e = .returned (.tuple #[.agg es, .int .i64 0]) ∧ Hid (NT w1 es t ∧ Below u.heap.size u w1)) := fun u hu => by
  have := tV l u (T.below hu.bel)
  rw [hp] at this
  refine this.mono ?_
  rintro e w1 ⟨es, rfl, hN, _, hb⟩
  exact ⟨es, rfl, hN, hb⟩
 have HNo : Hid (∀ (w1 : World) (es : Array Value), NT w1 es t → Calls Tryz.prog 10 #[.agg es, hmV H, .agg (bT C)] (w1.alloc (.cells es 28)) fun e w2 => ∃ es', e = .returned (.tuple #[.agg es', .bool (rwB C H t)]) ∧ Hid (NT w2 es' (rwT C H t) ∧ (w2.heap[w1.heap.size]? = some (.cells es 28) ∧ es.size = 18) ∧ Below w1.heap.size w1 w2 ∧ NT (w2.setRow w1.heap.size es') es' (rwT C H t))) := fun w1 es hN => by
  have B := aC (Below.refl w1.heap.size w1) (.cells es 28)
  have hk := hN.nk
  refine (kE C H hz (hk.below B) (fun i hi => by simp; omega)).mono ?_
  rintro e w2 ⟨es', rfl, hn, hb⟩
  exact ⟨es', rfl, hn.nt, ⟨(hb.block _ (by simp)).trans (heap_alloc_new w1 _), hk.size⟩, aJ B hb, (hn.grown (aD _ _ _) (fun g e h => by cases e; simp at h; omega)).nt⟩
 rw [hc] at HNo
 clear T hp hz hc
 generalize ba (61 :: l) = s1 at *
 generalize ba l = s0 at *
 go_enter Tryz.func16, Tryz.ntmps16
 go_wp2_with (first
  | (go_at_call 33; refine (CP _).mono ?_; rintro e w' ⟨rfl, hw⟩; obtain rfl := hw.symm; clear hw)
  | (go_at_call 34; refine (HP.out _ HX.out).mono ?_; clear HP; rintro e w1 ⟨es, rfl, hN⟩; obtain ⟨n1, n2⟩ := mY w1 hN.out.1; have HXn := HX.out.step hN.out.2; have HB1 : Hid (Below w.heap.size w w1) := HXn.bel; have HX : Hid _ := HXn.step (aC (Below.refl _ _) (.cells es 28)); clear HXn; have RS : Hid _ := n1; have RL : Hid _ := n2 _ (heap_alloc_new w1 _); have RH : Hid _ := fB HX.out.b0; have RC : Hid _ := fA HX.out.b1; have CN := HNo.out w1 es hN.out.1; clear n1 n2 HNo hN)
  | ((with_reducible show wpList _ _ _ ({ dst := _, op := Op.store 28 _ _, type := _, pos := _, after := _, guard := none } :: _) _ _); refine aB rfl 28 _ _ rfl _ _ _ rfl rfl RS.out ?_)
  | ((with_reducible show wpList _ _ _ ({ dst := _, op := Op.load 28 _, type := _, pos := _, after := _, guard := none } :: _) _ _); refine aA rfl 28 _ rfl _ _ rfl RL.out ?_)
  | ((with_reducible show wpList _ _ _ ({ dst := _, op := Op.load 30 _, type := _, pos := _, after := _, guard := none } :: _) _ _); refine aA rfl 30 _ rfl _ _ rfl RH.out ?_)
  | ((with_reducible show wpList _ _ _ ({ dst := _, op := Op.load 34 _, type := _, pos := _, after := _, guard := none } :: _) _ _); refine aA rfl 34 _ rfl _ _ rfl RC.out ?_)
  | (go_at_call 10; refine CN.mono ?_; clear CN; rintro e w2 ⟨es', rfl, hh⟩; obtain ⟨h1, ⟨h2, h3⟩, h4, h5⟩ := hh.out; have hq : (Instr.storeAt 28 (.pointer (some ⟨w1.heap.size, 0, none⟩)) (.agg es')).run Tryz.prog w2 = .ok () (w2.setRow w1.heap.size es') := aGV h1 h2 h3; have RS : Hid _ := hq; have HZ : Hid (Below w.heap.size w (w2.setRow w1.heap.size es')) := aC0 HB1.out h4; clear h1 h2 h3 h4 h5 hq hh))
 refine bodyPost_ret (v := .tuple #[.string s1, .bool false, .int .i64 0]) (by simp [results, Tryz.results16, go_sem]) rfl ?_
 exact ⟨rfl, HZ.out⟩
theorem aKp {u : World} {g : Nat} {es : Array Value} {t : T} (h : NT u es t) (hg : u.heap[g]? = some (.cells es 28)) : (Instr.loadAt 28 (.pointer (some ⟨g, 0, none⟩))).run Tryz.prog u = .ok (.agg es) u := (iA h).2 hg
theorem aEq {C : Chg} {H : Hm} {l m : List UInt8} {t : T} (hp : uO l = (t, 0)) (hz : zT t ≤ 900) (hc : rwB C H t = true) (hZ : ZT (rwT C H t)) (hm : yB (rwT C H t) = m) (hl : m.length ≤ 254) (w : World) (T : cZ w) :
  Calls Tryz.prog 16 #[.string (ba (61 :: l)), hmV H, .agg (bT C)] w fun e w' => e = .returned (.tuple #[.string (ba (61 :: m)), .bool true, .int .i64 0]) ∧ Below w.heap.size w w' := by
 have HX : Hid (XB w H C ((w.alloc (bK H.hb H.hs H.hr H.hc)).alloc (.cells (bT C) 34))) := XB.new w H C
 have CP := fun u => aK4 l u
 have HP : Hid (∀ u, XB w H C u → Calls Tryz.prog 34 #[.string (ba l)] u fun e w1 => ∃ es, e = .returned (.tuple #[.agg es, .int .i64 0]) ∧ Hid (NT w1 es t ∧ Below u.heap.size u w1)) := fun u hu => by
  have := tV l u (T.below hu.bel)
  rw [hp] at this
  refine this.mono ?_
  rintro e w1 ⟨es, rfl, hN, _, hb⟩
  exact ⟨es, rfl, hN, hb⟩
 have HNo : Hid (∀ (w1 : World) (es : Array Value), NT w1 es t → Calls Tryz.prog 10 #[.agg es, hmV H, .agg (bT C)] (w1.alloc (.cells es 28)) fun e w2 => ∃ es', e = .returned (.tuple #[.agg es', .bool (rwB C H t)]) ∧ Hid (NT w2 es' (rwT C H t) ∧ (w2.heap[w1.heap.size]? = some (.cells es 28) ∧ es.size = 18) ∧ Below w1.heap.size w1 w2 ∧ NT (w2.setRow w1.heap.size es') es' (rwT C H t))) := fun w1 es hN => by
  have B := aC (Below.refl w1.heap.size w1) (.cells es 28)
  have hk := hN.nk
  refine (kE C H hz (hk.below B) (fun i hi => by simp; omega)).mono ?_
  rintro e w2 ⟨es', rfl, hn, hb⟩
  exact ⟨es', rfl, hn.nt, ⟨(hb.block _ (by simp)).trans (heap_alloc_new w1 _), hk.size⟩, aJ B hb, (hn.grown (aD _ _ _) (fun g e h => by cases e; simp at h; omega)).nt⟩
 rw [hc] at HNo
 have hzr : zT (rwT C H t) ≤ 900 := Nat.le_trans (aGt C H t) hz
 have HPr : Hid (∀ (u : World) (es : Array Value), NT u es (rwT C H t) → Below w.heap.size w u → Calls Tryz.prog 35 #[.agg es] u fun e w' => e = .returned (.string (ba m)) ∧ Below u.heap.size u w') := fun u es hN hb => by
  have := aB7 hzr hZ hN (T.below hb)
  rw [hm] at this
  exact this
 have HM : Hid ((⟨#[61]⟩ : ByteArray) ++ ba m = ba (61 :: m)) := aIM m
 have hsz : (ba m).size = m.length := by simp [ba, ByteArray.size]
 clear T hp hz hc hzr hZ hm
 generalize rwT C H t = rt at *
 generalize ba (61 :: l) = s1 at *
 generalize ba l = s0 at *
 generalize ba (61 :: m) = m1 at *
 generalize ba m = m0 at *
 have hsi : (1 : Int) + (m0.size : Nat) ≤ 255 := by rw [hsz]; omega
 have hmx : ¬ 9223372036854775807 < 1 + m0.size := by rw [hsz]; omega
 clear hsz
 go_enter Tryz.func16, Tryz.ntmps16
 go_wp2_with (first
  | (go_at_call 33; refine (CP _).mono ?_; rintro e w' ⟨rfl, hw⟩; obtain rfl := hw.symm; clear hw)
  | (go_at_call 34; refine (HP.out _ HX.out).mono ?_; clear HP; rintro e w1 ⟨es, rfl, hN⟩; obtain ⟨n1, n2⟩ := mY w1 hN.out.1; have HXn := HX.out.step hN.out.2; have HB1 : Hid (Below w.heap.size w w1) := HXn.bel; have HX : Hid _ := HXn.step (aC (Below.refl _ _) (.cells es 28)); clear HXn; have RS : Hid _ := n1; have RL : Hid _ := n2 _ (heap_alloc_new w1 _); have RH : Hid _ := fB HX.out.b0; have RC : Hid _ := fA HX.out.b1; have CN := HNo.out w1 es hN.out.1; clear n1 n2 HNo hN)
  | ((with_reducible show wpList _ _ _ ({ dst := _, op := Op.store 28 _ _, type := _, pos := _, after := _, guard := none } :: _) _ _); refine aB rfl 28 _ _ rfl _ _ _ rfl rfl RS.out ?_)
  | ((with_reducible show wpList _ _ _ ({ dst := _, op := Op.load 28 _, type := _, pos := _, after := _, guard := none } :: _) _ _); refine aA rfl 28 _ rfl _ _ rfl RL.out ?_)
  | ((with_reducible show wpList _ _ _ ({ dst := _, op := Op.load 30 _, type := _, pos := _, after := _, guard := none } :: _) _ _); refine aA rfl 30 _ rfl _ _ rfl RH.out ?_)
  | ((with_reducible show wpList _ _ _ ({ dst := _, op := Op.load 34 _, type := _, pos := _, after := _, guard := none } :: _) _ _); refine aA rfl 34 _ rfl _ _ rfl RC.out ?_)
  | (go_at_call 10; refine CN.mono ?_; clear CN; rintro e w2 ⟨es', rfl, hh⟩; obtain ⟨h1, ⟨h2, h3⟩, h4, h5⟩ := hh.out; have hq : (Instr.storeAt 28 (.pointer (some ⟨w1.heap.size, 0, none⟩)) (.agg es')).run Tryz.prog w2 = .ok () (w2.setRow w1.heap.size es') := aGV h1 h2 h3; have RS : Hid _ := hq; have HZ : Hid (Below w.heap.size w (w2.setRow w1.heap.size es')) := aC0 HB1.out h4; have hN3 : NT (w2.setRow w1.heap.size es') es' rt := h5; have RL : Hid _ := aKp hN3 (setRow_heap _ _ _ _ _ _ h2); have CPr := HPr.out _ es' hN3 HZ.out; clear h1 h2 h3 h4 h5 hq hh hN3)
  | (go_at_call 35; refine CPr.mono ?_; clear CPr; rintro e w4 ⟨rfl, hb⟩; have HY : Hid _ := aJ HZ.out hb; clear hb))
 refine bodyPost_ret (v := .tuple #[.string (⟨#[61]⟩ ++ m0), .bool true, .int .i64 0]) (by simp [results, Tryz.results16, go_sem]) rfl ?_
 exact ⟨by rw [HM.out], HY.out⟩
def C1 : Chg := ⟨⟨#[98]⟩, ⟨#[83]⟩, false, false, 2, 2, 64⟩
def C2 : Chg := ⟨⟨#[98]⟩, ⟨#[83]⟩, true, false, 0, 0, 0⟩
def H1 : Hm := ⟨⟨#[98]⟩, ⟨#[83]⟩, 1, 1⟩
def t1 : T := (uO [65, 51, 43, 66, 49]).1
def t2 : T := (uO [84, 33, 65, 49]).1
theorem p1 : uO [65, 51, 43, 66, 49] = (t1, 0) := by
 have h : (uO [65, 51, 43, 66, 49]).2 = 0 := by kernel_rfl
 unfold t1
 rw [← h]
theorem p2 : uO [84, 33, 65, 49] = (t2, 0) := by
 have h : (uO [84, 33, 65, 49]).2 = 0 := by kernel_rfl
 unfold t2
 rw [← h]
theorem z1 : zT t1 = 3 := by kernel_rfl
theorem z2 : zT t2 = 1 := by kernel_rfl
theorem r1 : rwB C1 H1 t1 = true := by kernel_rfl
theorem r2 : rwB C2 H1 t2 = false := by kernel_rfl
theorem n1 : yB (rwT C1 H1 t1) = [65, 53, 43, 66, 49] := by kernel_rfl
theorem aK5 : ((dA (rwT C1 H1 t1)).all fun x => zB x.1) = true := by kernel_rfl
theorem zt1 : ZT (rwT C1 H1 t1) := fun x hx => aK3 (List.all_eq_true.1 aK5 x hx)
theorem aAK (w : World) : Calls Tryz.prog 23 #[] w fun e w' => e = .returned (.agg #[.string ⟨#[98]⟩, .string ⟨#[83]⟩, .int .i64 1, .int .i64 1]) ∧ Below w.heap.size w w' := by
 go_enter Tryz.func23, Tryz.ntmps23
 go_wp2
 refine bodyPost_ret (v := .agg #[.string ⟨#[98]⟩, .string ⟨#[83]⟩, .int .i64 1, .int .i64 1]) (by simp [results, Tryz.results23, go_sem]; try rfl) rfl ?_
 refine ⟨rfl, ?_⟩
 repeat (first | exact Below.refl _ _ | refine Below.drew ?_ | refine Below.setCell ?_ (by simp) _ | refine aC ?_ _)
theorem tx1 (w : World) (T : cZ w) : Calls Tryz.prog 16 #[.string ⟨#[61, 65, 51, 43, 66, 49]⟩, .agg #[.string ⟨#[98]⟩, .string ⟨#[83]⟩, .int .i64 1, .int .i64 1], .agg #[.string ⟨#[98]⟩, .string ⟨#[83]⟩, .bool false, .bool false, .int .i64 2, .int .i64 2, .int .i64 64]] w fun e w' => e = .returned (.tuple #[.string ⟨#[61, 65, 53, 43, 66, 49]⟩, .bool true, .int .i64 0]) ∧ Below w.heap.size w w' :=
 aEq (C := C1) (H := H1) p1 (by rw [z1]; omega) r1 zt1 n1 (by simp) w T
theorem tx2 (w : World) (T : cZ w) : Calls Tryz.prog 16 #[.string ⟨#[61, 84, 33, 65, 49]⟩, .agg #[.string ⟨#[98]⟩, .string ⟨#[83]⟩, .int .i64 1, .int .i64 1], .agg #[.string ⟨#[98]⟩, .string ⟨#[83]⟩, .bool true, .bool false, .int .i64 0, .int .i64 0, .int .i64 0]] w fun e w' => e = .returned (.tuple #[.string ⟨#[61, 84, 33, 65, 49]⟩, .bool false, .int .i64 0]) ∧ Below w.heap.size w w' :=
 aEp (C := C2) (H := H1) p2 (by rw [z2]; omega) r2 w T
theorem aGW (u : World) : (Instr.build 34 #[(0, .string ⟨#[98]⟩), (1, .string ⟨#[83]⟩), (2, .bool true)]).run Tryz.prog u = .ok (.agg #[.string ⟨#[98]⟩, .string ⟨#[83]⟩, .bool true, .bool false, .int .i64 0, .int .i64 0, .int .i64 0]) u := by kernel_rfl
theorem vV (w : World) (T : cZ w) : Calls Tryz.prog 9 #[] w fun e w' => e = .returned (.bool true) ∧ Below w.heap.size w w' := by
 obtain ⟨W, hW⟩ : ∃ W, W = w.alloc (.cells #[.string ⟨#[98]⟩, .string ⟨#[83]⟩, .bool false, .bool false, .int .i64 2, .int .i64 2, .int .i64 64] 34) := ⟨_, rfl⟩
 have HWe : Hid (W = w.alloc (.cells #[.string ⟨#[98]⟩, .string ⟨#[83]⟩, .bool false, .bool false, .int .i64 2, .int .i64 2, .int .i64 64] 34)) := hW
 have HB : Hid (Below w.heap.size w W) := by show Below _ _ _; rw [hW]; exact aC (Below.refl _ _) _
 have HL : Hid (∀ u, Below W.heap.size W u → (Instr.loadAt 34 (.pointer (some ⟨w.heap.size, 0, none⟩))).run Tryz.prog u = .ok (.agg #[.string ⟨#[98]⟩, .string ⟨#[83]⟩, .bool false, .bool false, .int .i64 2, .int .i64 2, .int .i64 64]) u) := fun u hu => by rw [hW] at hu; exact fA (C := C1) (new1 hu)
 have HW : Hid (Below W.heap.size W W.drew) := (Below.refl _ _).drew
 have TX1 : Hid (∀ u, Below w.heap.size w u → Calls Tryz.prog 16 #[.string ⟨#[61, 65, 51, 43, 66, 49]⟩, .agg #[.string ⟨#[98]⟩, .string ⟨#[83]⟩, .int .i64 1, .int .i64 1], .agg #[.string ⟨#[98]⟩, .string ⟨#[83]⟩, .bool false, .bool false, .int .i64 2, .int .i64 2, .int .i64 64]] u fun e w' => e = .returned (.tuple #[.string ⟨#[61, 65, 53, 43, 66, 49]⟩, .bool true, .int .i64 0]) ∧ Below u.heap.size u w') := fun u hu => tx1 u (T.below hu)
 have TX2 : Hid (∀ u, Below w.heap.size w u → Calls Tryz.prog 16 #[.string ⟨#[61, 84, 33, 65, 49]⟩, .agg #[.string ⟨#[98]⟩, .string ⟨#[83]⟩, .int .i64 1, .int .i64 1], .agg #[.string ⟨#[98]⟩, .string ⟨#[83]⟩, .bool true, .bool false, .int .i64 0, .int .i64 0, .int .i64 0]] u fun e w' => e = .returned (.tuple #[.string ⟨#[61, 84, 33, 65, 49]⟩, .bool false, .int .i64 0]) ∧ Below w.heap.size w w') := fun u hu => (tx2 u (T.below hu)).mono fun e w' hh => ⟨hh.1, aJ hu hh.2⟩
 have HH : Hid (∀ u, Below w.heap.size w u → Calls Tryz.prog 23 #[] u fun e w' => e = .returned (.agg #[.string ⟨#[98]⟩, .string ⟨#[83]⟩, .int .i64 1, .int .i64 1]) ∧ Below w.heap.size w w') := fun u hu => (aAK u).mono fun e w' hh => ⟨hh.1, aJ hu hh.2⟩
 have RB2 := aGW
 clear T hW
 go_enter Tryz.func9, Tryz.ntmps9
 go_upto_region 2 with fail
 rw [← HWe.out]
 refine aM (fun u => Below W.heap.size W u) (fun j => false) (by kernel_rfl) ?_
 refine dwl 1 (.agg #[.string ⟨#[98]⟩, .string ⟨#[83]⟩, .bool false, .bool false, .int .i64 2, .int .i64 2, .int .i64 64]) ?_ (hS := HW.out) (hy := (fun u hSu => aG rfl rfl (HL.out u hSu)))
 refine aF (i := 0) (by kernel_rfl) rfl ?_
 intro K' hK'
 go_simp
 refine (aAK _).mono ?_
 rintro e w2 ⟨rfl, hb⟩
 have hb2 := aJ HW.out hb
 refine hK' _ _ (.inr fun _ => hb2) ?_
 clear hK' hb
 try simp only [Act.put, List.setIfInBounds_toArray, List.set_cons_zero, List.set_cons_succ]
 refine aF (i := 2) (by kernel_rfl) rfl ?_
 intro K' hK'
 go_simp
 refine (TX1.out _ (aJ HB.out hb2)).mono ?_
 rintro e w3 ⟨rfl, hb⟩
 have hb3 := aJ hb2 hb
 refine hK' _ _ (.inr fun _ => hb3) ?_
 clear hK' hb
 try simp only [Act.put, List.setIfInBounds_toArray, List.set_cons_zero, List.set_cons_succ]
 refine dwp 3 (.tuple #[.string ⟨#[61, 65, 53, 43, 66, 49]⟩, .bool true, .int .i64 0]) ?_
 refine dwp 4 (.string ⟨#[61, 65, 53, 43, 66, 49]⟩) ?_
 refine dwp 5 (.bool true) ?_
 refine dwp 6 (.int .i64 0) ?_
 refine dwp 7 (.string ⟨#[61, 65, 53, 43, 66, 49]⟩) ?_
 refine dwp 8 (.bool true) ?_
 refine dwp 9 (.int .i64 0) ?_
 refine aK (by kernel_rfl) ?_ _
 have HX : Hid (Below w.heap.size w w3) := aJ HB.out hb3
 clear hb2 hb3 HL HW HB HWe TX1
 go_wp2_with (first
  | (go_at_call 23; refine (HH.out _ HX.out).mono ?_; clear HH; rintro e w4 ⟨rfl, hb⟩; have HX : Hid _ := hb; clear hb)
  | ((with_reducible show wpList _ _ _ ({ dst := _, op := Op.build 34 _, type := _, pos := _, after := _, guard := none } :: _) _ _); refine bP rfl 34 _ rfl _ _ rfl (RB2 _) ?_)
  | (go_at_call 16; refine (TX2.out _ HX.out).mono ?_; clear TX2; rintro e w5 ⟨rfl, hb⟩; have HX : Hid _ := hb; clear hb))
 go_ret
 exact ⟨rfl, HX.out⟩
end Go.Proofs.YtljmklbbngpllaaGreatDoor.Rw
namespace Go.Proofs.YtljmklbbngpllaaGreatDoor
open Go.RowKit Go.Fm
def tX : Prop := ∀ t : T, zT t ≤ 1000000 → ZT t → ∀ (w : World) (es : Array Value), NT w es t → cZ w → Calls Tryz.prog 65 #[.agg es] w fun e w' => e = .returned (.bool (okL t.1 (kids t.2).length)) ∧ Below w.heap.size w w'
theorem aIN {t : T} {w : World} {es : Array Value} (h : NT w es t) : Calls Tryz.prog 38 #[.agg es, .int .i64 0] w fun e w' => e = .returned (.bool false) ∧ Below w.heap.size w w' := by
 go_enter Tryz.func38, Tryz.ntmps38
 go_wp2
 go_ret
 exact ⟨rfl, aC (Below.refl _ _) _⟩
theorem aK6 (RC : tX) {t : T} {p : Option Addr} {n c : Nat} {w : World} {d : Nat} (hz : zT t ≤ 1000000) (Z : ZT t) (hd : ((d : Int) == 0) = false) (h : okL t.1 (kids t.2).length = false) (T : cZ w) (hs : NT w (lcs t.1 (.slice p n c)) t) : Calls Tryz.prog 38 #[.agg (lcs t.1 (.slice p n c)), .int .i64 (d : Nat)] w fun e w' => e = .returned (.bool false) ∧ Below w.heap.size w w' := by
 have B1 : Below w.heap.size w (w.alloc (.cells (lcs t.1 (.slice p n c)) 28)) := aC (Below.refl _ _) _
 have RL : Hid _ := lod (z := (0, 0)) (heap_alloc_new w (.cells (lcs t.1 (.slice p n c)) 28)) rfl Tryz.underlying28 (by rw [aV]; exact bV)
 have BA := RC t hz Z (w.alloc (.cells (lcs t.1 (.slice p n c)) 28)) _ (hs.below B1) (T.below B1)
 rw [h] at BA
 clear hs T h Z RC B1
 generalize lcs t.1 (.slice p n c) = bx at *
 go_enter Tryz.func38, Tryz.ntmps38
 go_wp2_with (first
  | (refine aI 28 _ rfl _ _ rfl RL.out (by go_simp) ?_; clear RL)
  | (go_at_call 65; refine BA.mono ?_; rintro e w1 ⟨rfl, hs⟩; have HB1 : Hid (Below w.heap.size w w1) := aS hs; clear hs))
 all_goals (go_ret; exact ⟨rfl, HB1.out⟩)
theorem aKq (RC : tX) {t : T} {p : Option Addr} {n c : Nat} {w : World} {d : Nat} (hz : zT t ≤ 1000000) (Z : ZT t) (hd : ((d : Int) == 0) = false) (hd2 : d ≤ 1000) (h : okL t.1 (kids t.2).length = true) (T : cZ w) (hs : SF w p n t.2) (hn : n ≤ 1000000)
  (IH : ∀ s ∈ kids t.2, ∀ (w : World) (es : Array Value), NT w es s → cZ w → Calls Tryz.prog 38 #[.agg es, .int .i64 ((d - 1 : Nat) : Int)] w fun e w' => e = .returned (.bool (gT okL (d - 1) s)) ∧ Below w.heap.size w w') :
  Calls Tryz.prog 38 #[.agg (lcs t.1 (.slice p n c)), .int .i64 (d : Nat)] w fun e w' => e = .returned (.bool ((kids t.2).all (gT okL (d - 1)))) ∧ Below w.heap.size w w' := by
 have B1 : Below w.heap.size w (w.alloc (.cells (lcs t.1 (.slice p n c)) 28)) := aC (Below.refl _ _) _
 have RL : Hid _ := lod (z := (0, 0)) (heap_alloc_new w (.cells (lcs t.1 (.slice p n c)) 28)) rfl Tryz.underlying28 (by rw [aV]; exact bV)
 have hNT : NT w (lcs t.1 (.slice p n c)) t := ⟨p, n, c, rfl, hs⟩
 have BA := RC t hz Z (w.alloc (.cells (lcs t.1 (.slice p n c)) 28)) _ (hNT.below B1) (T.below B1)
 rw [h] at BA
 have PA : Calls Tryz.prog 65 #[.agg (lcs t.1 (.slice p n c))] (w.alloc (.cells (lcs t.1 (.slice p n c)) 28)) fun e w2 => e = .returned (.bool true) ∧ w2.cell? ⟨w.heap.size, 17, none⟩ = some (.slice p n c) ∧ Hid (Below w.heap.size w w2) := BA.mono (by
  rintro e w1 ⟨rfl, hs⟩
  exact ⟨rfl, aU (new1 hs), aS hs⟩)
 have HS : Hid (SF w p n t.2) := hs
 have HT : Hid (cZ w) := T
 have HI : Hid (∀ s ∈ kids t.2, ∀ (w : World) (es : Array Value), NT w es s → cZ w → Calls Tryz.prog 38 #[.agg es, .int .i64 ((d - 1 : Nat) : Int)] w fun e w' => e = .returned (.bool (gT okL (d - 1) s)) ∧ Below w.heap.size w w') := IH
 have HL : Hid ((kids t.2).length = n) := hs.1.symm
 have hd1 : (d : Int) - 1 = ((d - 1 : Nat) : Int) := by
  have : d ≠ 0 := by intro e; subst e; simp at hd
  omega
 clear BA h hs T IH Z hNT RC B1 hz
 generalize lcs t.1 (.slice p n c) = bx at *
 generalize hq : (kids t.2).all (gT okL (d - 1)) = q
 have HQ : Hid ((kids t.2).all (gT okL (d - 1)) = q) := hq
 clear hq
 go_enter Tryz.func38, Tryz.ntmps38
 go_wp2_with (first
  | (refine aI 28 _ rfl _ _ rfl RL.out (by go_simp) ?_; clear RL)
  | (go_at_call 65; refine PA.mono ?_; rintro e w2 ⟨rfl, c17, HB2⟩))
 clear PA
 go_loopw [17] (fun i wr => ∃ k : Nat, k ≤ n ∧ i = .int .i64 (k : Nat) ∧ Hid (Below w.heap.size w wr) ∧ Hid (((kids t.2).take k).all (gT okL (d - 1)) = true)) (fun i _ => n - (intOf i).toNat)
 case atStart => exact ⟨0, Nat.zero_le _, rfl, HB2, rfl⟩
 case round =>
  obtain ⟨k, hk, rfl, HB, HA⟩ := hrel
  by_cases hlt : k < n
  ·have hki : (k : Int) < n := by omega
   obtain ⟨a', es, s, rfl, RL, HI1, RS, RL2, HNT, HM⟩ := HS.out.step HB.out hlt
   have C := HI.out s HM.out _ _ HNT.out (HT.out.below (aC HB.out _))
   have hwr : IntKind.i64.wrap ((d - 1 : Nat) : Int) = ((d - 1 : Nat) : Int) := by
    simp [IntKind.wrap, IntKind.bits, IntKind.signed]; omega
   have HTK : Hid ((kids t.2).take (k + 1) = (kids t.2).take k ++ [s]) := by show _ = _; rw [List.take_add_one, HI1.out]; rfl
   have aGp : Hid (s ∈ kids t.2) := HM
   cases hq : gT okL (d - 1) s
   ·rw [hq] at C
    have HQ2 : Hid (q = false) := by
     show _ = _
     rw [← HQ.out]
     cases hall : (kids t.2).all (gT okL (d - 1))
     ·rfl
     ·have := List.all_eq_true.1 hall s aGp.out
      rw [hq] at this; cases this
    clear hq HI1 HM HA HNT
    generalize ((d - 1 : Nat) : Int) = d1 at *
    go_wp2_with (first
     | (refine aA rfl 28 _ rfl _ _ rfl RL.out ?_; clear RL)
     | (refine aB rfl 28 _ _ rfl _ _ _ rfl rfl RS.out ?_; clear RS)
     | (refine aA rfl 28 _ rfl _ _ rfl RL2.out ?_; clear RL2)
     | (go_at_call 38; refine C.mono ?_; rintro e w3 ⟨rfl, hs⟩; have HU2 : Hid (Below w.heap.size w w3) := aJ (aC HB.out _) hs; clear hs))
    go_ret
    exact ⟨by rw [HQ2.out]; rfl, HU2.out⟩
   ·rw [hq] at C
    have HA2 : Hid (((kids t.2).take (k + 1)).all (gT okL (d - 1)) = true) := by
     show _ = _
     rw [HTK.out, List.all_append, HA.out]
     simp [hq]
    clear hq HI1 HM HA HNT HTK aGp
    generalize ((d - 1 : Nat) : Int) = d1 at *
    go_wp2_with (first
     | (refine aA rfl 28 _ rfl _ _ rfl RL.out ?_; clear RL)
     | (refine aB rfl 28 _ _ rfl _ _ _ rfl rfl RS.out ?_; clear RS)
     | (refine aA rfl 28 _ rfl _ _ rfl RL2.out ?_; clear RL2)
     | (go_at_call 38; refine C.mono ?_; rintro e w3 ⟨rfl, hs⟩; have HU2 : Hid (Below w.heap.size w w3) := aJ (aC HB.out _) hs; clear hs))
    go_roundw
    case rel => exact ⟨k + 1, by omega, by go_num, HU2, HA2⟩
    case measure => simp [intOf]; omega
  ·have hki : ¬ (k : Int) < n := by omega
   have HQ2 : Hid (q = true) := by
    show _ = _
    rw [← HQ.out]
    have := HA.out
    rw [List.take_of_length_le (by have := HL.out; omega)] at this
    exact this
   clear HA
   go_wp2
   go_ret
   exact ⟨by rw [HQ2.out]; rfl, HB.out⟩
theorem aGX (RC : tX) : ∀ t : T, zT t ≤ 1000000 → ZT t → ∀ d : Nat, d ≤ 1000 → ∀ (w : World) (es : Array Value), NT w es t → cZ w → Calls Tryz.prog 38 #[.agg es, .int .i64 (d : Nat)] w fun e w' => e = .returned (.bool (gT okL d t)) ∧ Below w.heap.size w w' := by
 refine ind ?_
 intro t ih hz hZ d hd w es h T
 cases d with
 | zero => rw [aAC]; exact aIN h
 | succ d =>
  obtain ⟨p, n, c, rfl, hs⟩ := h
  have hdb : (((d + 1 : Nat) : Int) == 0) = false := by simp; omega
  rw [aAC]
  have hn := hs.1
  cases ho : okL t.1 (kids t.2).length
  ·simpa using aK6 RC hz hZ hdb ho T (⟨p, n, c, rfl, hs⟩ : NT w (lcs t.1 (.slice p n c)) t)
  ·have hkl := lW t
   have := aKq RC (c := c) hz hZ hdb (by omega) ho T hs (by omega) (fun s hs' u e1 m1 m2 => ih s hs' (by have := kW hs'; omega) (hZ.kid hs') d (by omega) u e1 m1 m2)
   simpa using this
theorem aCb (RC : tX) {t : T} (hz : zT t ≤ 1000000) (hZ : ZT t) {w : World} {es : Array Value} (h : NT w es t) (T : cZ w) : Calls Tryz.prog 18 #[.agg es] w fun e w' => e = .returned (.bool (gT okL 24 t)) ∧ Below w.heap.size w w' := by
 have C := aGX RC t hz hZ 24 (by omega) (w.alloc (.cells es 28)) es (h.below (aC (Below.refl _ _) _)) (T.below (aC (Below.refl _ _) _))
 have RL : Hid _ := (iA h).2 (heap_alloc_new w (.cells es 28))
 clear h T RC
 generalize gT okL 24 t = q at *
 go_enter Tryz.func18, Tryz.ntmps18
 go_wp2_with (first
  | (refine aA rfl 28 _ rfl _ _ rfl RL.out ?_; clear RL)
  | (go_at_call 38; refine C.mono ?_; rintro e w2 ⟨rfl, hs⟩; have HU2 : Hid (Below w.heap.size w w2) := aS hs; clear hs))
 go_ret
 exact ⟨rfl, HU2.out⟩
theorem aEr {a : Lab} {p : Option Addr} {n c : Nat} {w : World} : Calls Tryz.prog 105 #[.agg (lcs a (.slice p n c))] w fun e w' => e = .returned (.agg (lcs (aT a.k nb) (.slice none 0 0))) ∧ Below w.heap.size w w' := by
 obtain ⟨w2, hw2⟩ : ∃ w2, (w.alloc (.cells (lcs a (.slice p n c)) 28)).alloc (.cells nd0 28) = w2 := ⟨_, rfl⟩
 have H0 : w2.heap[w.heap.size]? = some (.cells (lcs a (.slice p n c)) 28) := by rw [← hw2]; exact (Below.heap_alloc _ _ _ (by simp)).trans (heap_alloc_new w _)
 have H1 : w2.heap[w.heap.size + 1]? = some (.cells nd0 28) := by
  rw [← hw2]
  have := heap_alloc_new (w.alloc (.cells (lcs a (.slice p n c)) 28)) (.cells nd0 28)
  simpa using this
 have HB : Below w.heap.size w w2 := by rw [← hw2]; exact aC (aC (Below.refl _ _) _) _
 obtain ⟨c0, c1, l2, l3, l4⟩ := aL H0
 have RS := jC H1 rfl (aT a.k nb) none 0 0
 have HG : Hid (w2.heap[w.heap.size + 1]? = some (.cells nd0 28)) := H1
 have HF : Hid (Below w.heap.size w (w2.setRow (w.heap.size + 1) (lcs (aT a.k nb) (.slice none 0 0)))) := HB.grown (aD _ _ _) HB.size (fun j e => by cases e; omega)
 clear H0 H1 l2 l3 l4 HB
 generalize lcs a (.slice p n c) = bx at *
 go_enter Tryz.func105, Tryz.ntmps105
 go_wp2_with (first
  | (refine aB rfl 28 _ _ rfl _ _ _ rfl rfl RS.out ?_))
 exact bodyPost_ret (bN HG.out (aV _ _) rfl rfl) rfl ⟨rfl, HF.out⟩
section
variable {a : Lab} {p : Option Addr} {n c : Nat} {w : World}
theorem vW : Calls Tryz.prog 105 #[.agg (lcs a (.slice p n c))] (w.alloc (.cells (lcs a (.slice p n c)) 28)) fun e w1 => e = .returned (.agg (lcs (aT a.k nb) (.slice none 0 0))) ∧ Hid ((Instr.storeAt 28 (.pointer (some ⟨w1.heap.size, 0, none⟩)) (.agg (lcs (aT a.k nb) (.slice none 0 0)))).run Tryz.prog (w1.alloc (.cells nd0 28)) = .ok () (w1.alloc (.cells (lcs (aT a.k nb) (.slice none 0 0)) 28))) ∧
  (w1.alloc (.cells (lcs (aT a.k nb) (.slice none 0 0)) 28)).cell? ⟨w.heap.size, 0, none⟩ = some (.int .i64 a.k) ∧
  Hid ((w1.alloc (.cells (lcs (aT a.k nb) (.slice none 0 0)) 28)).heap[w.heap.size]? = some (.cells (lcs a (.slice p n c)) 28) ∧ (w1.alloc (.cells (lcs (aT a.k nb) (.slice none 0 0)) 28)).heap[w1.heap.size]? = some (.cells (lcs (aT a.k nb) (.slice none 0 0)) 28) ∧ w.heap.size < w1.heap.size ∧ Below w.heap.size w (w1.alloc (.cells (lcs (aT a.k nb) (.slice none 0 0)) 28))) := aEr.mono (by
 rintro e w1 ⟨rfl, hs⟩
 have hlt : w.heap.size < w1.heap.size := by have := hs.size; simp at this; omega
 have h0 : (w1.alloc (.cells (lcs (aT a.k nb) (.slice none 0 0)) 28)).heap[w.heap.size]? = some (.cells (lcs a (.slice p n c)) 28) := (Below.heap_alloc _ _ _ hlt).trans (new1 hs)
 refine ⟨rfl, run_storeAt_new w1 28 nd0 _ (by rw [aV]; exact bV) rfl (iV _ _ _ _), (aL h0).1, h0, heap_alloc_new w1 _, hlt, aC (aS hs) _⟩)
theorem aCc (h1 : (a.k == 1) = false) (h2 : (a.k == 2) = false) (h3 : (a.k == 3) = false) (h4 : (a.k == 4) = false) (h5 : (a.k == 5) = false) (h6 : (a.k == 6) = false) (h7 : (a.k == 7) = false) :
  Calls Tryz.prog 65 #[.agg (lcs a (.slice p n c))] w fun e w' => e = .returned (.bool false) ∧ Below w.heap.size w w' := by
 have RL : Hid _ := lod (z := (0, 0)) (heap_alloc_new w (.cells (lcs a (.slice p n c)) 28)) rfl Tryz.underlying28 (by rw [aV]; exact bV)
 have C := vW (a := a) (p := p) (n := n) (c := c) (w := w)
 generalize lcs (aT a.k nb) (.slice none 0 0) = wx at *
 generalize lcs a (.slice p n c) = bx at *
 generalize a.k = k at *
 go_enter Tryz.func65, Tryz.ntmps65
 go_wp2_with (first
  | (refine aA rfl 28 _ rfl _ _ rfl RL.out ?_; clear RL)
  | (go_at_call 105; refine C.mono ?_; rintro e w1 ⟨rfl, RS, c0, HH⟩; clear C)
  | (refine aB rfl 28 _ _ rfl _ _ _ rfl rfl RS.out ?_; clear RS))
 go_ret
 exact ⟨rfl, HH.out.2.2.2⟩
end
theorem ld9 {u : World} {g i : Nat} {v : Value} (h : u.cell? ⟨g, i, none⟩ = some v) : (Instr.loadAt 9 (.pointer (some ⟨g, i, none⟩))).run Tryz.prog u = .ok v u := by
 go_simp
 try simp [h]
theorem st9 {u : World} {g i : Nat} {v : Value} {s : ByteArray} (h : u.cell? ⟨g, i, none⟩ = some v) (hf : u.frozen? ⟨g, i, none⟩ = false) : (Instr.storeAt 9 (.pointer (some ⟨g, i, none⟩)) (.string s)).run Tryz.prog u = .ok () (u.setCell ⟨g, i, none⟩ (.string s)) := by
 go_simp
 try simp [h, hf]
theorem aL1 {u : World} {g i : Nat} {v : Value} {p : Option Addr} {n c : Nat} (h : u.cell? ⟨g, i, none⟩ = some v) (hf : u.frozen? ⟨g, i, none⟩ = false) : (Instr.storeAt 26 (.pointer (some ⟨g, i, none⟩)) (.slice p n c)).run Tryz.prog u = .ok () (u.setCell ⟨g, i, none⟩ (.slice p n c)) := by
 go_simp
 try simp [h, hf]
end Go.Proofs.YtljmklbbngpllaaGreatDoor
