/- RwText, RwLv, RwWith. -/
import Derived.Test.YtljmklbbngpllaaGreatDoorFLivesPl
set_option linter.unusedVariables false
set_option linter.unusedSimpArgs false
set_option maxHeartbeats 16000000
set_option maxRecDepth 100000
namespace Go.Proofs.YtljmklbbngpllaaGreatDoor.Rw
open Go.RowKit Go.Fm Go.Tk
theorem ba_eq61 (m : List UInt8) : (⟨#[61]⟩ : ByteArray) ++ ba m = ba (61 :: m) := by
 apply ByteArray.ext
 simp [ba]
theorem cp61 (l : List UInt8) (u : World) : Calls Tryz.prog 33 #[.string (ba (61 :: l)), .string ⟨#[61]⟩] u fun e w' => e = .returned (.tuple #[.string (ba l), .bool true]) ∧ w' = u :=
 Tryz.strings_CutPrefix (ba (61 :: l)) ⟨#[61]⟩ u
structure XB (w : World) (H : Hm) (C : Chg) (u : World) : Prop where
 b0 : u.heap[w.heap.size]? = some (plcO H.hb H.hs H.hr H.hc)
 b1 : u.heap[w.heap.size + 1]? = some (.cells (chgC C) 34)
 bel : Below w.heap.size w u
theorem XB.step {w : World} {H : Hm} {C : Chg} {u v : World} (h : XB w H C u) (hb : Below u.heap.size u v) : XB w H C v :=
 ⟨(hb.block _ (lt_of h.b0)).trans h.b0, (hb.block _ (lt_of h.b1)).trans h.b1, bel_step h.bel hb⟩
theorem XB.new (w : World) (H : Hm) (C : Chg) : XB w H C ((w.alloc (plcO H.hb H.hs H.hr H.hc)).alloc (.cells (chgC C) 34)) :=
 ⟨(new2 (Below.refl _ _)).1, (new2 (Below.refl _ _)).2, bel_alloc (bel_alloc (Below.refl _ _) _) _⟩
theorem NT_sto {w w2 : World} {es es' : Array Value} {t : T} {g : Nat} (h : NT w es' t) (h2 : w2.heap[g]? = some (.cells es 28)) (h3 : es.size = 18) : (Instr.storeAt 28 (.pointer (some ⟨g, 0, none⟩)) (.agg es')).run Tryz.prog w2 = .ok () (w2.setRow g es') := by
 have := NK.sto h.nk h2 h3
 exact this
theorem bel_row {w w1 w2 : World} {es : Array Value} (h : Below w.heap.size w w1) (h4 : Below w1.heap.size w1 w2) : Below w.heap.size w (w2.setRow w1.heap.size es) := by
 have hb := bel_step h h4
 exact hb.grown (setRow_grown _ _ _) hb.size (fun g e => by cases e; exact h.size)
theorem text_stay {C : Chg} {H : Hm} {l : List UInt8} {t : T} (hp : parF l = (t, 0)) (hz : zT t ≤ 900) (hc : rwB C H t = false) (w : World) (T : Tab9 w) :
  Calls Tryz.prog 16 #[.string (ba (61 :: l)), hmV H, .agg (chgC C)] w fun e w' => e = .returned (.tuple #[.string (ba (61 :: l)), .bool false, .int .i64 0]) ∧ Below w.heap.size w w' := by
 have HX : Hid (XB w H C ((w.alloc (plcO H.hb H.hs H.hr H.hc)).alloc (.cells (chgC C) 34))) := XB.new w H C
 have CP := fun u => cp61 l u
 have HP : Hid (∀ u, XB w H C u → Calls Tryz.prog 34 #[.string (ba l)] u fun e w1 => ∃ es, e = .returned (.tuple #[.agg es, .int .i64 0]) ∧ Hid (NT w1 es t ∧ Below u.heap.size u w1)) := fun u hu => by
  have := parseF_any l u (T.below hu.bel)
  rw [hp] at this
  refine this.mono ?_
  rintro e w1 ⟨es, rfl, hN, _, hb⟩
  exact ⟨es, rfl, hN, hb⟩
 have HNo : Hid (∀ (w1 : World) (es : Array Value), NT w1 es t → Calls Tryz.prog 10 #[.agg es, hmV H, .agg (chgC C)] (w1.alloc (.cells es 28)) fun e w2 => ∃ es', e = .returned (.tuple #[.agg es', .bool (rwB C H t)]) ∧ Hid (NT w2 es' (rwT C H t) ∧ (w2.heap[w1.heap.size]? = some (.cells es 28) ∧ es.size = 18) ∧ Below w1.heap.size w1 w2 ∧ NT (w2.setRow w1.heap.size es') es' (rwT C H t))) := fun w1 es hN => by
  have B := bel_alloc (Below.refl w1.heap.size w1) (.cells es 28)
  have hk := hN.nk
  refine (rwnode_any C H hz (hk.below B) (fun i hi => by simp; omega)).mono ?_
  rintro e w2 ⟨es', rfl, hn, hb⟩
  exact ⟨es', rfl, hn.nt, ⟨(hb.block _ (by simp)).trans (heap_alloc_new w1 _), hk.size⟩, bel_step B hb, (hn.grown (setRow_grown _ _ _) (fun g e h => by cases e; simp at h; omega)).nt⟩
 rw [hc] at HNo
 clear T hp hz hc
 generalize ba (61 :: l) = s1 at *
 generalize ba l = s0 at *
 go_enter Tryz.func16, Tryz.ntmps16
 go_wp2_with (first
  | (go_at_call 33; refine (CP _).mono ?_; rintro e w' ⟨rfl, hw⟩; obtain rfl := hw.symm; clear hw)
  | (go_at_call 34; refine (HP.out _ HX.out).mono ?_; clear HP; rintro e w1 ⟨es, rfl, hN⟩; obtain ⟨n1, n2⟩ := nbox w1 hN.out.1; have HXn := HX.out.step hN.out.2; have HB1 : Hid (Below w.heap.size w w1) := HXn.bel; have HX : Hid _ := HXn.step (bel_alloc (Below.refl _ _) (.cells es 28)); clear HXn; have RS : Hid _ := n1; have RL : Hid _ := n2 _ (heap_alloc_new w1 _); have RH : Hid _ := hlod HX.out.b0; have RC : Hid _ := clod HX.out.b1; have CN := HNo.out w1 es hN.out.1; clear n1 n2 HNo hN)
  | ((with_reducible show wpList _ _ _ ({ dst := _, op := Op.store 28 _ _, type := _, pos := _, after := _, guard := none } :: _) _ _); refine wpList_store_run rfl 28 _ _ rfl _ _ _ rfl rfl RS.out ?_)
  | ((with_reducible show wpList _ _ _ ({ dst := _, op := Op.load 28 _, type := _, pos := _, after := _, guard := none } :: _) _ _); refine wpList_load_run rfl 28 _ rfl _ _ rfl RL.out ?_)
  | ((with_reducible show wpList _ _ _ ({ dst := _, op := Op.load 30 _, type := _, pos := _, after := _, guard := none } :: _) _ _); refine wpList_load_run rfl 30 _ rfl _ _ rfl RH.out ?_)
  | ((with_reducible show wpList _ _ _ ({ dst := _, op := Op.load 34 _, type := _, pos := _, after := _, guard := none } :: _) _ _); refine wpList_load_run rfl 34 _ rfl _ _ rfl RC.out ?_)
  | (go_at_call 10; refine CN.mono ?_; clear CN; rintro e w2 ⟨es', rfl, hh⟩; obtain ⟨h1, ⟨h2, h3⟩, h4, h5⟩ := hh.out; have hq : (Instr.storeAt 28 (.pointer (some ⟨w1.heap.size, 0, none⟩)) (.agg es')).run Tryz.prog w2 = .ok () (w2.setRow w1.heap.size es') := NT_sto h1 h2 h3; have RS : Hid _ := hq; have HZ : Hid (Below w.heap.size w (w2.setRow w1.heap.size es')) := bel_row HB1.out h4; clear h1 h2 h3 h4 h5 hq hh))
 refine bodyPost_ret (v := .tuple #[.string s1, .bool false, .int .i64 0]) (by simp [results, Tryz.results16, go_sem]) rfl ?_
 exact ⟨rfl, HZ.out⟩
theorem NT_box {u : World} {g : Nat} {es : Array Value} {t : T} (h : NT u es t) (hg : u.heap[g]? = some (.cells es 28)) : (Instr.loadAt 28 (.pointer (some ⟨g, 0, none⟩))).run Tryz.prog u = .ok (.agg es) u := (nbox_at h).2 hg
theorem text_turn {C : Chg} {H : Hm} {l m : List UInt8} {t : T} (hp : parF l = (t, 0)) (hz : zT t ≤ 900) (hc : rwB C H t = true) (hZ : ZT (rwT C H t)) (hm : printN (rwT C H t) = m) (hl : m.length ≤ 254) (w : World) (T : Tab9 w) :
  Calls Tryz.prog 16 #[.string (ba (61 :: l)), hmV H, .agg (chgC C)] w fun e w' => e = .returned (.tuple #[.string (ba (61 :: m)), .bool true, .int .i64 0]) ∧ Below w.heap.size w w' := by
 have HX : Hid (XB w H C ((w.alloc (plcO H.hb H.hs H.hr H.hc)).alloc (.cells (chgC C) 34))) := XB.new w H C
 have CP := fun u => cp61 l u
 have HP : Hid (∀ u, XB w H C u → Calls Tryz.prog 34 #[.string (ba l)] u fun e w1 => ∃ es, e = .returned (.tuple #[.agg es, .int .i64 0]) ∧ Hid (NT w1 es t ∧ Below u.heap.size u w1)) := fun u hu => by
  have := parseF_any l u (T.below hu.bel)
  rw [hp] at this
  refine this.mono ?_
  rintro e w1 ⟨es, rfl, hN, _, hb⟩
  exact ⟨es, rfl, hN, hb⟩
 have HNo : Hid (∀ (w1 : World) (es : Array Value), NT w1 es t → Calls Tryz.prog 10 #[.agg es, hmV H, .agg (chgC C)] (w1.alloc (.cells es 28)) fun e w2 => ∃ es', e = .returned (.tuple #[.agg es', .bool (rwB C H t)]) ∧ Hid (NT w2 es' (rwT C H t) ∧ (w2.heap[w1.heap.size]? = some (.cells es 28) ∧ es.size = 18) ∧ Below w1.heap.size w1 w2 ∧ NT (w2.setRow w1.heap.size es') es' (rwT C H t))) := fun w1 es hN => by
  have B := bel_alloc (Below.refl w1.heap.size w1) (.cells es 28)
  have hk := hN.nk
  refine (rwnode_any C H hz (hk.below B) (fun i hi => by simp; omega)).mono ?_
  rintro e w2 ⟨es', rfl, hn, hb⟩
  exact ⟨es', rfl, hn.nt, ⟨(hb.block _ (by simp)).trans (heap_alloc_new w1 _), hk.size⟩, bel_step B hb, (hn.grown (setRow_grown _ _ _) (fun g e h => by cases e; simp at h; omega)).nt⟩
 rw [hc] at HNo
 have hzr : zT (rwT C H t) ≤ 900 := Nat.le_trans (zT_rw C H t) hz
 have HPr : Hid (∀ (u : World) (es : Array Value), NT u es (rwT C H t) → Below w.heap.size w u → Calls Tryz.prog 35 #[.agg es] u fun e w' => e = .returned (.string (ba m)) ∧ Below u.heap.size u w') := fun u es hN hb => by
  have := printF_any hzr hZ hN (T.below hb)
  rw [hm] at this
  exact this
 have HM : Hid ((⟨#[61]⟩ : ByteArray) ++ ba m = ba (61 :: m)) := ba_eq61 m
 have hsz : (ba m).size = m.length := by simp [ba, ByteArray.size]
 clear T hp hz hc hzr hZ hm
 generalize rwT C H t = rt at *
 generalize ba (61 :: l) = s1 at *
 generalize ba l = s0 at *
 generalize ba (61 :: m) = m1 at *
 generalize ba m = m0 at *
 have hsi : (1 : Int) + (m0.size : Nat) ≤ 255 := by rw [hsz]; omega
 have hmx : ¬ 9223372036854775807 < 1 + m0.size := by rw [hsz]; omega
 clear hsz
 go_enter Tryz.func16, Tryz.ntmps16
 go_wp2_with (first
  | (go_at_call 33; refine (CP _).mono ?_; rintro e w' ⟨rfl, hw⟩; obtain rfl := hw.symm; clear hw)
  | (go_at_call 34; refine (HP.out _ HX.out).mono ?_; clear HP; rintro e w1 ⟨es, rfl, hN⟩; obtain ⟨n1, n2⟩ := nbox w1 hN.out.1; have HXn := HX.out.step hN.out.2; have HB1 : Hid (Below w.heap.size w w1) := HXn.bel; have HX : Hid _ := HXn.step (bel_alloc (Below.refl _ _) (.cells es 28)); clear HXn; have RS : Hid _ := n1; have RL : Hid _ := n2 _ (heap_alloc_new w1 _); have RH : Hid _ := hlod HX.out.b0; have RC : Hid _ := clod HX.out.b1; have CN := HNo.out w1 es hN.out.1; clear n1 n2 HNo hN)
  | ((with_reducible show wpList _ _ _ ({ dst := _, op := Op.store 28 _ _, type := _, pos := _, after := _, guard := none } :: _) _ _); refine wpList_store_run rfl 28 _ _ rfl _ _ _ rfl rfl RS.out ?_)
  | ((with_reducible show wpList _ _ _ ({ dst := _, op := Op.load 28 _, type := _, pos := _, after := _, guard := none } :: _) _ _); refine wpList_load_run rfl 28 _ rfl _ _ rfl RL.out ?_)
  | ((with_reducible show wpList _ _ _ ({ dst := _, op := Op.load 30 _, type := _, pos := _, after := _, guard := none } :: _) _ _); refine wpList_load_run rfl 30 _ rfl _ _ rfl RH.out ?_)
  | ((with_reducible show wpList _ _ _ ({ dst := _, op := Op.load 34 _, type := _, pos := _, after := _, guard := none } :: _) _ _); refine wpList_load_run rfl 34 _ rfl _ _ rfl RC.out ?_)
  | (go_at_call 10; refine CN.mono ?_; clear CN; rintro e w2 ⟨es', rfl, hh⟩; obtain ⟨h1, ⟨h2, h3⟩, h4, h5⟩ := hh.out; have hq : (Instr.storeAt 28 (.pointer (some ⟨w1.heap.size, 0, none⟩)) (.agg es')).run Tryz.prog w2 = .ok () (w2.setRow w1.heap.size es') := NT_sto h1 h2 h3; have RS : Hid _ := hq; have HZ : Hid (Below w.heap.size w (w2.setRow w1.heap.size es')) := bel_row HB1.out h4; have hN3 : NT (w2.setRow w1.heap.size es') es' rt := h5; have RL : Hid _ := NT_box hN3 (setRow_heap _ _ _ _ _ _ h2); have CPr := HPr.out _ es' hN3 HZ.out; clear h1 h2 h3 h4 h5 hq hh hN3)
  | (go_at_call 35; refine CPr.mono ?_; clear CPr; rintro e w4 ⟨rfl, hb⟩; have HY : Hid _ := bel_step HZ.out hb; clear hb))
 refine bodyPost_ret (v := .tuple #[.string (⟨#[61]⟩ ++ m0), .bool true, .int .i64 0]) (by simp [results, Tryz.results16, go_sem]) rfl ?_
 exact ⟨by rw [HM.out], HY.out⟩
def C1 : Chg := ⟨⟨#[98]⟩, ⟨#[83]⟩, false, false, 2, 2, 64⟩
def C2 : Chg := ⟨⟨#[98]⟩, ⟨#[83]⟩, true, false, 0, 0, 0⟩
def H1 : Hm := ⟨⟨#[98]⟩, ⟨#[83]⟩, 1, 1⟩
def t1 : T := (parF [65, 51, 43, 66, 49]).1
def t2 : T := (parF [84, 33, 65, 49]).1
theorem p1 : parF [65, 51, 43, 66, 49] = (t1, 0) := by
 have h : (parF [65, 51, 43, 66, 49]).2 = 0 := by kernel_rfl
 unfold t1
 rw [← h]
theorem p2 : parF [84, 33, 65, 49] = (t2, 0) := by
 have h : (parF [84, 33, 65, 49]).2 = 0 := by kernel_rfl
 unfold t2
 rw [← h]
theorem z1 : zT t1 = 3 := by kernel_rfl
theorem z2 : zT t2 = 1 := by kernel_rfl
theorem r1 : rwB C1 H1 t1 = true := by kernel_rfl
theorem r2 : rwB C2 H1 t2 = false := by kernel_rfl
theorem n1 : printN (rwT C1 H1 t1) = [65, 53, 43, 66, 49] := by kernel_rfl
theorem zall1 : ((preT (rwT C1 H1 t1)).all fun x => zB x.1) = true := by kernel_rfl
theorem zt1 : ZT (rwT C1 H1 t1) := fun x hx => zB_ok (List.all_eq_true.1 zall1 x hx)
theorem home_any (w : World) : Calls Tryz.prog 23 #[] w fun e w' => e = .returned (.agg #[.string ⟨#[98]⟩, .string ⟨#[83]⟩, .int .i64 1, .int .i64 1]) ∧ Below w.heap.size w w' := by
 go_enter Tryz.func23, Tryz.ntmps23
 go_wp2
 refine bodyPost_ret (v := .agg #[.string ⟨#[98]⟩, .string ⟨#[83]⟩, .int .i64 1, .int .i64 1]) (by simp [results, Tryz.results23, go_sem]; try rfl) rfl ?_
 refine ⟨rfl, ?_⟩
 repeat (first | exact Below.refl _ _ | refine Below.drew ?_ | refine Below.setCell ?_ (by simp) _ | refine bel_alloc ?_ _)
theorem tx1 (w : World) (T : Tab9 w) : Calls Tryz.prog 16 #[.string ⟨#[61, 65, 51, 43, 66, 49]⟩, .agg #[.string ⟨#[98]⟩, .string ⟨#[83]⟩, .int .i64 1, .int .i64 1], .agg #[.string ⟨#[98]⟩, .string ⟨#[83]⟩, .bool false, .bool false, .int .i64 2, .int .i64 2, .int .i64 64]] w fun e w' => e = .returned (.tuple #[.string ⟨#[61, 65, 53, 43, 66, 49]⟩, .bool true, .int .i64 0]) ∧ Below w.heap.size w w' :=
 text_turn (C := C1) (H := H1) p1 (by rw [z1]; omega) r1 zt1 n1 (by simp) w T
theorem tx2 (w : World) (T : Tab9 w) : Calls Tryz.prog 16 #[.string ⟨#[61, 84, 33, 65, 49]⟩, .agg #[.string ⟨#[98]⟩, .string ⟨#[83]⟩, .int .i64 1, .int .i64 1], .agg #[.string ⟨#[98]⟩, .string ⟨#[83]⟩, .bool true, .bool false, .int .i64 0, .int .i64 0, .int .i64 0]] w fun e w' => e = .returned (.tuple #[.string ⟨#[61, 84, 33, 65, 49]⟩, .bool false, .int .i64 0]) ∧ Below w.heap.size w w' :=
 text_stay (C := C2) (H := H1) p2 (by rw [z2]; omega) r2 w T
theorem build_c2 (u : World) : (Instr.build 34 #[(0, .string ⟨#[98]⟩), (1, .string ⟨#[83]⟩), (2, .bool true)]).run Tryz.prog u = .ok (.agg #[.string ⟨#[98]⟩, .string ⟨#[83]⟩, .bool true, .bool false, .int .i64 0, .int .i64 0, .int .i64 0]) u := by kernel_rfl
theorem lives_any (w : World) (T : Tab9 w) : Calls Tryz.prog 9 #[] w fun e w' => e = .returned (.bool true) ∧ Below w.heap.size w w' := by
 obtain ⟨W, hW⟩ : ∃ W, W = w.alloc (.cells #[.string ⟨#[98]⟩, .string ⟨#[83]⟩, .bool false, .bool false, .int .i64 2, .int .i64 2, .int .i64 64] 34) := ⟨_, rfl⟩
 have HWe : Hid (W = w.alloc (.cells #[.string ⟨#[98]⟩, .string ⟨#[83]⟩, .bool false, .bool false, .int .i64 2, .int .i64 2, .int .i64 64] 34)) := hW
 have HB : Hid (Below w.heap.size w W) := by show Below _ _ _; rw [hW]; exact bel_alloc (Below.refl _ _) _
 have HL : Hid (∀ u, Below W.heap.size W u → (Instr.loadAt 34 (.pointer (some ⟨w.heap.size, 0, none⟩))).run Tryz.prog u = .ok (.agg #[.string ⟨#[98]⟩, .string ⟨#[83]⟩, .bool false, .bool false, .int .i64 2, .int .i64 2, .int .i64 64]) u) := fun u hu => by rw [hW] at hu; exact clod (C := C1) (new1 hu)
 have HW : Hid (Below W.heap.size W W.drew) := (Below.refl _ _).drew
 have TX1 : Hid (∀ u, Below w.heap.size w u → Calls Tryz.prog 16 #[.string ⟨#[61, 65, 51, 43, 66, 49]⟩, .agg #[.string ⟨#[98]⟩, .string ⟨#[83]⟩, .int .i64 1, .int .i64 1], .agg #[.string ⟨#[98]⟩, .string ⟨#[83]⟩, .bool false, .bool false, .int .i64 2, .int .i64 2, .int .i64 64]] u fun e w' => e = .returned (.tuple #[.string ⟨#[61, 65, 53, 43, 66, 49]⟩, .bool true, .int .i64 0]) ∧ Below u.heap.size u w') := fun u hu => tx1 u (T.below hu)
 have TX2 : Hid (∀ u, Below w.heap.size w u → Calls Tryz.prog 16 #[.string ⟨#[61, 84, 33, 65, 49]⟩, .agg #[.string ⟨#[98]⟩, .string ⟨#[83]⟩, .int .i64 1, .int .i64 1], .agg #[.string ⟨#[98]⟩, .string ⟨#[83]⟩, .bool true, .bool false, .int .i64 0, .int .i64 0, .int .i64 0]] u fun e w' => e = .returned (.tuple #[.string ⟨#[61, 84, 33, 65, 49]⟩, .bool false, .int .i64 0]) ∧ Below w.heap.size w w') := fun u hu => (tx2 u (T.below hu)).mono fun e w' hh => ⟨hh.1, bel_step hu hh.2⟩
 have HH : Hid (∀ u, Below w.heap.size w u → Calls Tryz.prog 23 #[] u fun e w' => e = .returned (.agg #[.string ⟨#[98]⟩, .string ⟨#[83]⟩, .int .i64 1, .int .i64 1]) ∧ Below w.heap.size w w') := fun u hu => (home_any u).mono fun e w' hh => ⟨hh.1, bel_step hu hh.2⟩
 have RB2 := build_c2
 clear T hW
 go_enter Tryz.func9, Tryz.ntmps9
 go_upto_region 2 with fail
 rw [← HWe.out]
 refine wp_region_d (fun u => Below W.heap.size W u) (fun j => false) (by kernel_rfl) ?_
 refine dwl 1 (.agg #[.string ⟨#[98]⟩, .string ⟨#[83]⟩, .bool false, .bool false, .int .i64 2, .int .i64 2, .int .i64 64]) (hS := HW.out) (hy := (fun u hSu => exec_load_run rfl rfl (HL.out u hSu))) (h := ?_)
 refine wpAnyD_one (i := 0) (by kernel_rfl) rfl ?_
 intro K' hK'
 go_simp
 refine (home_any _).mono ?_
 rintro e w2 ⟨rfl, hb⟩
 have hb2 := bel_step HW.out hb
 refine hK' _ _ (.inr fun _ => hb2) ?_
 clear hK' hb
 try simp only [Act.put, List.setIfInBounds_toArray, List.set_cons_zero, List.set_cons_succ]
 refine wpAnyD_one (i := 2) (by kernel_rfl) rfl ?_
 intro K' hK'
 go_simp
 refine (TX1.out _ (bel_step HB.out hb2)).mono ?_
 rintro e w3 ⟨rfl, hb⟩
 have hb3 := bel_step hb2 hb
 refine hK' _ _ (.inr fun _ => hb3) ?_
 clear hK' hb
 try simp only [Act.put, List.setIfInBounds_toArray, List.set_cons_zero, List.set_cons_succ]
 refine dwp 3 (.tuple #[.string ⟨#[61, 65, 53, 43, 66, 49]⟩, .bool true, .int .i64 0]) (h := ?_)
 refine dwp 4 (.string ⟨#[61, 65, 53, 43, 66, 49]⟩) (h := ?_)
 refine dwp 5 (.bool true) (h := ?_)
 refine dwp 6 (.int .i64 0) (h := ?_)
 refine dwp 7 (.string ⟨#[61, 65, 53, 43, 66, 49]⟩) (h := ?_)
 refine dwp 8 (.bool true) (h := ?_)
 refine dwp 9 (.int .i64 0) (h := ?_)
 refine wpAnyD_done (by kernel_rfl) ?_ _
 have HX : Hid (Below w.heap.size w w3) := bel_step HB.out hb3
 clear hb2 hb3 HL HW HB HWe TX1
 go_wp2_with (first
  | (go_at_call 23; refine (HH.out _ HX.out).mono ?_; clear HH; rintro e w4 ⟨rfl, hb⟩; have HX : Hid _ := hb; clear hb)
  | ((with_reducible show wpList _ _ _ ({ dst := _, op := Op.build 34 _, type := _, pos := _, after := _, guard := none } :: _) _ _); refine wpList_build_run rfl 34 _ rfl _ _ rfl (RB2 _) ?_)
  | (go_at_call 16; refine (TX2.out _ HX.out).mono ?_; clear TX2; rintro e w5 ⟨rfl, hb⟩; have HX : Hid _ := hb; clear hb))
 go_ret
 exact ⟨rfl, HX.out⟩
end Go.Proofs.YtljmklbbngpllaaGreatDoor.Rw
namespace Go.Proofs.YtljmklbbngpllaaGreatDoor.Rw
open Go.RowKit Go.Fm
def WithC (C : Chg) (H : Hm) (fv : Array Value) (t : T) : Prop := ∀ (K : Nat → Prop) (w : World) (es : Array Value), NK K w es t → (∀ i, K i → i < w.heap.size) → Calls Tryz.prog 31 #[.agg fv, .agg es] w fun e w' => e = .returned (.bool (nmT C H t)) ∧ Below w.heap.size w w'
def noHit (C : Chg) (H : Hm) (f : F) (k : Nat) : Prop := ((kids f).take k).any (nmT C H) = false
theorem index_nd {C : Chg} {H : Hm} {fv : Array Value} {f : F} (ih : ∀ s ∈ kids f, WithC C H fv s) {K : Nat → Prop} {w : World} {p : Option Addr} {n c : Nat} (h : SK K w p n f) (hK : ∀ i, K i → i < w.heap.size) (hn : n ≤ 900) :
  Calls Tryz.prog 74 #[.slice p n c, .func (.func 31) #[.agg fv] #[]] w fun e w' => ∃ r : Int, e = .returned (.int .i64 r) ∧ (decide (0 ≤ r) = (kids f).any (nmT C H)) ∧ Below w.heap.size w w' := by
 have HI : Hid (∀ s ∈ kids f, WithC C H fv s) := ih
 have HSK : Hid (SK K w p n f) := h
 have HKK : Hid (∀ i, K i → i < w.heap.size) := hK
 have HNn : Hid (n = (kids f).length) := h.1
 clear h hK ih
 go_enter Tryz.func74, Tryz.ntmps74
 go_wp2
 go_loopw [8] (fun i wr => ∃ k : Nat, k ≤ n ∧ i = .int .i64 (k : Nat) ∧ Hid (noHit C H f k) ∧ Hid (Below w.heap.size w wr)) (fun i _ => n - (intOf i).toNat)
 case atStart => exact ⟨0, Nat.zero_le _, rfl, rfl, Below.refl _ _⟩
 case round =>
  obtain ⟨k, hk, rfl, HH, HB⟩ := hrel
  by_cases hlt : k < n
  ·have hki : (k : Int) < n := by omega
   obtain ⟨a, es, s, rfl, RL, HS, hN⟩ := (HSK.out.grown (grown_below (row := none) HB.out) (fun g e => by cases e)).get k hlt
   have RLh : Hid _ := RL
   have CW := HI.out s (List.mem_of_getElem? HS) K wr es hN (fun i hi => by have := HKK.out i hi; have := HB.out.size; omega)
   have HT : Hid (∀ b, nmT C H s = b → (b = false → noHit C H f (k + 1)) ∧ (b = true → (kids f).any (nmT C H) = true)) := fun b hb => by
    subst hb
    refine ⟨fun e => ?_, fun e => List.any_eq_true.2 ⟨s, List.mem_of_getElem? HS, e⟩⟩
    have hh := HH.out
    unfold noHit at hh ⊢
    rw [List.take_add_one, HS, List.any_append, hh]
    simp [e]
   clear hN RL HS
   generalize nmT C H s = b at *
   obtain ⟨t0, t1⟩ := HT.out b rfl
   clear HT
   cases b
   ·have HN1 : Hid _ := t0 rfl
    clear t0 t1
    go_wp2_with (first
     | ((with_reducible show wpList _ _ _ ({ dst := _, op := Op.load 28 _, type := _, pos := _, after := _, guard := none } :: _) _ _); refine wpList_load_run rfl 28 _ rfl _ _ rfl RLh.out ?_; clear RLh)
     | (go_at_call 31; refine CW.mono ?_; clear CW; rintro e w3 ⟨rfl, hb⟩; have HB3 : Hid _ := bel_step HB.out hb; clear hb))
    go_roundw
    case rel => exact ⟨k + 1, by omega, by go_num, HN1, HB3⟩
    case measure => simp [intOf]; omega
   ·have HN1 : Hid _ := t1 rfl
    clear t0 t1
    go_wp2_with (first
     | ((with_reducible show wpList _ _ _ ({ dst := _, op := Op.load 28 _, type := _, pos := _, after := _, guard := none } :: _) _ _); refine wpList_load_run rfl 28 _ rfl _ _ rfl RLh.out ?_; clear RLh)
     | (go_at_call 31; refine CW.mono ?_; clear CW; rintro e w3 ⟨rfl, hb⟩; have HB3 : Hid _ := bel_step HB.out hb; clear hb))
    go_ret
    exact ⟨_, rfl, by rw [HN1.out]; simp, HB3.out⟩
  ·have hki : ¬ (k : Int) < n := by omega
   have HE : Hid ((kids f).any (nmT C H) = false) := by
    have hh := HH.out
    unfold noHit at hh
    rwa [List.take_of_length_le (by have := HNn.out; omega)] at hh
   go_wp2
   go_ret
   exact ⟨_, rfl, by rw [HE.out]; simp, HB.out⟩
theorem contains_nd {C : Chg} {H : Hm} {fv : Array Value} {f : F} (ih : ∀ s ∈ kids f, WithC C H fv s) {K : Nat → Prop} {w : World} {p : Option Addr} {n c : Nat} (h : SK K w p n f) (hK : ∀ i, K i → i < w.heap.size) (hn : n ≤ 900) :
  Calls Tryz.prog 53 #[.slice p n c, .func (.func 31) #[.agg fv] #[]] w fun e w' => e = .returned (.bool (nmF C H f)) ∧ Below w.heap.size w w' := by
 have CI := index_nd (c := c) ih h hK hn
 rw [nmF_kids]
 generalize (kids f).any (nmT C H) = b at *
 clear ih h hK
 go_enter Tryz.func53, Tryz.ntmps53
 go_wp2_with (go_at_call 74; refine CI.mono ?_; clear CI; rintro e w3 ⟨r, rfl, hr, hb⟩; have HB3 : Hid _ := hb; clear hb)
 all_goals (go_ret; exact ⟨by rw [← hr]; first | rfl | (simp; omega), HB3.out⟩)
theorem within_any (C : Chg) (H : Hm) (rf af : Value) : ∀ t : T, zT t ≤ 900 → WithC C H (folA C.bk C.sh H.hb H.hs H.hr H.hc rf af) t := by
 refine ind ?_
 intro t ih hz K w es h hK
 have hkl := kids_le t
 have ih' : ∀ s ∈ kids t.2, WithC C H (folA C.bk C.sh H.hb H.hs H.hr H.hc rf af) s := fun s hs => ih s hs (by have := zT_kid hs; omega)
 have hN := h
 obtain ⟨p, n, c, rfl, hs⟩ := h
 have hn900 : n ≤ 900 := by have := hs.1; omega
 have NA : ∀ u, Calls Tryz.prog 46 #[.agg (folA C.bk C.sh H.hb H.hs H.hr H.hc rf af), .agg (lcs t.1 (.slice p n c))] u fun e w' => e = .returned (.bool (nm C H t.1)) ∧ Below u.heap.size u w' := fun u => names_any C.bk C.sh H.hb H.hs H.hr H.hc rf af t.1 (.slice p n c) u
 have hsz : (folA C.bk C.sh H.hb H.hs H.hr H.hc rf af).size = 8 := rfl
 have hbx : (lcs t.1 (.slice p n c)).size = 18 := rfl
 generalize folA C.bk C.sh H.hb H.hs H.hr H.hc rf af = fv at *
 obtain ⟨W, hW⟩ : ∃ W, W = (w.alloc (.cells fv 64)).alloc (.cells (lcs t.1 (.slice p n c)) 28) := ⟨_, rfl⟩
 have HB0 : Below w.heap.size w W := by rw [hW]; exact bel_alloc (bel_alloc (Below.refl _ _) _) _
 have HN : Hid (∀ u, Below W.heap.size W u → u.heap[w.heap.size]? = some (.cells fv 64) ∧ u.heap[w.heap.size + 1]? = some (.cells (lcs t.1 (.slice p n c)) 28) ∧ Below w.heap.size w u) := fun u hu => by
  have hu0 := hu
  rw [hW] at hu
  obtain ⟨q0, q1⟩ := new2 hu
  exact ⟨q0, q1, bel_step HB0 hu0⟩
 have HW : Hid (Below W.heap.size W W) := Below.refl _ _
 have HL : Hid (∀ u, Below W.heap.size W u → (Instr.loadAt 64 (.pointer (some ⟨w.heap.size, 0, none⟩))).run Tryz.prog u = .ok (.agg fv) u ∧ (Instr.loadAt 28 (.pointer (some ⟨w.heap.size + 1, 0, none⟩))).run Tryz.prog u = .ok (.agg (lcs t.1 (.slice p n c))) u ∧ (Instr.loadAt 26 (.pointer (some ⟨w.heap.size + 1, 17, none⟩))).run Tryz.prog u = .ok (.slice p n c) u) := fun u hu => ⟨flod (HN.out u hu).1 hsz, lod (HN.out u hu).2.1 rfl Tryz.underlying28 (by rw [hbx]; exact inf28), ld26 (cell17 (HN.out u hu).2.1)⟩
 have HCN : Hid (∀ u, Below W.heap.size W u → Calls Tryz.prog 53 #[.slice p n c, .func (.func 31) #[.agg fv] #[]] u fun e w' => e = .returned (.bool (nmF C H t.2)) ∧ Below W.heap.size W w') := fun u hu => (contains_nd (c := c) ih' ((show SK K w p n t.2 from hs).grown (grown_below (row := none) (HN.out u hu).2.2) (fun g e => by cases e)) (fun i hi => by have := hK i hi; have := (HN.out u hu).2.2.size; omega) hn900).mono fun e w' hh => ⟨hh.1, bel_step hu hh.2⟩
 have HWe : Hid (W = (w.alloc (.cells fv 64)).alloc (.cells (lcs t.1 (.slice p n c)) 28)) := hW
 have HNA : Hid (∀ u, Below W.heap.size W u → Calls Tryz.prog 46 #[.agg fv, .agg (lcs t.1 (.slice p n c))] u fun e w' => e = .returned (.bool (nm C H t.1)) ∧ Below W.heap.size W w') := fun u hu => (NA u).mono fun e w' hh => ⟨hh.1, bel_step hu hh.2⟩
 have HQ : nmT C H t = (nm C H t.1 || nmF C H t.2) := rfl
 rw [HQ]
 clear ih ih' hs hN hK hW HB0 NA hkl HQ
 generalize nmF C H t.2 = nb2 at *
 generalize lcs t.1 (.slice p n c) = bx at *
 have hWx := HWe.out
 clear HWe
 cases hb : nm C H t.1
 ·rw [hb] at HNA
  have RF1 : Hid _ := (HL.out _ HW.out).1
  have RX1 : Hid _ := (HL.out _ HW.out).2.1
  subst hWx
  clear hsz hbx
  go_enter Tryz.func31, Tryz.ntmps31
  go_wp2_with (first
   | ((with_reducible show wpList _ _ _ ({ dst := _, op := Op.load 64 _, type := _, pos := _, after := _, guard := none } :: _) _ _); refine wpList_load_run rfl 64 _ rfl _ _ rfl RF1.out ?_; clear RF1)
   | ((with_reducible show wpList _ _ _ ({ dst := _, op := Op.load 28 _, type := _, pos := _, after := _, guard := none } :: _) _ _); refine wpList_load_run rfl 28 _ rfl _ _ rfl RX1.out ?_; clear RX1)
   | (refine wpList_load_g 26 _ rfl _ _ rfl RC1.out (by go_simp) ?_; clear RC1)
   | (refine wpList_load_g 64 _ rfl _ _ rfl RF1.out (by go_simp) ?_; clear RF1)
   | (go_at_call 46; refine (HNA.out _ HW.out).mono ?_; clear HNA; rintro e w2 ⟨rfl, hb2⟩; have HW2 : Hid _ := hb2; have RF1 : Hid _ := (HL.out _ hb2).1; have RC1 : Hid _ := (HL.out _ hb2).2.2; clear hb2)
   | (go_at_call 53; refine (HCN.out _ HW2.out).mono ?_; clear HCN; rintro e w3 ⟨rfl, hb2⟩; have HW2 : Hid _ := hb2; clear hb2))
  go_ret
  exact ⟨by rw [Bool.false_or]; rfl, (HN.out _ HW2.out).2.2⟩
 ·rw [hb] at HNA
  have RF1 : Hid _ := (HL.out _ HW.out).1
  have RX1 : Hid _ := (HL.out _ HW.out).2.1
  subst hWx
  clear hsz hbx
  go_enter Tryz.func31, Tryz.ntmps31
  go_wp2_with (first
   | ((with_reducible show wpList _ _ _ ({ dst := _, op := Op.load 64 _, type := _, pos := _, after := _, guard := none } :: _) _ _); refine wpList_load_run rfl 64 _ rfl _ _ rfl RF1.out ?_; clear RF1)
   | ((with_reducible show wpList _ _ _ ({ dst := _, op := Op.load 28 _, type := _, pos := _, after := _, guard := none } :: _) _ _); refine wpList_load_run rfl 28 _ rfl _ _ rfl RX1.out ?_; clear RX1)
   | (refine wpList_load_g 26 _ rfl _ _ rfl RC1.out (by go_simp) ?_; clear RC1)
   | (refine wpList_load_g 64 _ rfl _ _ rfl RF1.out (by go_simp) ?_; clear RF1)
   | (go_at_call 46; refine (HNA.out _ HW.out).mono ?_; clear HNA; rintro e w2 ⟨rfl, hb2⟩; have HW2 : Hid _ := hb2; have RF1 : Hid _ := (HL.out _ hb2).1; have RC1 : Hid _ := (HL.out _ hb2).2.2; clear hb2)
   | (go_at_call 53; refine (HCN.out _ HW2.out).mono ?_; clear HCN; rintro e w3 ⟨rfl, hb2⟩; have HW2 : Hid _ := hb2; clear hb2))
  go_ret
  exact ⟨by rw [Bool.true_or]; rfl, (HN.out _ HW2.out).2.2⟩
theorem rwnames_any (C : Chg) (H : Hm) {K : Nat → Prop} {t : T} (hz : zT t ≤ 900) {w : World} {es : Array Value} (h : NK K w es t) (hK : ∀ i, K i → i < w.heap.size) :
  Calls Tryz.prog 14 #[.agg es, hmV H, .agg (chgC C)] w fun e w' => e = .returned (.bool (nmT C H t)) ∧ Below w.heap.size w w' := by
 have hs18 := h.size
 obtain ⟨W, hW⟩ : ∃ W, W = ((w.alloc (.cells es 28)).alloc (plcO H.hb H.hs H.hr H.hc)).alloc (.cells (chgC C) 34) := ⟨_, rfl⟩
 have HB0 : Below w.heap.size w W := by rw [hW]; exact bel_alloc (bel_alloc (bel_alloc (Below.refl _ _) _) _) _
 have HN : Hid (∀ u, Below W.heap.size W u → (u.heap[w.heap.size]? = some (.cells es 28) ∧ u.heap[w.heap.size + 1]? = some (plcO H.hb H.hs H.hr H.hc) ∧ u.heap[w.heap.size + 2]? = some (.cells (chgC C) 34)) ∧ Below w.heap.size w u) := fun u hu => by
  have hu0 := hu
  rw [hW] at hu
  exact ⟨new3 hu, bel_step HB0 hu0⟩
 have HW : Hid (Below W.heap.size W W.drew) := (Below.refl _ _).drew
 have HL : Hid (∀ u, Below W.heap.size W u → (Instr.loadAt 28 (.pointer (some ⟨w.heap.size, 0, none⟩))).run Tryz.prog u = .ok (.agg es) u) := fun u hu => lod (HN.out u hu).1.1 rfl Tryz.underlying28 (by rw [hs18]; exact inf28)
 have HFo : Hid (∀ u, Below W.heap.size W u → Calls Tryz.prog 24 #[.agg (chgC C), hmV H] u fun e w' => ∃ g, e = .returned (.agg (folV C H g)) ∧ Below W.heap.size W w') := fun u hu => (follow_any C H u).mono fun e w' ⟨g, h1, _, h3⟩ => ⟨g, h1, bel_step hu h3⟩
 have HNo : Hid (∀ u g, Below W.heap.size W u → Calls Tryz.prog 31 #[.agg (folV C H g), .agg es] u fun e w' => e = .returned (.bool (nmT C H t)) ∧ Below W.heap.size W w') := fun u g hu => (within_any C H (refFn C g) (areaFn C g) t hz K u es (h.below (HN.out u hu).2) (fun i hi => by have := hK i hi; have := (HN.out u hu).2.size; omega)).mono fun e w' hh => ⟨hh.1, bel_step hu hh.2⟩
 have HWe : Hid (W = ((w.alloc (.cells es 28)).alloc (plcO H.hb H.hs H.hr H.hc)).alloc (.cells (chgC C) 34)) := hW
 clear h hK HB0 hW
 generalize nmT C H t = rb at *
 go_enter Tryz.func14, Tryz.ntmps14
 go_upto_region 1 with fail
 rw [← HWe.out]
 refine wp_region_d (fun u => Below W.heap.size W u) (fun j => false) (by kernel_rfl) ?_
 refine dwl 0 (.agg (chgC C)) (hS := HW.out) (hy := (fun u hSu => exec_load_run rfl rfl (clod (HN.out u hSu).1.2.2))) (h := ?_)
 refine dwl 1 (hmV H) (hS := HW.out) (hy := (fun u hSu => exec_load_run rfl rfl (hlod (HN.out u hSu).1.2.1))) (h := ?_)
 refine dwl 3 (.agg es) (hS := HW.out) (hy := (fun u hSu => exec_load_run rfl rfl (HL.out u hSu))) (h := ?_)
 refine wpAnyD_one (i := 2) (by kernel_rfl) rfl ?_
 intro K' hK'
 go_simp
 refine (HFo.out _ HW.out).mono ?_
 rintro e w2 ⟨g, rfl, hb⟩
 refine hK' _ _ (.inr fun _ => hb) ?_
 clear hK'
 try simp only [Act.put, List.setIfInBounds_toArray, List.set_cons_zero, List.set_cons_succ]
 have NC := HNo.out _ g hb
 generalize folV C H g = fv at *
 refine wpAnyD_one (i := 4) (by kernel_rfl) rfl ?_
 intro K' hK'
 go_simp
 refine NC.mono ?_
 rintro e w3 ⟨rfl, hb4⟩
 refine hK' _ _ (.inr fun _ => hb4) ?_
 clear hK'
 try simp only [Act.put, List.setIfInBounds_toArray, List.set_cons_zero, List.set_cons_succ]
 refine dwp 5 (.bool rb) (h := ?_)
 refine wpAnyD_done (by kernel_rfl) ?_ _
 go_wp2
 go_ret
 exact ⟨rfl, (HN.out _ hb4).2⟩
end Go.Proofs.YtljmklbbngpllaaGreatDoor.Rw
