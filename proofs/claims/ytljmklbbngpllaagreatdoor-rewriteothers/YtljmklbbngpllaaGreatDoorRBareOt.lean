/- RwLv, RwWith, RAll, RBare. -/
import Derived.Test.YtljmklbbngpllaaGreatDoorRwTextOt
set_option linter.unusedVariables false
set_option linter.unusedSimpArgs false
set_option maxHeartbeats 16000000
set_option maxRecDepth 100000
namespace Go.Proofs.YtljmklbbngpllaaGreatDoor.Rw
open Go.RowKit Go.Fm Go.Tk
def C1 : Chg := ⟨⟨#[98]⟩, ⟨#[83]⟩, false, false, 2, 2, 64⟩
def C2 : Chg := ⟨⟨#[98]⟩, ⟨#[83]⟩, true, false, 0, 0, 0⟩
def H1 : Hm := ⟨⟨#[98]⟩, ⟨#[83]⟩, 1, 1⟩
def t1 : T := (parF [65, 51, 43, 66, 49]).1
def t2 : T := (parF [84, 33, 65, 49]).1
theorem p1 : parF [65, 51, 43, 66, 49] = (t1, 0) := by
 have h : (parF [65, 51, 43, 66, 49]).2 = 0 := by kernel_rfl
 unfold t1
 rw [← h]
theorem p2 : parF [84, 33, 65, 49] = (t2, 0) := by
 have h : (parF [84, 33, 65, 49]).2 = 0 := by kernel_rfl
 unfold t2
 rw [← h]
theorem z1 : zT t1 = 3 := by kernel_rfl
theorem z2 : zT t2 = 1 := by kernel_rfl
theorem r1 : rwB C1 H1 t1 = true := by kernel_rfl
theorem r2 : rwB C2 H1 t2 = false := by kernel_rfl
theorem n1 : printN (rwT C1 H1 t1) = [65, 53, 43, 66, 49] := by kernel_rfl
theorem zall1 : ((preT (rwT C1 H1 t1)).all fun x => zB x.1) = true := by kernel_rfl
theorem zt1 : ZT (rwT C1 H1 t1) := fun x hx => zB_ok (List.all_eq_true.1 zall1 x hx)
theorem home_any (w : World) : Calls Tryz.prog 23 #[] w fun e w' => e = .returned (.agg #[.string ⟨#[98]⟩, .string ⟨#[83]⟩, .int .i64 1, .int .i64 1]) ∧ Below w.heap.size w w' := by
 go_enter Tryz.func23, Tryz.ntmps23
 go_wp2
 refine bodyPost_ret (v := .agg #[.string ⟨#[98]⟩, .string ⟨#[83]⟩, .int .i64 1, .int .i64 1]) (by simp [results, Tryz.results23, go_sem]; try rfl) rfl ?_
 refine ⟨rfl, ?_⟩
 repeat (first | exact Below.refl _ _ | refine Below.drew ?_ | refine Below.setCell ?_ (by simp) _ | refine bel_alloc ?_ _)
theorem tx1 (w : World) (T : Tab9 w) : Calls Tryz.prog 16 #[.string ⟨#[61, 65, 51, 43, 66, 49]⟩, .agg #[.string ⟨#[98]⟩, .string ⟨#[83]⟩, .int .i64 1, .int .i64 1], .agg #[.string ⟨#[98]⟩, .string ⟨#[83]⟩, .bool false, .bool false, .int .i64 2, .int .i64 2, .int .i64 64]] w fun e w' => e = .returned (.tuple #[.string ⟨#[61, 65, 53, 43, 66, 49]⟩, .bool true, .int .i64 0]) ∧ Below w.heap.size w w' :=
 text_turn (C := C1) (H := H1) p1 (by rw [z1]; omega) r1 zt1 n1 (by simp) w T
theorem tx2 (w : World) (T : Tab9 w) : Calls Tryz.prog 16 #[.string ⟨#[61, 84, 33, 65, 49]⟩, .agg #[.string ⟨#[98]⟩, .string ⟨#[83]⟩, .int .i64 1, .int .i64 1], .agg #[.string ⟨#[98]⟩, .string ⟨#[83]⟩, .bool true, .bool false, .int .i64 0, .int .i64 0, .int .i64 0]] w fun e w' => e = .returned (.tuple #[.string ⟨#[61, 84, 33, 65, 49]⟩, .bool false, .int .i64 0]) ∧ Below w.heap.size w w' :=
 text_stay (C := C2) (H := H1) p2 (by rw [z2]; omega) r2 w T
theorem build_c2 (u : World) : (Instr.build 34 #[(0, .string ⟨#[98]⟩), (1, .string ⟨#[83]⟩), (2, .bool true)]).run Tryz.prog u = .ok (.agg #[.string ⟨#[98]⟩, .string ⟨#[83]⟩, .bool true, .bool false, .int .i64 0, .int .i64 0, .int .i64 0]) u := by kernel_rfl
theorem lives_any (w : World) (T : Tab9 w) : Calls Tryz.prog 9 #[] w fun e w' => e = .returned (.bool true) ∧ Below w.heap.size w w' := by
 obtain ⟨W, hW⟩ : ∃ W, W = w.alloc (.cells #[.string ⟨#[98]⟩, .string ⟨#[83]⟩, .bool false, .bool false, .int .i64 2, .int .i64 2, .int .i64 64] 34) := ⟨_, rfl⟩
 have HWe : Hid (W = w.alloc (.cells #[.string ⟨#[98]⟩, .string ⟨#[83]⟩, .bool false, .bool false, .int .i64 2, .int .i64 2, .int .i64 64] 34)) := hW
 have HB : Hid (Below w.heap.size w W) := by show Below _ _ _; rw [hW]; exact bel_alloc (Below.refl _ _) _
 have HL : Hid (∀ u, Below W.heap.size W u → (Instr.loadAt 34 (.pointer (some ⟨w.heap.size, 0, none⟩))).run Tryz.prog u = .ok (.agg #[.string ⟨#[98]⟩, .string ⟨#[83]⟩, .bool false, .bool false, .int .i64 2, .int .i64 2, .int .i64 64]) u) := fun u hu => by rw [hW] at hu; exact clod (C := C1) (new1 hu)
 have HW : Hid (Below W.heap.size W W.drew) := (Below.refl _ _).drew
 have TX1 : Hid (∀ u, Below w.heap.size w u → Calls Tryz.prog 16 #[.string ⟨#[61, 65, 51, 43, 66, 49]⟩, .agg #[.string ⟨#[98]⟩, .string ⟨#[83]⟩, .int .i64 1, .int .i64 1], .agg #[.string ⟨#[98]⟩, .string ⟨#[83]⟩, .bool false, .bool false, .int .i64 2, .int .i64 2, .int .i64 64]] u fun e w' => e = .returned (.tuple #[.string ⟨#[61, 65, 53, 43, 66, 49]⟩, .bool true, .int .i64 0]) ∧ Below u.heap.size u w') := fun u hu => tx1 u (T.below hu)
 have TX2 : Hid (∀ u, Below w.heap.size w u → Calls Tryz.prog 16 #[.string ⟨#[61, 84, 33, 65, 49]⟩, .agg #[.string ⟨#[98]⟩, .string ⟨#[83]⟩, .int .i64 1, .int .i64 1], .agg #[.string ⟨#[98]⟩, .string ⟨#[83]⟩, .bool true, .bool false, .int .i64 0, .int .i64 0, .int .i64 0]] u fun e w' => e = .returned (.tuple #[.string ⟨#[61, 84, 33, 65, 49]⟩, .bool false, .int .i64 0]) ∧ Below w.heap.size w w') := fun u hu => (tx2 u (T.below hu)).mono fun e w' hh => ⟨hh.1, bel_step hu hh.2⟩
 have HH : Hid (∀ u, Below w.heap.size w u → Calls Tryz.prog 23 #[] u fun e w' => e = .returned (.agg #[.string ⟨#[98]⟩, .string ⟨#[83]⟩, .int .i64 1, .int .i64 1]) ∧ Below w.heap.size w w') := fun u hu => (home_any u).mono fun e w' hh => ⟨hh.1, bel_step hu hh.2⟩
 have RB2 := build_c2
 clear T hW
 go_enter Tryz.func9, Tryz.ntmps9
 go_upto_region 2 with fail
 rw [← HWe.out]
 refine wp_region_d (fun u => Below W.heap.size W u) (fun j => false) (by kernel_rfl) ?_
 refine dwl 1 (.agg #[.string ⟨#[98]⟩, .string ⟨#[83]⟩, .bool false, .bool false, .int .i64 2, .int .i64 2, .int .i64 64]) ?_ (hS := HW.out) (hy := (fun u hSu => exec_load_run rfl rfl (HL.out u hSu)))
 refine wpAnyD_one (i := 0) (by kernel_rfl) rfl ?_
 intro K' hK'
 go_simp
 refine (home_any _).mono ?_
 rintro e w2 ⟨rfl, hb⟩
 have hb2 := bel_step HW.out hb
 refine hK' _ _ (.inr fun _ => hb2) ?_
 clear hK' hb
 try simp only [Act.put, List.setIfInBounds_toArray, List.set_cons_zero, List.set_cons_succ]
 refine wpAnyD_one (i := 2) (by kernel_rfl) rfl ?_
 intro K' hK'
 go_simp
 refine (TX1.out _ (bel_step HB.out hb2)).mono ?_
 rintro e w3 ⟨rfl, hb⟩
 have hb3 := bel_step hb2 hb
 refine hK' _ _ (.inr fun _ => hb3) ?_
 clear hK' hb
 try simp only [Act.put, List.setIfInBounds_toArray, List.set_cons_zero, List.set_cons_succ]
 refine dwp 3 (.tuple #[.string ⟨#[61, 65, 53, 43, 66, 49]⟩, .bool true, .int .i64 0]) ?_
 refine dwp 4 (.string ⟨#[61, 65, 53, 43, 66, 49]⟩) ?_
 refine dwp 5 (.bool true) ?_
 refine dwp 6 (.int .i64 0) ?_
 refine dwp 7 (.string ⟨#[61, 65, 53, 43, 66, 49]⟩) ?_
 refine dwp 8 (.bool true) ?_
 refine dwp 9 (.int .i64 0) ?_
 refine wpAnyD_done (by kernel_rfl) ?_ _
 have HX : Hid (Below w.heap.size w w3) := bel_step HB.out hb3
 clear hb2 hb3 HL HW HB HWe TX1
 go_wp2_with (first
  | (go_at_call 23; refine (HH.out _ HX.out).mono ?_; clear HH; rintro e w4 ⟨rfl, hb⟩; have HX : Hid _ := hb; clear hb)
  | ((with_reducible show wpList _ _ _ ({ dst := _, op := Op.build 34 _, type := _, pos := _, after := _, guard := none } :: _) _ _); refine wpList_build_run rfl 34 _ rfl _ _ rfl (RB2 _) ?_)
  | (go_at_call 16; refine (TX2.out _ HX.out).mono ?_; clear TX2; rintro e w5 ⟨rfl, hb⟩; have HX : Hid _ := hb; clear hb))
 go_ret
 exact ⟨rfl, HX.out⟩
end Go.Proofs.YtljmklbbngpllaaGreatDoor.Rw
namespace Go.Proofs.YtljmklbbngpllaaGreatDoor.Rw
open Go.RowKit Go.Fm
def WithC (C : Chg) (H : Hm) (fv : Array Value) (t : T) : Prop := ∀ (K : Nat → Prop) (w : World) (es : Array Value), NK K w es t → (∀ i, K i → i < w.heap.size) → Calls Tryz.prog 31 #[.agg fv, .agg es] w fun e w' => e = .returned (.bool (nmT C H t)) ∧ Below w.heap.size w w'
def noHit (C : Chg) (H : Hm) (f : F) (k : Nat) : Prop := ((kids f).take k).any (nmT C H) = false
theorem index_nd {C : Chg} {H : Hm} {fv : Array Value} {f : F} (ih : ∀ s ∈ kids f, WithC C H fv s) {K : Nat → Prop} {w : World} {p : Option Addr} {n c : Nat} (h : SK K w p n f) (hK : ∀ i, K i → i < w.heap.size) (hn : n ≤ 900) :
  Calls Tryz.prog 74 #[.slice p n c, .func (.func 31) #[.agg fv] #[]] w fun e w' => ∃ r : Int, e = .returned (.int .i64 r) ∧ (decide (0 ≤ r) = (kids f).any (nmT C H)) ∧ Below w.heap.size w w' := by
 have HI : Hid (∀ s ∈ kids f, WithC C H fv s) := ih
 have HSK : Hid (SK K w p n f) := h
 have HKK : Hid (∀ i, K i → i < w.heap.size) := hK
 have HNn : Hid (n = (kids f).length) := h.1
 clear h hK ih
 go_enter Tryz.func74, Tryz.ntmps74
 go_wp2
 go_loopw [8] (fun i wr => ∃ k : Nat, k ≤ n ∧ i = .int .i64 (k : Nat) ∧ Hid (noHit C H f k) ∧ Hid (Below w.heap.size w wr)) (fun i _ => n - (intOf i).toNat)
 case atStart => exact ⟨0, Nat.zero_le _, rfl, rfl, Below.refl _ _⟩
 case round =>
  obtain ⟨k, hk, rfl, HH, HB⟩ := hrel
  by_cases hlt : k < n
  ·have hki : (k : Int) < n := by omega
   obtain ⟨a, es, s, rfl, RL, HS, hN⟩ := (HSK.out.grown (grown_below (row := none) HB.out) (fun g e => by cases e)).get k hlt
   have RLh : Hid _ := RL
   have CW := HI.out s (List.mem_of_getElem? HS) K wr es hN (fun i hi => by have := HKK.out i hi; have := HB.out.size; omega)
   have HT : Hid (∀ b, nmT C H s = b → (b = false → noHit C H f (k + 1)) ∧ (b = true → (kids f).any (nmT C H) = true)) := fun b hb => by
    subst hb
    refine ⟨fun e => ?_, fun e => List.any_eq_true.2 ⟨s, List.mem_of_getElem? HS, e⟩⟩
    have hh := HH.out
    unfold noHit at hh ⊢
    rw [List.take_add_one, HS, List.any_append, hh]
    simp [e]
   clear hN RL HS
   generalize nmT C H s = b at *
   obtain ⟨t0, t1⟩ := HT.out b rfl
   clear HT
   cases b
   ·have HN1 : Hid _ := t0 rfl
    clear t0 t1
    go_wp2_with (first
     | ((with_reducible show wpList _ _ _ ({ dst := _, op := Op.load 28 _, type := _, pos := _, after := _, guard := none } :: _) _ _); refine wpList_load_run rfl 28 _ rfl _ _ rfl RLh.out ?_; clear RLh)
     | (go_at_call 31; refine CW.mono ?_; clear CW; rintro e w3 ⟨rfl, hb⟩; have HB3 : Hid _ := bel_step HB.out hb; clear hb))
    go_roundw
    case rel => exact ⟨k + 1, by omega, by go_num, HN1, HB3⟩
    case measure => simp [intOf]; omega
   ·have HN1 : Hid _ := t1 rfl
    clear t0 t1
    go_wp2_with (first
     | ((with_reducible show wpList _ _ _ ({ dst := _, op := Op.load 28 _, type := _, pos := _, after := _, guard := none } :: _) _ _); refine wpList_load_run rfl 28 _ rfl _ _ rfl RLh.out ?_; clear RLh)
     | (go_at_call 31; refine CW.mono ?_; clear CW; rintro e w3 ⟨rfl, hb⟩; have HB3 : Hid _ := bel_step HB.out hb; clear hb))
    go_ret
    exact ⟨_, rfl, by rw [HN1.out]; simp, HB3.out⟩
  ·have hki : ¬ (k : Int) < n := by omega
   have HE : Hid ((kids f).any (nmT C H) = false) := by
    have hh := HH.out
    unfold noHit at hh
    rwa [List.take_of_length_le (by have := HNn.out; omega)] at hh
   go_wp2
   go_ret
   exact ⟨_, rfl, by rw [HE.out]; simp, HB.out⟩
theorem contains_nd {C : Chg} {H : Hm} {fv : Array Value} {f : F} (ih : ∀ s ∈ kids f, WithC C H fv s) {K : Nat → Prop} {w : World} {p : Option Addr} {n c : Nat} (h : SK K w p n f) (hK : ∀ i, K i → i < w.heap.size) (hn : n ≤ 900) :
  Calls Tryz.prog 53 #[.slice p n c, .func (.func 31) #[.agg fv] #[]] w fun e w' => e = .returned (.bool (nmF C H f)) ∧ Below w.heap.size w w' := by
 have CI := index_nd (c := c) ih h hK hn
 rw [nmF_kids]
 generalize (kids f).any (nmT C H) = b at *
 clear ih h hK
 go_enter Tryz.func53, Tryz.ntmps53
 go_wp2_with (go_at_call 74; refine CI.mono ?_; clear CI; rintro e w3 ⟨r, rfl, hr, hb⟩; have HB3 : Hid _ := hb; clear hb)
 all_goals (go_ret; exact ⟨by rw [← hr]; first | rfl | (simp; omega), HB3.out⟩)
theorem within_any (C : Chg) (H : Hm) (rf af : Value) : ∀ t : T, zT t ≤ 900 → WithC C H (folA C.bk C.sh H.hb H.hs H.hr H.hc rf af) t := by
 refine ind ?_
 intro t ih hz K w es h hK
 have hkl := kids_le t
 have ih' : ∀ s ∈ kids t.2, WithC C H (folA C.bk C.sh H.hb H.hs H.hr H.hc rf af) s := fun s hs => ih s hs (by have := zT_kid hs; omega)
 have hN := h
 obtain ⟨p, n, c, rfl, hs⟩ := h
 have hn900 : n ≤ 900 := by have := hs.1; omega
 have NA : ∀ u, Calls Tryz.prog 46 #[.agg (folA C.bk C.sh H.hb H.hs H.hr H.hc rf af), .agg (lcs t.1 (.slice p n c))] u fun e w' => e = .returned (.bool (nm C H t.1)) ∧ Below u.heap.size u w' := fun u => names_any C.bk C.sh H.hb H.hs H.hr H.hc rf af t.1 (.slice p n c) u
 have hsz : (folA C.bk C.sh H.hb H.hs H.hr H.hc rf af).size = 8 := rfl
 have hbx : (lcs t.1 (.slice p n c)).size = 18 := rfl
 generalize folA C.bk C.sh H.hb H.hs H.hr H.hc rf af = fv at *
 obtain ⟨W, hW⟩ : ∃ W, W = (w.alloc (.cells fv 64)).alloc (.cells (lcs t.1 (.slice p n c)) 28) := ⟨_, rfl⟩
 have HB0 : Below w.heap.size w W := by rw [hW]; exact bel_alloc (bel_alloc (Below.refl _ _) _) _
 have HN : Hid (∀ u, Below W.heap.size W u → u.heap[w.heap.size]? = some (.cells fv 64) ∧ u.heap[w.heap.size + 1]? = some (.cells (lcs t.1 (.slice p n c)) 28) ∧ Below w.heap.size w u) := fun u hu => by
  have hu0 := hu
  rw [hW] at hu
  obtain ⟨q0, q1⟩ := new2 hu
  exact ⟨q0, q1, bel_step HB0 hu0⟩
 have HW : Hid (Below W.heap.size W W) := Below.refl _ _
 have HL : Hid (∀ u, Below W.heap.size W u → (Instr.loadAt 64 (.pointer (some ⟨w.heap.size, 0, none⟩))).run Tryz.prog u = .ok (.agg fv) u ∧ (Instr.loadAt 28 (.pointer (some ⟨w.heap.size + 1, 0, none⟩))).run Tryz.prog u = .ok (.agg (lcs t.1 (.slice p n c))) u ∧ (Instr.loadAt 26 (.pointer (some ⟨w.heap.size + 1, 17, none⟩))).run Tryz.prog u = .ok (.slice p n c) u) := fun u hu => ⟨flod (HN.out u hu).1 hsz, lod (HN.out u hu).2.1 rfl Tryz.underlying28 (by rw [hbx]; exact inf28), ld26 (cell17 (HN.out u hu).2.1)⟩
 have HCN : Hid (∀ u, Below W.heap.size W u → Calls Tryz.prog 53 #[.slice p n c, .func (.func 31) #[.agg fv] #[]] u fun e w' => e = .returned (.bool (nmF C H t.2)) ∧ Below W.heap.size W w') := fun u hu => (contains_nd (c := c) ih' ((show SK K w p n t.2 from hs).grown (grown_below (row := none) (HN.out u hu).2.2) (fun g e => by cases e)) (fun i hi => by have := hK i hi; have := (HN.out u hu).2.2.size; omega) hn900).mono fun e w' hh => ⟨hh.1, bel_step hu hh.2⟩
 have HWe : Hid (W = (w.alloc (.cells fv 64)).alloc (.cells (lcs t.1 (.slice p n c)) 28)) := hW
 have HNA : Hid (∀ u, Below W.heap.size W u → Calls Tryz.prog 46 #[.agg fv, .agg (lcs t.1 (.slice p n c))] u fun e w' => e = .returned (.bool (nm C H t.1)) ∧ Below W.heap.size W w') := fun u hu => (NA u).mono fun e w' hh => ⟨hh.1, bel_step hu hh.2⟩
 have HQ : nmT C H t = (nm C H t.1 || nmF C H t.2) := rfl
 rw [HQ]
 clear ih ih' hs hN hK hW HB0 NA hkl HQ
 generalize nmF C H t.2 = nb2 at *
 generalize lcs t.1 (.slice p n c) = bx at *
 have hWx := HWe.out
 clear HWe
 cases hb : nm C H t.1
 ·rw [hb] at HNA
  have RF1 : Hid _ := (HL.out _ HW.out).1
  have RX1 : Hid _ := (HL.out _ HW.out).2.1
  subst hWx
  clear hsz hbx
  go_enter Tryz.func31, Tryz.ntmps31
  go_wp2_with (first
   | ((with_reducible show wpList _ _ _ ({ dst := _, op := Op.load 64 _, type := _, pos := _, after := _, guard := none } :: _) _ _); refine wpList_load_run rfl 64 _ rfl _ _ rfl RF1.out ?_; clear RF1)
   | ((with_reducible show wpList _ _ _ ({ dst := _, op := Op.load 28 _, type := _, pos := _, after := _, guard := none } :: _) _ _); refine wpList_load_run rfl 28 _ rfl _ _ rfl RX1.out ?_; clear RX1)
   | (refine wpList_load_g 26 _ rfl _ _ rfl RC1.out (by go_simp) ?_; clear RC1)
   | (refine wpList_load_g 64 _ rfl _ _ rfl RF1.out (by go_simp) ?_; clear RF1)
   | (go_at_call 46; refine (HNA.out _ HW.out).mono ?_; clear HNA; rintro e w2 ⟨rfl, hb2⟩; have HW2 : Hid _ := hb2; have RF1 : Hid _ := (HL.out _ hb2).1; have RC1 : Hid _ := (HL.out _ hb2).2.2; clear hb2)
   | (go_at_call 53; refine (HCN.out _ HW2.out).mono ?_; clear HCN; rintro e w3 ⟨rfl, hb2⟩; have HW2 : Hid _ := hb2; clear hb2))
  go_ret
  exact ⟨by rw [Bool.false_or]; rfl, (HN.out _ HW2.out).2.2⟩
 ·rw [hb] at HNA
  have RF1 : Hid _ := (HL.out _ HW.out).1
  have RX1 : Hid _ := (HL.out _ HW.out).2.1
  subst hWx
  clear hsz hbx
  go_enter Tryz.func31, Tryz.ntmps31
  go_wp2_with (first
   | ((with_reducible show wpList _ _ _ ({ dst := _, op := Op.load 64 _, type := _, pos := _, after := _, guard := none } :: _) _ _); refine wpList_load_run rfl 64 _ rfl _ _ rfl RF1.out ?_; clear RF1)
   | ((with_reducible show wpList _ _ _ ({ dst := _, op := Op.load 28 _, type := _, pos := _, after := _, guard := none } :: _) _ _); refine wpList_load_run rfl 28 _ rfl _ _ rfl RX1.out ?_; clear RX1)
   | (refine wpList_load_g 26 _ rfl _ _ rfl RC1.out (by go_simp) ?_; clear RC1)
   | (refine wpList_load_g 64 _ rfl _ _ rfl RF1.out (by go_simp) ?_; clear RF1)
   | (go_at_call 46; refine (HNA.out _ HW.out).mono ?_; clear HNA; rintro e w2 ⟨rfl, hb2⟩; have HW2 : Hid _ := hb2; have RF1 : Hid _ := (HL.out _ hb2).1; have RC1 : Hid _ := (HL.out _ hb2).2.2; clear hb2)
   | (go_at_call 53; refine (HCN.out _ HW2.out).mono ?_; clear HCN; rintro e w3 ⟨rfl, hb2⟩; have HW2 : Hid _ := hb2; clear hb2))
  go_ret
  exact ⟨by rw [Bool.true_or]; rfl, (HN.out _ HW2.out).2.2⟩
theorem rwnames_any (C : Chg) (H : Hm) {K : Nat → Prop} {t : T} (hz : zT t ≤ 900) {w : World} {es : Array Value} (h : NK K w es t) (hK : ∀ i, K i → i < w.heap.size) :
  Calls Tryz.prog 14 #[.agg es, hmV H, .agg (chgC C)] w fun e w' => e = .returned (.bool (nmT C H t)) ∧ Below w.heap.size w w' := by
 have hs18 := h.size
 obtain ⟨W, hW⟩ : ∃ W, W = ((w.alloc (.cells es 28)).alloc (plcO H.hb H.hs H.hr H.hc)).alloc (.cells (chgC C) 34) := ⟨_, rfl⟩
 have HB0 : Below w.heap.size w W := by rw [hW]; exact bel_alloc (bel_alloc (bel_alloc (Below.refl _ _) _) _) _
 have HN : Hid (∀ u, Below W.heap.size W u → (u.heap[w.heap.size]? = some (.cells es 28) ∧ u.heap[w.heap.size + 1]? = some (plcO H.hb H.hs H.hr H.hc) ∧ u.heap[w.heap.size + 2]? = some (.cells (chgC C) 34)) ∧ Below w.heap.size w u) := fun u hu => by
  have hu0 := hu
  rw [hW] at hu
  exact ⟨new3 hu, bel_step HB0 hu0⟩
 have HW : Hid (Below W.heap.size W W.drew) := (Below.refl _ _).drew
 have HL : Hid (∀ u, Below W.heap.size W u → (Instr.loadAt 28 (.pointer (some ⟨w.heap.size, 0, none⟩))).run Tryz.prog u = .ok (.agg es) u) := fun u hu => lod (HN.out u hu).1.1 rfl Tryz.underlying28 (by rw [hs18]; exact inf28)
 have HFo : Hid (∀ u, Below W.heap.size W u → Calls Tryz.prog 24 #[.agg (chgC C), hmV H] u fun e w' => ∃ g, e = .returned (.agg (folV C H g)) ∧ Below W.heap.size W w') := fun u hu => (follow_any C H u).mono fun e w' ⟨g, h1, _, h3⟩ => ⟨g, h1, bel_step hu h3⟩
 have HNo : Hid (∀ u g, Below W.heap.size W u → Calls Tryz.prog 31 #[.agg (folV C H g), .agg es] u fun e w' => e = .returned (.bool (nmT C H t)) ∧ Below W.heap.size W w') := fun u g hu => (within_any C H (refFn C g) (areaFn C g) t hz K u es (h.below (HN.out u hu).2) (fun i hi => by have := hK i hi; have := (HN.out u hu).2.size; omega)).mono fun e w' hh => ⟨hh.1, bel_step hu hh.2⟩
 have HWe : Hid (W = ((w.alloc (.cells es 28)).alloc (plcO H.hb H.hs H.hr H.hc)).alloc (.cells (chgC C) 34)) := hW
 clear h hK HB0 hW
 generalize nmT C H t = rb at *
 go_enter Tryz.func14, Tryz.ntmps14
 go_upto_region 1 with fail
 rw [← HWe.out]
 refine wp_region_d (fun u => Below W.heap.size W u) (fun j => false) (by kernel_rfl) ?_
 refine dwl 0 (.agg (chgC C)) ?_ (hS := HW.out) (hy := (fun u hSu => exec_load_run rfl rfl (clod (HN.out u hSu).1.2.2)))
 refine dwl 1 (hmV H) ?_ (hS := HW.out) (hy := (fun u hSu => exec_load_run rfl rfl (hlod (HN.out u hSu).1.2.1)))
 refine dwl 3 (.agg es) ?_ (hS := HW.out) (hy := (fun u hSu => exec_load_run rfl rfl (HL.out u hSu)))
 refine wpAnyD_one (i := 2) (by kernel_rfl) rfl ?_
 intro K' hK'
 go_simp
 refine (HFo.out _ HW.out).mono ?_
 rintro e w2 ⟨g, rfl, hb⟩
 refine hK' _ _ (.inr fun _ => hb) ?_
 clear hK'
 try simp only [Act.put, List.setIfInBounds_toArray, List.set_cons_zero, List.set_cons_succ]
 have NC := HNo.out _ g hb
 generalize folV C H g = fv at *
 refine wpAnyD_one (i := 4) (by kernel_rfl) rfl ?_
 intro K' hK'
 go_simp
 refine NC.mono ?_
 rintro e w3 ⟨rfl, hb4⟩
 refine hK' _ _ (.inr fun _ => hb4) ?_
 clear hK'
 try simp only [Act.put, List.setIfInBounds_toArray, List.set_cons_zero, List.set_cons_succ]
 refine dwp 5 (.bool rb) ?_
 refine wpAnyD_done (by kernel_rfl) ?_ _
 go_wp2
 go_ret
 exact ⟨rfl, (HN.out _ hb4).2⟩
end Go.Proofs.YtljmklbbngpllaaGreatDoor.Rw
namespace Go.Proofs.YtljmklbbngpllaaGreatDoor
open Go.RowKit Go.Fm
def RightC : Prop := ∀ t : T, zT t ≤ 1000000 → ZT t → ∀ (w : World) (es : Array Value), NT w es t → Tab9 w → Calls Tryz.prog 65 #[.agg es] w fun e w' => e = .returned (.bool (okL t.1 (kids t.2).length)) ∧ Below w.heap.size w w'
theorem ra_zero {t : T} {w : World} {es : Array Value} (h : NT w es t) : Calls Tryz.prog 38 #[.agg es, .int .i64 0] w fun e w' => e = .returned (.bool false) ∧ Below w.heap.size w w' := by
 go_enter Tryz.func38, Tryz.ntmps38
 go_wp2
 go_ret
 exact ⟨rfl, bel_alloc (Below.refl _ _) _⟩
theorem ra_no (RC : RightC) {t : T} {p : Option Addr} {n c : Nat} {w : World} {d : Nat} (hz : zT t ≤ 1000000) (Z : ZT t) (hd : ((d : Int) == 0) = false) (h : okL t.1 (kids t.2).length = false) (T : Tab9 w) (hs : NT w (lcs t.1 (.slice p n c)) t) : Calls Tryz.prog 38 #[.agg (lcs t.1 (.slice p n c)), .int .i64 (d : Nat)] w fun e w' => e = .returned (.bool false) ∧ Below w.heap.size w w' := by
 have B1 : Below w.heap.size w (w.alloc (.cells (lcs t.1 (.slice p n c)) 28)) := bel_alloc (Below.refl _ _) _
 have RL : Hid _ := lod (z := (0, 0)) (heap_alloc_new w (.cells (lcs t.1 (.slice p n c)) 28)) rfl Tryz.underlying28 (by rw [lcs_size]; exact inf28)
 have BA := RC t hz Z (w.alloc (.cells (lcs t.1 (.slice p n c)) 28)) _ (hs.below B1) (T.below B1)
 rw [h] at BA
 clear hs T h Z RC B1
 generalize lcs t.1 (.slice p n c) = bx at *
 go_enter Tryz.func38, Tryz.ntmps38
 go_wp2_with (first
  | (refine wpList_load_g 28 _ rfl _ _ rfl RL.out (by go_simp) ?_; clear RL)
  | (go_at_call 65; refine BA.mono ?_; rintro e w1 ⟨rfl, hs⟩; have HB1 : Hid (Below w.heap.size w w1) := bel1 hs; clear hs))
 all_goals (go_ret; exact ⟨rfl, HB1.out⟩)
theorem ra_yes (RC : RightC) {t : T} {p : Option Addr} {n c : Nat} {w : World} {d : Nat} (hz : zT t ≤ 1000000) (Z : ZT t) (hd : ((d : Int) == 0) = false) (hd2 : d ≤ 1000) (h : okL t.1 (kids t.2).length = true) (T : Tab9 w) (hs : SF w p n t.2) (hn : n ≤ 1000000)
  (IH : ∀ s ∈ kids t.2, ∀ (w : World) (es : Array Value), NT w es s → Tab9 w → Calls Tryz.prog 38 #[.agg es, .int .i64 ((d - 1 : Nat) : Int)] w fun e w' => e = .returned (.bool (gT okL (d - 1) s)) ∧ Below w.heap.size w w') :
  Calls Tryz.prog 38 #[.agg (lcs t.1 (.slice p n c)), .int .i64 (d : Nat)] w fun e w' => e = .returned (.bool ((kids t.2).all (gT okL (d - 1)))) ∧ Below w.heap.size w w' := by
 have B1 : Below w.heap.size w (w.alloc (.cells (lcs t.1 (.slice p n c)) 28)) := bel_alloc (Below.refl _ _) _
 have RL : Hid _ := lod (z := (0, 0)) (heap_alloc_new w (.cells (lcs t.1 (.slice p n c)) 28)) rfl Tryz.underlying28 (by rw [lcs_size]; exact inf28)
 have hNT : NT w (lcs t.1 (.slice p n c)) t := ⟨p, n, c, rfl, hs⟩
 have BA := RC t hz Z (w.alloc (.cells (lcs t.1 (.slice p n c)) 28)) _ (hNT.below B1) (T.below B1)
 rw [h] at BA
 have PA : Calls Tryz.prog 65 #[.agg (lcs t.1 (.slice p n c))] (w.alloc (.cells (lcs t.1 (.slice p n c)) 28)) fun e w2 => e = .returned (.bool true) ∧ w2.cell? ⟨w.heap.size, 17, none⟩ = some (.slice p n c) ∧ Hid (Below w.heap.size w w2) := BA.mono (by
  rintro e w1 ⟨rfl, hs⟩
  exact ⟨rfl, cell17 (new1 hs), bel1 hs⟩)
 have HS : Hid (SF w p n t.2) := hs
 have HT : Hid (Tab9 w) := T
 have HI : Hid (∀ s ∈ kids t.2, ∀ (w : World) (es : Array Value), NT w es s → Tab9 w → Calls Tryz.prog 38 #[.agg es, .int .i64 ((d - 1 : Nat) : Int)] w fun e w' => e = .returned (.bool (gT okL (d - 1) s)) ∧ Below w.heap.size w w') := IH
 have HL : Hid ((kids t.2).length = n) := hs.1.symm
 have hd1 : (d : Int) - 1 = ((d - 1 : Nat) : Int) := by
  have : d ≠ 0 := by intro e; subst e; simp at hd
  omega
 clear BA h hs T IH Z hNT RC B1 hz
 generalize lcs t.1 (.slice p n c) = bx at *
 generalize hq : (kids t.2).all (gT okL (d - 1)) = q
 have HQ : Hid ((kids t.2).all (gT okL (d - 1)) = q) := hq
 clear hq
 go_enter Tryz.func38, Tryz.ntmps38
 go_wp2_with (first
  | (refine wpList_load_g 28 _ rfl _ _ rfl RL.out (by go_simp) ?_; clear RL)
  | (go_at_call 65; refine PA.mono ?_; rintro e w2 ⟨rfl, c17, HB2⟩))
 clear PA
 go_loopw [17] (fun i wr => ∃ k : Nat, k ≤ n ∧ i = .int .i64 (k : Nat) ∧ Hid (Below w.heap.size w wr) ∧ Hid (((kids t.2).take k).all (gT okL (d - 1)) = true)) (fun i _ => n - (intOf i).toNat)
 case atStart => exact ⟨0, Nat.zero_le _, rfl, HB2, rfl⟩
 case round =>
  obtain ⟨k, hk, rfl, HB, HA⟩ := hrel
  by_cases hlt : k < n
  ·have hki : (k : Int) < n := by omega
   obtain ⟨a', es, s, rfl, RL, HI1, RS, RL2, HNT, HM⟩ := HS.out.step HB.out hlt
   have C := HI.out s HM.out _ _ HNT.out (HT.out.below (bel_alloc HB.out _))
   have hwr : IntKind.i64.wrap ((d - 1 : Nat) : Int) = ((d - 1 : Nat) : Int) := by
    simp [IntKind.wrap, IntKind.bits, IntKind.signed]; omega
   have HTK : Hid ((kids t.2).take (k + 1) = (kids t.2).take k ++ [s]) := by show _ = _; rw [List.take_add_one, HI1.out]; rfl
   have HMem : Hid (s ∈ kids t.2) := HM
   cases hq : gT okL (d - 1) s
   ·rw [hq] at C
    have HQ2 : Hid (q = false) := by
     show _ = _
     rw [← HQ.out]
     cases hall : (kids t.2).all (gT okL (d - 1))
     ·rfl
     ·have := List.all_eq_true.1 hall s HMem.out
      rw [hq] at this; cases this
    clear hq HI1 HM HA HNT
    generalize ((d - 1 : Nat) : Int) = d1 at *
    go_wp2_with (first
     | (refine wpList_load_run rfl 28 _ rfl _ _ rfl RL.out ?_; clear RL)
     | (refine wpList_store_run rfl 28 _ _ rfl _ _ _ rfl rfl RS.out ?_; clear RS)
     | (refine wpList_load_run rfl 28 _ rfl _ _ rfl RL2.out ?_; clear RL2)
     | (go_at_call 38; refine C.mono ?_; rintro e w3 ⟨rfl, hs⟩; have HU2 : Hid (Below w.heap.size w w3) := bel_step (bel_alloc HB.out _) hs; clear hs))
    go_ret
    exact ⟨by rw [HQ2.out]; rfl, HU2.out⟩
   ·rw [hq] at C
    have HA2 : Hid (((kids t.2).take (k + 1)).all (gT okL (d - 1)) = true) := by
     show _ = _
     rw [HTK.out, List.all_append, HA.out]
     simp [hq]
    clear hq HI1 HM HA HNT HTK HMem
    generalize ((d - 1 : Nat) : Int) = d1 at *
    go_wp2_with (first
     | (refine wpList_load_run rfl 28 _ rfl _ _ rfl RL.out ?_; clear RL)
     | (refine wpList_store_run rfl 28 _ _ rfl _ _ _ rfl rfl RS.out ?_; clear RS)
     | (refine wpList_load_run rfl 28 _ rfl _ _ rfl RL2.out ?_; clear RL2)
     | (go_at_call 38; refine C.mono ?_; rintro e w3 ⟨rfl, hs⟩; have HU2 : Hid (Below w.heap.size w w3) := bel_step (bel_alloc HB.out _) hs; clear hs))
    go_roundw
    case rel => exact ⟨k + 1, by omega, by go_num, HU2, HA2⟩
    case measure => simp [intOf]; omega
  ·have hki : ¬ (k : Int) < n := by omega
   have HQ2 : Hid (q = true) := by
    show _ = _
    rw [← HQ.out]
    have := HA.out
    rw [List.take_of_length_le (by have := HL.out; omega)] at this
    exact this
   clear HA
   go_wp2
   go_ret
   exact ⟨by rw [HQ2.out]; rfl, HB.out⟩
theorem rall_any (RC : RightC) : ∀ t : T, zT t ≤ 1000000 → ZT t → ∀ d : Nat, d ≤ 1000 → ∀ (w : World) (es : Array Value), NT w es t → Tab9 w → Calls Tryz.prog 38 #[.agg es, .int .i64 (d : Nat)] w fun e w' => e = .returned (.bool (gT okL d t)) ∧ Below w.heap.size w w' := by
 refine ind ?_
 intro t ih hz hZ d hd w es h T
 cases d with
 | zero => rw [gT_eq]; exact ra_zero h
 | succ d =>
  obtain ⟨p, n, c, rfl, hs⟩ := h
  have hdb : (((d + 1 : Nat) : Int) == 0) = false := by simp; omega
  rw [gT_eq]
  have hn := hs.1
  cases ho : okL t.1 (kids t.2).length
  ·simpa using ra_no RC hz hZ hdb ho T (⟨p, n, c, rfl, hs⟩ : NT w (lcs t.1 (.slice p n c)) t)
  ·have hkl := kids_le t
   have := ra_yes RC (c := c) hz hZ hdb (by omega) ho T hs (by omega) (fun s hs' u e1 m1 m2 => ih s hs' (by have := zT_kid hs'; omega) (hZ.kid hs') d (by omega) u e1 m1 m2)
   simpa using this
theorem rgood_tree (RC : RightC) {t : T} (hz : zT t ≤ 1000000) (hZ : ZT t) {w : World} {es : Array Value} (h : NT w es t) (T : Tab9 w) : Calls Tryz.prog 18 #[.agg es] w fun e w' => e = .returned (.bool (gT okL 24 t)) ∧ Below w.heap.size w w' := by
 have C := rall_any RC t hz hZ 24 (by omega) (w.alloc (.cells es 28)) es (h.below (bel_alloc (Below.refl _ _) _)) (T.below (bel_alloc (Below.refl _ _) _))
 have RL : Hid _ := (nbox_at h).2 (heap_alloc_new w (.cells es 28))
 clear h T RC
 generalize gT okL 24 t = q at *
 go_enter Tryz.func18, Tryz.ntmps18
 go_wp2_with (first
  | (refine wpList_load_run rfl 28 _ rfl _ _ rfl RL.out ?_; clear RL)
  | (go_at_call 38; refine C.mono ?_; rintro e w2 ⟨rfl, hs⟩; have HU2 : Hid (Below w.heap.size w w2) := bel1 hs; clear hs))
 go_ret
 exact ⟨rfl, HU2.out⟩
theorem rbare_any {a : Lab} {p : Option Addr} {n c : Nat} {w : World} : Calls Tryz.prog 105 #[.agg (lcs a (.slice p n c))] w fun e w' => e = .returned (.agg (lcs (lab0 a.k nb) (.slice none 0 0))) ∧ Below w.heap.size w w' := by
 obtain ⟨w2, hw2⟩ : ∃ w2, (w.alloc (.cells (lcs a (.slice p n c)) 28)).alloc (.cells nd0 28) = w2 := ⟨_, rfl⟩
 have H0 : w2.heap[w.heap.size]? = some (.cells (lcs a (.slice p n c)) 28) := by rw [← hw2]; exact (Below.heap_alloc _ _ _ (by simp)).trans (heap_alloc_new w _)
 have H1 : w2.heap[w.heap.size + 1]? = some (.cells nd0 28) := by
  rw [← hw2]
  have := heap_alloc_new (w.alloc (.cells (lcs a (.slice p n c)) 28)) (.cells nd0 28)
  simpa using this
 have HB : Below w.heap.size w w2 := by rw [← hw2]; exact bel_alloc (bel_alloc (Below.refl _ _) _) _
 obtain ⟨c0, c1, l2, l3, l4⟩ := box_all H0
 have RS := nd_sto H1 rfl (lab0 a.k nb) none 0 0
 have HG : Hid (w2.heap[w.heap.size + 1]? = some (.cells nd0 28)) := H1
 have HF : Hid (Below w.heap.size w (w2.setRow (w.heap.size + 1) (lcs (lab0 a.k nb) (.slice none 0 0)))) := HB.grown (setRow_grown _ _ _) HB.size (fun j e => by cases e; omega)
 clear H0 H1 l2 l3 l4 HB
 generalize lcs a (.slice p n c) = bx at *
 go_enter Tryz.func105, Tryz.ntmps105
 go_wp2_with (first
  | (refine wpList_store_run rfl 28 _ _ rfl _ _ _ rfl rfl RS.out ?_))
 exact bodyPost_ret (nd_res HG.out (lcs_size _ _) rfl rfl) rfl ⟨rfl, HF.out⟩
end Go.Proofs.YtljmklbbngpllaaGreatDoor
