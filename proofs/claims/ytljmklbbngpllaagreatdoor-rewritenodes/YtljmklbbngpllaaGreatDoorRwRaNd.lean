/- RwRa. -/
import Derived.Test.YtljmklbbngpllaaGreatDoorRwRnNd
set_option linter.unusedVariables false
set_option linter.unusedSimpArgs false
set_option maxHeartbeats 16000000
set_option maxRecDepth 100000
namespace Go.Proofs.YtljmklbbngpllaaGreatDoor.Rw
open Go.RowKit Go.Fm
theorem RB.set {w : World} {t : T} {sl : Value} {H : Hm} {C : Chg} {u : World} (h : RB w t sl H C u) {g : Nat} (hg : w.heap.size + 3 < g) (i : Nat) (v : Value) : RB w t sl H C (u.setCell ⟨g, i, none⟩ v) :=
 ⟨(heap_setCell_other u _ _ _ (by simp; omega)).trans h.b0, (heap_setCell_other u _ _ _ (by simp; omega)).trans h.b1, (heap_setCell_other u _ _ _ (by simp; omega)).trans h.b2, (heap_setCell_other u _ _ _ (by simp; omega)).trans h.b3, h.bel.setCell (by simp; omega) _⟩
structure RA (w : World) (t : T) (sl : Value) (H : Hm) (C : Chg) (g : Nat) (x y : Rf) (u : World) : Prop where
 b : RB w t sl H C u
 x1 : AtZ u g x
 x2 : AtZ u (g + 1) y
 lt : w.heap.size + 3 < g
theorem RA.step {w : World} {t : T} {sl : Value} {H : Hm} {C : Chg} {g : Nat} {x y : Rf} {u v : World} (h : RA w t sl H C g x y u) (hb : Below u.heap.size u v) : RA w t sl H C g x y v := ⟨h.b.step hb, h.x1.bel hb, h.x2.bel hb, h.lt⟩
theorem RA.col {w : World} {t : T} {sl : Value} {H : Hm} {C : Chg} {g : Nat} {x y : Rf} {u : World} (h : RA w t sl H C g x y u) (p q : Int) : RA w t sl H C g ⟨x.b, x.h, x.r, p, x.fr, x.fc⟩ ⟨y.b, y.h, y.r, q, y.fr, y.fc⟩ ((u.setCell ⟨g, 3, none⟩ (.int .i64 p)).setCell ⟨g + 1, 3, none⟩ (.int .i64 q)) :=
 ⟨(h.b.set h.lt _ _).set (by have := h.lt; omega) _ _, (heap_setCell_other _ _ _ _ (by simp)).trans (uV h.x1 p), uV ((heap_setCell_other u _ _ _ (by simp)).trans h.x2) q, h.lt⟩
theorem RA.row {w : World} {t : T} {sl : Value} {H : Hm} {C : Chg} {g : Nat} {x y : Rf} {u : World} (h : RA w t sl H C g x y u) (p q : Int) : RA w t sl H C g ⟨x.b, x.h, p, x.c, x.fr, x.fc⟩ ⟨y.b, y.h, q, y.c, y.fr, y.fc⟩ ((u.setCell ⟨g, 2, none⟩ (.int .i64 p)).setCell ⟨g + 1, 2, none⟩ (.int .i64 q)) :=
 ⟨(h.b.set h.lt _ _).set (by have := h.lt; omega) _ _, (heap_setCell_other _ _ _ _ (by simp)).trans (uW h.x1 p), uW ((heap_setCell_other u _ _ _ (by simp)).trans h.x2) q, h.lt⟩
theorem RA.new {w : World} {t : T} {sl : Value} {H : Hm} {C : Chg} {u : World} (h : RB w t sl H C u) (x y : Rf) :
  Hid ((Instr.storeAt 25 (.pointer (some ⟨u.heap.size, 0, none⟩)) (rfV x)).run Tryz.prog ((u.alloc (rfO z0)).alloc (rfO z0)) = .ok () (((u.alloc (rfO z0)).alloc (rfO z0)).setRow u.heap.size (rfC x))) ∧
  Hid ((Instr.storeAt 25 (.pointer (some ⟨u.heap.size + 1, 0, none⟩)) (rfV y)).run Tryz.prog (((u.alloc (rfO z0)).alloc (rfO z0)).setRow u.heap.size (rfC x)) = .ok () ((((u.alloc (rfO z0)).alloc (rfO z0)).setRow u.heap.size (rfC x)).setRow (u.heap.size + 1) (rfC y))) ∧
  Hid (RA w t sl H C u.heap.size x y ((((u.alloc (rfO z0)).alloc (rfO z0)).setRow u.heap.size (rfC x)).setRow (u.heap.size + 1) (rfC y))) := by
 have k1 : AtZ ((u.alloc (rfO z0)).alloc (rfO z0)) u.heap.size z0 := (AtZ.new u z0).alloc _
 have k2 : AtZ ((u.alloc (rfO z0)).alloc (rfO z0)) (u.heap.size + 1) z0 := by
  have := AtZ.new (u.alloc (rfO z0)) z0
  rwa [World.size_alloc] at this
 obtain ⟨r0, r1, r2⟩ := AtZ.two k1 k2 (by omega) x y
 have hl := aS h.b3
 have B0 : Below u.heap.size u ((u.alloc (rfO z0)).alloc (rfO z0)) := aA (aA (Below.refl _ _) _) _
 have B1 := B0.grown (aC _ u.heap.size (rfC x)) B0.size (fun g e => by cases e; omega)
 have B2 := B1.grown (aC _ (u.heap.size + 1) (rfC y)) B1.size (fun g e => by cases e; omega)
 exact ⟨r0, r1, h.step B2, r2.out.1, r2.out.2, hl⟩
theorem aBI {C : Chg} {H : Hm} {t : T} (hk : t.1.k = 3) (hof : ofR C H (top t.1) = true) (hd : C.dr = true) (w : World) (sl : Value) :
  Calls Tryz.prog 11 #[.agg (lcs t.1 sl), hmV H, .agg (aW C)] w fun e w' => e = .returned (.tuple #[.agg (lcs (arL C (top t.1) (tof t.1)) (.slice none 0 0)), .bool (chA C (top t.1) (tof t.1))]) ∧ Below w.heap.size w w' := by
 have e0 : ∀ x y, arB C x y = false := fun x y => by unfold arB; rw [hd]; rfl
 have e1 : arL C (top t.1) (tof t.1) = gone := by unfold arL; rw [e0]; rfl
 have e2 : chA C (top t.1) (tof t.1) = true := by unfold chA; rw [e0]; rfl
 rw [e1, e2]
 have HX : Hid (RB w t sl H C (rbW w t sl H C)) := RB.new w t sl H C
 have hkc := HX.out.k
 rw [hk] at hkc
 have RR : Hid _ := HX.out.ref
 have RH : Hid _ := kF HX.out.b1
 have RC : Hid _ := kI HX.out.b2
 obtain ⟨_, _, q2, _, _, _, _⟩ := eH HX.out.b2
 have HO := fun u => lC (top t.1) H C u
 rw [hof] at HO
 have HG := fun u => kZ u
 rw [hd] at q2
 have HD : Hid (C.dr = true) := hd
 clear hof hk e0 e1 e2 hd
 go_enter Tryz.func11, Tryz.ntmps11
 go_wp2_with (first
  | ((with_reducible show wpList _ _ _ ({ dst := _, op := Op.load 25 _, type := _, pos := _, after := _, guard := some _ } :: _) _ _); refine aF 25 _ rfl _ _ rfl RR.out (by go_simp) ?_)
  | ((with_reducible show wpList _ _ _ ({ dst := _, op := Op.load 30 _, type := _, pos := _, after := _, guard := some _ } :: _) _ _); refine aF 30 _ rfl _ _ rfl RH.out (by go_simp) ?_)
  | ((with_reducible show wpList _ _ _ ({ dst := _, op := Op.load 42 _, type := _, pos := _, after := _, guard := some _ } :: _) _ _); refine aF 42 _ rfl _ _ rfl RC.out (by go_simp) ?_)
  | (go_at_call 26; refine (HO _).mono ?_; clear HO; rintro e w1 ⟨rfl, hb⟩; have HX : Hid _ := RB.step HX.out hb; clear RR RC q2; have RR : Hid _ := HX.out.ref; have RT : Hid _ := HX.out.to; have RC : Hid _ := kI HX.out.b2; obtain ⟨_, _, q2, _, _, _, _⟩ := eH HX.out.b2; rw [HD.out] at q2; clear hb)
  | (go_at_call 28; refine (HG _).mono ?_; clear HG; rintro e w4 ⟨rfl, hb⟩; have HX : Hid _ := RB.step HX.out hb; obtain ⟨RS, HR, HZ⟩ := HX.out.fin gone; clear hb)
  | ((with_reducible show wpList _ _ _ ({ dst := _, op := Op.store 28 _ _, type := _, pos := _, after := _, guard := none } :: _) _ _); refine aD rfl 28 _ _ rfl _ _ _ rfl rfl RS.out ?_))
 exact bodyPost_ret (fA rfl rfl HR.out rfl) rfl ⟨rfl, HZ.out⟩
theorem aDX {bk sh : ByteArray} {a n m : Int} {H : Hm} {t : T} (hk : t.1.k = 3) (hof : ofR ⟨bk, sh, false, true, a, n, m⟩ H (top t.1) = true) (w : World) (sl : Value) :
  Calls Tryz.prog 11 #[.agg (lcs t.1 sl), hmV H, .agg (aW ⟨bk, sh, false, true, a, n, m⟩)] w fun e w' => e = .returned (.tuple #[.agg (lcs (arL ⟨bk, sh, false, true, a, n, m⟩ (top t.1) (tof t.1)) (.slice none 0 0)), .bool (chA ⟨bk, sh, false, true, a, n, m⟩ (top t.1) (tof t.1))]) ∧ Below w.heap.size w w' := by
 have HX : Hid (RB w t sl H ⟨bk, sh, false, true, a, n, m⟩ (rbW w t sl H ⟨bk, sh, false, true, a, n, m⟩)) := RB.new w t sl H _
 have hkc := HX.out.k
 rw [hk] at hkc
 have RR : Hid _ := HX.out.ref
 have RT : Hid _ := HX.out.to
 have RH : Hid _ := kF HX.out.b1
 have RC : Hid _ := kI HX.out.b2
 obtain ⟨_, _, q2, _, _, _, _⟩ := eH HX.out.b2
 have HO := fun u => lC (top t.1) H ⟨bk, sh, false, true, a, n, m⟩ u
 rw [hof] at HO
 have HG := fun u => kZ u
 have HC := fun u => nM (top t.1) (tof t.1) u
 unfold arL chA
 generalize lo (top t.1) (tof t.1) = X at *
 generalize hi (top t.1) (tof t.1) = Y at *
 obtain ⟨xb, xh, xr, xc, xfr, xfc⟩ := X
 obtain ⟨yb, yh, yr, yc, yfr, yfc⟩ := Y
 rw [show arB ⟨bk, sh, false, true, a, n, m⟩ ⟨xb, xh, xr, xc, xfr, xfc⟩ ⟨yb, yh, yr, yc, yfr, yfc⟩ = Hs.spB a n m xc yc from rfl, show arX ⟨bk, sh, false, true, a, n, m⟩ ⟨xb, xh, xr, xc, xfr, xfc⟩ ⟨yb, yh, yr, yc, yfr, yfc⟩ = ⟨xb, xh, xr, Hs.spL a n m xc yc, xfr, xfc⟩ from rfl, show arY ⟨bk, sh, false, true, a, n, m⟩ ⟨xb, xh, xr, xc, xfr, xfc⟩ ⟨yb, yh, yr, yc, yfr, yfc⟩ = ⟨yb, yh, yr, Hs.spH a n m xc yc, yfr, yfc⟩ from rfl]
 have HS := fun u => Hs.uX a n m xc yc u
 generalize Hs.spB a n m xc yc = sb at *
 generalize Hs.spL a n m xc yc = sl1 at *
 generalize Hs.spH a n m xc yc = sl2 at *
 clear hof hk
 go_enter Tryz.func11, Tryz.ntmps11
 go_upto_region 11 with (first
  | ((with_reducible show wpList _ _ _ ({ dst := _, op := Op.load 25 _, type := _, pos := _, after := _, guard := some _ } :: _) _ _); refine aF 25 _ rfl _ _ rfl RR.out (by go_simp) ?_)
  | ((with_reducible show wpList _ _ _ ({ dst := _, op := Op.load 30 _, type := _, pos := _, after := _, guard := some _ } :: _) _ _); refine aF 30 _ rfl _ _ rfl RH.out (by go_simp) ?_)
  | ((with_reducible show wpList _ _ _ ({ dst := _, op := Op.load 42 _, type := _, pos := _, after := _, guard := some _ } :: _) _ _); refine aF 42 _ rfl _ _ rfl RC.out (by go_simp) ?_)
  | (go_at_call 26; refine (HO _).mono ?_; clear HO; rintro e w1 ⟨rfl, hb⟩; have HX : Hid _ := RB.step HX.out hb; clear RR RC q2; have RR : Hid _ := HX.out.ref; have RT : Hid _ := HX.out.to; have RC : Hid _ := kI HX.out.b2; obtain ⟨_, _, q2, _, _, _, _⟩ := eH HX.out.b2; clear hb)
  | ((with_reducible show wpList _ _ _ ({ dst := _, op := Op.load 25 _, type := _, pos := _, after := _, guard := none } :: _) _ _); refine aB rfl 25 _ rfl _ _ rfl RR.out ?_)
  | ((with_reducible show wpList _ _ _ ({ dst := _, op := Op.load 25 _, type := _, pos := _, after := _, guard := none } :: _) _ _); refine aB rfl 25 _ rfl _ _ rfl RT.out ?_)
  | (go_at_call 29; refine (HC _).mono ?_; clear HC; rintro e w2 ⟨rfl, hb⟩; have HX : Hid _ := RB.step HX.out hb; obtain ⟨RS1, RS2, HA⟩ := RA.new HX.out ⟨xb, xh, xr, xc, xfr, xfc⟩ ⟨yb, yh, yr, yc, yfr, yfc⟩; clear hb RR RT RH RC q2 HX)
  | ((with_reducible show wpList _ _ _ ({ dst := _, op := Op.store 25 _ _, type := _, pos := _, after := _, guard := none } :: _) _ _); refine aD rfl 25 _ _ rfl _ _ _ rfl rfl RS1.out ?_; clear RS1)
  | ((with_reducible show wpList _ _ _ ({ dst := _, op := Op.store 25 _ _, type := _, pos := _, after := _, guard := none } :: _) _ _); refine aD rfl 25 _ _ rfl _ _ _ rfl rfl RS2.out ?_; clear RS2))
 show Code.wp Tryz.prog _ _ _ ((((w2.alloc (rfO z0)).alloc (rfO z0)).setRow w2.heap.size (rfC ⟨xb, xh, xr, xc, xfr, xfc⟩)).setRow (w2.heap.size + 1) (rfC ⟨yb, yh, yr, yc, yfr, yfc⟩))
 generalize (((w2.alloc (rfO z0)).alloc (rfO z0)).setRow w2.heap.size (rfC ⟨xb, xh, xr, xc, xfr, xfc⟩)).setRow (w2.heap.size + 1) (rfC ⟨yb, yh, yr, yc, yfr, yfc⟩) = v at *
 generalize w2.heap.size = g at *
 obtain ⟨_, _, _, q3, q4, q5, q6⟩ := eH HA.out.b.b2
 have p1 := (aP HA.out.x1).2.2.2.1
 have p2 := (aP HA.out.x2).2.2.2.1
 clear hkc
 go_upto_region 15 with (first
  | (go_at_call 30; refine (HS _).mono ?_; clear HS; rintro e w5 ⟨rfl, hb⟩; have HA : Hid _ := HA.out.step hb; clear hb q3 q4 q5 q6 p1 p2; have f1 := (bH HA.out.x1).2.2.2.1; have f2 := (bH HA.out.x2).2.2.2.1; have p1 := (aP HA.out.x1).2.2.2.1; have p2 := (aP HA.out.x2).2.2.2.1; have HA : Hid _ := HA.out.col sl1 sl2))
 clear p1 p2 f1 f2
 show Code.wp Tryz.prog _ _ _ ((w5.setCell ⟨g, 3, none⟩ (.int .i64 sl1)).setCell ⟨g + 1, 3, none⟩ (.int .i64 sl2))
 generalize (w5.setCell ⟨g, 3, none⟩ (.int .i64 sl1)).setCell ⟨g + 1, 3, none⟩ (.int .i64 sl2) = v5 at *
 have HA : Hid (RA w t sl H ⟨bk, sh, false, true, a, n, m⟩ g ⟨xb, xh, xr, sl1, xfr, xfc⟩ ⟨yb, yh, yr, sl2, yfr, yfc⟩ v5) := HA.out
 generalize hx : (⟨xb, xh, xr, sl1, xfr, xfc⟩ : Rf) = x at *
 generalize hy : (⟨yb, yh, yr, sl2, yfr, yfc⟩ : Rf) = y at *
 have EX : Hid (⟨xb, xh, xr, sl1, xfr, xfc⟩ = x) := hx
 have EY : Hid (⟨yb, yh, yr, sl2, yfr, yfc⟩ = y) := hy
 clear hx hy
 cases sb
 ·try simp only [Bool.false_eq_true, if_false]
  have HX : Hid _ := HA.out.b
  go_wp2_with (first
   | (go_at_call 28; refine (HG _).mono ?_; clear HG; rintro e w4 ⟨rfl, hb⟩; have HX : Hid _ := RB.step HX.out hb; obtain ⟨RS, HR, HZ⟩ := HX.out.fin gone; clear hb)
   | ((with_reducible show wpList _ _ _ ({ dst := _, op := Op.store 28 _ _, type := _, pos := _, after := _, guard := none } :: _) _ _); refine aD rfl 28 _ _ rfl _ _ _ rfl rfl RS.out ?_))
  exact bodyPost_ret (fA rfl rfl HR.out rfl) rfl ⟨rfl, HZ.out⟩
 ·try simp only [if_true]
  have n0 : v5.drew.heap[w.heap.size + 3]? = some (.cells nd0 28) := HA.out.b.b3
  have hb0 : RB' w t sl v5.drew := HA.out.b.b0
  have hx1 : AtZ v5.drew g x := HA.out.x1
  have hx2 : AtZ v5.drew (g + 1) y := HA.out.x2
  have hlt := HA.out.lt
  have n3 := HA.out.b.bel.drew
  have RS : Hid _ := nN (bN x y) n0
  have HR : Hid _ := nO (bN x y) n0
  have HZ : Hid (Below w.heap.size w (v5.drew.setRow (w.heap.size + 3) (lcs (bN x y) (.slice none 0 0)))) := n3.grown (aC _ _ _) n3.size (fun g e => by cases e; omega)
  have HS : Hid (LD v5.drew g x ∧ LD v5.drew (g + 1) y ∧ LR5 v5.drew w.heap.size (top t.1) ∧ aAu v5.drew w.heap.size (tof t.1)) := ⟨bX hx1, bX hx2, (aN hb0).2.2.2.1, (aN hb0).2.2.2.2⟩
  have hb1 : RB' w t sl (v5.drew.setRow (w.heap.size + 3) (lcs (bN x y) (.slice none 0 0))) := (setRow_other _ _ _ _ (by omega)).trans hb0
  have HS2 : Hid (LD (v5.drew.setRow (w.heap.size + 3) (lcs (bN x y) (.slice none 0 0))) g x ∧ LD (v5.drew.setRow (w.heap.size + 3) (lcs (bN x y) (.slice none 0 0))) (g + 1) y ∧ LR5 (v5.drew.setRow (w.heap.size + 3) (lcs (bN x y) (.slice none 0 0))) w.heap.size (top t.1) ∧ aAu (v5.drew.setRow (w.heap.size + 3) (lcs (bN x y) (.slice none 0 0))) w.heap.size (tof t.1)) :=
   ⟨bX ((setRow_other v5.drew _ _ _ (by omega)).trans hx1), bX ((setRow_other v5.drew _ _ _ (by omega)).trans hx2), (aN hb1).2.2.2.1, (aN hb1).2.2.2.2⟩
  clear n0 hb0 hb1 hx1 hx2 hlt n3 HA HG
  go_upto_region 17 with fail
  generalize hx : top t.1 = tp at *
  generalize hy : tof t.1 = tq at *
  have EP : Hid (top t.1 = tp) := hx
  have EQ : Hid (tof t.1 = tq) := hy
  clear hx hy
  cases he : eqR x tp
  ·refine aQ (fun u => LD u g x ∧ LD u (g + 1) y ∧ LR5 u w.heap.size tp ∧ aAu u w.heap.size tq) (fun j => false) (by kernel_rfl) ?_
   refine dwl 0 (rfV x) ?_ (hS := HS.out) (hy := (fun u hSu => aI rfl rfl hSu.1))
   refine dwl 1 (rfV y) ?_ (hS := HS.out) (hy := (fun u hSu => aI rfl rfl hSu.2.1))
   refine dwp 2 (.agg (lcs (bN x y) (.slice none 0 0))) ?_ (hy := (fun u => dP rfl (by go_simp) (gG u x y)))
   refine dwl 3 (rfV x) ?_ (hS := HS.out) (hy := (fun u hSu => aI rfl rfl hSu.1))
   refine dwp 4 (.pointer (some ⟨w.heap.size, 5, none⟩)) ?_
   refine dwl 5 (rfV tp) ?_ (hS := HS.out) (hy := (fun u hSu => aI rfl rfl hSu.2.2.1))
   refine dwp 6 (.bool true) ?_ (hy := (fun u => (dV rfl rfl rfl).trans (by rw [he]; rfl)))
   refine dwp 7 (.bool true) ?_
   refine dws 8 ?_
   refine dws 9 ?_
   refine dws 10 ?_
   refine dws 11 ?_
   refine dwp 12 (.bool true) ?_
   refine aH (i := 13) (by kernel_rfl) rfl ?_
   intro K' hK'
   rw [if_pos (by go_simp)]
   refine aJ none rfl 28 _ _ rfl _ _ rfl rfl RS.out (hK' _ _ (.inr fun _ => HS2.out) ?_)
   clear hK'
   try simp only [Act.put, List.setIfInBounds_toArray, List.set_cons_zero, List.set_cons_succ]
   refine dwp 14 (.bool true) ?_
   refine aK (by kernel_rfl) ?_ _
   go_wp2
   obtain rfl := EX.out
   obtain rfl := EY.out
   obtain rfl := EP.out
   obtain rfl := EQ.out
   exact bodyPost_ret (fA rfl rfl HR.out rfl) rfl ⟨(by first | rfl | (rw [he]; rfl)), HZ.out⟩
  ·refine aQ (fun u => LD u g x ∧ LD u (g + 1) y ∧ LR5 u w.heap.size tp ∧ aAu u w.heap.size tq) (fun j => false) (by kernel_rfl) ?_
   refine dwl 0 (rfV x) ?_ (hS := HS.out) (hy := (fun u hSu => aI rfl rfl hSu.1))
   refine dwl 1 (rfV y) ?_ (hS := HS.out) (hy := (fun u hSu => aI rfl rfl hSu.2.1))
   refine dwp 2 (.agg (lcs (bN x y) (.slice none 0 0))) ?_ (hy := (fun u => dP rfl (by go_simp) (gG u x y)))
   refine dwl 3 (rfV x) ?_ (hS := HS.out) (hy := (fun u hSu => aI rfl rfl hSu.1))
   refine dwp 4 (.pointer (some ⟨w.heap.size, 5, none⟩)) ?_
   refine dwl 5 (rfV tp) ?_ (hS := HS.out) (hy := (fun u hSu => aI rfl rfl hSu.2.2.1))
   refine dwp 6 (.bool false) ?_ (hy := (fun u => (dV rfl rfl rfl).trans (by rw [he]; rfl)))
   refine dwp 7 (.bool false) ?_
   refine dwl 8 (rfV y) ?_ (hS := HS.out) (hy := (fun u hSu => aI rfl rfl hSu.2.1))
   refine dwp 9 (.pointer (some ⟨w.heap.size, 11, none⟩)) ?_
   refine dwl 10 (rfV tq) ?_ (hS := HS.out) (hy := (fun u hSu => aI rfl rfl hSu.2.2.2))
   refine dwp 11 (.bool (!eqR y tq)) ?_ (hy := (fun u => dV rfl rfl rfl))
   refine dwp 12 (.bool (!eqR y tq)) ?_
   refine aH (i := 13) (by kernel_rfl) rfl ?_
   intro K' hK'
   rw [if_pos (by go_simp)]
   refine aJ none rfl 28 _ _ rfl _ _ rfl rfl RS.out (hK' _ _ (.inr fun _ => HS2.out) ?_)
   clear hK'
   try simp only [Act.put, List.setIfInBounds_toArray, List.set_cons_zero, List.set_cons_succ]
   refine dwp 14 (.bool (!eqR y tq)) ?_
   refine aK (by kernel_rfl) ?_ _
   go_wp2
   obtain rfl := EX.out
   obtain rfl := EY.out
   obtain rfl := EP.out
   obtain rfl := EQ.out
   exact bodyPost_ret (fA rfl rfl HR.out rfl) rfl ⟨(by first | rfl | (rw [he]; rfl)), HZ.out⟩
theorem aDY {bk sh : ByteArray} {a n m : Int} {H : Hm} {t : T} (hk : t.1.k = 3) (hof : ofR ⟨bk, sh, false, false, a, n, m⟩ H (top t.1) = true) (w : World) (sl : Value) :
  Calls Tryz.prog 11 #[.agg (lcs t.1 sl), hmV H, .agg (aW ⟨bk, sh, false, false, a, n, m⟩)] w fun e w' => e = .returned (.tuple #[.agg (lcs (arL ⟨bk, sh, false, false, a, n, m⟩ (top t.1) (tof t.1)) (.slice none 0 0)), .bool (chA ⟨bk, sh, false, false, a, n, m⟩ (top t.1) (tof t.1))]) ∧ Below w.heap.size w w' := by
 have HX : Hid (RB w t sl H ⟨bk, sh, false, false, a, n, m⟩ (rbW w t sl H ⟨bk, sh, false, false, a, n, m⟩)) := RB.new w t sl H _
 have hkc := HX.out.k
 rw [hk] at hkc
 have RR : Hid _ := HX.out.ref
 have RT : Hid _ := HX.out.to
 have RH : Hid _ := kF HX.out.b1
 have RC : Hid _ := kI HX.out.b2
 obtain ⟨_, _, q2, _, _, _, _⟩ := eH HX.out.b2
 have HO := fun u => lC (top t.1) H ⟨bk, sh, false, false, a, n, m⟩ u
 rw [hof] at HO
 have HG := fun u => kZ u
 have HC := fun u => nM (top t.1) (tof t.1) u
 unfold arL chA
 generalize lo (top t.1) (tof t.1) = X at *
 generalize hi (top t.1) (tof t.1) = Y at *
 obtain ⟨xb, xh, xr, xc, xfr, xfc⟩ := X
 obtain ⟨yb, yh, yr, yc, yfr, yfc⟩ := Y
 rw [show arB ⟨bk, sh, false, false, a, n, m⟩ ⟨xb, xh, xr, xc, xfr, xfc⟩ ⟨yb, yh, yr, yc, yfr, yfc⟩ = Hs.spB a n m xr yr from rfl, show arX ⟨bk, sh, false, false, a, n, m⟩ ⟨xb, xh, xr, xc, xfr, xfc⟩ ⟨yb, yh, yr, yc, yfr, yfc⟩ = ⟨xb, xh, Hs.spL a n m xr yr, xc, xfr, xfc⟩ from rfl, show arY ⟨bk, sh, false, false, a, n, m⟩ ⟨xb, xh, xr, xc, xfr, xfc⟩ ⟨yb, yh, yr, yc, yfr, yfc⟩ = ⟨yb, yh, Hs.spH a n m xr yr, yc, yfr, yfc⟩ from rfl]
 have HS := fun u => Hs.uX a n m xr yr u
 generalize Hs.spB a n m xr yr = sb at *
 generalize Hs.spL a n m xr yr = sl1 at *
 generalize Hs.spH a n m xr yr = sl2 at *
 clear hof hk
 go_enter Tryz.func11, Tryz.ntmps11
 go_upto_region 11 with (first
  | ((with_reducible show wpList _ _ _ ({ dst := _, op := Op.load 25 _, type := _, pos := _, after := _, guard := some _ } :: _) _ _); refine aF 25 _ rfl _ _ rfl RR.out (by go_simp) ?_)
  | ((with_reducible show wpList _ _ _ ({ dst := _, op := Op.load 30 _, type := _, pos := _, after := _, guard := some _ } :: _) _ _); refine aF 30 _ rfl _ _ rfl RH.out (by go_simp) ?_)
  | ((with_reducible show wpList _ _ _ ({ dst := _, op := Op.load 42 _, type := _, pos := _, after := _, guard := some _ } :: _) _ _); refine aF 42 _ rfl _ _ rfl RC.out (by go_simp) ?_)
  | (go_at_call 26; refine (HO _).mono ?_; clear HO; rintro e w1 ⟨rfl, hb⟩; have HX : Hid _ := RB.step HX.out hb; clear RR RC q2; have RR : Hid _ := HX.out.ref; have RT : Hid _ := HX.out.to; have RC : Hid _ := kI HX.out.b2; obtain ⟨_, _, q2, _, _, _, _⟩ := eH HX.out.b2; clear hb)
  | ((with_reducible show wpList _ _ _ ({ dst := _, op := Op.load 25 _, type := _, pos := _, after := _, guard := none } :: _) _ _); refine aB rfl 25 _ rfl _ _ rfl RR.out ?_)
  | ((with_reducible show wpList _ _ _ ({ dst := _, op := Op.load 25 _, type := _, pos := _, after := _, guard := none } :: _) _ _); refine aB rfl 25 _ rfl _ _ rfl RT.out ?_)
  | (go_at_call 29; refine (HC _).mono ?_; clear HC; rintro e w2 ⟨rfl, hb⟩; have HX : Hid _ := RB.step HX.out hb; obtain ⟨RS1, RS2, HA⟩ := RA.new HX.out ⟨xb, xh, xr, xc, xfr, xfc⟩ ⟨yb, yh, yr, yc, yfr, yfc⟩; clear hb RR RT RH RC q2 HX)
  | ((with_reducible show wpList _ _ _ ({ dst := _, op := Op.store 25 _ _, type := _, pos := _, after := _, guard := none } :: _) _ _); refine aD rfl 25 _ _ rfl _ _ _ rfl rfl RS1.out ?_; clear RS1)
  | ((with_reducible show wpList _ _ _ ({ dst := _, op := Op.store 25 _ _, type := _, pos := _, after := _, guard := none } :: _) _ _); refine aD rfl 25 _ _ rfl _ _ _ rfl rfl RS2.out ?_; clear RS2))
 show Code.wp Tryz.prog _ _ _ ((((w2.alloc (rfO z0)).alloc (rfO z0)).setRow w2.heap.size (rfC ⟨xb, xh, xr, xc, xfr, xfc⟩)).setRow (w2.heap.size + 1) (rfC ⟨yb, yh, yr, yc, yfr, yfc⟩))
 generalize (((w2.alloc (rfO z0)).alloc (rfO z0)).setRow w2.heap.size (rfC ⟨xb, xh, xr, xc, xfr, xfc⟩)).setRow (w2.heap.size + 1) (rfC ⟨yb, yh, yr, yc, yfr, yfc⟩) = v at *
 generalize w2.heap.size = g at *
 obtain ⟨_, _, _, q3, q4, q5, q6⟩ := eH HA.out.b.b2
 have p1 := (aP HA.out.x1).2.2.1
 have p2 := (aP HA.out.x2).2.2.1
 clear hkc
 go_upto_region 15 with (first
  | (go_at_call 30; refine (HS _).mono ?_; clear HS; rintro e w5 ⟨rfl, hb⟩; have HA : Hid _ := HA.out.step hb; clear hb q3 q4 q5 q6 p1 p2; have f1 := (bH HA.out.x1).2.2.1; have f2 := (bH HA.out.x2).2.2.1; have p1 := (aP HA.out.x1).2.2.1; have p2 := (aP HA.out.x2).2.2.1; have HA : Hid _ := HA.out.row sl1 sl2))
 clear p1 p2 f1 f2
 show Code.wp Tryz.prog _ _ _ ((w5.setCell ⟨g, 2, none⟩ (.int .i64 sl1)).setCell ⟨g + 1, 2, none⟩ (.int .i64 sl2))
 generalize (w5.setCell ⟨g, 2, none⟩ (.int .i64 sl1)).setCell ⟨g + 1, 2, none⟩ (.int .i64 sl2) = v5 at *
 have HA : Hid (RA w t sl H ⟨bk, sh, false, false, a, n, m⟩ g ⟨xb, xh, sl1, xc, xfr, xfc⟩ ⟨yb, yh, sl2, yc, yfr, yfc⟩ v5) := HA.out
 generalize hx : (⟨xb, xh, sl1, xc, xfr, xfc⟩ : Rf) = x at *
 generalize hy : (⟨yb, yh, sl2, yc, yfr, yfc⟩ : Rf) = y at *
 have EX : Hid (⟨xb, xh, sl1, xc, xfr, xfc⟩ = x) := hx
 have EY : Hid (⟨yb, yh, sl2, yc, yfr, yfc⟩ = y) := hy
 clear hx hy
 cases sb
 ·try simp only [Bool.false_eq_true, if_false]
  have HX : Hid _ := HA.out.b
  go_wp2_with (first
   | (go_at_call 28; refine (HG _).mono ?_; clear HG; rintro e w4 ⟨rfl, hb⟩; have HX : Hid _ := RB.step HX.out hb; obtain ⟨RS, HR, HZ⟩ := HX.out.fin gone; clear hb)
   | ((with_reducible show wpList _ _ _ ({ dst := _, op := Op.store 28 _ _, type := _, pos := _, after := _, guard := none } :: _) _ _); refine aD rfl 28 _ _ rfl _ _ _ rfl rfl RS.out ?_))
  exact bodyPost_ret (fA rfl rfl HR.out rfl) rfl ⟨rfl, HZ.out⟩
 ·try simp only [if_true]
  have n0 : v5.drew.heap[w.heap.size + 3]? = some (.cells nd0 28) := HA.out.b.b3
  have hb0 : RB' w t sl v5.drew := HA.out.b.b0
  have hx1 : AtZ v5.drew g x := HA.out.x1
  have hx2 : AtZ v5.drew (g + 1) y := HA.out.x2
  have hlt := HA.out.lt
  have n3 := HA.out.b.bel.drew
  have RS : Hid _ := nN (bN x y) n0
  have HR : Hid _ := nO (bN x y) n0
  have HZ : Hid (Below w.heap.size w (v5.drew.setRow (w.heap.size + 3) (lcs (bN x y) (.slice none 0 0)))) := n3.grown (aC _ _ _) n3.size (fun g e => by cases e; omega)
  have HS : Hid (LD v5.drew g x ∧ LD v5.drew (g + 1) y ∧ LR5 v5.drew w.heap.size (top t.1) ∧ aAu v5.drew w.heap.size (tof t.1)) := ⟨bX hx1, bX hx2, (aN hb0).2.2.2.1, (aN hb0).2.2.2.2⟩
  have hb1 : RB' w t sl (v5.drew.setRow (w.heap.size + 3) (lcs (bN x y) (.slice none 0 0))) := (setRow_other _ _ _ _ (by omega)).trans hb0
  have HS2 : Hid (LD (v5.drew.setRow (w.heap.size + 3) (lcs (bN x y) (.slice none 0 0))) g x ∧ LD (v5.drew.setRow (w.heap.size + 3) (lcs (bN x y) (.slice none 0 0))) (g + 1) y ∧ LR5 (v5.drew.setRow (w.heap.size + 3) (lcs (bN x y) (.slice none 0 0))) w.heap.size (top t.1) ∧ aAu (v5.drew.setRow (w.heap.size + 3) (lcs (bN x y) (.slice none 0 0))) w.heap.size (tof t.1)) :=
   ⟨bX ((setRow_other v5.drew _ _ _ (by omega)).trans hx1), bX ((setRow_other v5.drew _ _ _ (by omega)).trans hx2), (aN hb1).2.2.2.1, (aN hb1).2.2.2.2⟩
  clear n0 hb0 hb1 hx1 hx2 hlt n3 HA HG
  go_upto_region 17 with fail
  generalize hx : top t.1 = tp at *
  generalize hy : tof t.1 = tq at *
  have EP : Hid (top t.1 = tp) := hx
  have EQ : Hid (tof t.1 = tq) := hy
  clear hx hy
  cases he : eqR x tp
  ·refine aQ (fun u => LD u g x ∧ LD u (g + 1) y ∧ LR5 u w.heap.size tp ∧ aAu u w.heap.size tq) (fun j => false) (by kernel_rfl) ?_
   refine dwl 0 (rfV x) ?_ (hS := HS.out) (hy := (fun u hSu => aI rfl rfl hSu.1))
   refine dwl 1 (rfV y) ?_ (hS := HS.out) (hy := (fun u hSu => aI rfl rfl hSu.2.1))
   refine dwp 2 (.agg (lcs (bN x y) (.slice none 0 0))) ?_ (hy := (fun u => dP rfl (by go_simp) (gG u x y)))
   refine dwl 3 (rfV x) ?_ (hS := HS.out) (hy := (fun u hSu => aI rfl rfl hSu.1))
   refine dwp 4 (.pointer (some ⟨w.heap.size, 5, none⟩)) ?_
   refine dwl 5 (rfV tp) ?_ (hS := HS.out) (hy := (fun u hSu => aI rfl rfl hSu.2.2.1))
   refine dwp 6 (.bool true) ?_ (hy := (fun u => (dV rfl rfl rfl).trans (by rw [he]; rfl)))
   refine dwp 7 (.bool true) ?_
   refine dws 8 ?_
   refine dws 9 ?_
   refine dws 10 ?_
   refine dws 11 ?_
   refine dwp 12 (.bool true) ?_
   refine aH (i := 13) (by kernel_rfl) rfl ?_
   intro K' hK'
   rw [if_pos (by go_simp)]
   refine aJ none rfl 28 _ _ rfl _ _ rfl rfl RS.out (hK' _ _ (.inr fun _ => HS2.out) ?_)
   clear hK'
   try simp only [Act.put, List.setIfInBounds_toArray, List.set_cons_zero, List.set_cons_succ]
   refine dwp 14 (.bool true) ?_
   refine aK (by kernel_rfl) ?_ _
   go_wp2
   obtain rfl := EX.out
   obtain rfl := EY.out
   obtain rfl := EP.out
   obtain rfl := EQ.out
   exact bodyPost_ret (fA rfl rfl HR.out rfl) rfl ⟨(by first | rfl | (rw [he]; rfl)), HZ.out⟩
  ·refine aQ (fun u => LD u g x ∧ LD u (g + 1) y ∧ LR5 u w.heap.size tp ∧ aAu u w.heap.size tq) (fun j => false) (by kernel_rfl) ?_
   refine dwl 0 (rfV x) ?_ (hS := HS.out) (hy := (fun u hSu => aI rfl rfl hSu.1))
   refine dwl 1 (rfV y) ?_ (hS := HS.out) (hy := (fun u hSu => aI rfl rfl hSu.2.1))
   refine dwp 2 (.agg (lcs (bN x y) (.slice none 0 0))) ?_ (hy := (fun u => dP rfl (by go_simp) (gG u x y)))
   refine dwl 3 (rfV x) ?_ (hS := HS.out) (hy := (fun u hSu => aI rfl rfl hSu.1))
   refine dwp 4 (.pointer (some ⟨w.heap.size, 5, none⟩)) ?_
   refine dwl 5 (rfV tp) ?_ (hS := HS.out) (hy := (fun u hSu => aI rfl rfl hSu.2.2.1))
   refine dwp 6 (.bool false) ?_ (hy := (fun u => (dV rfl rfl rfl).trans (by rw [he]; rfl)))
   refine dwp 7 (.bool false) ?_
   refine dwl 8 (rfV y) ?_ (hS := HS.out) (hy := (fun u hSu => aI rfl rfl hSu.2.1))
   refine dwp 9 (.pointer (some ⟨w.heap.size, 11, none⟩)) ?_
   refine dwl 10 (rfV tq) ?_ (hS := HS.out) (hy := (fun u hSu => aI rfl rfl hSu.2.2.2))
   refine dwp 11 (.bool (!eqR y tq)) ?_ (hy := (fun u => dV rfl rfl rfl))
   refine dwp 12 (.bool (!eqR y tq)) ?_
   refine aH (i := 13) (by kernel_rfl) rfl ?_
   intro K' hK'
   rw [if_pos (by go_simp)]
   refine aJ none rfl 28 _ _ rfl _ _ rfl rfl RS.out (hK' _ _ (.inr fun _ => HS2.out) ?_)
   clear hK'
   try simp only [Act.put, List.setIfInBounds_toArray, List.set_cons_zero, List.set_cons_succ]
   refine dwp 14 (.bool (!eqR y tq)) ?_
   refine aK (by kernel_rfl) ?_ _
   go_wp2
   obtain rfl := EX.out
   obtain rfl := EY.out
   obtain rfl := EP.out
   obtain rfl := EQ.out
   exact bodyPost_ret (fA rfl rfl HR.out rfl) rfl ⟨(by first | rfl | (rw [he]; rfl)), HZ.out⟩
theorem aBJ {C : Chg} {H : Hm} {t : T} (hk : t.1.k = 3) (hof : ofR C H (top t.1) = true) (w : World) (sl : Value) :
  Calls Tryz.prog 11 #[.agg (lcs t.1 sl), hmV H, .agg (aW C)] w fun e w' => e = .returned (.tuple #[.agg (lcs (arL C (top t.1) (tof t.1)) (.slice none 0 0)), .bool (chA C (top t.1) (tof t.1))]) ∧ Below w.heap.size w w' := by
 obtain ⟨bk, sh, dr, co, a, n, m⟩ := C
 cases dr
 ·cases co
  ·exact aDY hk hof w sl
  ·exact aDX hk hof w sl
 ·exact aBI hk hof rfl w sl
end Go.Proofs.YtljmklbbngpllaaGreatDoor.Rw
