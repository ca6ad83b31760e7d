/- RwFn3, RPar1, RPar3b, RPar5, RPar6, RPar3a, RwMv. -/
import Derived.Test.YtljmklbbngpllaaGreatDoorRwFn2Bk
set_option linter.unusedVariables false
set_option linter.unusedSimpArgs false
set_option maxHeartbeats 16000000
set_option maxRecDepth 100000
namespace Go.Proofs.YtljmklbbngpllaaGreatDoor.Rw
open Go.RowKit
theorem kC {u v : World} {b i : Nat} (h : v.heap[b]? = u.heap[b]?) : v.cell? ⟨b, i, none⟩ = u.cell? ⟨b, i, none⟩ := by
 unfold World.cell?
 simp only [h]
theorem aD6 {bk sh : ByteArray} {dr : Bool} {a n m : Int} {g : Nat} {w : World} (h : Fol w g ⟨bk, sh, dr, true, a, n, m⟩) (x y : Rf) :
  Calls Tryz.prog 68 #[rfV x, rfV y, .pointer (some ⟨g, 0, none⟩), .pointer (some ⟨g + 1, 0, none⟩)] w fun e w' => e = .returned (.tuple #[rfV (bH ⟨bk, sh, dr, true, a, n, m⟩ x (Hs.spL a n m (ln ⟨bk, sh, dr, true, a, n, m⟩ x) (ln ⟨bk, sh, dr, true, a, n, m⟩ y))), rfV (bH ⟨bk, sh, dr, true, a, n, m⟩ y (Hs.spH a n m (ln ⟨bk, sh, dr, true, a, n, m⟩ x) (ln ⟨bk, sh, dr, true, a, n, m⟩ y))), .bool (Hs.spB a n m (ln ⟨bk, sh, dr, true, a, n, m⟩ x) (ln ⟨bk, sh, dr, true, a, n, m⟩ y))]) ∧ Below w.heap.size w w' := by
 obtain ⟨b1, s1, r1, c1, fr1, fc1⟩ := x
 obtain ⟨b2, s2, r2, c2, fr2, fc2⟩ := y
 simp only [bH, ln, if_true, Bool.false_eq_true, if_false]
 obtain ⟨W, hW⟩ : ∃ W, W = (((w.alloc (aR b1 s1 r1 c1 fr1 fc1)).alloc (aR b2 s2 r2 c2 fr2 fc2)).alloc (rfO z0)).alloc (rfO z0) := ⟨_, rfl⟩
 have HB0 : Below w.heap.size w W := by rw [hW]; exact aC (aC (aC (aC (Below.refl _ _) _) _) _) _
 have hz : W.heap.size = w.heap.size + 4 := by rw [hW]; simp
 have HF : Hid (∀ u, Below W.heap.size W u → (u.heap[w.heap.size]? = some (aR b1 s1 r1 c1 fr1 fc1) ∧ u.heap[w.heap.size + 1]? = some (aR b2 s2 r2 c2 fr2 fc2) ∧ u.heap[w.heap.size + 2]? = some (rfO z0) ∧ u.heap[w.heap.size + 3]? = some (rfO z0)) ∧ Below w.heap.size w u) := fun u hu => by
  have hu0 := hu
  rw [hW] at hu
  have q3 := new1 hu
  have q2 := new1 (aS hu)
  have q1 := new1 (aS (aS hu))
  have q0 := new1 (aS (aS (aS hu)))
  simp only [World.size_alloc] at q0 q1 q2 q3
  exact ⟨⟨q0, q1, q2, q3⟩, aJ HB0 hu0⟩
 have HC : Hid (∀ u, Below W.heap.size W u → (u.cell? ⟨w.heap.size, 3, none⟩ = some (.int .i64 c1) ∧ u.cell? ⟨w.heap.size + 1, 3, none⟩ = some (.int .i64 c2)) ∧ (u.cell? ⟨g, 0, none⟩ = some (.int .i64 a) ∧ u.cell? ⟨g, 1, none⟩ = some (.int .i64 n) ∧ u.cell? ⟨g, 2, none⟩ = some (.int .i64 m)) ∧ u.cell? ⟨g + 1, 0, none⟩ = some (.func (.func 44) #[] #[])) :=
  fun u hu => ⟨⟨(aQ (HF.out u hu).1.1).2.2.2.1, (aQ (HF.out u hu).1.2.1).2.2.2.1⟩, mD (h.below (aJ HB0 hu))⟩
 have HP : RC W 69 #[Hs.shV a n m, .int .i64 c1, .int .i64 c2] _ := RC.of fun u _ => Hs.aAE a n m c1 c2 u
 have HR : Hid (Below W.heap.size W W.drew) := (Below.refl _ _).drew
 generalize Hs.spL a n m c1 c2 = pl at *
 generalize Hs.spH a n m c1 c2 = ph at *
 generalize Hs.spB a n m c1 c2 = pb at *
 have hg : g + 1 < w.heap.size := aW h.lin
 clear h HB0 hz
 subst hW
 go_enter Tryz.func68, Tryz.ntmps68
 go_wp2
 go_region_held_law (fun u => (u.cell? ⟨w.heap.size, 3, none⟩ = some (.int .i64 c1) ∧ u.cell? ⟨w.heap.size + 1, 3, none⟩ = some (.int .i64 c2)) ∧ (u.cell? ⟨g, 0, none⟩ = some (.int .i64 a) ∧ u.cell? ⟨g, 1, none⟩ = some (.int .i64 n) ∧ u.cell? ⟨g, 2, none⟩ = some (.int .i64 m)) ∧ u.cell? ⟨g + 1, 0, none⟩ = some (.func (.func 44) #[] #[]))
  (exact HC.out _ HR.out) (first
  | (go_at_call 44; refine (lY _ _).mono ?_; rintro e w' ⟨rfl, hw⟩; obtain rfl := hw.symm; clear hw)
  | (go_at_call 69; refine (HP _ HR.out).mono ?_; rintro e w7 ⟨rfl, hb⟩; have HR : Hid _ := hb; clear hb))
 obtain ⟨⟨k0, k1, k2, k3⟩, k4⟩ := HF.out _ HR.out
 have q0 : w7.cell? ⟨w.heap.size, 3, none⟩ = some (.int .i64 c1) := (aQ k0).2.2.2.1
 have f0 : w7.frozen? ⟨w.heap.size, 3, none⟩ = false := (dJ k0).2.2.2.1
 have q1 : w7.cell? ⟨w.heap.size + 1, 3, none⟩ = some (.int .i64 c2) := (aQ k1).2.2.2.1
 have f1 : w7.frozen? ⟨w.heap.size + 1, 3, none⟩ = false := (dJ k1).2.2.2.1
 have l0 := (HC.out _ HR.out).2.2
 have l1 : (w7.setCell ⟨w.heap.size, 3, none⟩ (.int .i64 pl)).cell? ⟨g + 1, 0, none⟩ = some (.func (.func 44) #[] #[]) := (kC (heap_setCell_other w7 ⟨w.heap.size, 3, none⟩ (g + 1) (.int .i64 pl) (by simp; omega))).trans l0
 have l2 : ((w7.setCell ⟨w.heap.size, 3, none⟩ (.int .i64 pl)).setCell ⟨w.heap.size + 1, 3, none⟩ (.int .i64 ph)).cell? ⟨g + 1, 0, none⟩ = some (.func (.func 44) #[] #[]) := (kC (heap_setCell_other _ ⟨w.heap.size + 1, 3, none⟩ (g + 1) (.int .i64 ph) (by simp; omega))).trans l1
 have K0 := (heap_setCell_other (w7.setCell ⟨w.heap.size, 3, none⟩ (.int .i64 pl)) ⟨w.heap.size + 1, 3, none⟩ w.heap.size (.int .i64 ph) (by simp)).trans (aGv k0 pl)
 have K1 := aGv ((heap_setCell_other w7 ⟨w.heap.size, 3, none⟩ (w.heap.size + 1) (.int .i64 pl) (by simp)).trans k1) ph
 have K2 := (heap_setCell_other (w7.setCell ⟨w.heap.size, 3, none⟩ (.int .i64 pl)) ⟨w.heap.size + 1, 3, none⟩ (w.heap.size + 2) (.int .i64 ph) (by simp)).trans ((heap_setCell_other w7 ⟨w.heap.size, 3, none⟩ (w.heap.size + 2) (.int .i64 pl) (by simp)).trans k2)
 have K3 := (heap_setCell_other (w7.setCell ⟨w.heap.size, 3, none⟩ (.int .i64 pl)) ⟨w.heap.size + 1, 3, none⟩ (w.heap.size + 3) (.int .i64 ph) (by simp)).trans ((heap_setCell_other w7 ⟨w.heap.size, 3, none⟩ (w.heap.size + 3) (.int .i64 pl) (by simp)).trans k3)
 have K4 : Below w.heap.size w ((w7.setCell ⟨w.heap.size, 3, none⟩ (.int .i64 pl)).setCell ⟨w.heap.size + 1, 3, none⟩ (.int .i64 ph)) := (k4.setCell (by simp) _).setCell (by simp) _
 have KK : Hid (_ ∧ _ ∧ _ ∧ _ ∧ _) := ⟨K0, K1, K2, K3, K4⟩
 clear k0 k1 k2 k3 k4 HC HF HP K0 K1 K2 K3 K4
 go_wp2
 go_region_held_law (fun u => u.cell? ⟨g + 1, 0, none⟩ = some (.func (.func 44) #[] #[]))
  (first | exact l0 | exact l1 | exact l2) (first
  | (go_at_call 44; refine (lY _ _).mono ?_; rintro e w' ⟨rfl, hw⟩; obtain rfl := hw.symm; clear hw))
 go_wp2
 obtain ⟨K0, K1, K2, K3, K4⟩ := KK.out
 clear KK q0 q1 f0 f1 l0 l1 l2
 generalize (w7.setCell ⟨w.heap.size, 3, none⟩ (.int .i64 pl)).setCell ⟨w.heap.size + 1, 3, none⟩ (.int .i64 ph) = v at *
 have R0 := eD (x := ⟨b1, s1, r1, pl, fr1, fc1⟩) (u := v.drew.drew) K0
 have R1 := eD (x := ⟨b2, s2, r2, ph, fr2, fc2⟩) (u := v.drew.drew) K1
 have K2 : v.drew.drew.heap[w.heap.size + 2]? = some (rfO z0) := K2
 have K3 : v.drew.drew.heap[w.heap.size + 3]? = some (rfO z0) := K3
 have K3' := (setRow_other v.drew.drew (w.heap.size + 2) (w.heap.size + 3) (rfC ⟨b1, s1, r1, pl, fr1, fc1⟩) (by omega)).trans K3
 have RS0 : Hid _ := uJ (y := z0) ⟨b1, s1, r1, pl, fr1, fc1⟩ K2
 have RS1 : Hid _ := uJ (y := z0) ⟨b2, s2, r2, ph, fr2, fc2⟩ K3'
 have KA : Hid _ := (setRow_other (v.drew.drew.setRow (w.heap.size + 2) (rfC ⟨b1, s1, r1, pl, fr1, fc1⟩)) (w.heap.size + 3) (w.heap.size + 2) (rfC ⟨b2, s2, r2, ph, fr2, fc2⟩) (by omega)).trans (uK (y := z0) ⟨b1, s1, r1, pl, fr1, fc1⟩ K2)
 have KZ : Hid _ := uK (y := z0) ⟨b2, s2, r2, ph, fr2, fc2⟩ K3'
 have KB0 : Below w.heap.size w (v.drew.drew.setRow (w.heap.size + 2) (rfC ⟨b1, s1, r1, pl, fr1, fc1⟩)) := K4.drew.drew.grown (aD _ _ _) K4.drew.drew.size (fun g e => by cases e; omega)
 have KB : Hid (Below w.heap.size w ((v.drew.drew.setRow (w.heap.size + 2) (rfC ⟨b1, s1, r1, pl, fr1, fc1⟩)).setRow (w.heap.size + 3) (rfC ⟨b2, s2, r2, ph, fr2, fc2⟩))) := KB0.grown (aD _ _ _) KB0.size (fun g e => by cases e; omega)
 have HS : Hid (_ ∧ _) := ⟨R0, R1⟩
 have HS2 : Hid (_ ∧ _) := ⟨eD (x := ⟨b1, s1, r1, pl, fr1, fc1⟩) ((setRow_other v.drew.drew (w.heap.size + 2) w.heap.size (rfC ⟨b1, s1, r1, pl, fr1, fc1⟩) (by omega)).trans K0), eD (x := ⟨b2, s2, r2, ph, fr2, fc2⟩) ((setRow_other v.drew.drew (w.heap.size + 2) (w.heap.size + 1) (rfC ⟨b1, s1, r1, pl, fr1, fc1⟩) (by omega)).trans K1)⟩
 clear K0 K1 K2 K3 K4 K3' KB0 R0 R1
 refine aM (fun u => (Instr.loadAt 25 (.pointer (some ⟨w.heap.size, 0, none⟩))).run Tryz.prog u = .ok (rfV ⟨b1, s1, r1, pl, fr1, fc1⟩) u ∧ (Instr.loadAt 25 (.pointer (some ⟨w.heap.size + 1, 0, none⟩))).run Tryz.prog u = .ok (rfV ⟨b2, s2, r2, ph, fr2, fc2⟩) u) (fun j => j == 4) (by kernel_rfl) ?_
 refine dwl 0 (rfV ⟨b1, s1, r1, pl, fr1, fc1⟩) ?_ (hS := HS.out) (hy := (fun u hSu => aG rfl rfl hSu.1))
 refine dwl 1 (rfV ⟨b2, s2, r2, ph, fr2, fc2⟩) ?_ (hS := HS.out) (hy := (fun u hSu => aG rfl rfl hSu.2))
 refine dwp 2 (.bool pb) ?_
 refine aF (i := 3) (by kernel_rfl) rfl ?_
 intro K' hK'
 rw [if_pos (by go_simp)]
 refine aH none rfl 25 _ _ rfl _ _ rfl rfl RS0.out (hK' _ _ (.inr fun _ => HS2.out) ?_)
 clear hK'
 try simp only [Act.put, List.setIfInBounds_toArray, List.set_cons_zero, List.set_cons_succ]
 refine aF (i := 4) (by kernel_rfl) rfl ?_
 intro K' hK'
 rw [if_pos (by go_simp)]
 refine aH none rfl 25 _ _ rfl _ _ rfl rfl RS1.out (hK' _ _ (.inl rfl) ?_)
 clear hK'
 try simp only [Act.put, List.setIfInBounds_toArray, List.set_cons_zero, List.set_cons_succ]
 refine dwp 5 (.bool pb) ?_
 refine aK (by kernel_rfl) ?_ _
 go_wp2
 exact bodyPost_ret (aJi rfl rfl KA.out rfl KZ.out rfl) rfl ⟨rfl, KB.out⟩
theorem aD7 {bk sh : ByteArray} {dr : Bool} {a n m : Int} {g : Nat} {w : World} (h : Fol w g ⟨bk, sh, dr, false, a, n, m⟩) (x y : Rf) :
  Calls Tryz.prog 68 #[rfV x, rfV y, .pointer (some ⟨g, 0, none⟩), .pointer (some ⟨g + 1, 0, none⟩)] w fun e w' => e = .returned (.tuple #[rfV (bH ⟨bk, sh, dr, false, a, n, m⟩ x (Hs.spL a n m (ln ⟨bk, sh, dr, false, a, n, m⟩ x) (ln ⟨bk, sh, dr, false, a, n, m⟩ y))), rfV (bH ⟨bk, sh, dr, false, a, n, m⟩ y (Hs.spH a n m (ln ⟨bk, sh, dr, false, a, n, m⟩ x) (ln ⟨bk, sh, dr, false, a, n, m⟩ y))), .bool (Hs.spB a n m (ln ⟨bk, sh, dr, false, a, n, m⟩ x) (ln ⟨bk, sh, dr, false, a, n, m⟩ y))]) ∧ Below w.heap.size w w' := by
 obtain ⟨b1, s1, r1, c1, fr1, fc1⟩ := x
 obtain ⟨b2, s2, r2, c2, fr2, fc2⟩ := y
 simp only [bH, ln, if_true, Bool.false_eq_true, if_false]
 obtain ⟨W, hW⟩ : ∃ W, W = (((w.alloc (aR b1 s1 r1 c1 fr1 fc1)).alloc (aR b2 s2 r2 c2 fr2 fc2)).alloc (rfO z0)).alloc (rfO z0) := ⟨_, rfl⟩
 have HB0 : Below w.heap.size w W := by rw [hW]; exact aC (aC (aC (aC (Below.refl _ _) _) _) _) _
 have hz : W.heap.size = w.heap.size + 4 := by rw [hW]; simp
 have HF : Hid (∀ u, Below W.heap.size W u → (u.heap[w.heap.size]? = some (aR b1 s1 r1 c1 fr1 fc1) ∧ u.heap[w.heap.size + 1]? = some (aR b2 s2 r2 c2 fr2 fc2) ∧ u.heap[w.heap.size + 2]? = some (rfO z0) ∧ u.heap[w.heap.size + 3]? = some (rfO z0)) ∧ Below w.heap.size w u) := fun u hu => by
  have hu0 := hu
  rw [hW] at hu
  have q3 := new1 hu
  have q2 := new1 (aS hu)
  have q1 := new1 (aS (aS hu))
  have q0 := new1 (aS (aS (aS hu)))
  simp only [World.size_alloc] at q0 q1 q2 q3
  exact ⟨⟨q0, q1, q2, q3⟩, aJ HB0 hu0⟩
 have HC : Hid (∀ u, Below W.heap.size W u → (u.cell? ⟨w.heap.size, 2, none⟩ = some (.int .i64 r1) ∧ u.cell? ⟨w.heap.size + 1, 2, none⟩ = some (.int .i64 r2)) ∧ (u.cell? ⟨g, 0, none⟩ = some (.int .i64 a) ∧ u.cell? ⟨g, 1, none⟩ = some (.int .i64 n) ∧ u.cell? ⟨g, 2, none⟩ = some (.int .i64 m)) ∧ u.cell? ⟨g + 1, 0, none⟩ = some (.func (.func 45) #[] #[])) :=
  fun u hu => ⟨⟨(aQ (HF.out u hu).1.1).2.2.1, (aQ (HF.out u hu).1.2.1).2.2.1⟩, mD (h.below (aJ HB0 hu))⟩
 have HP : RC W 69 #[Hs.shV a n m, .int .i64 r1, .int .i64 r2] _ := RC.of fun u _ => Hs.aAE a n m r1 r2 u
 have HR : Hid (Below W.heap.size W W.drew) := (Below.refl _ _).drew
 generalize Hs.spL a n m r1 r2 = pl at *
 generalize Hs.spH a n m r1 r2 = ph at *
 generalize Hs.spB a n m r1 r2 = pb at *
 have hg : g + 1 < w.heap.size := aW h.lin
 clear h HB0 hz
 subst hW
 go_enter Tryz.func68, Tryz.ntmps68
 go_wp2
 go_region_held_law (fun u => (u.cell? ⟨w.heap.size, 2, none⟩ = some (.int .i64 r1) ∧ u.cell? ⟨w.heap.size + 1, 2, none⟩ = some (.int .i64 r2)) ∧ (u.cell? ⟨g, 0, none⟩ = some (.int .i64 a) ∧ u.cell? ⟨g, 1, none⟩ = some (.int .i64 n) ∧ u.cell? ⟨g, 2, none⟩ = some (.int .i64 m)) ∧ u.cell? ⟨g + 1, 0, none⟩ = some (.func (.func 45) #[] #[]))
  (exact HC.out _ HR.out) (first
  | (go_at_call 45; refine (lZ _ _).mono ?_; rintro e w' ⟨rfl, hw⟩; obtain rfl := hw.symm; clear hw)
  | (go_at_call 69; refine (HP _ HR.out).mono ?_; rintro e w7 ⟨rfl, hb⟩; have HR : Hid _ := hb; clear hb))
 obtain ⟨⟨k0, k1, k2, k3⟩, k4⟩ := HF.out _ HR.out
 have q0 : w7.cell? ⟨w.heap.size, 2, none⟩ = some (.int .i64 r1) := (aQ k0).2.2.1
 have f0 : w7.frozen? ⟨w.heap.size, 2, none⟩ = false := (dJ k0).2.2.1
 have q1 : w7.cell? ⟨w.heap.size + 1, 2, none⟩ = some (.int .i64 r2) := (aQ k1).2.2.1
 have f1 : w7.frozen? ⟨w.heap.size + 1, 2, none⟩ = false := (dJ k1).2.2.1
 have l0 := (HC.out _ HR.out).2.2
 have l1 : (w7.setCell ⟨w.heap.size, 2, none⟩ (.int .i64 pl)).cell? ⟨g + 1, 0, none⟩ = some (.func (.func 45) #[] #[]) := (kC (heap_setCell_other w7 ⟨w.heap.size, 2, none⟩ (g + 1) (.int .i64 pl) (by simp; omega))).trans l0
 have l2 : ((w7.setCell ⟨w.heap.size, 2, none⟩ (.int .i64 pl)).setCell ⟨w.heap.size + 1, 2, none⟩ (.int .i64 ph)).cell? ⟨g + 1, 0, none⟩ = some (.func (.func 45) #[] #[]) := (kC (heap_setCell_other _ ⟨w.heap.size + 1, 2, none⟩ (g + 1) (.int .i64 ph) (by simp; omega))).trans l1
 have K0 := (heap_setCell_other (w7.setCell ⟨w.heap.size, 2, none⟩ (.int .i64 pl)) ⟨w.heap.size + 1, 2, none⟩ w.heap.size (.int .i64 ph) (by simp)).trans (aGw k0 pl)
 have K1 := aGw ((heap_setCell_other w7 ⟨w.heap.size, 2, none⟩ (w.heap.size + 1) (.int .i64 pl) (by simp)).trans k1) ph
 have K2 := (heap_setCell_other (w7.setCell ⟨w.heap.size, 2, none⟩ (.int .i64 pl)) ⟨w.heap.size + 1, 2, none⟩ (w.heap.size + 2) (.int .i64 ph) (by simp)).trans ((heap_setCell_other w7 ⟨w.heap.size, 2, none⟩ (w.heap.size + 2) (.int .i64 pl) (by simp)).trans k2)
 have K3 := (heap_setCell_other (w7.setCell ⟨w.heap.size, 2, none⟩ (.int .i64 pl)) ⟨w.heap.size + 1, 2, none⟩ (w.heap.size + 3) (.int .i64 ph) (by simp)).trans ((heap_setCell_other w7 ⟨w.heap.size, 2, none⟩ (w.heap.size + 3) (.int .i64 pl) (by simp)).trans k3)
 have K4 : Below w.heap.size w ((w7.setCell ⟨w.heap.size, 2, none⟩ (.int .i64 pl)).setCell ⟨w.heap.size + 1, 2, none⟩ (.int .i64 ph)) := (k4.setCell (by simp) _).setCell (by simp) _
 have KK : Hid (_ ∧ _ ∧ _ ∧ _ ∧ _) := ⟨K0, K1, K2, K3, K4⟩
 clear k0 k1 k2 k3 k4 HC HF HP K0 K1 K2 K3 K4
 go_wp2
 go_region_held_law (fun u => u.cell? ⟨g + 1, 0, none⟩ = some (.func (.func 45) #[] #[]))
  (first | exact l0 | exact l1 | exact l2) (first
  | (go_at_call 45; refine (lZ _ _).mono ?_; rintro e w' ⟨rfl, hw⟩; obtain rfl := hw.symm; clear hw))
 go_wp2
 obtain ⟨K0, K1, K2, K3, K4⟩ := KK.out
 clear KK q0 q1 f0 f1 l0 l1 l2
 generalize (w7.setCell ⟨w.heap.size, 2, none⟩ (.int .i64 pl)).setCell ⟨w.heap.size + 1, 2, none⟩ (.int .i64 ph) = v at *
 have R0 := eD (x := ⟨b1, s1, pl, c1, fr1, fc1⟩) (u := v.drew.drew) K0
 have R1 := eD (x := ⟨b2, s2, ph, c2, fr2, fc2⟩) (u := v.drew.drew) K1
 have K2 : v.drew.drew.heap[w.heap.size + 2]? = some (rfO z0) := K2
 have K3 : v.drew.drew.heap[w.heap.size + 3]? = some (rfO z0) := K3
 have K3' := (setRow_other v.drew.drew (w.heap.size + 2) (w.heap.size + 3) (rfC ⟨b1, s1, pl, c1, fr1, fc1⟩) (by omega)).trans K3
 have RS0 : Hid _ := uJ (y := z0) ⟨b1, s1, pl, c1, fr1, fc1⟩ K2
 have RS1 : Hid _ := uJ (y := z0) ⟨b2, s2, ph, c2, fr2, fc2⟩ K3'
 have KA : Hid _ := (setRow_other (v.drew.drew.setRow (w.heap.size + 2) (rfC ⟨b1, s1, pl, c1, fr1, fc1⟩)) (w.heap.size + 3) (w.heap.size + 2) (rfC ⟨b2, s2, ph, c2, fr2, fc2⟩) (by omega)).trans (uK (y := z0) ⟨b1, s1, pl, c1, fr1, fc1⟩ K2)
 have KZ : Hid _ := uK (y := z0) ⟨b2, s2, ph, c2, fr2, fc2⟩ K3'
 have KB0 : Below w.heap.size w (v.drew.drew.setRow (w.heap.size + 2) (rfC ⟨b1, s1, pl, c1, fr1, fc1⟩)) := K4.drew.drew.grown (aD _ _ _) K4.drew.drew.size (fun g e => by cases e; omega)
 have KB : Hid (Below w.heap.size w ((v.drew.drew.setRow (w.heap.size + 2) (rfC ⟨b1, s1, pl, c1, fr1, fc1⟩)).setRow (w.heap.size + 3) (rfC ⟨b2, s2, ph, c2, fr2, fc2⟩))) := KB0.grown (aD _ _ _) KB0.size (fun g e => by cases e; omega)
 have HS : Hid (_ ∧ _) := ⟨R0, R1⟩
 have HS2 : Hid (_ ∧ _) := ⟨eD (x := ⟨b1, s1, pl, c1, fr1, fc1⟩) ((setRow_other v.drew.drew (w.heap.size + 2) w.heap.size (rfC ⟨b1, s1, pl, c1, fr1, fc1⟩) (by omega)).trans K0), eD (x := ⟨b2, s2, ph, c2, fr2, fc2⟩) ((setRow_other v.drew.drew (w.heap.size + 2) (w.heap.size + 1) (rfC ⟨b1, s1, pl, c1, fr1, fc1⟩) (by omega)).trans K1)⟩
 clear K0 K1 K2 K3 K4 K3' KB0 R0 R1
 refine aM (fun u => (Instr.loadAt 25 (.pointer (some ⟨w.heap.size, 0, none⟩))).run Tryz.prog u = .ok (rfV ⟨b1, s1, pl, c1, fr1, fc1⟩) u ∧ (Instr.loadAt 25 (.pointer (some ⟨w.heap.size + 1, 0, none⟩))).run Tryz.prog u = .ok (rfV ⟨b2, s2, ph, c2, fr2, fc2⟩) u) (fun j => j == 4) (by kernel_rfl) ?_
 refine dwl 0 (rfV ⟨b1, s1, pl, c1, fr1, fc1⟩) ?_ (hS := HS.out) (hy := (fun u hSu => aG rfl rfl hSu.1))
 refine dwl 1 (rfV ⟨b2, s2, ph, c2, fr2, fc2⟩) ?_ (hS := HS.out) (hy := (fun u hSu => aG rfl rfl hSu.2))
 refine dwp 2 (.bool pb) ?_
 refine aF (i := 3) (by kernel_rfl) rfl ?_
 intro K' hK'
 rw [if_pos (by go_simp)]
 refine aH none rfl 25 _ _ rfl _ _ rfl rfl RS0.out (hK' _ _ (.inr fun _ => HS2.out) ?_)
 clear hK'
 try simp only [Act.put, List.setIfInBounds_toArray, List.set_cons_zero, List.set_cons_succ]
 refine aF (i := 4) (by kernel_rfl) rfl ?_
 intro K' hK'
 rw [if_pos (by go_simp)]
 refine aH none rfl 25 _ _ rfl _ _ rfl rfl RS1.out (hK' _ _ (.inl rfl) ?_)
 clear hK'
 try simp only [Act.put, List.setIfInBounds_toArray, List.set_cons_zero, List.set_cons_succ]
 refine dwp 5 (.bool pb) ?_
 refine aK (by kernel_rfl) ?_ _
 go_wp2
 exact bodyPost_ret (aJi rfl rfl KA.out rfl KZ.out rfl) rfl ⟨rfl, KB.out⟩
end Go.Proofs.YtljmklbbngpllaaGreatDoor.Rw
namespace Go.Proofs.YtljmklbbngpllaaGreatDoor
open Go.RowKit Go.Fm
abbrev rpO (v : Value) (x : Bool) : Obj := .cells #[v, .bool x] 109
structure QR (W : World) (b : Nat) (L : List Tk.Tok) (w : World) : Prop where
 tab : cZ W
 bel : Below W.heap.size W w
 lo : W.heap.size ≤ b
 ok : OkL L
 blk : ∃ v, w.heap[b]? = some (rpO v false) ∧ TS W v (L.map tk)
structure QW (W : World) (b : Nat) (w : World) : Prop where
 tab : cZ W
 bel : Below W.heap.size W w
 lo : W.heap.size ≤ b
 blk : w.heap[b]? = some (rpO (.slice none 0 0) true)
structure QB (W : World) (b : Nat) (w : World) : Prop where
 tab : cZ W
 bel : Below W.heap.size W w
 lo : W.heap.size ≤ b
 blk : ∃ v x, w.heap[b]? = some (rpO v x)
def Sq (W : World) (b : Nat) (L : List Tk.Tok) (w w' : World) : Prop := QR W b L w' ∧ w.grownBy w' (some b)
def Sw (W : World) (b : Nat) (w w' : World) : Prop := QW W b w' ∧ w.grownBy w' (some b)
def NA (es : Array Value) : Prop := ∃ a p n c, es = lcs a (.slice p n c)
def RA (W : World) (b : Nat) (w : World) (o : Option (T × List Tk.Tok)) (es : Array Value) (w' : World) : Prop :=
 match o with
 | none => Sw W b w w'
 | some p => NK (fun i => w.heap.size ≤ i) w' es p.1 ∧ Sq W b p.2 w w'
structure BI (W : World) (b : Nat) (w : World) (g : Nat) (cur : Option (T × List Tk.Tok)) (es : Array Value) (u : World) : Prop where
 box : u.heap[g]? = some (.cells es 28)
 res : u.heap[w.heap.size]? = some (.cells nd0 28)
 na : NA es
 st : match cur with
  | none => Sw W b w u
  | some p => NK (fun i => w.heap.size < i ∧ i ≠ g) u es p.1 ∧ Sq W b p.2 w u
theorem aIx (u : World) (bk h : ByteArray) (r c : Int) (fr fc : Bool) : (Instr.build 28 #[(0, .int .i64 2), (3, aY bk h r c fr fc)]).run Tryz.prog u = .ok (.agg (lcs ⟨2, nb, 0, 0, nb, bk, h, r, c, fr, fc, nb, nb, 0, 0, false, false⟩ (.slice none 0 0))) u := by kernel_rfl
theorem aIy (u : World) (bk h : ByteArray) (r c : Int) (fr fc : Bool) (bk' h' : ByteArray) (r' c' : Int) (fr' fc' : Bool) : (Instr.build 28 #[(0, .int .i64 3), (3, aY bk h r c fr fc), (4, aY bk' h' r' c' fr' fc')]).run Tryz.prog u = .ok (.agg (lcs ⟨3, nb, 0, 0, nb, bk, h, r, c, fr, fc, bk', h', r', c', fr', fc'⟩ (.slice none 0 0))) u := by kernel_rfl
structure CI (W : World) (b : Nat) (w : World) (S : ByteArray) (v : Value) (L : List (Array Value × T)) (u : World) : Prop where
 box : u.heap[w.heap.size + 1]? = some (.cells (lcs (aT 7 S) v) 28)
 res : u.heap[w.heap.size]? = some (.cells nd0 28)
 own : fH (w.heap.size + 2) u v L
 grow : w.grownBy u (some b)
theorem uL (s : List UInt8) (w : World) : Calls Tryz.prog 97 #[.string (ba s)] w fun e w' => e = .returned (.int .i64 (cO s : Nat)) ∧ w' = w := by
  rcases sN s with h | ⟨h0, h1, h2, h3, h4, h5, h6, h7, h8, h9, h10, h11, h12⟩
  · rcases h with rfl | rfl | rfl | rfl | rfl | rfl | rfl | rfl | rfl | rfl | rfl | rfl <;>
      (go_enter Tryz.func97, Tryz.ntmps97
       go_wp2
       go_ret
       exact ⟨rfl, rfl⟩)
  · rw [h0]
    have k1 := bR h1
    have k2 := bR h2
    have k3 := bR h3
    have k4 := bR h4
    have k5 := bR h5
    have k6 := bR h6
    have k7 := bR h7
    have k8 := bR h8
    have k9 := bR h9
    have k10 := bR h10
    have k11 := bR h11
    have k12 := bR h12
    clear h0 h1 h2 h3 h4 h5 h6 h7 h8 h9 h10 h11 h12
    generalize ba s = S at *
    go_enter Tryz.func97, Tryz.ntmps97
    go_wp2
    go_ret
    exact ⟨rfl, rfl⟩
end Go.Proofs.YtljmklbbngpllaaGreatDoor
namespace Go.Proofs.YtljmklbbngpllaaGreatDoor.Rw
open Go.RowKit Go.Fm
theorem aIz (u : World) (n : Int) : (Instr.build 23 #[(0, .int .i64 4), (1, .int .i64 n)]).run Tryz.prog u = .ok (.agg #[.int .i64 4, .int .i64 n, .string noB]) u := by kernel_rfl
theorem aIA (u : World) : (Instr.build 28 #[(0, .int .i64 1), (2, .agg #[.int .i64 4, .int .i64 3, .string noB])]).run Tryz.prog u = .ok (.agg (lcs gone (.slice none 0 0))) u := by kernel_rfl
theorem aGz (u : World) (x : Rf) : (Instr.build 28 #[(0, .int .i64 2), (3, rfV x)]).run Tryz.prog u = .ok (.agg (lcs (jH x) (.slice none 0 0))) u := aIx u _ _ _ _ _ _
theorem oG (u : World) (x y : Rf) : (Instr.build 28 #[(0, .int .i64 3), (3, rfV x), (4, rfV y)]).run Tryz.prog u = .ok (.agg (lcs (dZ x y) (.slice none 0 0))) u := aIy u _ _ _ _ _ _ _ _ _ _ _ _
abbrev gl : Array Value := lcs gone (.slice none 0 0)
theorem uM {u : World} {g : Nat} (a : Lab) (h : u.heap[g]? = some (.cells nd0 28)) : (Instr.storeAt 28 (.pointer (some ⟨g, 0, none⟩)) (.agg (lcs a (.slice none 0 0)))).run Tryz.prog u = .ok () (u.setRow g (lcs a (.slice none 0 0))) :=
 sto h (by rw [aV]; exact bV) rfl (iV _ _ _ _)
theorem uN {u : World} {g : Nat} (a : Lab) (h : u.heap[g]? = some (.cells nd0 28)) : (u.setRow g (lcs a (.slice none 0 0))).heap[g]? = some (.cells (lcs a (.slice none 0 0)) 28) := setRow_heap _ _ _ _ _ _ h
theorem kK {fn : Func} {i j : Tmp} (hr : fn.results = #[.cell i 28, .tmp j]) {tmps : Array Value} {g : Nat} {u : World} {a : Lab} {sl v : Value} (hp : tmps.getD i undef = .pointer (some ⟨g, 0, none⟩)) (h : u.heap[g]? = some (.cells (lcs a sl) 28)) (hv : tmps.getD j undef = v) :
  (results fn tmps).run Tryz.prog u = .ok (.tuple #[.agg (lcs a sl), v]) u :=
 fT hr hp h rfl Tryz.underlying28 (by rw [aV]; exact bV) hv
theorem aKT {fn : Func} {i : Tmp} (hr : fn.results = #[.cell i 28]) {tmps : Array Value} {g : Nat} {u : World} {a : Lab} {sl : Value} (hp : tmps.getD i undef = .pointer (some ⟨g, 0, none⟩)) (h : u.heap[g]? = some (.cells (lcs a sl) 28)) :
  (results fn tmps).run Tryz.prog u = .ok (.agg (lcs a sl)) u :=
 results_cell_row hr _ _ g 28 _ (0, 0) _ hp h Tryz.underlying28 rfl (by rw [aV]; exact bV)
theorem mE (w : World) : Calls Tryz.prog 72 #[] w fun e w' => e = .returned (.agg gl) ∧ Below w.heap.size w w' := by
 have RB : Hid _ := aIz (w.alloc (.cells nd0 28)) 3
 have RG : Hid _ := aIA (w.alloc (.cells nd0 28))
 have H0 := heap_alloc_new w (.cells nd0 28)
 have RS : Hid _ := uM gone H0
 have HR : Hid _ := uN gone H0
 have HB0 : Below w.heap.size w (w.alloc (.cells nd0 28)) := aC (Below.refl _ _) _
 have HB : Hid (Below w.heap.size w ((w.alloc (.cells nd0 28)).setRow w.heap.size gl)) := HB0.grown (aD _ _ _) HB0.size (fun g e => by cases e; omega)
 clear H0 HB0
 go_enter Tryz.func72, Tryz.ntmps72
 go_wp2_with (first
  | ((with_reducible show wpList _ _ _ ({ dst := _, op := Op.build 23 _, type := _, pos := _, after := _, guard := none } :: _) _ _); refine bP rfl 23 _ rfl _ _ rfl RB.out ?_; clear RB)
  | ((with_reducible show wpList _ _ _ ({ dst := _, op := Op.build 28 _, type := _, pos := _, after := _, guard := none } :: _) _ _); refine bP rfl 28 _ rfl _ _ rfl RG.out ?_; clear RG)
  | ((with_reducible show wpList _ _ _ ({ dst := _, op := Op.store 28 _ _, type := _, pos := _, after := _, guard := none } :: _) _ _); refine aB rfl 28 _ _ rfl _ _ _ rfl rfl RS.out ?_; clear RS))
 exact bodyPost_ret (aKT rfl rfl HR.out) rfl ⟨rfl, HB.out⟩
end Go.Proofs.YtljmklbbngpllaaGreatDoor.Rw
