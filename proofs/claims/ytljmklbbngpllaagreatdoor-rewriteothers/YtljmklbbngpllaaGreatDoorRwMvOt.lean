/- RwFn3, RPar1, RPar3b, RPar5, RPar6, RPar3a, RwMv. -/
import Derived.Test.YtljmklbbngpllaaGreatDoorRwFn2Ot
set_option linter.unusedVariables false
set_option linter.unusedSimpArgs false
set_option maxHeartbeats 16000000
set_option maxRecDepth 100000
namespace Go.Proofs.YtljmklbbngpllaaGreatDoor.Rw
open Go.RowKit
theorem cell_heapE {u v : World} {b i : Nat} (h : v.heap[b]? = u.heap[b]?) : v.cell? ⟨b, i, none⟩ = u.cell? ⟨b, i, none⟩ := by
 unfold World.cell?
 simp only [h]
theorem area1_col {bk sh : ByteArray} {dr : Bool} {a n m : Int} {g : Nat} {w : World} (h : Fol w g ⟨bk, sh, dr, true, a, n, m⟩) (x y : Rf) :
  Calls Tryz.prog 68 #[rfV x, rfV y, .pointer (some ⟨g, 0, none⟩), .pointer (some ⟨g + 1, 0, none⟩)] w fun e w' => e = .returned (.tuple #[rfV (setLn ⟨bk, sh, dr, true, a, n, m⟩ x (Hs.spL a n m (ln ⟨bk, sh, dr, true, a, n, m⟩ x) (ln ⟨bk, sh, dr, true, a, n, m⟩ y))), rfV (setLn ⟨bk, sh, dr, true, a, n, m⟩ y (Hs.spH a n m (ln ⟨bk, sh, dr, true, a, n, m⟩ x) (ln ⟨bk, sh, dr, true, a, n, m⟩ y))), .bool (Hs.spB a n m (ln ⟨bk, sh, dr, true, a, n, m⟩ x) (ln ⟨bk, sh, dr, true, a, n, m⟩ y))]) ∧ Below w.heap.size w w' := by
 obtain ⟨b1, s1, r1, c1, fr1, fc1⟩ := x
 obtain ⟨b2, s2, r2, c2, fr2, fc2⟩ := y
 simp only [setLn, ln, if_true, Bool.false_eq_true, if_false]
 obtain ⟨W, hW⟩ : ∃ W, W = (((w.alloc (refO b1 s1 r1 c1 fr1 fc1)).alloc (refO b2 s2 r2 c2 fr2 fc2)).alloc (rfO z0)).alloc (rfO z0) := ⟨_, rfl⟩
 have HB0 : Below w.heap.size w W := by rw [hW]; exact bel_alloc (bel_alloc (bel_alloc (bel_alloc (Below.refl _ _) _) _) _) _
 have hz : W.heap.size = w.heap.size + 4 := by rw [hW]; simp
 have HF : Hid (∀ u, Below W.heap.size W u → (u.heap[w.heap.size]? = some (refO b1 s1 r1 c1 fr1 fc1) ∧ u.heap[w.heap.size + 1]? = some (refO b2 s2 r2 c2 fr2 fc2) ∧ u.heap[w.heap.size + 2]? = some (rfO z0) ∧ u.heap[w.heap.size + 3]? = some (rfO z0)) ∧ Below w.heap.size w u) := fun u hu => by
  have hu0 := hu
  rw [hW] at hu
  have q3 := new1 hu
  have q2 := new1 (bel1 hu)
  have q1 := new1 (bel1 (bel1 hu))
  have q0 := new1 (bel1 (bel1 (bel1 hu)))
  simp only [World.size_alloc] at q0 q1 q2 q3
  exact ⟨⟨q0, q1, q2, q3⟩, bel_step HB0 hu0⟩
 have HC : Hid (∀ u, Below W.heap.size W u → (u.cell? ⟨w.heap.size, 3, none⟩ = some (.int .i64 c1) ∧ u.cell? ⟨w.heap.size + 1, 3, none⟩ = some (.int .i64 c2)) ∧ (u.cell? ⟨g, 0, none⟩ = some (.int .i64 a) ∧ u.cell? ⟨g, 1, none⟩ = some (.int .i64 n) ∧ u.cell? ⟨g, 2, none⟩ = some (.int .i64 m)) ∧ u.cell? ⟨g + 1, 0, none⟩ = some (.func (.func 44) #[] #[])) :=
  fun u hu => ⟨⟨(r_cells (HF.out u hu).1.1).2.2.2.1, (r_cells (HF.out u hu).1.2.1).2.2.2.1⟩, fol_cells (h.below (bel_step HB0 hu))⟩
 have HP : RC W 69 #[Hs.shV a n m, .int .i64 c1, .int .i64 c2] _ := RC.of fun u _ => Hs.span_any a n m c1 c2 u
 have HR : Hid (Below W.heap.size W W.drew) := (Below.refl _ _).drew
 generalize Hs.spL a n m c1 c2 = pl at *
 generalize Hs.spH a n m c1 c2 = ph at *
 generalize Hs.spB a n m c1 c2 = pb at *
 have hg : g + 1 < w.heap.size := lt_of h.lin
 clear h HB0 hz
 subst hW
 go_enter Tryz.func68, Tryz.ntmps68
 go_wp2
 go_region_held_law (fun u => (u.cell? ⟨w.heap.size, 3, none⟩ = some (.int .i64 c1) ∧ u.cell? ⟨w.heap.size + 1, 3, none⟩ = some (.int .i64 c2)) ∧ (u.cell? ⟨g, 0, none⟩ = some (.int .i64 a) ∧ u.cell? ⟨g, 1, none⟩ = some (.int .i64 n) ∧ u.cell? ⟨g, 2, none⟩ = some (.int .i64 m)) ∧ u.cell? ⟨g + 1, 0, none⟩ = some (.func (.func 44) #[] #[]))
  (exact HC.out _ HR.out) (first
  | (go_at_call 44; refine (colOf_any _ _).mono ?_; rintro e w' ⟨rfl, hw⟩; obtain rfl := hw.symm; clear hw)
  | (go_at_call 69; refine (HP _ HR.out).mono ?_; rintro e w7 ⟨rfl, hb⟩; have HR : Hid _ := hb; clear hb))
 obtain ⟨⟨k0, k1, k2, k3⟩, k4⟩ := HF.out _ HR.out
 have q0 : w7.cell? ⟨w.heap.size, 3, none⟩ = some (.int .i64 c1) := (r_cells k0).2.2.2.1
 have f0 : w7.frozen? ⟨w.heap.size, 3, none⟩ = false := (r_free k0).2.2.2.1
 have q1 : w7.cell? ⟨w.heap.size + 1, 3, none⟩ = some (.int .i64 c2) := (r_cells k1).2.2.2.1
 have f1 : w7.frozen? ⟨w.heap.size + 1, 3, none⟩ = false := (r_free k1).2.2.2.1
 have l0 := (HC.out _ HR.out).2.2
 have l1 : (w7.setCell ⟨w.heap.size, 3, none⟩ (.int .i64 pl)).cell? ⟨g + 1, 0, none⟩ = some (.func (.func 44) #[] #[]) := (cell_heapE (heap_setCell_other w7 ⟨w.heap.size, 3, none⟩ (g + 1) (.int .i64 pl) (by simp; omega))).trans l0
 have l2 : ((w7.setCell ⟨w.heap.size, 3, none⟩ (.int .i64 pl)).setCell ⟨w.heap.size + 1, 3, none⟩ (.int .i64 ph)).cell? ⟨g + 1, 0, none⟩ = some (.func (.func 44) #[] #[]) := (cell_heapE (heap_setCell_other _ ⟨w.heap.size + 1, 3, none⟩ (g + 1) (.int .i64 ph) (by simp; omega))).trans l1
 have K0 := (heap_setCell_other (w7.setCell ⟨w.heap.size, 3, none⟩ (.int .i64 pl)) ⟨w.heap.size + 1, 3, none⟩ w.heap.size (.int .i64 ph) (by simp)).trans (set_c k0 pl)
 have K1 := set_c ((heap_setCell_other w7 ⟨w.heap.size, 3, none⟩ (w.heap.size + 1) (.int .i64 pl) (by simp)).trans k1) ph
 have K2 := (heap_setCell_other (w7.setCell ⟨w.heap.size, 3, none⟩ (.int .i64 pl)) ⟨w.heap.size + 1, 3, none⟩ (w.heap.size + 2) (.int .i64 ph) (by simp)).trans ((heap_setCell_other w7 ⟨w.heap.size, 3, none⟩ (w.heap.size + 2) (.int .i64 pl) (by simp)).trans k2)
 have K3 := (heap_setCell_other (w7.setCell ⟨w.heap.size, 3, none⟩ (.int .i64 pl)) ⟨w.heap.size + 1, 3, none⟩ (w.heap.size + 3) (.int .i64 ph) (by simp)).trans ((heap_setCell_other w7 ⟨w.heap.size, 3, none⟩ (w.heap.size + 3) (.int .i64 pl) (by simp)).trans k3)
 have K4 : Below w.heap.size w ((w7.setCell ⟨w.heap.size, 3, none⟩ (.int .i64 pl)).setCell ⟨w.heap.size + 1, 3, none⟩ (.int .i64 ph)) := (k4.setCell (by simp) _).setCell (by simp) _
 have KK : Hid (_ ∧ _ ∧ _ ∧ _ ∧ _) := ⟨K0, K1, K2, K3, K4⟩
 clear k0 k1 k2 k3 k4 HC HF HP K0 K1 K2 K3 K4
 go_wp2
 go_region_held_law (fun u => u.cell? ⟨g + 1, 0, none⟩ = some (.func (.func 44) #[] #[]))
  (first | exact l0 | exact l1 | exact l2) (first
  | (go_at_call 44; refine (colOf_any _ _).mono ?_; rintro e w' ⟨rfl, hw⟩; obtain rfl := hw.symm; clear hw))
 go_wp2
 obtain ⟨K0, K1, K2, K3, K4⟩ := KK.out
 clear KK q0 q1 f0 f1 l0 l1 l2
 generalize (w7.setCell ⟨w.heap.size, 3, none⟩ (.int .i64 pl)).setCell ⟨w.heap.size + 1, 3, none⟩ (.int .i64 ph) = v at *
 have R0 := rlod (x := ⟨b1, s1, r1, pl, fr1, fc1⟩) (u := v.drew.drew) K0
 have R1 := rlod (x := ⟨b2, s2, r2, ph, fr2, fc2⟩) (u := v.drew.drew) K1
 have K2 : v.drew.drew.heap[w.heap.size + 2]? = some (rfO z0) := K2
 have K3 : v.drew.drew.heap[w.heap.size + 3]? = some (rfO z0) := K3
 have K3' := (setRow_other v.drew.drew (w.heap.size + 2) (w.heap.size + 3) (rfC ⟨b1, s1, r1, pl, fr1, fc1⟩) (by omega)).trans K3
 have RS0 : Hid _ := rsto (y := z0) ⟨b1, s1, r1, pl, fr1, fc1⟩ K2
 have RS1 : Hid _ := rsto (y := z0) ⟨b2, s2, r2, ph, fr2, fc2⟩ K3'
 have KA : Hid _ := (setRow_other (v.drew.drew.setRow (w.heap.size + 2) (rfC ⟨b1, s1, r1, pl, fr1, fc1⟩)) (w.heap.size + 3) (w.heap.size + 2) (rfC ⟨b2, s2, r2, ph, fr2, fc2⟩) (by omega)).trans (rset (y := z0) ⟨b1, s1, r1, pl, fr1, fc1⟩ K2)
 have KZ : Hid _ := rset (y := z0) ⟨b2, s2, r2, ph, fr2, fc2⟩ K3'
 have KB0 : Below w.heap.size w (v.drew.drew.setRow (w.heap.size + 2) (rfC ⟨b1, s1, r1, pl, fr1, fc1⟩)) := K4.drew.drew.grown (setRow_grown _ _ _) K4.drew.drew.size (fun g e => by cases e; omega)
 have KB : Hid (Below w.heap.size w ((v.drew.drew.setRow (w.heap.size + 2) (rfC ⟨b1, s1, r1, pl, fr1, fc1⟩)).setRow (w.heap.size + 3) (rfC ⟨b2, s2, r2, ph, fr2, fc2⟩))) := KB0.grown (setRow_grown _ _ _) KB0.size (fun g e => by cases e; omega)
 have HS : Hid (_ ∧ _) := ⟨R0, R1⟩
 have HS2 : Hid (_ ∧ _) := ⟨rlod (x := ⟨b1, s1, r1, pl, fr1, fc1⟩) ((setRow_other v.drew.drew (w.heap.size + 2) w.heap.size (rfC ⟨b1, s1, r1, pl, fr1, fc1⟩) (by omega)).trans K0), rlod (x := ⟨b2, s2, r2, ph, fr2, fc2⟩) ((setRow_other v.drew.drew (w.heap.size + 2) (w.heap.size + 1) (rfC ⟨b1, s1, r1, pl, fr1, fc1⟩) (by omega)).trans K1)⟩
 clear K0 K1 K2 K3 K4 K3' KB0 R0 R1
 refine wp_region_d (fun u => (Instr.loadAt 25 (.pointer (some ⟨w.heap.size, 0, none⟩))).run Tryz.prog u = .ok (rfV ⟨b1, s1, r1, pl, fr1, fc1⟩) u ∧ (Instr.loadAt 25 (.pointer (some ⟨w.heap.size + 1, 0, none⟩))).run Tryz.prog u = .ok (rfV ⟨b2, s2, r2, ph, fr2, fc2⟩) u) (fun j => j == 4) (by kernel_rfl) ?_
 refine dwl 0 (rfV ⟨b1, s1, r1, pl, fr1, fc1⟩) ?_ (hS := HS.out) (hy := (fun u hSu => exec_load_run rfl rfl hSu.1))
 refine dwl 1 (rfV ⟨b2, s2, r2, ph, fr2, fc2⟩) ?_ (hS := HS.out) (hy := (fun u hSu => exec_load_run rfl rfl hSu.2))
 refine dwp 2 (.bool pb) ?_
 refine wpAnyD_one (i := 3) (by kernel_rfl) rfl ?_
 intro K' hK'
 rw [if_pos (by go_simp)]
 refine wp_store_run none rfl 25 _ _ rfl _ _ rfl rfl RS0.out (hK' _ _ (.inr fun _ => HS2.out) ?_)
 clear hK'
 try simp only [Act.put, List.setIfInBounds_toArray, List.set_cons_zero, List.set_cons_succ]
 refine wpAnyD_one (i := 4) (by kernel_rfl) rfl ?_
 intro K' hK'
 rw [if_pos (by go_simp)]
 refine wp_store_run none rfl 25 _ _ rfl _ _ rfl rfl RS1.out (hK' _ _ (.inl rfl) ?_)
 clear hK'
 try simp only [Act.put, List.setIfInBounds_toArray, List.set_cons_zero, List.set_cons_succ]
 refine dwp 5 (.bool pb) ?_
 refine wpAnyD_done (by kernel_rfl) ?_ _
 go_wp2
 exact bodyPost_ret (rres3 rfl rfl KA.out rfl KZ.out rfl) rfl ⟨rfl, KB.out⟩
theorem area1_row {bk sh : ByteArray} {dr : Bool} {a n m : Int} {g : Nat} {w : World} (h : Fol w g ⟨bk, sh, dr, false, a, n, m⟩) (x y : Rf) :
  Calls Tryz.prog 68 #[rfV x, rfV y, .pointer (some ⟨g, 0, none⟩), .pointer (some ⟨g + 1, 0, none⟩)] w fun e w' => e = .returned (.tuple #[rfV (setLn ⟨bk, sh, dr, false, a, n, m⟩ x (Hs.spL a n m (ln ⟨bk, sh, dr, false, a, n, m⟩ x) (ln ⟨bk, sh, dr, false, a, n, m⟩ y))), rfV (setLn ⟨bk, sh, dr, false, a, n, m⟩ y (Hs.spH a n m (ln ⟨bk, sh, dr, false, a, n, m⟩ x) (ln ⟨bk, sh, dr, false, a, n, m⟩ y))), .bool (Hs.spB a n m (ln ⟨bk, sh, dr, false, a, n, m⟩ x) (ln ⟨bk, sh, dr, false, a, n, m⟩ y))]) ∧ Below w.heap.size w w' := by
 obtain ⟨b1, s1, r1, c1, fr1, fc1⟩ := x
 obtain ⟨b2, s2, r2, c2, fr2, fc2⟩ := y
 simp only [setLn, ln, if_true, Bool.false_eq_true, if_false]
 obtain ⟨W, hW⟩ : ∃ W, W = (((w.alloc (refO b1 s1 r1 c1 fr1 fc1)).alloc (refO b2 s2 r2 c2 fr2 fc2)).alloc (rfO z0)).alloc (rfO z0) := ⟨_, rfl⟩
 have HB0 : Below w.heap.size w W := by rw [hW]; exact bel_alloc (bel_alloc (bel_alloc (bel_alloc (Below.refl _ _) _) _) _) _
 have hz : W.heap.size = w.heap.size + 4 := by rw [hW]; simp
 have HF : Hid (∀ u, Below W.heap.size W u → (u.heap[w.heap.size]? = some (refO b1 s1 r1 c1 fr1 fc1) ∧ u.heap[w.heap.size + 1]? = some (refO b2 s2 r2 c2 fr2 fc2) ∧ u.heap[w.heap.size + 2]? = some (rfO z0) ∧ u.heap[w.heap.size + 3]? = some (rfO z0)) ∧ Below w.heap.size w u) := fun u hu => by
  have hu0 := hu
  rw [hW] at hu
  have q3 := new1 hu
  have q2 := new1 (bel1 hu)
  have q1 := new1 (bel1 (bel1 hu))
  have q0 := new1 (bel1 (bel1 (bel1 hu)))
  simp only [World.size_alloc] at q0 q1 q2 q3
  exact ⟨⟨q0, q1, q2, q3⟩, bel_step HB0 hu0⟩
 have HC : Hid (∀ u, Below W.heap.size W u → (u.cell? ⟨w.heap.size, 2, none⟩ = some (.int .i64 r1) ∧ u.cell? ⟨w.heap.size + 1, 2, none⟩ = some (.int .i64 r2)) ∧ (u.cell? ⟨g, 0, none⟩ = some (.int .i64 a) ∧ u.cell? ⟨g, 1, none⟩ = some (.int .i64 n) ∧ u.cell? ⟨g, 2, none⟩ = some (.int .i64 m)) ∧ u.cell? ⟨g + 1, 0, none⟩ = some (.func (.func 45) #[] #[])) :=
  fun u hu => ⟨⟨(r_cells (HF.out u hu).1.1).2.2.1, (r_cells (HF.out u hu).1.2.1).2.2.1⟩, fol_cells (h.below (bel_step HB0 hu))⟩
 have HP : RC W 69 #[Hs.shV a n m, .int .i64 r1, .int .i64 r2] _ := RC.of fun u _ => Hs.span_any a n m r1 r2 u
 have HR : Hid (Below W.heap.size W W.drew) := (Below.refl _ _).drew
 generalize Hs.spL a n m r1 r2 = pl at *
 generalize Hs.spH a n m r1 r2 = ph at *
 generalize Hs.spB a n m r1 r2 = pb at *
 have hg : g + 1 < w.heap.size := lt_of h.lin
 clear h HB0 hz
 subst hW
 go_enter Tryz.func68, Tryz.ntmps68
 go_wp2
 go_region_held_law (fun u => (u.cell? ⟨w.heap.size, 2, none⟩ = some (.int .i64 r1) ∧ u.cell? ⟨w.heap.size + 1, 2, none⟩ = some (.int .i64 r2)) ∧ (u.cell? ⟨g, 0, none⟩ = some (.int .i64 a) ∧ u.cell? ⟨g, 1, none⟩ = some (.int .i64 n) ∧ u.cell? ⟨g, 2, none⟩ = some (.int .i64 m)) ∧ u.cell? ⟨g + 1, 0, none⟩ = some (.func (.func 45) #[] #[]))
  (exact HC.out _ HR.out) (first
  | (go_at_call 45; refine (rowOf_any _ _).mono ?_; rintro e w' ⟨rfl, hw⟩; obtain rfl := hw.symm; clear hw)
  | (go_at_call 69; refine (HP _ HR.out).mono ?_; rintro e w7 ⟨rfl, hb⟩; have HR : Hid _ := hb; clear hb))
 obtain ⟨⟨k0, k1, k2, k3⟩, k4⟩ := HF.out _ HR.out
 have q0 : w7.cell? ⟨w.heap.size, 2, none⟩ = some (.int .i64 r1) := (r_cells k0).2.2.1
 have f0 : w7.frozen? ⟨w.heap.size, 2, none⟩ = false := (r_free k0).2.2.1
 have q1 : w7.cell? ⟨w.heap.size + 1, 2, none⟩ = some (.int .i64 r2) := (r_cells k1).2.2.1
 have f1 : w7.frozen? ⟨w.heap.size + 1, 2, none⟩ = false := (r_free k1).2.2.1
 have l0 := (HC.out _ HR.out).2.2
 have l1 : (w7.setCell ⟨w.heap.size, 2, none⟩ (.int .i64 pl)).cell? ⟨g + 1, 0, none⟩ = some (.func (.func 45) #[] #[]) := (cell_heapE (heap_setCell_other w7 ⟨w.heap.size, 2, none⟩ (g + 1) (.int .i64 pl) (by simp; omega))).trans l0
 have l2 : ((w7.setCell ⟨w.heap.size, 2, none⟩ (.int .i64 pl)).setCell ⟨w.heap.size + 1, 2, none⟩ (.int .i64 ph)).cell? ⟨g + 1, 0, none⟩ = some (.func (.func 45) #[] #[]) := (cell_heapE (heap_setCell_other _ ⟨w.heap.size + 1, 2, none⟩ (g + 1) (.int .i64 ph) (by simp; omega))).trans l1
 have K0 := (heap_setCell_other (w7.setCell ⟨w.heap.size, 2, none⟩ (.int .i64 pl)) ⟨w.heap.size + 1, 2, none⟩ w.heap.size (.int .i64 ph) (by simp)).trans (set_r k0 pl)
 have K1 := set_r ((heap_setCell_other w7 ⟨w.heap.size, 2, none⟩ (w.heap.size + 1) (.int .i64 pl) (by simp)).trans k1) ph
 have K2 := (heap_setCell_other (w7.setCell ⟨w.heap.size, 2, none⟩ (.int .i64 pl)) ⟨w.heap.size + 1, 2, none⟩ (w.heap.size + 2) (.int .i64 ph) (by simp)).trans ((heap_setCell_other w7 ⟨w.heap.size, 2, none⟩ (w.heap.size + 2) (.int .i64 pl) (by simp)).trans k2)
 have K3 := (heap_setCell_other (w7.setCell ⟨w.heap.size, 2, none⟩ (.int .i64 pl)) ⟨w.heap.size + 1, 2, none⟩ (w.heap.size + 3) (.int .i64 ph) (by simp)).trans ((heap_setCell_other w7 ⟨w.heap.size, 2, none⟩ (w.heap.size + 3) (.int .i64 pl) (by simp)).trans k3)
 have K4 : Below w.heap.size w ((w7.setCell ⟨w.heap.size, 2, none⟩ (.int .i64 pl)).setCell ⟨w.heap.size + 1, 2, none⟩ (.int .i64 ph)) := (k4.setCell (by simp) _).setCell (by simp) _
 have KK : Hid (_ ∧ _ ∧ _ ∧ _ ∧ _) := ⟨K0, K1, K2, K3, K4⟩
 clear k0 k1 k2 k3 k4 HC HF HP K0 K1 K2 K3 K4
 go_wp2
 go_region_held_law (fun u => u.cell? ⟨g + 1, 0, none⟩ = some (.func (.func 45) #[] #[]))
  (first | exact l0 | exact l1 | exact l2) (first
  | (go_at_call 45; refine (rowOf_any _ _).mono ?_; rintro e w' ⟨rfl, hw⟩; obtain rfl := hw.symm; clear hw))
 go_wp2
 obtain ⟨K0, K1, K2, K3, K4⟩ := KK.out
 clear KK q0 q1 f0 f1 l0 l1 l2
 generalize (w7.setCell ⟨w.heap.size, 2, none⟩ (.int .i64 pl)).setCell ⟨w.heap.size + 1, 2, none⟩ (.int .i64 ph) = v at *
 have R0 := rlod (x := ⟨b1, s1, pl, c1, fr1, fc1⟩) (u := v.drew.drew) K0
 have R1 := rlod (x := ⟨b2, s2, ph, c2, fr2, fc2⟩) (u := v.drew.drew) K1
 have K2 : v.drew.drew.heap[w.heap.size + 2]? = some (rfO z0) := K2
 have K3 : v.drew.drew.heap[w.heap.size + 3]? = some (rfO z0) := K3
 have K3' := (setRow_other v.drew.drew (w.heap.size + 2) (w.heap.size + 3) (rfC ⟨b1, s1, pl, c1, fr1, fc1⟩) (by omega)).trans K3
 have RS0 : Hid _ := rsto (y := z0) ⟨b1, s1, pl, c1, fr1, fc1⟩ K2
 have RS1 : Hid _ := rsto (y := z0) ⟨b2, s2, ph, c2, fr2, fc2⟩ K3'
 have KA : Hid _ := (setRow_other (v.drew.drew.setRow (w.heap.size + 2) (rfC ⟨b1, s1, pl, c1, fr1, fc1⟩)) (w.heap.size + 3) (w.heap.size + 2) (rfC ⟨b2, s2, ph, c2, fr2, fc2⟩) (by omega)).trans (rset (y := z0) ⟨b1, s1, pl, c1, fr1, fc1⟩ K2)
 have KZ : Hid _ := rset (y := z0) ⟨b2, s2, ph, c2, fr2, fc2⟩ K3'
 have KB0 : Below w.heap.size w (v.drew.drew.setRow (w.heap.size + 2) (rfC ⟨b1, s1, pl, c1, fr1, fc1⟩)) := K4.drew.drew.grown (setRow_grown _ _ _) K4.drew.drew.size (fun g e => by cases e; omega)
 have KB : Hid (Below w.heap.size w ((v.drew.drew.setRow (w.heap.size + 2) (rfC ⟨b1, s1, pl, c1, fr1, fc1⟩)).setRow (w.heap.size + 3) (rfC ⟨b2, s2, ph, c2, fr2, fc2⟩))) := KB0.grown (setRow_grown _ _ _) KB0.size (fun g e => by cases e; omega)
 have HS : Hid (_ ∧ _) := ⟨R0, R1⟩
 have HS2 : Hid (_ ∧ _) := ⟨rlod (x := ⟨b1, s1, pl, c1, fr1, fc1⟩) ((setRow_other v.drew.drew (w.heap.size + 2) w.heap.size (rfC ⟨b1, s1, pl, c1, fr1, fc1⟩) (by omega)).trans K0), rlod (x := ⟨b2, s2, ph, c2, fr2, fc2⟩) ((setRow_other v.drew.drew (w.heap.size + 2) (w.heap.size + 1) (rfC ⟨b1, s1, pl, c1, fr1, fc1⟩) (by omega)).trans K1)⟩
 clear K0 K1 K2 K3 K4 K3' KB0 R0 R1
 refine wp_region_d (fun u => (Instr.loadAt 25 (.pointer (some ⟨w.heap.size, 0, none⟩))).run Tryz.prog u = .ok (rfV ⟨b1, s1, pl, c1, fr1, fc1⟩) u ∧ (Instr.loadAt 25 (.pointer (some ⟨w.heap.size + 1, 0, none⟩))).run Tryz.prog u = .ok (rfV ⟨b2, s2, ph, c2, fr2, fc2⟩) u) (fun j => j == 4) (by kernel_rfl) ?_
 refine dwl 0 (rfV ⟨b1, s1, pl, c1, fr1, fc1⟩) ?_ (hS := HS.out) (hy := (fun u hSu => exec_load_run rfl rfl hSu.1))
 refine dwl 1 (rfV ⟨b2, s2, ph, c2, fr2, fc2⟩) ?_ (hS := HS.out) (hy := (fun u hSu => exec_load_run rfl rfl hSu.2))
 refine dwp 2 (.bool pb) ?_
 refine wpAnyD_one (i := 3) (by kernel_rfl) rfl ?_
 intro K' hK'
 rw [if_pos (by go_simp)]
 refine wp_store_run none rfl 25 _ _ rfl _ _ rfl rfl RS0.out (hK' _ _ (.inr fun _ => HS2.out) ?_)
 clear hK'
 try simp only [Act.put, List.setIfInBounds_toArray, List.set_cons_zero, List.set_cons_succ]
 refine wpAnyD_one (i := 4) (by kernel_rfl) rfl ?_
 intro K' hK'
 rw [if_pos (by go_simp)]
 refine wp_store_run none rfl 25 _ _ rfl _ _ rfl rfl RS1.out (hK' _ _ (.inl rfl) ?_)
 clear hK'
 try simp only [Act.put, List.setIfInBounds_toArray, List.set_cons_zero, List.set_cons_succ]
 refine dwp 5 (.bool pb) ?_
 refine wpAnyD_done (by kernel_rfl) ?_ _
 go_wp2
 exact bodyPost_ret (rres3 rfl rfl KA.out rfl KZ.out rfl) rfl ⟨rfl, KB.out⟩
end Go.Proofs.YtljmklbbngpllaaGreatDoor.Rw
namespace Go.Proofs.YtljmklbbngpllaaGreatDoor
open Go.RowKit Go.Fm
abbrev rpO (v : Value) (x : Bool) : Obj := .cells #[v, .bool x] 109
structure QR (W : World) (b : Nat) (L : List Tk.Tok) (w : World) : Prop where
 tab : Tab9 W
 bel : Below W.heap.size W w
 lo : W.heap.size ≤ b
 ok : OkL L
 blk : ∃ v, w.heap[b]? = some (rpO v false) ∧ TS W v (L.map tk)
structure QW (W : World) (b : Nat) (w : World) : Prop where
 tab : Tab9 W
 bel : Below W.heap.size W w
 lo : W.heap.size ≤ b
 blk : w.heap[b]? = some (rpO (.slice none 0 0) true)
structure QB (W : World) (b : Nat) (w : World) : Prop where
 tab : Tab9 W
 bel : Below W.heap.size W w
 lo : W.heap.size ≤ b
 blk : ∃ v x, w.heap[b]? = some (rpO v x)
def Sq (W : World) (b : Nat) (L : List Tk.Tok) (w w' : World) : Prop := QR W b L w' ∧ w.grownBy w' (some b)
def Sw (W : World) (b : Nat) (w w' : World) : Prop := QW W b w' ∧ w.grownBy w' (some b)
def NA (es : Array Value) : Prop := ∃ a p n c, es = lcs a (.slice p n c)
def RA (W : World) (b : Nat) (w : World) (o : Option (T × List Tk.Tok)) (es : Array Value) (w' : World) : Prop :=
 match o with
 | none => Sw W b w w'
 | some p => NK (fun i => w.heap.size ≤ i) w' es p.1 ∧ Sq W b p.2 w w'
structure BI (W : World) (b : Nat) (w : World) (g : Nat) (cur : Option (T × List Tk.Tok)) (es : Array Value) (u : World) : Prop where
 box : u.heap[g]? = some (.cells es 28)
 res : u.heap[w.heap.size]? = some (.cells nd0 28)
 na : NA es
 st : match cur with
  | none => Sw W b w u
  | some p => NK (fun i => w.heap.size < i ∧ i ≠ g) u es p.1 ∧ Sq W b p.2 w u
theorem build_r (u : World) (bk h : ByteArray) (r c : Int) (fr fc : Bool) : (Instr.build 28 #[(0, .int .i64 2), (3, refV bk h r c fr fc)]).run Tryz.prog u = .ok (.agg (lcs ⟨2, nb, 0, 0, nb, bk, h, r, c, fr, fc, nb, nb, 0, 0, false, false⟩ (.slice none 0 0))) u := by kernel_rfl
theorem build_a (u : World) (bk h : ByteArray) (r c : Int) (fr fc : Bool) (bk' h' : ByteArray) (r' c' : Int) (fr' fc' : Bool) : (Instr.build 28 #[(0, .int .i64 3), (3, refV bk h r c fr fc), (4, refV bk' h' r' c' fr' fc')]).run Tryz.prog u = .ok (.agg (lcs ⟨3, nb, 0, 0, nb, bk, h, r, c, fr, fc, bk', h', r', c', fr', fc'⟩ (.slice none 0 0))) u := by kernel_rfl
structure CI (W : World) (b : Nat) (w : World) (S : ByteArray) (v : Value) (L : List (Array Value × T)) (u : World) : Prop where
 box : u.heap[w.heap.size + 1]? = some (.cells (lcs (lab0 7 S) v) 28)
 res : u.heap[w.heap.size]? = some (.cells nd0 28)
 own : OwnN (w.heap.size + 2) u v L
 grow : w.grownBy u (some b)
theorem rstrength_any (s : List UInt8) (w : World) : Calls Tryz.prog 97 #[.string (ba s)] w fun e w' => e = .returned (.int .i64 (strn s : Nat)) ∧ w' = w := by
  rcases strn_cases s with h | ⟨h0, h1, h2, h3, h4, h5, h6, h7, h8, h9, h10, h11, h12⟩
  · rcases h with rfl | rfl | rfl | rfl | rfl | rfl | rfl | rfl | rfl | rfl | rfl | rfl <;>
      (go_enter Tryz.func97, Tryz.ntmps97
       go_wp2
       go_ret
       exact ⟨rfl, rfl⟩)
  · rw [h0]
    have k1 := ne_list h1
    have k2 := ne_list h2
    have k3 := ne_list h3
    have k4 := ne_list h4
    have k5 := ne_list h5
    have k6 := ne_list h6
    have k7 := ne_list h7
    have k8 := ne_list h8
    have k9 := ne_list h9
    have k10 := ne_list h10
    have k11 := ne_list h11
    have k12 := ne_list h12
    clear h0 h1 h2 h3 h4 h5 h6 h7 h8 h9 h10 h11 h12
    generalize ba s = S at *
    go_enter Tryz.func97, Tryz.ntmps97
    go_wp2
    go_ret
    exact ⟨rfl, rfl⟩
end Go.Proofs.YtljmklbbngpllaaGreatDoor
namespace Go.Proofs.YtljmklbbngpllaaGreatDoor.Rw
open Go.RowKit Go.Fm
theorem build_e (u : World) (n : Int) : (Instr.build 23 #[(0, .int .i64 4), (1, .int .i64 n)]).run Tryz.prog u = .ok (.agg #[.int .i64 4, .int .i64 n, .string noB]) u := by kernel_rfl
theorem build_g (u : World) : (Instr.build 28 #[(0, .int .i64 1), (2, .agg #[.int .i64 4, .int .i64 3, .string noB])]).run Tryz.prog u = .ok (.agg (lcs gone (.slice none 0 0))) u := by kernel_rfl
theorem build_rf (u : World) (x : Rf) : (Instr.build 28 #[(0, .int .i64 2), (3, rfV x)]).run Tryz.prog u = .ok (.agg (lcs (labRf x) (.slice none 0 0))) u := build_r u _ _ _ _ _ _
theorem build_ar (u : World) (x y : Rf) : (Instr.build 28 #[(0, .int .i64 3), (3, rfV x), (4, rfV y)]).run Tryz.prog u = .ok (.agg (lcs (labAr x y) (.slice none 0 0))) u := build_a u _ _ _ _ _ _ _ _ _ _ _ _
abbrev gl : Array Value := lcs gone (.slice none 0 0)
theorem nsto {u : World} {g : Nat} (a : Lab) (h : u.heap[g]? = some (.cells nd0 28)) : (Instr.storeAt 28 (.pointer (some ⟨g, 0, none⟩)) (.agg (lcs a (.slice none 0 0)))).run Tryz.prog u = .ok () (u.setRow g (lcs a (.slice none 0 0))) :=
 sto h (by rw [lcs_size]; exact inf28) rfl (lcs_all _ _ _ _)
theorem nres {u : World} {g : Nat} (a : Lab) (h : u.heap[g]? = some (.cells nd0 28)) : (u.setRow g (lcs a (.slice none 0 0))).heap[g]? = some (.cells (lcs a (.slice none 0 0)) 28) := setRow_heap _ _ _ _ _ _ h
theorem nres2 {fn : Func} {i j : Tmp} (hr : fn.results = #[.cell i 28, .tmp j]) {tmps : Array Value} {g : Nat} {u : World} {a : Lab} {sl v : Value} (hp : tmps.getD i undef = .pointer (some ⟨g, 0, none⟩)) (h : u.heap[g]? = some (.cells (lcs a sl) 28)) (hv : tmps.getD j undef = v) :
  (results fn tmps).run Tryz.prog u = .ok (.tuple #[.agg (lcs a sl), v]) u :=
 results2_row hr hp h rfl Tryz.underlying28 (by rw [lcs_size]; exact inf28) hv
theorem nres1 {fn : Func} {i : Tmp} (hr : fn.results = #[.cell i 28]) {tmps : Array Value} {g : Nat} {u : World} {a : Lab} {sl : Value} (hp : tmps.getD i undef = .pointer (some ⟨g, 0, none⟩)) (h : u.heap[g]? = some (.cells (lcs a sl) 28)) :
  (results fn tmps).run Tryz.prog u = .ok (.agg (lcs a sl)) u :=
 results_cell_row hr _ _ g 28 _ (0, 0) _ hp h Tryz.underlying28 rfl (by rw [lcs_size]; exact inf28)
theorem noRef_any (w : World) : Calls Tryz.prog 72 #[] w fun e w' => e = .returned (.agg gl) ∧ Below w.heap.size w w' := by
 have RB : Hid _ := build_e (w.alloc (.cells nd0 28)) 3
 have RG : Hid _ := build_g (w.alloc (.cells nd0 28))
 have H0 := heap_alloc_new w (.cells nd0 28)
 have RS : Hid _ := nsto gone H0
 have HR : Hid _ := nres gone H0
 have HB0 : Below w.heap.size w (w.alloc (.cells nd0 28)) := bel_alloc (Below.refl _ _) _
 have HB : Hid (Below w.heap.size w ((w.alloc (.cells nd0 28)).setRow w.heap.size gl)) := HB0.grown (setRow_grown _ _ _) HB0.size (fun g e => by cases e; omega)
 clear H0 HB0
 go_enter Tryz.func72, Tryz.ntmps72
 go_wp2_with (first
  | ((with_reducible show wpList _ _ _ ({ dst := _, op := Op.build 23 _, type := _, pos := _, after := _, guard := none } :: _) _ _); refine wpList_build_run rfl 23 _ rfl _ _ rfl RB.out ?_; clear RB)
  | ((with_reducible show wpList _ _ _ ({ dst := _, op := Op.build 28 _, type := _, pos := _, after := _, guard := none } :: _) _ _); refine wpList_build_run rfl 28 _ rfl _ _ rfl RG.out ?_; clear RG)
  | ((with_reducible show wpList _ _ _ ({ dst := _, op := Op.store 28 _ _, type := _, pos := _, after := _, guard := none } :: _) _ _); refine wpList_store_run rfl 28 _ _ rfl _ _ _ rfl rfl RS.out ?_; clear RS))
 exact bodyPost_ret (nres1 rfl rfl HR.out) rfl ⟨rfl, HB.out⟩
end Go.Proofs.YtljmklbbngpllaaGreatDoor.Rw
