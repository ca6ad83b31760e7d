/- RwFn2, RwFn3. -/
import Derived.Test.YtljmklbbngpllaaGreatDoorRwNmNd
set_option linter.unusedVariables false
set_option linter.unusedSimpArgs false
set_option maxHeartbeats 16000000
set_option maxRecDepth 100000
namespace Go.Proofs.YtljmklbbngpllaaGreatDoor.Rw
open Go.RowKit
theorem kV (g : Nat) (w : World) : Calls Tryz.prog 44 #[.pointer (some ⟨g, 0, none⟩)] w fun e w' => e = .returned (.pointer (some ⟨g, 3, none⟩)) ∧ w' = w := by
 go_enter Tryz.func44, Tryz.ntmps44
 go_wp2
 go_ret
 exact ⟨rfl, rfl⟩
theorem kW (g : Nat) (w : World) : Calls Tryz.prog 45 #[.pointer (some ⟨g, 0, none⟩)] w fun e w' => e = .returned (.pointer (some ⟨g, 2, none⟩)) ∧ w' = w := by
 go_enter Tryz.func45, Tryz.ntmps45
 go_wp2
 go_ret
 exact ⟨rfl, rfl⟩
structure Fol (u : World) (g : Nat) (C : Chg) : Prop where
 sft : u.heap[g]? = some (Hs.shO C.a C.n C.m 32)
 lin : u.heap[g + 1]? = some (.cells #[.func (.func (if C.co = true then 44 else 45)) #[] #[]] 88)
theorem Fol.below {u u' : World} {g : Nat} {C : Chg} (h : Fol u g C) (hb : Below u.heap.size u u') : Fol u' g C :=
 ⟨(hb.block _ (aS h.sft)).trans h.sft, (hb.block _ (aS h.lin)).trans h.lin⟩
theorem kX {u : World} {g : Nat} {C : Chg} (h : Fol u g C) : (u.cell? ⟨g, 0, none⟩ = some (.int .i64 C.a) ∧ u.cell? ⟨g, 1, none⟩ = some (.int .i64 C.n) ∧ u.cell? ⟨g, 2, none⟩ = some (.int .i64 C.m)) ∧ u.cell? ⟨g + 1, 0, none⟩ = some (.func (.func (if C.co = true then 44 else 45)) #[] #[]) := by
 refine ⟨Hs.nL h.sft, ?_⟩
 simp [World.cell?, h.lin]
theorem aFX {bk sh : ByteArray} {dr : Bool} {a n m : Int} {g : Nat} {w : World} (h : Fol w g ⟨bk, sh, dr, true, a, n, m⟩) (x : Rf) :
  Calls Tryz.prog 67 #[rfV x, .pointer (some ⟨g, 0, none⟩), .pointer (some ⟨g + 1, 0, none⟩)] w fun e w' => e = .returned (.tuple #[rfV (gL ⟨bk, sh, dr, true, a, n, m⟩ x (Hs.dG a n m (ln ⟨bk, sh, dr, true, a, n, m⟩ x))), .bool (Hs.posB a n m (ln ⟨bk, sh, dr, true, a, n, m⟩ x))]) ∧ Below w.heap.size w w' := by
 obtain ⟨b, s, r, c, fr, fc⟩ := x
 simp only [gL, ln, if_true, Bool.false_eq_true, if_false]
 obtain ⟨W, hW⟩ : ∃ W, W = (w.alloc (aU b s r c fr fc)).alloc (aU ⟨#[]⟩ ⟨#[]⟩ 0 0 false false) := ⟨_, rfl⟩
 have HB0 : Below w.heap.size w W := by rw [hW]; exact aA (aA (Below.refl _ _) _) _
 have H0 : W.heap[w.heap.size]? = some (aU b s r c fr fc) := by rw [hW]; exact (new2 (Below.refl _ _)).1
 have H1 : W.heap[w.heap.size + 1]? = some (aU ⟨#[]⟩ ⟨#[]⟩ 0 0 false false) := by rw [hW]; exact (new2 (Below.refl _ _)).2
 have HC : Hid (∀ u, Below W.heap.size W u → (u.cell? ⟨w.heap.size, 0, none⟩ = some (.string b) ∧ u.cell? ⟨w.heap.size, 1, none⟩ = some (.string s) ∧ u.cell? ⟨w.heap.size, 2, none⟩ = some (.int .i64 r) ∧ u.cell? ⟨w.heap.size, 3, none⟩ = some (.int .i64 c) ∧ u.cell? ⟨w.heap.size, 4, none⟩ = some (.bool fr) ∧ u.cell? ⟨w.heap.size, 5, none⟩ = some (.bool fc)) ∧ (u.cell? ⟨g, 0, none⟩ = some (.int .i64 a) ∧ u.cell? ⟨g, 1, none⟩ = some (.int .i64 n) ∧ u.cell? ⟨g, 2, none⟩ = some (.int .i64 m)) ∧ u.cell? ⟨g + 1, 0, none⟩ = some (.func (.func 44) #[] #[])) :=
  fun u hu => ⟨aP ((hu.block _ (aS H0)).trans H0), kX (h.below (aG HB0 hu))⟩
 have HP : RC W 21 #[Hs.shV a n m, .int .i64 c] _ := RC.of fun u _ => Hs.aCk a n m c u
 have HR : Hid (Below W.heap.size W W.drew) := (Below.refl _ _).drew
 have HF : Hid (∀ u, Below W.heap.size W u → u.heap[w.heap.size]? = some (aU b s r c fr fc) ∧ u.heap[w.heap.size + 1]? = some (rfO z0) ∧ Below w.heap.size w u) := fun u hu => ⟨(hu.block _ (aS H0)).trans H0, (hu.block _ (aS H1)).trans H1, aG HB0 hu⟩
 generalize Hs.dG a n m c = pf at *
 generalize Hs.posB a n m c = pb at *
 clear h HB0 H0 H1
 subst hW
 go_enter Tryz.func67, Tryz.ntmps67
 go_wp2
 go_region_held_law (fun u => (u.cell? ⟨w.heap.size, 0, none⟩ = some (.string b) ∧ u.cell? ⟨w.heap.size, 1, none⟩ = some (.string s) ∧ u.cell? ⟨w.heap.size, 2, none⟩ = some (.int .i64 r) ∧ u.cell? ⟨w.heap.size, 3, none⟩ = some (.int .i64 c) ∧ u.cell? ⟨w.heap.size, 4, none⟩ = some (.bool fr) ∧ u.cell? ⟨w.heap.size, 5, none⟩ = some (.bool fc)) ∧ (u.cell? ⟨g, 0, none⟩ = some (.int .i64 a) ∧ u.cell? ⟨g, 1, none⟩ = some (.int .i64 n) ∧ u.cell? ⟨g, 2, none⟩ = some (.int .i64 m)) ∧ u.cell? ⟨g + 1, 0, none⟩ = some (.func (.func 44) #[] #[]))
  (exact HC.out _ HR.out) (first
  | (go_at_call 44; refine (kV _ _).mono ?_; rintro e w' ⟨rfl, hw⟩; obtain rfl := hw.symm; clear hw)
  | (go_at_call 21; refine (HP _ HR.out).mono ?_; rintro e w7 ⟨rfl, hb⟩; have HR : Hid _ := hb; clear hb))
 obtain ⟨k0, k1, k2⟩ := HF.out _ HR.out
 have q0 := (aP k0).2.2.2.1
 have f0 := (bH k0).2.2.2.1
 have l0 := (HC.out _ HR.out).2.2
 have K0 := uV k0 pf
 have K1 := (heap_setCell_other w7 ⟨w.heap.size, 3, none⟩ (w.heap.size + 1) (.int .i64 pf) (by simp)).trans k1
 have RL : Hid _ := bX (x := ⟨b, s, r, pf, fr, fc⟩) K0
 have RS : Hid _ := pR (y := z0) ⟨b, s, r, pf, fr, fc⟩ K1
 have KB : Hid (Below w.heap.size w ((w7.setCell ⟨w.heap.size, 3, none⟩ (.int .i64 pf)).setRow (w.heap.size + 1) (rfC ⟨b, s, r, pf, fr, fc⟩))) := (k2.setCell (by simp) _).grown (aC _ _ _) (k2.setCell (by simp) _).size (fun g e => by cases e; omega)
 have KR : Hid _ := pU (y := z0) ⟨b, s, r, pf, fr, fc⟩ K1
 clear k0 k1 k2 HF HC HP HR K0 K1
 go_wp2_with (first
  | (go_at_call 44; refine (kV _ _).mono ?_; rintro e w' ⟨rfl, hw⟩; obtain rfl := hw.symm; clear hw)
  | ((with_reducible show wpList _ _ _ ({ dst := _, op := Op.load 25 _, type := _, pos := _, after := _, guard := none } :: _) _ _); refine aB rfl 25 _ rfl _ _ rfl RL.out ?_; clear RL)
  | ((with_reducible show wpList _ _ _ ({ dst := _, op := Op.store 25 _ _, type := _, pos := _, after := _, guard := none } :: _) _ _); refine aD rfl 25 _ _ rfl _ _ _ rfl rfl RS.out ?_; clear RS))
 exact bodyPost_ret (aHR rfl rfl KR.out rfl) rfl ⟨rfl, KB.out⟩
theorem aFY {bk sh : ByteArray} {dr : Bool} {a n m : Int} {g : Nat} {w : World} (h : Fol w g ⟨bk, sh, dr, false, a, n, m⟩) (x : Rf) :
  Calls Tryz.prog 67 #[rfV x, .pointer (some ⟨g, 0, none⟩), .pointer (some ⟨g + 1, 0, none⟩)] w fun e w' => e = .returned (.tuple #[rfV (gL ⟨bk, sh, dr, false, a, n, m⟩ x (Hs.dG a n m (ln ⟨bk, sh, dr, false, a, n, m⟩ x))), .bool (Hs.posB a n m (ln ⟨bk, sh, dr, false, a, n, m⟩ x))]) ∧ Below w.heap.size w w' := by
 obtain ⟨b, s, r, c, fr, fc⟩ := x
 simp only [gL, ln, if_true, Bool.false_eq_true, if_false]
 obtain ⟨W, hW⟩ : ∃ W, W = (w.alloc (aU b s r c fr fc)).alloc (aU ⟨#[]⟩ ⟨#[]⟩ 0 0 false false) := ⟨_, rfl⟩
 have HB0 : Below w.heap.size w W := by rw [hW]; exact aA (aA (Below.refl _ _) _) _
 have H0 : W.heap[w.heap.size]? = some (aU b s r c fr fc) := by rw [hW]; exact (new2 (Below.refl _ _)).1
 have H1 : W.heap[w.heap.size + 1]? = some (aU ⟨#[]⟩ ⟨#[]⟩ 0 0 false false) := by rw [hW]; exact (new2 (Below.refl _ _)).2
 have HC : Hid (∀ u, Below W.heap.size W u → (u.cell? ⟨w.heap.size, 0, none⟩ = some (.string b) ∧ u.cell? ⟨w.heap.size, 1, none⟩ = some (.string s) ∧ u.cell? ⟨w.heap.size, 2, none⟩ = some (.int .i64 r) ∧ u.cell? ⟨w.heap.size, 3, none⟩ = some (.int .i64 c) ∧ u.cell? ⟨w.heap.size, 4, none⟩ = some (.bool fr) ∧ u.cell? ⟨w.heap.size, 5, none⟩ = some (.bool fc)) ∧ (u.cell? ⟨g, 0, none⟩ = some (.int .i64 a) ∧ u.cell? ⟨g, 1, none⟩ = some (.int .i64 n) ∧ u.cell? ⟨g, 2, none⟩ = some (.int .i64 m)) ∧ u.cell? ⟨g + 1, 0, none⟩ = some (.func (.func 45) #[] #[])) :=
  fun u hu => ⟨aP ((hu.block _ (aS H0)).trans H0), kX (h.below (aG HB0 hu))⟩
 have HP : RC W 21 #[Hs.shV a n m, .int .i64 r] _ := RC.of fun u _ => Hs.aCk a n m r u
 have HR : Hid (Below W.heap.size W W.drew) := (Below.refl _ _).drew
 have HF : Hid (∀ u, Below W.heap.size W u → u.heap[w.heap.size]? = some (aU b s r c fr fc) ∧ u.heap[w.heap.size + 1]? = some (rfO z0) ∧ Below w.heap.size w u) := fun u hu => ⟨(hu.block _ (aS H0)).trans H0, (hu.block _ (aS H1)).trans H1, aG HB0 hu⟩
 generalize Hs.dG a n m r = pf at *
 generalize Hs.posB a n m r = pb at *
 clear h HB0 H0 H1
 subst hW
 go_enter Tryz.func67, Tryz.ntmps67
 go_wp2
 go_region_held_law (fun u => (u.cell? ⟨w.heap.size, 0, none⟩ = some (.string b) ∧ u.cell? ⟨w.heap.size, 1, none⟩ = some (.string s) ∧ u.cell? ⟨w.heap.size, 2, none⟩ = some (.int .i64 r) ∧ u.cell? ⟨w.heap.size, 3, none⟩ = some (.int .i64 c) ∧ u.cell? ⟨w.heap.size, 4, none⟩ = some (.bool fr) ∧ u.cell? ⟨w.heap.size, 5, none⟩ = some (.bool fc)) ∧ (u.cell? ⟨g, 0, none⟩ = some (.int .i64 a) ∧ u.cell? ⟨g, 1, none⟩ = some (.int .i64 n) ∧ u.cell? ⟨g, 2, none⟩ = some (.int .i64 m)) ∧ u.cell? ⟨g + 1, 0, none⟩ = some (.func (.func 45) #[] #[]))
  (exact HC.out _ HR.out) (first
  | (go_at_call 45; refine (kW _ _).mono ?_; rintro e w' ⟨rfl, hw⟩; obtain rfl := hw.symm; clear hw)
  | (go_at_call 21; refine (HP _ HR.out).mono ?_; rintro e w7 ⟨rfl, hb⟩; have HR : Hid _ := hb; clear hb))
 obtain ⟨k0, k1, k2⟩ := HF.out _ HR.out
 have q0 := (aP k0).2.2.1
 have f0 := (bH k0).2.2.1
 have l0 := (HC.out _ HR.out).2.2
 have K0 := uW k0 pf
 have K1 := (heap_setCell_other w7 ⟨w.heap.size, 2, none⟩ (w.heap.size + 1) (.int .i64 pf) (by simp)).trans k1
 have RL : Hid _ := bX (x := ⟨b, s, pf, c, fr, fc⟩) K0
 have RS : Hid _ := pR (y := z0) ⟨b, s, pf, c, fr, fc⟩ K1
 have KB : Hid (Below w.heap.size w ((w7.setCell ⟨w.heap.size, 2, none⟩ (.int .i64 pf)).setRow (w.heap.size + 1) (rfC ⟨b, s, pf, c, fr, fc⟩))) := (k2.setCell (by simp) _).grown (aC _ _ _) (k2.setCell (by simp) _).size (fun g e => by cases e; omega)
 have KR : Hid _ := pU (y := z0) ⟨b, s, pf, c, fr, fc⟩ K1
 clear k0 k1 k2 HF HC HP HR K0 K1
 go_wp2_with (first
  | (go_at_call 45; refine (kW _ _).mono ?_; rintro e w' ⟨rfl, hw⟩; obtain rfl := hw.symm; clear hw)
  | ((with_reducible show wpList _ _ _ ({ dst := _, op := Op.load 25 _, type := _, pos := _, after := _, guard := none } :: _) _ _); refine aB rfl 25 _ rfl _ _ rfl RL.out ?_; clear RL)
  | ((with_reducible show wpList _ _ _ ({ dst := _, op := Op.store 25 _ _, type := _, pos := _, after := _, guard := none } :: _) _ _); refine aD rfl 25 _ _ rfl _ _ _ rfl rfl RS.out ?_; clear RS))
 exact bodyPost_ret (aHR rfl rfl KR.out rfl) rfl ⟨rfl, KB.out⟩
theorem jI {u v : World} {b i : Nat} (h : v.heap[b]? = u.heap[b]?) : v.cell? ⟨b, i, none⟩ = u.cell? ⟨b, i, none⟩ := by
 unfold World.cell?
 simp only [h]
theorem aDw {bk sh : ByteArray} {dr : Bool} {a n m : Int} {g : Nat} {w : World} (h : Fol w g ⟨bk, sh, dr, true, a, n, m⟩) (x y : Rf) :
  Calls Tryz.prog 68 #[rfV x, rfV y, .pointer (some ⟨g, 0, none⟩), .pointer (some ⟨g + 1, 0, none⟩)] w fun e w' => e = .returned (.tuple #[rfV (gL ⟨bk, sh, dr, true, a, n, m⟩ x (Hs.spL a n m (ln ⟨bk, sh, dr, true, a, n, m⟩ x) (ln ⟨bk, sh, dr, true, a, n, m⟩ y))), rfV (gL ⟨bk, sh, dr, true, a, n, m⟩ y (Hs.spH a n m (ln ⟨bk, sh, dr, true, a, n, m⟩ x) (ln ⟨bk, sh, dr, true, a, n, m⟩ y))), .bool (Hs.spB a n m (ln ⟨bk, sh, dr, true, a, n, m⟩ x) (ln ⟨bk, sh, dr, true, a, n, m⟩ y))]) ∧ Below w.heap.size w w' := by
 obtain ⟨b1, s1, r1, c1, fr1, fc1⟩ := x
 obtain ⟨b2, s2, r2, c2, fr2, fc2⟩ := y
 simp only [gL, ln, if_true, Bool.false_eq_true, if_false]
 obtain ⟨W, hW⟩ : ∃ W, W = (((w.alloc (aU b1 s1 r1 c1 fr1 fc1)).alloc (aU b2 s2 r2 c2 fr2 fc2)).alloc (rfO z0)).alloc (rfO z0) := ⟨_, rfl⟩
 have HB0 : Below w.heap.size w W := by rw [hW]; exact aA (aA (aA (aA (Below.refl _ _) _) _) _) _
 have hz : W.heap.size = w.heap.size + 4 := by rw [hW]; simp
 have HF : Hid (∀ u, Below W.heap.size W u → (u.heap[w.heap.size]? = some (aU b1 s1 r1 c1 fr1 fc1) ∧ u.heap[w.heap.size + 1]? = some (aU b2 s2 r2 c2 fr2 fc2) ∧ u.heap[w.heap.size + 2]? = some (rfO z0) ∧ u.heap[w.heap.size + 3]? = some (rfO z0)) ∧ Below w.heap.size w u) := fun u hu => by
  have hu0 := hu
  rw [hW] at hu
  have q3 := new1 hu
  have q2 := new1 (aR hu)
  have q1 := new1 (aR (aR hu))
  have q0 := new1 (aR (aR (aR hu)))
  simp only [World.size_alloc] at q0 q1 q2 q3
  exact ⟨⟨q0, q1, q2, q3⟩, aG HB0 hu0⟩
 have HC : Hid (∀ u, Below W.heap.size W u → (u.cell? ⟨w.heap.size, 3, none⟩ = some (.int .i64 c1) ∧ u.cell? ⟨w.heap.size + 1, 3, none⟩ = some (.int .i64 c2)) ∧ (u.cell? ⟨g, 0, none⟩ = some (.int .i64 a) ∧ u.cell? ⟨g, 1, none⟩ = some (.int .i64 n) ∧ u.cell? ⟨g, 2, none⟩ = some (.int .i64 m)) ∧ u.cell? ⟨g + 1, 0, none⟩ = some (.func (.func 44) #[] #[])) :=
  fun u hu => ⟨⟨(aP (HF.out u hu).1.1).2.2.2.1, (aP (HF.out u hu).1.2.1).2.2.2.1⟩, kX (h.below (aG HB0 hu))⟩
 have HP : RC W 69 #[Hs.shV a n m, .int .i64 c1, .int .i64 c2] _ := RC.of fun u _ => Hs.aAf a n m c1 c2 u
 have HR : Hid (Below W.heap.size W W.drew) := (Below.refl _ _).drew
 generalize Hs.spL a n m c1 c2 = pl at *
 generalize Hs.spH a n m c1 c2 = ph at *
 generalize Hs.spB a n m c1 c2 = pb at *
 have hg : g + 1 < w.heap.size := aS h.lin
 clear h HB0 hz
 subst hW
 go_enter Tryz.func68, Tryz.ntmps68
 go_wp2
 go_region_held_law (fun u => (u.cell? ⟨w.heap.size, 3, none⟩ = some (.int .i64 c1) ∧ u.cell? ⟨w.heap.size + 1, 3, none⟩ = some (.int .i64 c2)) ∧ (u.cell? ⟨g, 0, none⟩ = some (.int .i64 a) ∧ u.cell? ⟨g, 1, none⟩ = some (.int .i64 n) ∧ u.cell? ⟨g, 2, none⟩ = some (.int .i64 m)) ∧ u.cell? ⟨g + 1, 0, none⟩ = some (.func (.func 44) #[] #[]))
  (exact HC.out _ HR.out) (first
  | (go_at_call 44; refine (kV _ _).mono ?_; rintro e w' ⟨rfl, hw⟩; obtain rfl := hw.symm; clear hw)
  | (go_at_call 69; refine (HP _ HR.out).mono ?_; rintro e w7 ⟨rfl, hb⟩; have HR : Hid _ := hb; clear hb))
 obtain ⟨⟨k0, k1, k2, k3⟩, k4⟩ := HF.out _ HR.out
 have q0 : w7.cell? ⟨w.heap.size, 3, none⟩ = some (.int .i64 c1) := (aP k0).2.2.2.1
 have f0 : w7.frozen? ⟨w.heap.size, 3, none⟩ = false := (bH k0).2.2.2.1
 have q1 : w7.cell? ⟨w.heap.size + 1, 3, none⟩ = some (.int .i64 c2) := (aP k1).2.2.2.1
 have f1 : w7.frozen? ⟨w.heap.size + 1, 3, none⟩ = false := (bH k1).2.2.2.1
 have l0 := (HC.out _ HR.out).2.2
 have l1 : (w7.setCell ⟨w.heap.size, 3, none⟩ (.int .i64 pl)).cell? ⟨g + 1, 0, none⟩ = some (.func (.func 44) #[] #[]) := (jI (heap_setCell_other w7 ⟨w.heap.size, 3, none⟩ (g + 1) (.int .i64 pl) (by simp; omega))).trans l0
 have l2 : ((w7.setCell ⟨w.heap.size, 3, none⟩ (.int .i64 pl)).setCell ⟨w.heap.size + 1, 3, none⟩ (.int .i64 ph)).cell? ⟨g + 1, 0, none⟩ = some (.func (.func 44) #[] #[]) := (jI (heap_setCell_other _ ⟨w.heap.size + 1, 3, none⟩ (g + 1) (.int .i64 ph) (by simp; omega))).trans l1
 have K0 := (heap_setCell_other (w7.setCell ⟨w.heap.size, 3, none⟩ (.int .i64 pl)) ⟨w.heap.size + 1, 3, none⟩ w.heap.size (.int .i64 ph) (by simp)).trans (uV k0 pl)
 have K1 := uV ((heap_setCell_other w7 ⟨w.heap.size, 3, none⟩ (w.heap.size + 1) (.int .i64 pl) (by simp)).trans k1) ph
 have K2 := (heap_setCell_other (w7.setCell ⟨w.heap.size, 3, none⟩ (.int .i64 pl)) ⟨w.heap.size + 1, 3, none⟩ (w.heap.size + 2) (.int .i64 ph) (by simp)).trans ((heap_setCell_other w7 ⟨w.heap.size, 3, none⟩ (w.heap.size + 2) (.int .i64 pl) (by simp)).trans k2)
 have K3 := (heap_setCell_other (w7.setCell ⟨w.heap.size, 3, none⟩ (.int .i64 pl)) ⟨w.heap.size + 1, 3, none⟩ (w.heap.size + 3) (.int .i64 ph) (by simp)).trans ((heap_setCell_other w7 ⟨w.heap.size, 3, none⟩ (w.heap.size + 3) (.int .i64 pl) (by simp)).trans k3)
 have K4 : Below w.heap.size w ((w7.setCell ⟨w.heap.size, 3, none⟩ (.int .i64 pl)).setCell ⟨w.heap.size + 1, 3, none⟩ (.int .i64 ph)) := (k4.setCell (by simp) _).setCell (by simp) _
 have KK : Hid (_ ∧ _ ∧ _ ∧ _ ∧ _) := ⟨K0, K1, K2, K3, K4⟩
 clear k0 k1 k2 k3 k4 HC HF HP K0 K1 K2 K3 K4
 go_wp2
 go_region_held_law (fun u => u.cell? ⟨g + 1, 0, none⟩ = some (.func (.func 44) #[] #[]))
  (first | exact l0 | exact l1 | exact l2) (first
  | (go_at_call 44; refine (kV _ _).mono ?_; rintro e w' ⟨rfl, hw⟩; obtain rfl := hw.symm; clear hw))
 go_wp2
 obtain ⟨K0, K1, K2, K3, K4⟩ := KK.out
 clear KK q0 q1 f0 f1 l0 l1 l2
 generalize (w7.setCell ⟨w.heap.size, 3, none⟩ (.int .i64 pl)).setCell ⟨w.heap.size + 1, 3, none⟩ (.int .i64 ph) = v at *
 have R0 := bX (x := ⟨b1, s1, r1, pl, fr1, fc1⟩) (u := v.drew.drew) K0
 have R1 := bX (x := ⟨b2, s2, r2, ph, fr2, fc2⟩) (u := v.drew.drew) K1
 have K2 : v.drew.drew.heap[w.heap.size + 2]? = some (rfO z0) := K2
 have K3 : v.drew.drew.heap[w.heap.size + 3]? = some (rfO z0) := K3
 have K3' := (setRow_other v.drew.drew (w.heap.size + 2) (w.heap.size + 3) (rfC ⟨b1, s1, r1, pl, fr1, fc1⟩) (by omega)).trans K3
 have RS0 : Hid _ := pR (y := z0) ⟨b1, s1, r1, pl, fr1, fc1⟩ K2
 have RS1 : Hid _ := pR (y := z0) ⟨b2, s2, r2, ph, fr2, fc2⟩ K3'
 have KA : Hid _ := (setRow_other (v.drew.drew.setRow (w.heap.size + 2) (rfC ⟨b1, s1, r1, pl, fr1, fc1⟩)) (w.heap.size + 3) (w.heap.size + 2) (rfC ⟨b2, s2, r2, ph, fr2, fc2⟩) (by omega)).trans (pU (y := z0) ⟨b1, s1, r1, pl, fr1, fc1⟩ K2)
 have KZ : Hid _ := pU (y := z0) ⟨b2, s2, r2, ph, fr2, fc2⟩ K3'
 have KB0 : Below w.heap.size w (v.drew.drew.setRow (w.heap.size + 2) (rfC ⟨b1, s1, r1, pl, fr1, fc1⟩)) := K4.drew.drew.grown (aC _ _ _) K4.drew.drew.size (fun g e => by cases e; omega)
 have KB : Hid (Below w.heap.size w ((v.drew.drew.setRow (w.heap.size + 2) (rfC ⟨b1, s1, r1, pl, fr1, fc1⟩)).setRow (w.heap.size + 3) (rfC ⟨b2, s2, r2, ph, fr2, fc2⟩))) := KB0.grown (aC _ _ _) KB0.size (fun g e => by cases e; omega)
 have HS : Hid (_ ∧ _) := ⟨R0, R1⟩
 have HS2 : Hid (_ ∧ _) := ⟨bX (x := ⟨b1, s1, r1, pl, fr1, fc1⟩) ((setRow_other v.drew.drew (w.heap.size + 2) w.heap.size (rfC ⟨b1, s1, r1, pl, fr1, fc1⟩) (by omega)).trans K0), bX (x := ⟨b2, s2, r2, ph, fr2, fc2⟩) ((setRow_other v.drew.drew (w.heap.size + 2) (w.heap.size + 1) (rfC ⟨b1, s1, r1, pl, fr1, fc1⟩) (by omega)).trans K1)⟩
 clear K0 K1 K2 K3 K4 K3' KB0 R0 R1
 refine aQ (fun u => (Instr.loadAt 25 (.pointer (some ⟨w.heap.size, 0, none⟩))).run Tryz.prog u = .ok (rfV ⟨b1, s1, r1, pl, fr1, fc1⟩) u ∧ (Instr.loadAt 25 (.pointer (some ⟨w.heap.size + 1, 0, none⟩))).run Tryz.prog u = .ok (rfV ⟨b2, s2, r2, ph, fr2, fc2⟩) u) (fun j => j == 4) (by kernel_rfl) ?_
 refine dwl 0 (rfV ⟨b1, s1, r1, pl, fr1, fc1⟩) ?_ (hS := HS.out) (hy := (fun u hSu => aI rfl rfl hSu.1))
 refine dwl 1 (rfV ⟨b2, s2, r2, ph, fr2, fc2⟩) ?_ (hS := HS.out) (hy := (fun u hSu => aI rfl rfl hSu.2))
 refine dwp 2 (.bool pb) ?_
 refine aH (i := 3) (by kernel_rfl) rfl ?_
 intro K' hK'
 rw [if_pos (by go_simp)]
 refine aJ none rfl 25 _ _ rfl _ _ rfl rfl RS0.out (hK' _ _ (.inr fun _ => HS2.out) ?_)
 clear hK'
 try simp only [Act.put, List.setIfInBounds_toArray, List.set_cons_zero, List.set_cons_succ]
 refine aH (i := 4) (by kernel_rfl) rfl ?_
 intro K' hK'
 rw [if_pos (by go_simp)]
 refine aJ none rfl 25 _ _ rfl _ _ rfl rfl RS1.out (hK' _ _ (.inl rfl) ?_)
 clear hK'
 try simp only [Act.put, List.setIfInBounds_toArray, List.set_cons_zero, List.set_cons_succ]
 refine dwp 5 (.bool pb) ?_
 refine aK (by kernel_rfl) ?_ _
 go_wp2
 exact bodyPost_ret (aIu rfl rfl KA.out rfl KZ.out rfl) rfl ⟨rfl, KB.out⟩
theorem aDx {bk sh : ByteArray} {dr : Bool} {a n m : Int} {g : Nat} {w : World} (h : Fol w g ⟨bk, sh, dr, false, a, n, m⟩) (x y : Rf) :
  Calls Tryz.prog 68 #[rfV x, rfV y, .pointer (some ⟨g, 0, none⟩), .pointer (some ⟨g + 1, 0, none⟩)] w fun e w' => e = .returned (.tuple #[rfV (gL ⟨bk, sh, dr, false, a, n, m⟩ x (Hs.spL a n m (ln ⟨bk, sh, dr, false, a, n, m⟩ x) (ln ⟨bk, sh, dr, false, a, n, m⟩ y))), rfV (gL ⟨bk, sh, dr, false, a, n, m⟩ y (Hs.spH a n m (ln ⟨bk, sh, dr, false, a, n, m⟩ x) (ln ⟨bk, sh, dr, false, a, n, m⟩ y))), .bool (Hs.spB a n m (ln ⟨bk, sh, dr, false, a, n, m⟩ x) (ln ⟨bk, sh, dr, false, a, n, m⟩ y))]) ∧ Below w.heap.size w w' := by
 obtain ⟨b1, s1, r1, c1, fr1, fc1⟩ := x
 obtain ⟨b2, s2, r2, c2, fr2, fc2⟩ := y
 simp only [gL, ln, if_true, Bool.false_eq_true, if_false]
 obtain ⟨W, hW⟩ : ∃ W, W = (((w.alloc (aU b1 s1 r1 c1 fr1 fc1)).alloc (aU b2 s2 r2 c2 fr2 fc2)).alloc (rfO z0)).alloc (rfO z0) := ⟨_, rfl⟩
 have HB0 : Below w.heap.size w W := by rw [hW]; exact aA (aA (aA (aA (Below.refl _ _) _) _) _) _
 have hz : W.heap.size = w.heap.size + 4 := by rw [hW]; simp
 have HF : Hid (∀ u, Below W.heap.size W u → (u.heap[w.heap.size]? = some (aU b1 s1 r1 c1 fr1 fc1) ∧ u.heap[w.heap.size + 1]? = some (aU b2 s2 r2 c2 fr2 fc2) ∧ u.heap[w.heap.size + 2]? = some (rfO z0) ∧ u.heap[w.heap.size + 3]? = some (rfO z0)) ∧ Below w.heap.size w u) := fun u hu => by
  have hu0 := hu
  rw [hW] at hu
  have q3 := new1 hu
  have q2 := new1 (aR hu)
  have q1 := new1 (aR (aR hu))
  have q0 := new1 (aR (aR (aR hu)))
  simp only [World.size_alloc] at q0 q1 q2 q3
  exact ⟨⟨q0, q1, q2, q3⟩, aG HB0 hu0⟩
 have HC : Hid (∀ u, Below W.heap.size W u → (u.cell? ⟨w.heap.size, 2, none⟩ = some (.int .i64 r1) ∧ u.cell? ⟨w.heap.size + 1, 2, none⟩ = some (.int .i64 r2)) ∧ (u.cell? ⟨g, 0, none⟩ = some (.int .i64 a) ∧ u.cell? ⟨g, 1, none⟩ = some (.int .i64 n) ∧ u.cell? ⟨g, 2, none⟩ = some (.int .i64 m)) ∧ u.cell? ⟨g + 1, 0, none⟩ = some (.func (.func 45) #[] #[])) :=
  fun u hu => ⟨⟨(aP (HF.out u hu).1.1).2.2.1, (aP (HF.out u hu).1.2.1).2.2.1⟩, kX (h.below (aG HB0 hu))⟩
 have HP : RC W 69 #[Hs.shV a n m, .int .i64 r1, .int .i64 r2] _ := RC.of fun u _ => Hs.aAf a n m r1 r2 u
 have HR : Hid (Below W.heap.size W W.drew) := (Below.refl _ _).drew
 generalize Hs.spL a n m r1 r2 = pl at *
 generalize Hs.spH a n m r1 r2 = ph at *
 generalize Hs.spB a n m r1 r2 = pb at *
 have hg : g + 1 < w.heap.size := aS h.lin
 clear h HB0 hz
 subst hW
 go_enter Tryz.func68, Tryz.ntmps68
 go_wp2
 go_region_held_law (fun u => (u.cell? ⟨w.heap.size, 2, none⟩ = some (.int .i64 r1) ∧ u.cell? ⟨w.heap.size + 1, 2, none⟩ = some (.int .i64 r2)) ∧ (u.cell? ⟨g, 0, none⟩ = some (.int .i64 a) ∧ u.cell? ⟨g, 1, none⟩ = some (.int .i64 n) ∧ u.cell? ⟨g, 2, none⟩ = some (.int .i64 m)) ∧ u.cell? ⟨g + 1, 0, none⟩ = some (.func (.func 45) #[] #[]))
  (exact HC.out _ HR.out) (first
  | (go_at_call 45; refine (kW _ _).mono ?_; rintro e w' ⟨rfl, hw⟩; obtain rfl := hw.symm; clear hw)
  | (go_at_call 69; refine (HP _ HR.out).mono ?_; rintro e w7 ⟨rfl, hb⟩; have HR : Hid _ := hb; clear hb))
 obtain ⟨⟨k0, k1, k2, k3⟩, k4⟩ := HF.out _ HR.out
 have q0 : w7.cell? ⟨w.heap.size, 2, none⟩ = some (.int .i64 r1) := (aP k0).2.2.1
 have f0 : w7.frozen? ⟨w.heap.size, 2, none⟩ = false := (bH k0).2.2.1
 have q1 : w7.cell? ⟨w.heap.size + 1, 2, none⟩ = some (.int .i64 r2) := (aP k1).2.2.1
 have f1 : w7.frozen? ⟨w.heap.size + 1, 2, none⟩ = false := (bH k1).2.2.1
 have l0 := (HC.out _ HR.out).2.2
 have l1 : (w7.setCell ⟨w.heap.size, 2, none⟩ (.int .i64 pl)).cell? ⟨g + 1, 0, none⟩ = some (.func (.func 45) #[] #[]) := (jI (heap_setCell_other w7 ⟨w.heap.size, 2, none⟩ (g + 1) (.int .i64 pl) (by simp; omega))).trans l0
 have l2 : ((w7.setCell ⟨w.heap.size, 2, none⟩ (.int .i64 pl)).setCell ⟨w.heap.size + 1, 2, none⟩ (.int .i64 ph)).cell? ⟨g + 1, 0, none⟩ = some (.func (.func 45) #[] #[]) := (jI (heap_setCell_other _ ⟨w.heap.size + 1, 2, none⟩ (g + 1) (.int .i64 ph) (by simp; omega))).trans l1
 have K0 := (heap_setCell_other (w7.setCell ⟨w.heap.size, 2, none⟩ (.int .i64 pl)) ⟨w.heap.size + 1, 2, none⟩ w.heap.size (.int .i64 ph) (by simp)).trans (uW k0 pl)
 have K1 := uW ((heap_setCell_other w7 ⟨w.heap.size, 2, none⟩ (w.heap.size + 1) (.int .i64 pl) (by simp)).trans k1) ph
 have K2 := (heap_setCell_other (w7.setCell ⟨w.heap.size, 2, none⟩ (.int .i64 pl)) ⟨w.heap.size + 1, 2, none⟩ (w.heap.size + 2) (.int .i64 ph) (by simp)).trans ((heap_setCell_other w7 ⟨w.heap.size, 2, none⟩ (w.heap.size + 2) (.int .i64 pl) (by simp)).trans k2)
 have K3 := (heap_setCell_other (w7.setCell ⟨w.heap.size, 2, none⟩ (.int .i64 pl)) ⟨w.heap.size + 1, 2, none⟩ (w.heap.size + 3) (.int .i64 ph) (by simp)).trans ((heap_setCell_other w7 ⟨w.heap.size, 2, none⟩ (w.heap.size + 3) (.int .i64 pl) (by simp)).trans k3)
 have K4 : Below w.heap.size w ((w7.setCell ⟨w.heap.size, 2, none⟩ (.int .i64 pl)).setCell ⟨w.heap.size + 1, 2, none⟩ (.int .i64 ph)) := (k4.setCell (by simp) _).setCell (by simp) _
 have KK : Hid (_ ∧ _ ∧ _ ∧ _ ∧ _) := ⟨K0, K1, K2, K3, K4⟩
 clear k0 k1 k2 k3 k4 HC HF HP K0 K1 K2 K3 K4
 go_wp2
 go_region_held_law (fun u => u.cell? ⟨g + 1, 0, none⟩ = some (.func (.func 45) #[] #[]))
  (first | exact l0 | exact l1 | exact l2) (first
  | (go_at_call 45; refine (kW _ _).mono ?_; rintro e w' ⟨rfl, hw⟩; obtain rfl := hw.symm; clear hw))
 go_wp2
 obtain ⟨K0, K1, K2, K3, K4⟩ := KK.out
 clear KK q0 q1 f0 f1 l0 l1 l2
 generalize (w7.setCell ⟨w.heap.size, 2, none⟩ (.int .i64 pl)).setCell ⟨w.heap.size + 1, 2, none⟩ (.int .i64 ph) = v at *
 have R0 := bX (x := ⟨b1, s1, pl, c1, fr1, fc1⟩) (u := v.drew.drew) K0
 have R1 := bX (x := ⟨b2, s2, ph, c2, fr2, fc2⟩) (u := v.drew.drew) K1
 have K2 : v.drew.drew.heap[w.heap.size + 2]? = some (rfO z0) := K2
 have K3 : v.drew.drew.heap[w.heap.size + 3]? = some (rfO z0) := K3
 have K3' := (setRow_other v.drew.drew (w.heap.size + 2) (w.heap.size + 3) (rfC ⟨b1, s1, pl, c1, fr1, fc1⟩) (by omega)).trans K3
 have RS0 : Hid _ := pR (y := z0) ⟨b1, s1, pl, c1, fr1, fc1⟩ K2
 have RS1 : Hid _ := pR (y := z0) ⟨b2, s2, ph, c2, fr2, fc2⟩ K3'
 have KA : Hid _ := (setRow_other (v.drew.drew.setRow (w.heap.size + 2) (rfC ⟨b1, s1, pl, c1, fr1, fc1⟩)) (w.heap.size + 3) (w.heap.size + 2) (rfC ⟨b2, s2, ph, c2, fr2, fc2⟩) (by omega)).trans (pU (y := z0) ⟨b1, s1, pl, c1, fr1, fc1⟩ K2)
 have KZ : Hid _ := pU (y := z0) ⟨b2, s2, ph, c2, fr2, fc2⟩ K3'
 have KB0 : Below w.heap.size w (v.drew.drew.setRow (w.heap.size + 2) (rfC ⟨b1, s1, pl, c1, fr1, fc1⟩)) := K4.drew.drew.grown (aC _ _ _) K4.drew.drew.size (fun g e => by cases e; omega)
 have KB : Hid (Below w.heap.size w ((v.drew.drew.setRow (w.heap.size + 2) (rfC ⟨b1, s1, pl, c1, fr1, fc1⟩)).setRow (w.heap.size + 3) (rfC ⟨b2, s2, ph, c2, fr2, fc2⟩))) := KB0.grown (aC _ _ _) KB0.size (fun g e => by cases e; omega)
 have HS : Hid (_ ∧ _) := ⟨R0, R1⟩
 have HS2 : Hid (_ ∧ _) := ⟨bX (x := ⟨b1, s1, pl, c1, fr1, fc1⟩) ((setRow_other v.drew.drew (w.heap.size + 2) w.heap.size (rfC ⟨b1, s1, pl, c1, fr1, fc1⟩) (by omega)).trans K0), bX (x := ⟨b2, s2, ph, c2, fr2, fc2⟩) ((setRow_other v.drew.drew (w.heap.size + 2) (w.heap.size + 1) (rfC ⟨b1, s1, pl, c1, fr1, fc1⟩) (by omega)).trans K1)⟩
 clear K0 K1 K2 K3 K4 K3' KB0 R0 R1
 refine aQ (fun u => (Instr.loadAt 25 (.pointer (some ⟨w.heap.size, 0, none⟩))).run Tryz.prog u = .ok (rfV ⟨b1, s1, pl, c1, fr1, fc1⟩) u ∧ (Instr.loadAt 25 (.pointer (some ⟨w.heap.size + 1, 0, none⟩))).run Tryz.prog u = .ok (rfV ⟨b2, s2, ph, c2, fr2, fc2⟩) u) (fun j => j == 4) (by kernel_rfl) ?_
 refine dwl 0 (rfV ⟨b1, s1, pl, c1, fr1, fc1⟩) ?_ (hS := HS.out) (hy := (fun u hSu => aI rfl rfl hSu.1))
 refine dwl 1 (rfV ⟨b2, s2, ph, c2, fr2, fc2⟩) ?_ (hS := HS.out) (hy := (fun u hSu => aI rfl rfl hSu.2))
 refine dwp 2 (.bool pb) ?_
 refine aH (i := 3) (by kernel_rfl) rfl ?_
 intro K' hK'
 rw [if_pos (by go_simp)]
 refine aJ none rfl 25 _ _ rfl _ _ rfl rfl RS0.out (hK' _ _ (.inr fun _ => HS2.out) ?_)
 clear hK'
 try simp only [Act.put, List.setIfInBounds_toArray, List.set_cons_zero, List.set_cons_succ]
 refine aH (i := 4) (by kernel_rfl) rfl ?_
 intro K' hK'
 rw [if_pos (by go_simp)]
 refine aJ none rfl 25 _ _ rfl _ _ rfl rfl RS1.out (hK' _ _ (.inl rfl) ?_)
 clear hK'
 try simp only [Act.put, List.setIfInBounds_toArray, List.set_cons_zero, List.set_cons_succ]
 refine dwp 5 (.bool pb) ?_
 refine aK (by kernel_rfl) ?_ _
 go_wp2
 exact bodyPost_ret (aIu rfl rfl KA.out rfl KZ.out rfl) rfl ⟨rfl, KB.out⟩
end Go.Proofs.YtljmklbbngpllaaGreatDoor.Rw
