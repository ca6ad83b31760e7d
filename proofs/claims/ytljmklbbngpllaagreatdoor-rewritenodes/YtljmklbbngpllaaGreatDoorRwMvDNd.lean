/- RwMvD. -/
import Derived.Test.YtljmklbbngpllaaGreatDoorRwMvANd
set_option linter.unusedVariables false
set_option linter.unusedSimpArgs false
set_option maxHeartbeats 16000000
set_option maxRecDepth 100000
namespace Go.Proofs.YtljmklbbngpllaaGreatDoor.Rw
open Go.RowKit Go.Fm
theorem aBv {bk sh hb hs : ByteArray} {hr hc : Int} {rf : Value} {x y x' y' : Rf} {b : Bool} {w : World} (h : ∀ u, Below w.heap.size w u → Calls Tryz.prog 42 #[rfV (lo x y), rfV (hi x y)] u fun e w' => e = .returned (.tuple #[rfV x', rfV y', .bool b]) ∧ Below u.heap.size u w') :
  Calls Tryz.prog 49 #[.agg (gN bk sh hb hs hr hc rf (.func (.func 42) #[] #[])), rfV x, rfV y] w fun e w' => e = .returned (.tuple #[.agg (lcs (if b = true then bN x' y' else gone) (.slice none 0 0)), .bool (if b = true then (!eqR x' x || !eqR y' y) else true)]) ∧ Below w.heap.size w w' := by
 obtain ⟨W, hW⟩ : ∃ W, W = ((((w.alloc (.cells (gN bk sh hb hs hr hc rf (.func (.func 42) #[] #[])) 64)).alloc (rfO x)).alloc (rfO y)).alloc (.cells nd0 28)) := ⟨_, rfl⟩
 have HB0 : Below w.heap.size w W := by rw [hW]; exact aA (aA (aA (aA (Below.refl _ _) _) _) _) _
 have hz : W.heap.size = w.heap.size + 4 := by rw [hW]; simp
 have HN : Hid (∀ u, Below W.heap.size W u → (u.heap[w.heap.size]? = some (.cells (gN bk sh hb hs hr hc rf (.func (.func 42) #[] #[])) 64) ∧ AtZ u (w.heap.size + 1) x ∧ AtZ u (w.heap.size + 2) y ∧ u.heap[w.heap.size + 3]? = some (.cells nd0 28)) ∧ Below w.heap.size w u) := fun u hu => by
  have hu0 := hu
  rw [hW] at hu
  have q3 := new1 hu
  have q2 := new1 (aR hu)
  have q1 := new1 (aR (aR hu))
  have q0 := new1 (aR (aR (aR hu)))
  simp only [World.size_alloc] at q0 q1 q2 q3
  exact ⟨⟨q0, q1, q2, q3⟩, aG HB0 hu0⟩
 have HL : Hid (∀ u, Below W.heap.size W u → u.cell? ⟨w.heap.size, 7, none⟩ = some (.func (.func 42) #[] #[])) := fun u hu => by
  have := (HN.out u hu).1.1
  simp [World.cell?, this]
 have HA : Hid (∀ u, Below W.heap.size W u → Calls Tryz.prog 42 #[rfV (lo x y), rfV (hi x y)] u fun e w' => e = .returned (.tuple #[rfV x', rfV y', .bool b]) ∧ Below u.heap.size u w') := fun u hu => h u (HN.out u hu).2
 have HK := fun u => pI x y u
 have HG := fun u => kY u
 have HW : Hid (Below W.heap.size W W.drew) := (Below.refl _ _).drew
 have HWs : Hid (W.heap.size = w.heap.size + 4) := hz
 generalize lo x y = cl at *
 generalize hi x y = ch at *
 clear HB0 h hz
 go_enter Tryz.func49, Tryz.ntmps49
 go_upto_region 1 with fail
 go_cut [8, 9, 10] (fun p q r wx => ∃ ga gb, p = .pointer (some ⟨ga, 0, none⟩) ∧ q = .pointer (some ⟨gb, 0, none⟩) ∧ r = .bool b ∧ Hid (AtZ wx ga x' ∧ AtZ wx gb y' ∧ W.heap.size ≤ ga ∧ W.heap.size ≤ gb ∧ Below W.heap.size W wx))
 case first =>
  rw [← hW]
  clear HG hW
  refine aQ (fun u => Below W.heap.size W u) (fun j => false) (by kernel_rfl) ?_
  refine dwp 0 (.pointer (some ⟨w.heap.size, 7, none⟩)) ?_
  refine dwl 1 (.func (.func 42) #[] #[]) ?_ (hS := HW.out) (hy := (fun u hSu => by have := HL.out u hSu; go_simp))
  refine dwl 2 (rfV x) ?_ (hS := HW.out) (hy := (fun u hSu => aI rfl rfl (bX (HN.out u hSu).1.2.1)))
  refine dwl 3 (rfV y) ?_ (hS := HW.out) (hy := (fun u hSu => aI rfl rfl (bX (HN.out u hSu).1.2.2.1)))
  refine gP (i := 4) (j := 12) (l := 13) (by kernel_rfl) rfl rfl rfl ?_ ?_ ?_
  ·intro K' hK'
   go_simp
   refine (HK _).mono ?_
   rintro e u1 ⟨rfl, hb⟩
   have SB1 : Below W.heap.size W u1 := aG HW.out hb
   refine hK' _ _ (.inr fun _ => SB1) ?_
   clear hK'
   try simp only [Act.put, List.setIfInBounds_toArray, List.set_cons_zero, List.set_cons_succ]
   refine dwp 5 (rfV cl) ?_
   refine dwp 6 (rfV ch) ?_
   refine gP (i := 7) (j := 12) (l := 13) (by kernel_rfl) rfl rfl rfl ?_ ?_ ?_
   ·intro K' hK'
    go_simp
    refine (HA.out _ SB1).mono ?_
    rintro e u2 ⟨rfl, hb⟩
    have SB2 : Below W.heap.size W u2 := aG SB1 hb
    refine hK' _ _ (.inr fun _ => SB2) ?_
    clear hK'
    try simp only [Act.put, List.setIfInBounds_toArray, List.set_cons_zero, List.set_cons_succ]
    refine dwp 8 (.tuple #[rfV x', rfV y', .bool b]) ?_
    refine dwp 9 (rfV x') ?_
    refine dwp 10 (rfV y') ?_
    refine dwp 11 (.bool b) ?_
    refine bL (i := 12) (j := 13) (by kernel_rfl) rfl rfl ?_ ?_
    ·intro K' hK'
     go_simp
     have SB3 : Below W.heap.size W (World.alloc u2 (rfO z0)) := aA SB2 _
     have A3 := AtZ.new u2 z0
     try simp only [World.size_alloc] at A3
     have Q3 := Below.size SB2
     try simp only [World.size_alloc] at Q3
     refine hK' _ _ (.inr fun _ => SB3) ?_
     clear hK'
     try simp only [Act.put, List.setIfInBounds_toArray, List.set_cons_zero, List.set_cons_succ]
     refine aH (i := 13) (by kernel_rfl) rfl ?_
     ·intro K' hK'
      go_simp
      have SB4 : Below W.heap.size W (World.alloc (World.alloc u2 (rfO z0)) (rfO z0)) := aA SB3 _
      have B4 := AtZ.new (World.alloc u2 (rfO z0)) z0
      try simp only [World.size_alloc] at B4
      have Q4 := Below.size SB3
      try simp only [World.size_alloc] at Q4
      have HNE := AtZ.ne A3
      try simp only [World.size_alloc] at HNE
      have A4 := AtZ.alloc A3 (rfO z0)
      refine hK' _ _ (.inr fun _ => SB4) ?_
      clear hK'
      try simp only [Act.put, List.setIfInBounds_toArray, List.set_cons_zero, List.set_cons_succ]
      obtain ⟨RS0, RS1, RE⟩ := AtZ.two A4 B4 HNE x' y'
      refine aH (i := 14) (by kernel_rfl) rfl ?_
      intro K' hK'
      rw [if_pos (by go_simp)]
      refine aJ none rfl 25 _ _ rfl _ _ rfl rfl RS0.out (hK' _ _ (.inr fun hh => Below.grown hh (aC _ _ _) hh.size (fun g e => by cases e; exact Q3)) ?_)
      clear hK'
      try simp only [Act.put, List.setIfInBounds_toArray, List.set_cons_zero, List.set_cons_succ]
      refine aH (i := 15) (by kernel_rfl) rfl ?_
      intro K' hK'
      rw [if_pos (by go_simp)]
      refine aJ none rfl 25 _ _ rfl _ _ rfl rfl RS1.out (hK' _ _ (.inr fun hh => Below.grown hh (aC _ _ _) hh.size (fun g e => by cases e; exact Q4)) ?_)
      clear hK'
      try simp only [Act.put, List.setIfInBounds_toArray, List.set_cons_zero, List.set_cons_succ]
      refine dwp 16 (.bool b) ?_
      refine aK (by kernel_rfl) ?_ _
      go_wp2
      go_meet
      have SZ := Below.grown (Below.grown SB4 (aC _ _ (rfC x')) (Below.size SB4) (fun g e => by cases e; exact Q3)) (aC _ _ (rfC y')) (by simpa using (Below.size SB4)) (fun g e => by cases e; exact Q4)
      exact ⟨_, _, rfl, rfl, rfl, RE.out.1, RE.out.2, Q3, Q4, SZ⟩
    ·intro K' hK'
     go_simp
     have SB5 : Below W.heap.size W (World.alloc u2 (rfO z0)) := aA SB2 _
     have B5 := AtZ.new u2 z0
     try simp only [World.size_alloc] at B5
     have Q5 := Below.size SB2
     try simp only [World.size_alloc] at Q5
     refine hK' _ _ (.inr fun _ => SB5) ?_
     clear hK'
     try simp only [Act.put, List.setIfInBounds_toArray, List.set_cons_zero, List.set_cons_succ]
     refine aH (i := 12) (by kernel_rfl) rfl ?_
     ·intro K' hK'
      go_simp
      have SB6 : Below W.heap.size W (World.alloc (World.alloc u2 (rfO z0)) (rfO z0)) := aA SB5 _
      have A6 := AtZ.new (World.alloc u2 (rfO z0)) z0
      try simp only [World.size_alloc] at A6
      have Q6 := Below.size SB5
      try simp only [World.size_alloc] at Q6
      have HNE := (AtZ.ne B5).symm
      try simp only [World.size_alloc] at HNE
      have B6 := AtZ.alloc B5 (rfO z0)
      refine hK' _ _ (.inr fun _ => SB6) ?_
      clear hK'
      try simp only [Act.put, List.setIfInBounds_toArray, List.set_cons_zero, List.set_cons_succ]
      obtain ⟨RS0, RS1, RE⟩ := AtZ.two A6 B6 HNE x' y'
      refine aH (i := 14) (by kernel_rfl) rfl ?_
      intro K' hK'
      rw [if_pos (by go_simp)]
      refine aJ none rfl 25 _ _ rfl _ _ rfl rfl RS0.out (hK' _ _ (.inr fun hh => Below.grown hh (aC _ _ _) hh.size (fun g e => by cases e; exact Q6)) ?_)
      clear hK'
      try simp only [Act.put, List.setIfInBounds_toArray, List.set_cons_zero, List.set_cons_succ]
      refine aH (i := 15) (by kernel_rfl) rfl ?_
      intro K' hK'
      rw [if_pos (by go_simp)]
      refine aJ none rfl 25 _ _ rfl _ _ rfl rfl RS1.out (hK' _ _ (.inr fun hh => Below.grown hh (aC _ _ _) hh.size (fun g e => by cases e; exact Q5)) ?_)
      clear hK'
      try simp only [Act.put, List.setIfInBounds_toArray, List.set_cons_zero, List.set_cons_succ]
      refine dwp 16 (.bool b) ?_
      refine aK (by kernel_rfl) ?_ _
      go_wp2
      go_meet
      have SZ := Below.grown (Below.grown SB6 (aC _ _ (rfC x')) (Below.size SB6) (fun g e => by cases e; exact Q6)) (aC _ _ (rfC y')) (by simpa using (Below.size SB6)) (fun g e => by cases e; exact Q5)
      exact ⟨_, _, rfl, rfl, rfl, RE.out.1, RE.out.2, Q6, Q5, SZ⟩
   ·intro K' hK'
    go_simp
    have SB7 : Below W.heap.size W (World.alloc u1 (rfO z0)) := aA SB1 _
    have A7 := AtZ.new u1 z0
    try simp only [World.size_alloc] at A7
    have Q7 := Below.size SB1
    try simp only [World.size_alloc] at Q7
    refine hK' _ _ (.inr fun _ => SB7) ?_
    clear hK'
    try simp only [Act.put, List.setIfInBounds_toArray, List.set_cons_zero, List.set_cons_succ]
    refine bL (i := 7) (j := 13) (by kernel_rfl) rfl rfl ?_ ?_
    ·intro K' hK'
     go_simp
     refine (HA.out _ SB7).mono ?_
     rintro e u8 ⟨rfl, hb⟩
     have SB8 : Below W.heap.size W u8 := aG SB7 hb
     have A8 := AtZ.bel A7 hb
     refine hK' _ _ (.inr fun _ => SB8) ?_
     clear hK'
     try simp only [Act.put, List.setIfInBounds_toArray, List.set_cons_zero, List.set_cons_succ]
     refine dwp 8 (.tuple #[rfV x', rfV y', .bool b]) ?_
     refine dwp 9 (rfV x') ?_
     refine dwp 10 (rfV y') ?_
     refine dwp 11 (.bool b) ?_
     refine aH (i := 13) (by kernel_rfl) rfl ?_
     ·intro K' hK'
      go_simp
      have SB9 : Below W.heap.size W (World.alloc u8 (rfO z0)) := aA SB8 _
      have B9 := AtZ.new u8 z0
      try simp only [World.size_alloc] at B9
      have Q9 := Below.size SB8
      try simp only [World.size_alloc] at Q9
      have HNE := AtZ.ne A8
      try simp only [World.size_alloc] at HNE
      have A9 := AtZ.alloc A8 (rfO z0)
      refine hK' _ _ (.inr fun _ => SB9) ?_
      clear hK'
      try simp only [Act.put, List.setIfInBounds_toArray, List.set_cons_zero, List.set_cons_succ]
      obtain ⟨RS0, RS1, RE⟩ := AtZ.two A9 B9 HNE x' y'
      refine aH (i := 14) (by kernel_rfl) rfl ?_
      intro K' hK'
      rw [if_pos (by go_simp)]
      refine aJ none rfl 25 _ _ rfl _ _ rfl rfl RS0.out (hK' _ _ (.inr fun hh => Below.grown hh (aC _ _ _) hh.size (fun g e => by cases e; exact Q7)) ?_)
      clear hK'
      try simp only [Act.put, List.setIfInBounds_toArray, List.set_cons_zero, List.set_cons_succ]
      refine aH (i := 15) (by kernel_rfl) rfl ?_
      intro K' hK'
      rw [if_pos (by go_simp)]
      refine aJ none rfl 25 _ _ rfl _ _ rfl rfl RS1.out (hK' _ _ (.inr fun hh => Below.grown hh (aC _ _ _) hh.size (fun g e => by cases e; exact Q9)) ?_)
      clear hK'
      try simp only [Act.put, List.setIfInBounds_toArray, List.set_cons_zero, List.set_cons_succ]
      refine dwp 16 (.bool b) ?_
      refine aK (by kernel_rfl) ?_ _
      go_wp2
      go_meet
      have SZ := Below.grown (Below.grown SB9 (aC _ _ (rfC x')) (Below.size SB9) (fun g e => by cases e; exact Q7)) (aC _ _ (rfC y')) (by simpa using (Below.size SB9)) (fun g e => by cases e; exact Q9)
      exact ⟨_, _, rfl, rfl, rfl, RE.out.1, RE.out.2, Q7, Q9, SZ⟩
    ·intro K' hK'
     go_simp
     have aBn : Below W.heap.size W (World.alloc (World.alloc u1 (rfO z0)) (rfO z0)) := aA SB7 _
     have B10 := AtZ.new (World.alloc u1 (rfO z0)) z0
     try simp only [World.size_alloc] at B10
     have Q10 := Below.size SB7
     try simp only [World.size_alloc] at Q10
     have HNE := AtZ.ne A7
     try simp only [World.size_alloc] at HNE
     have A10 := AtZ.alloc A7 (rfO z0)
     refine hK' _ _ (.inr fun _ => aBn) ?_
     clear hK'
     try simp only [Act.put, List.setIfInBounds_toArray, List.set_cons_zero, List.set_cons_succ]
     refine aH (i := 7) (by kernel_rfl) rfl ?_
     ·intro K' hK'
      go_simp
      refine (HA.out _ aBn).mono ?_
      rintro e u11 ⟨rfl, hb⟩
      have oM : Below W.heap.size W u11 := aG aBn hb
      have A11 := AtZ.bel A10 hb
      have B11 := AtZ.bel B10 hb
      refine hK' _ _ (.inr fun _ => oM) ?_
      clear hK'
      try simp only [Act.put, List.setIfInBounds_toArray, List.set_cons_zero, List.set_cons_succ]
      refine dwp 8 (.tuple #[rfV x', rfV y', .bool b]) ?_
      refine dwp 9 (rfV x') ?_
      refine dwp 10 (rfV y') ?_
      refine dwp 11 (.bool b) ?_
      obtain ⟨RS0, RS1, RE⟩ := AtZ.two A11 B11 HNE x' y'
      refine aH (i := 14) (by kernel_rfl) rfl ?_
      intro K' hK'
      rw [if_pos (by go_simp)]
      refine aJ none rfl 25 _ _ rfl _ _ rfl rfl RS0.out (hK' _ _ (.inr fun hh => Below.grown hh (aC _ _ _) hh.size (fun g e => by cases e; exact Q7)) ?_)
      clear hK'
      try simp only [Act.put, List.setIfInBounds_toArray, List.set_cons_zero, List.set_cons_succ]
      refine aH (i := 15) (by kernel_rfl) rfl ?_
      intro K' hK'
      rw [if_pos (by go_simp)]
      refine aJ none rfl 25 _ _ rfl _ _ rfl rfl RS1.out (hK' _ _ (.inr fun hh => Below.grown hh (aC _ _ _) hh.size (fun g e => by cases e; exact Q10)) ?_)
      clear hK'
      try simp only [Act.put, List.setIfInBounds_toArray, List.set_cons_zero, List.set_cons_succ]
      refine dwp 16 (.bool b) ?_
      refine aK (by kernel_rfl) ?_ _
      go_wp2
      go_meet
      have SZ := Below.grown (Below.grown oM (aC _ _ (rfC x')) (Below.size oM) (fun g e => by cases e; exact Q7)) (aC _ _ (rfC y')) (by simpa using (Below.size oM)) (fun g e => by cases e; exact Q10)
      exact ⟨_, _, rfl, rfl, rfl, RE.out.1, RE.out.2, Q7, Q10, SZ⟩
   ·intro K' hK'
    go_simp
    have jJ : Below W.heap.size W (World.alloc u1 (rfO z0)) := aA SB1 _
    have B12 := AtZ.new u1 z0
    try simp only [World.size_alloc] at B12
    have Q12 := Below.size SB1
    try simp only [World.size_alloc] at Q12
    refine hK' _ _ (.inr fun _ => jJ) ?_
    clear hK'
    try simp only [Act.put, List.setIfInBounds_toArray, List.set_cons_zero, List.set_cons_succ]
    refine bL (i := 7) (j := 12) (by kernel_rfl) rfl rfl ?_ ?_
    ·intro K' hK'
     go_simp
     refine (HA.out _ jJ).mono ?_
     rintro e u13 ⟨rfl, hb⟩
     have oN : Below W.heap.size W u13 := aG jJ hb
     have B13 := AtZ.bel B12 hb
     refine hK' _ _ (.inr fun _ => oN) ?_
     clear hK'
     try simp only [Act.put, List.setIfInBounds_toArray, List.set_cons_zero, List.set_cons_succ]
     refine dwp 8 (.tuple #[rfV x', rfV y', .bool b]) ?_
     refine dwp 9 (rfV x') ?_
     refine dwp 10 (rfV y') ?_
     refine dwp 11 (.bool b) ?_
     refine aH (i := 12) (by kernel_rfl) rfl ?_
     ·intro K' hK'
      go_simp
      have oO : Below W.heap.size W (World.alloc u13 (rfO z0)) := aA oN _
      have A14 := AtZ.new u13 z0
      try simp only [World.size_alloc] at A14
      have Q14 := Below.size oN
      try simp only [World.size_alloc] at Q14
      have HNE := (AtZ.ne B13).symm
      try simp only [World.size_alloc] at HNE
      have B14 := AtZ.alloc B13 (rfO z0)
      refine hK' _ _ (.inr fun _ => oO) ?_
      clear hK'
      try simp only [Act.put, List.setIfInBounds_toArray, List.set_cons_zero, List.set_cons_succ]
      obtain ⟨RS0, RS1, RE⟩ := AtZ.two A14 B14 HNE x' y'
      refine aH (i := 14) (by kernel_rfl) rfl ?_
      intro K' hK'
      rw [if_pos (by go_simp)]
      refine aJ none rfl 25 _ _ rfl _ _ rfl rfl RS0.out (hK' _ _ (.inr fun hh => Below.grown hh (aC _ _ _) hh.size (fun g e => by cases e; exact Q14)) ?_)
      clear hK'
      try simp only [Act.put, List.setIfInBounds_toArray, List.set_cons_zero, List.set_cons_succ]
      refine aH (i := 15) (by kernel_rfl) rfl ?_
      intro K' hK'
      rw [if_pos (by go_simp)]
      refine aJ none rfl 25 _ _ rfl _ _ rfl rfl RS1.out (hK' _ _ (.inr fun hh => Below.grown hh (aC _ _ _) hh.size (fun g e => by cases e; exact Q12)) ?_)
      clear hK'
      try simp only [Act.put, List.setIfInBounds_toArray, List.set_cons_zero, List.set_cons_succ]
      refine dwp 16 (.bool b) ?_
      refine aK (by kernel_rfl) ?_ _
      go_wp2
      go_meet
      have SZ := Below.grown (Below.grown oO (aC _ _ (rfC x')) (Below.size oO) (fun g e => by cases e; exact Q14)) (aC _ _ (rfC y')) (by simpa using (Below.size oO)) (fun g e => by cases e; exact Q12)
      exact ⟨_, _, rfl, rfl, rfl, RE.out.1, RE.out.2, Q14, Q12, SZ⟩
    ·intro K' hK'
     go_simp
     have aBo : Below W.heap.size W (World.alloc (World.alloc u1 (rfO z0)) (rfO z0)) := aA jJ _
     have A15 := AtZ.new (World.alloc u1 (rfO z0)) z0
     try simp only [World.size_alloc] at A15
     have Q15 := Below.size jJ
     try simp only [World.size_alloc] at Q15
     have HNE := (AtZ.ne B12).symm
     try simp only [World.size_alloc] at HNE
     have B15 := AtZ.alloc B12 (rfO z0)
     refine hK' _ _ (.inr fun _ => aBo) ?_
     clear hK'
     try simp only [Act.put, List.setIfInBounds_toArray, List.set_cons_zero, List.set_cons_succ]
     refine aH (i := 7) (by kernel_rfl) rfl ?_
     ·intro K' hK'
      go_simp
      refine (HA.out _ aBo).mono ?_
      rintro e u16 ⟨rfl, hb⟩
      have wN : Below W.heap.size W u16 := aG aBo hb
      have A16 := AtZ.bel A15 hb
      have B16 := AtZ.bel B15 hb
      refine hK' _ _ (.inr fun _ => wN) ?_
      clear hK'
      try simp only [Act.put, List.setIfInBounds_toArray, List.set_cons_zero, List.set_cons_succ]
      refine dwp 8 (.tuple #[rfV x', rfV y', .bool b]) ?_
      refine dwp 9 (rfV x') ?_
      refine dwp 10 (rfV y') ?_
      refine dwp 11 (.bool b) ?_
      obtain ⟨RS0, RS1, RE⟩ := AtZ.two A16 B16 HNE x' y'
      refine aH (i := 14) (by kernel_rfl) rfl ?_
      intro K' hK'
      rw [if_pos (by go_simp)]
      refine aJ none rfl 25 _ _ rfl _ _ rfl rfl RS0.out (hK' _ _ (.inr fun hh => Below.grown hh (aC _ _ _) hh.size (fun g e => by cases e; exact Q15)) ?_)
      clear hK'
      try simp only [Act.put, List.setIfInBounds_toArray, List.set_cons_zero, List.set_cons_succ]
      refine aH (i := 15) (by kernel_rfl) rfl ?_
      intro K' hK'
      rw [if_pos (by go_simp)]
      refine aJ none rfl 25 _ _ rfl _ _ rfl rfl RS1.out (hK' _ _ (.inr fun hh => Below.grown hh (aC _ _ _) hh.size (fun g e => by cases e; exact Q12)) ?_)
      clear hK'
      try simp only [Act.put, List.setIfInBounds_toArray, List.set_cons_zero, List.set_cons_succ]
      refine dwp 16 (.bool b) ?_
      refine aK (by kernel_rfl) ?_ _
      go_wp2
      go_meet
      have SZ := Below.grown (Below.grown wN (aC _ _ (rfC x')) (Below.size wN) (fun g e => by cases e; exact Q15)) (aC _ _ (rfC y')) (by simpa using (Below.size wN)) (fun g e => by cases e; exact Q12)
      exact ⟨_, _, rfl, rfl, rfl, RE.out.1, RE.out.2, Q15, Q12, SZ⟩
  ·intro K' hK'
   go_simp
   have wO : Below W.heap.size W (World.alloc W.drew (rfO z0)) := aA HW.out _
   have A17 := AtZ.new W.drew z0
   try simp only [World.size_alloc] at A17
   have Q17 := Below.size HW.out
   try simp only [World.size_alloc] at Q17
   refine hK' _ _ (.inr fun _ => wO) ?_
   clear hK'
   try simp only [Act.put, List.setIfInBounds_toArray, List.set_cons_zero, List.set_cons_succ]
   refine bL (i := 4) (j := 13) (by kernel_rfl) rfl rfl ?_ ?_
   ·intro K' hK'
    go_simp
    refine (HK _).mono ?_
    rintro e u18 ⟨rfl, hb⟩
    have sK : Below W.heap.size W u18 := aG wO hb
    have A18 := AtZ.bel A17 hb
    refine hK' _ _ (.inr fun _ => sK) ?_
    clear hK'
    try simp only [Act.put, List.setIfInBounds_toArray, List.set_cons_zero, List.set_cons_succ]
    refine dwp 5 (rfV cl) ?_
    refine dwp 6 (rfV ch) ?_
    refine bL (i := 7) (j := 13) (by kernel_rfl) rfl rfl ?_ ?_
    ·intro K' hK'
     go_simp
     refine (HA.out _ sK).mono ?_
     rintro e u19 ⟨rfl, hb⟩
     have aBp : Below W.heap.size W u19 := aG sK hb
     have A19 := AtZ.bel A18 hb
     refine hK' _ _ (.inr fun _ => aBp) ?_
     clear hK'
     try simp only [Act.put, List.setIfInBounds_toArray, List.set_cons_zero, List.set_cons_succ]
     refine dwp 8 (.tuple #[rfV x', rfV y', .bool b]) ?_
     refine dwp 9 (rfV x') ?_
     refine dwp 10 (rfV y') ?_
     refine dwp 11 (.bool b) ?_
     refine aH (i := 13) (by kernel_rfl) rfl ?_
     ·intro K' hK'
      go_simp
      have wP : Below W.heap.size W (World.alloc u19 (rfO z0)) := aA aBp _
      have B20 := AtZ.new u19 z0
      try simp only [World.size_alloc] at B20
      have Q20 := Below.size aBp
      try simp only [World.size_alloc] at Q20
      have HNE := AtZ.ne A19
      try simp only [World.size_alloc] at HNE
      have A20 := AtZ.alloc A19 (rfO z0)
      refine hK' _ _ (.inr fun _ => wP) ?_
      clear hK'
      try simp only [Act.put, List.setIfInBounds_toArray, List.set_cons_zero, List.set_cons_succ]
      obtain ⟨RS0, RS1, RE⟩ := AtZ.two A20 B20 HNE x' y'
      refine aH (i := 14) (by kernel_rfl) rfl ?_
      intro K' hK'
      rw [if_pos (by go_simp)]
      refine aJ none rfl 25 _ _ rfl _ _ rfl rfl RS0.out (hK' _ _ (.inr fun hh => Below.grown hh (aC _ _ _) hh.size (fun g e => by cases e; exact Q17)) ?_)
      clear hK'
      try simp only [Act.put, List.setIfInBounds_toArray, List.set_cons_zero, List.set_cons_succ]
      refine aH (i := 15) (by kernel_rfl) rfl ?_
      intro K' hK'
      rw [if_pos (by go_simp)]
      refine aJ none rfl 25 _ _ rfl _ _ rfl rfl RS1.out (hK' _ _ (.inr fun hh => Below.grown hh (aC _ _ _) hh.size (fun g e => by cases e; exact Q20)) ?_)
      clear hK'
      try simp only [Act.put, List.setIfInBounds_toArray, List.set_cons_zero, List.set_cons_succ]
      refine dwp 16 (.bool b) ?_
      refine aK (by kernel_rfl) ?_ _
      go_wp2
      go_meet
      have SZ := Below.grown (Below.grown wP (aC _ _ (rfC x')) (Below.size wP) (fun g e => by cases e; exact Q17)) (aC _ _ (rfC y')) (by simpa using (Below.size wP)) (fun g e => by cases e; exact Q20)
      exact ⟨_, _, rfl, rfl, rfl, RE.out.1, RE.out.2, Q17, Q20, SZ⟩
    ·intro K' hK'
     go_simp
     have aBq : Below W.heap.size W (World.alloc u18 (rfO z0)) := aA sK _
     have B21 := AtZ.new u18 z0
     try simp only [World.size_alloc] at B21
     have Q21 := Below.size sK
     try simp only [World.size_alloc] at Q21
     have HNE := AtZ.ne A18
     try simp only [World.size_alloc] at HNE
     have A21 := AtZ.alloc A18 (rfO z0)
     refine hK' _ _ (.inr fun _ => aBq) ?_
     clear hK'
     try simp only [Act.put, List.setIfInBounds_toArray, List.set_cons_zero, List.set_cons_succ]
     refine aH (i := 7) (by kernel_rfl) rfl ?_
     ·intro K' hK'
      go_simp
      refine (HA.out _ aBq).mono ?_
      rintro e u22 ⟨rfl, hb⟩
      have wQ : Below W.heap.size W u22 := aG aBq hb
      have A22 := AtZ.bel A21 hb
      have B22 := AtZ.bel B21 hb
      refine hK' _ _ (.inr fun _ => wQ) ?_
      clear hK'
      try simp only [Act.put, List.setIfInBounds_toArray, List.set_cons_zero, List.set_cons_succ]
      refine dwp 8 (.tuple #[rfV x', rfV y', .bool b]) ?_
      refine dwp 9 (rfV x') ?_
      refine dwp 10 (rfV y') ?_
      refine dwp 11 (.bool b) ?_
      obtain ⟨RS0, RS1, RE⟩ := AtZ.two A22 B22 HNE x' y'
      refine aH (i := 14) (by kernel_rfl) rfl ?_
      intro K' hK'
      rw [if_pos (by go_simp)]
      refine aJ none rfl 25 _ _ rfl _ _ rfl rfl RS0.out (hK' _ _ (.inr fun hh => Below.grown hh (aC _ _ _) hh.size (fun g e => by cases e; exact Q17)) ?_)
      clear hK'
      try simp only [Act.put, List.setIfInBounds_toArray, List.set_cons_zero, List.set_cons_succ]
      refine aH (i := 15) (by kernel_rfl) rfl ?_
      intro K' hK'
      rw [if_pos (by go_simp)]
      refine aJ none rfl 25 _ _ rfl _ _ rfl rfl RS1.out (hK' _ _ (.inr fun hh => Below.grown hh (aC _ _ _) hh.size (fun g e => by cases e; exact Q21)) ?_)
      clear hK'
      try simp only [Act.put, List.setIfInBounds_toArray, List.set_cons_zero, List.set_cons_succ]
      refine dwp 16 (.bool b) ?_
      refine aK (by kernel_rfl) ?_ _
      go_wp2
      go_meet
      have SZ := Below.grown (Below.grown wQ (aC _ _ (rfC x')) (Below.size wQ) (fun g e => by cases e; exact Q17)) (aC _ _ (rfC y')) (by simpa using (Below.size wQ)) (fun g e => by cases e; exact Q21)
      exact ⟨_, _, rfl, rfl, rfl, RE.out.1, RE.out.2, Q17, Q21, SZ⟩
   ·intro K' hK'
    go_simp
    have aF6 : Below W.heap.size W (World.alloc (World.alloc W.drew (rfO z0)) (rfO z0)) := aA wO _
    have B23 := AtZ.new (World.alloc W.drew (rfO z0)) z0
    try simp only [World.size_alloc] at B23
    have Q23 := Below.size wO
    try simp only [World.size_alloc] at Q23
    have HNE := AtZ.ne A17
    try simp only [World.size_alloc] at HNE
    have A23 := AtZ.alloc A17 (rfO z0)
    refine hK' _ _ (.inr fun _ => aF6) ?_
    clear hK'
    try simp only [Act.put, List.setIfInBounds_toArray, List.set_cons_zero, List.set_cons_succ]
    refine aH (i := 4) (by kernel_rfl) rfl ?_
    ·intro K' hK'
     go_simp
     refine (HK _).mono ?_
     rintro e u24 ⟨rfl, hb⟩
     have aBr : Below W.heap.size W u24 := aG aF6 hb
     have A24 := AtZ.bel A23 hb
     have B24 := AtZ.bel B23 hb
     refine hK' _ _ (.inr fun _ => aBr) ?_
     clear hK'
     try simp only [Act.put, List.setIfInBounds_toArray, List.set_cons_zero, List.set_cons_succ]
     refine dwp 5 (rfV cl) ?_
     refine dwp 6 (rfV ch) ?_
     refine aH (i := 7) (by kernel_rfl) rfl ?_
     ·intro K' hK'
      go_simp
      refine (HA.out _ aBr).mono ?_
      rintro e u25 ⟨rfl, hb⟩
      have wR : Below W.heap.size W u25 := aG aBr hb
      have A25 := AtZ.bel A24 hb
      have B25 := AtZ.bel B24 hb
      refine hK' _ _ (.inr fun _ => wR) ?_
      clear hK'
      try simp only [Act.put, List.setIfInBounds_toArray, List.set_cons_zero, List.set_cons_succ]
      refine dwp 8 (.tuple #[rfV x', rfV y', .bool b]) ?_
      refine dwp 9 (rfV x') ?_
      refine dwp 10 (rfV y') ?_
      refine dwp 11 (.bool b) ?_
      obtain ⟨RS0, RS1, RE⟩ := AtZ.two A25 B25 HNE x' y'
      refine aH (i := 14) (by kernel_rfl) rfl ?_
      intro K' hK'
      rw [if_pos (by go_simp)]
      refine aJ none rfl 25 _ _ rfl _ _ rfl rfl RS0.out (hK' _ _ (.inr fun hh => Below.grown hh (aC _ _ _) hh.size (fun g e => by cases e; exact Q17)) ?_)
      clear hK'
      try simp only [Act.put, List.setIfInBounds_toArray, List.set_cons_zero, List.set_cons_succ]
      refine aH (i := 15) (by kernel_rfl) rfl ?_
      intro K' hK'
      rw [if_pos (by go_simp)]
      refine aJ none rfl 25 _ _ rfl _ _ rfl rfl RS1.out (hK' _ _ (.inr fun hh => Below.grown hh (aC _ _ _) hh.size (fun g e => by cases e; exact Q23)) ?_)
      clear hK'
      try simp only [Act.put, List.setIfInBounds_toArray, List.set_cons_zero, List.set_cons_succ]
      refine dwp 16 (.bool b) ?_
      refine aK (by kernel_rfl) ?_ _
      go_wp2
      go_meet
      have SZ := Below.grown (Below.grown wR (aC _ _ (rfC x')) (Below.size wR) (fun g e => by cases e; exact Q17)) (aC _ _ (rfC y')) (by simpa using (Below.size wR)) (fun g e => by cases e; exact Q23)
      exact ⟨_, _, rfl, rfl, rfl, RE.out.1, RE.out.2, Q17, Q23, SZ⟩
  ·intro K' hK'
   go_simp
   have wS : Below W.heap.size W (World.alloc W.drew (rfO z0)) := aA HW.out _
   have B26 := AtZ.new W.drew z0
   try simp only [World.size_alloc] at B26
   have Q26 := Below.size HW.out
   try simp only [World.size_alloc] at Q26
   refine hK' _ _ (.inr fun _ => wS) ?_
   clear hK'
   try simp only [Act.put, List.setIfInBounds_toArray, List.set_cons_zero, List.set_cons_succ]
   refine bL (i := 4) (j := 12) (by kernel_rfl) rfl rfl ?_ ?_
   ·intro K' hK'
    go_simp
    refine (HK _).mono ?_
    rintro e u27 ⟨rfl, hb⟩
    have sM : Below W.heap.size W u27 := aG wS hb
    have B27 := AtZ.bel B26 hb
    refine hK' _ _ (.inr fun _ => sM) ?_
    clear hK'
    try simp only [Act.put, List.setIfInBounds_toArray, List.set_cons_zero, List.set_cons_succ]
    refine dwp 5 (rfV cl) ?_
    refine dwp 6 (rfV ch) ?_
    refine bL (i := 7) (j := 12) (by kernel_rfl) rfl rfl ?_ ?_
    ·intro K' hK'
     go_simp
     refine (HA.out _ sM).mono ?_
     rintro e u28 ⟨rfl, hb⟩
     have aBs : Below W.heap.size W u28 := aG sM hb
     have B28 := AtZ.bel B27 hb
     refine hK' _ _ (.inr fun _ => aBs) ?_
     clear hK'
     try simp only [Act.put, List.setIfInBounds_toArray, List.set_cons_zero, List.set_cons_succ]
     refine dwp 8 (.tuple #[rfV x', rfV y', .bool b]) ?_
     refine dwp 9 (rfV x') ?_
     refine dwp 10 (rfV y') ?_
     refine dwp 11 (.bool b) ?_
     refine aH (i := 12) (by kernel_rfl) rfl ?_
     ·intro K' hK'
      go_simp
      have wT : Below W.heap.size W (World.alloc u28 (rfO z0)) := aA aBs _
      have A29 := AtZ.new u28 z0
      try simp only [World.size_alloc] at A29
      have Q29 := Below.size aBs
      try simp only [World.size_alloc] at Q29
      have HNE := (AtZ.ne B28).symm
      try simp only [World.size_alloc] at HNE
      have B29 := AtZ.alloc B28 (rfO z0)
      refine hK' _ _ (.inr fun _ => wT) ?_
      clear hK'
      try simp only [Act.put, List.setIfInBounds_toArray, List.set_cons_zero, List.set_cons_succ]
      obtain ⟨RS0, RS1, RE⟩ := AtZ.two A29 B29 HNE x' y'
      refine aH (i := 14) (by kernel_rfl) rfl ?_
      intro K' hK'
      rw [if_pos (by go_simp)]
      refine aJ none rfl 25 _ _ rfl _ _ rfl rfl RS0.out (hK' _ _ (.inr fun hh => Below.grown hh (aC _ _ _) hh.size (fun g e => by cases e; exact Q29)) ?_)
      clear hK'
      try simp only [Act.put, List.setIfInBounds_toArray, List.set_cons_zero, List.set_cons_succ]
      refine aH (i := 15) (by kernel_rfl) rfl ?_
      intro K' hK'
      rw [if_pos (by go_simp)]
      refine aJ none rfl 25 _ _ rfl _ _ rfl rfl RS1.out (hK' _ _ (.inr fun hh => Below.grown hh (aC _ _ _) hh.size (fun g e => by cases e; exact Q26)) ?_)
      clear hK'
      try simp only [Act.put, List.setIfInBounds_toArray, List.set_cons_zero, List.set_cons_succ]
      refine dwp 16 (.bool b) ?_
      refine aK (by kernel_rfl) ?_ _
      go_wp2
      go_meet
      have SZ := Below.grown (Below.grown wT (aC _ _ (rfC x')) (Below.size wT) (fun g e => by cases e; exact Q29)) (aC _ _ (rfC y')) (by simpa using (Below.size wT)) (fun g e => by cases e; exact Q26)
      exact ⟨_, _, rfl, rfl, rfl, RE.out.1, RE.out.2, Q29, Q26, SZ⟩
    ·intro K' hK'
     go_simp
     have aBt : Below W.heap.size W (World.alloc u27 (rfO z0)) := aA sM _
     have A30 := AtZ.new u27 z0
     try simp only [World.size_alloc] at A30
     have Q30 := Below.size sM
     try simp only [World.size_alloc] at Q30
     have HNE := (AtZ.ne B27).symm
     try simp only [World.size_alloc] at HNE
     have B30 := AtZ.alloc B27 (rfO z0)
     refine hK' _ _ (.inr fun _ => aBt) ?_
     clear hK'
     try simp only [Act.put, List.setIfInBounds_toArray, List.set_cons_zero, List.set_cons_succ]
     refine aH (i := 7) (by kernel_rfl) rfl ?_
     ·intro K' hK'
      go_simp
      refine (HA.out _ aBt).mono ?_
      rintro e u31 ⟨rfl, hb⟩
      have wU : Below W.heap.size W u31 := aG aBt hb
      have A31 := AtZ.bel A30 hb
      have B31 := AtZ.bel B30 hb
      refine hK' _ _ (.inr fun _ => wU) ?_
      clear hK'
      try simp only [Act.put, List.setIfInBounds_toArray, List.set_cons_zero, List.set_cons_succ]
      refine dwp 8 (.tuple #[rfV x', rfV y', .bool b]) ?_
      refine dwp 9 (rfV x') ?_
      refine dwp 10 (rfV y') ?_
      refine dwp 11 (.bool b) ?_
      obtain ⟨RS0, RS1, RE⟩ := AtZ.two A31 B31 HNE x' y'
      refine aH (i := 14) (by kernel_rfl) rfl ?_
      intro K' hK'
      rw [if_pos (by go_simp)]
      refine aJ none rfl 25 _ _ rfl _ _ rfl rfl RS0.out (hK' _ _ (.inr fun hh => Below.grown hh (aC _ _ _) hh.size (fun g e => by cases e; exact Q30)) ?_)
      clear hK'
      try simp only [Act.put, List.setIfInBounds_toArray, List.set_cons_zero, List.set_cons_succ]
      refine aH (i := 15) (by kernel_rfl) rfl ?_
      intro K' hK'
      rw [if_pos (by go_simp)]
      refine aJ none rfl 25 _ _ rfl _ _ rfl rfl RS1.out (hK' _ _ (.inr fun hh => Below.grown hh (aC _ _ _) hh.size (fun g e => by cases e; exact Q26)) ?_)
      clear hK'
      try simp only [Act.put, List.setIfInBounds_toArray, List.set_cons_zero, List.set_cons_succ]
      refine dwp 16 (.bool b) ?_
      refine aK (by kernel_rfl) ?_ _
      go_wp2
      go_meet
      have SZ := Below.grown (Below.grown wU (aC _ _ (rfC x')) (Below.size wU) (fun g e => by cases e; exact Q30)) (aC _ _ (rfC y')) (by simpa using (Below.size wU)) (fun g e => by cases e; exact Q26)
      exact ⟨_, _, rfl, rfl, rfl, RE.out.1, RE.out.2, Q30, Q26, SZ⟩
   ·intro K' hK'
    go_simp
    have aF7 : Below W.heap.size W (World.alloc (World.alloc W.drew (rfO z0)) (rfO z0)) := aA wS _
    have A32 := AtZ.new (World.alloc W.drew (rfO z0)) z0
    try simp only [World.size_alloc] at A32
    have Q32 := Below.size wS
    try simp only [World.size_alloc] at Q32
    have HNE := (AtZ.ne B26).symm
    try simp only [World.size_alloc] at HNE
    have B32 := AtZ.alloc B26 (rfO z0)
    refine hK' _ _ (.inr fun _ => aF7) ?_
    clear hK'
    try simp only [Act.put, List.setIfInBounds_toArray, List.set_cons_zero, List.set_cons_succ]
    refine aH (i := 4) (by kernel_rfl) rfl ?_
    ·intro K' hK'
     go_simp
     refine (HK _).mono ?_
     rintro e u33 ⟨rfl, hb⟩
     have aBu : Below W.heap.size W u33 := aG aF7 hb
     have A33 := AtZ.bel A32 hb
     have B33 := AtZ.bel B32 hb
     refine hK' _ _ (.inr fun _ => aBu) ?_
     clear hK'
     try simp only [Act.put, List.setIfInBounds_toArray, List.set_cons_zero, List.set_cons_succ]
     refine dwp 5 (rfV cl) ?_
     refine dwp 6 (rfV ch) ?_
     refine aH (i := 7) (by kernel_rfl) rfl ?_
     ·intro K' hK'
      go_simp
      refine (HA.out _ aBu).mono ?_
      rintro e u34 ⟨rfl, hb⟩
      have wV : Below W.heap.size W u34 := aG aBu hb
      have A34 := AtZ.bel A33 hb
      have B34 := AtZ.bel B33 hb
      refine hK' _ _ (.inr fun _ => wV) ?_
      clear hK'
      try simp only [Act.put, List.setIfInBounds_toArray, List.set_cons_zero, List.set_cons_succ]
      refine dwp 8 (.tuple #[rfV x', rfV y', .bool b]) ?_
      refine dwp 9 (rfV x') ?_
      refine dwp 10 (rfV y') ?_
      refine dwp 11 (.bool b) ?_
      obtain ⟨RS0, RS1, RE⟩ := AtZ.two A34 B34 HNE x' y'
      refine aH (i := 14) (by kernel_rfl) rfl ?_
      intro K' hK'
      rw [if_pos (by go_simp)]
      refine aJ none rfl 25 _ _ rfl _ _ rfl rfl RS0.out (hK' _ _ (.inr fun hh => Below.grown hh (aC _ _ _) hh.size (fun g e => by cases e; exact Q32)) ?_)
      clear hK'
      try simp only [Act.put, List.setIfInBounds_toArray, List.set_cons_zero, List.set_cons_succ]
      refine aH (i := 15) (by kernel_rfl) rfl ?_
      intro K' hK'
      rw [if_pos (by go_simp)]
      refine aJ none rfl 25 _ _ rfl _ _ rfl rfl RS1.out (hK' _ _ (.inr fun hh => Below.grown hh (aC _ _ _) hh.size (fun g e => by cases e; exact Q26)) ?_)
      clear hK'
      try simp only [Act.put, List.setIfInBounds_toArray, List.set_cons_zero, List.set_cons_succ]
      refine dwp 16 (.bool b) ?_
      refine aK (by kernel_rfl) ?_ _
      go_wp2
      go_meet
      have SZ := Below.grown (Below.grown wV (aC _ _ (rfC x')) (Below.size wV) (fun g e => by cases e; exact Q32)) (aC _ _ (rfC y')) (by simpa using (Below.size wV)) (fun g e => by cases e; exact Q26)
      exact ⟨_, _, rfl, rfl, rfl, RE.out.1, RE.out.2, Q32, Q26, SZ⟩
 case rest =>
  obtain ⟨ga, gb, rfl, rfl, rfl, HX⟩ := hcut
  obtain ⟨X1, X2, X3, X4, X5⟩ := HX.out
  have hz := HWs.out
  clear HA HK HL HX hW HW
  cases b
  ·obtain ⟨⟨_, _, _, _⟩, _⟩ := HN.out _ X5
   have HB2 : Hid _ := X5
   clear X1 X2 X3 X4 X5
   go_wp2_with (first
    | (go_at_call 72; refine (HG _).mono ?_; clear HG; rintro e w3 ⟨rfl, hb⟩; have HB3 := aG HB2.out hb; obtain ⟨⟨_, _, _, n0⟩, n1⟩ := HN.out _ HB3; have RS : Hid _ := nN gone n0; have HR : Hid _ := nO gone n0; have HZ : Hid (Below w.heap.size w (w3.setRow (w.heap.size + 3) gl)) := n1.grown (aC _ _ _) n1.size (fun g e => by cases e; omega); clear hb HB3 n0 n1)
    | ((with_reducible show wpList _ _ _ ({ dst := _, op := Op.store 28 _ _, type := _, pos := _, after := _, guard := none } :: _) _ _); refine aD rfl 28 _ _ rfl _ _ _ rfl rfl RS.out ?_; clear RS))
   exact bodyPost_ret (fA rfl rfl HR.out rfl) rfl ⟨rfl, HZ.out⟩
  ·obtain ⟨⟨_, n1, n2, n0⟩, n3⟩ := HN.out _ X5
   have n0 : wc.drew.heap[w.heap.size + 3]? = some (.cells nd0 28) := n0
   have n3 := n3.drew
   have RS : Hid _ := nN (bN x' y') n0
   have HR : Hid _ := nO (bN x' y') n0
   have HZ : Hid (Below w.heap.size w (wc.drew.setRow (w.heap.size + 3) (lcs (bN x' y') (.slice none 0 0)))) := n3.grown (aC _ _ _) n3.size (fun g e => by cases e; omega)
   have HS : Hid (LD wc.drew ga x' ∧ LD wc.drew gb y' ∧ LD wc.drew (w.heap.size + 1) x ∧ LD wc.drew (w.heap.size + 2) y) := ⟨bX X1, bX X2, bX n1, bX n2⟩
   have HS2 : Hid (LD (wc.drew.setRow (w.heap.size + 3) (lcs (bN x' y') (.slice none 0 0))) ga x' ∧ LD (wc.drew.setRow (w.heap.size + 3) (lcs (bN x' y') (.slice none 0 0))) gb y' ∧ LD (wc.drew.setRow (w.heap.size + 3) (lcs (bN x' y') (.slice none 0 0))) (w.heap.size + 1) x ∧ LD (wc.drew.setRow (w.heap.size + 3) (lcs (bN x' y') (.slice none 0 0))) (w.heap.size + 2) y) :=
    ⟨bX ((setRow_other wc.drew _ _ _ (by omega)).trans X1), bX ((setRow_other wc.drew _ _ _ (by omega)).trans X2), bX ((setRow_other wc.drew _ _ _ (by omega)).trans n1), bX ((setRow_other wc.drew _ _ _ (by omega)).trans n2)⟩
   clear X1 X2 X3 X4 X5 n0 n1 n2 n3 HN HG HWs
   go_upto_region 4 with fail
   have HE : Hid ((!eqR x' x || !eqR y' y) = (!eqR x' x || !eqR y' y)) := rfl
   cases he : eqR x' x
   ·refine aQ (fun u => LD u ga x' ∧ LD u gb y' ∧ LD u (w.heap.size + 1) x ∧ LD u (w.heap.size + 2) y) (fun j => false) (by kernel_rfl) ?_
    refine dwl 0 (rfV x') ?_ (hS := HS.out) (hy := (fun u hSu => aI rfl rfl hSu.1))
    refine dwl 1 (rfV y') ?_ (hS := HS.out) (hy := (fun u hSu => aI rfl rfl hSu.2.1))
    refine dwp 2 (.agg (lcs (bN x' y') (.slice none 0 0))) ?_ (hy := (fun u => dP rfl (by go_simp) (gG u x' y')))
    refine dwl 3 (rfV x') ?_ (hS := HS.out) (hy := (fun u hSu => aI rfl rfl hSu.1))
    refine dwl 4 (rfV x) ?_ (hS := HS.out) (hy := (fun u hSu => aI rfl rfl hSu.2.2.1))
    refine dwp 5 (.bool true) ?_ (hy := (fun u => (dV rfl rfl rfl).trans (by rw [he]; rfl)))
    refine dwp 6 (.bool true) ?_
    refine dws 7 ?_
    refine dws 8 ?_
    refine dws 9 ?_
    refine dwp 10 (.bool true) ?_
    refine aH (i := 11) (by kernel_rfl) rfl ?_
    intro K' hK'
    rw [if_pos (by go_simp)]
    refine aJ none rfl 28 _ _ rfl _ _ rfl rfl RS.out (hK' _ _ (.inr fun _ => HS2.out) ?_)
    clear hK'
    try simp only [Act.put, List.setIfInBounds_toArray, List.set_cons_zero, List.set_cons_succ]
    refine dwp 12 (.bool true) ?_
    refine aK (by kernel_rfl) ?_ _
    go_wp2
    exact bodyPost_ret (fA rfl rfl HR.out rfl) rfl ⟨(by first | rfl | (rw [he]; rfl)), HZ.out⟩
   ·refine aQ (fun u => LD u ga x' ∧ LD u gb y' ∧ LD u (w.heap.size + 1) x ∧ LD u (w.heap.size + 2) y) (fun j => false) (by kernel_rfl) ?_
    refine dwl 0 (rfV x') ?_ (hS := HS.out) (hy := (fun u hSu => aI rfl rfl hSu.1))
    refine dwl 1 (rfV y') ?_ (hS := HS.out) (hy := (fun u hSu => aI rfl rfl hSu.2.1))
    refine dwp 2 (.agg (lcs (bN x' y') (.slice none 0 0))) ?_ (hy := (fun u => dP rfl (by go_simp) (gG u x' y')))
    refine dwl 3 (rfV x') ?_ (hS := HS.out) (hy := (fun u hSu => aI rfl rfl hSu.1))
    refine dwl 4 (rfV x) ?_ (hS := HS.out) (hy := (fun u hSu => aI rfl rfl hSu.2.2.1))
    refine dwp 5 (.bool false) ?_ (hy := (fun u => (dV rfl rfl rfl).trans (by rw [he]; rfl)))
    refine dwp 6 (.bool false) ?_
    refine dwl 7 (rfV y') ?_ (hS := HS.out) (hy := (fun u hSu => aI rfl rfl hSu.2.1))
    refine dwl 8 (rfV y) ?_ (hS := HS.out) (hy := (fun u hSu => aI rfl rfl hSu.2.2.2))
    refine dwp 9 ((.bool (!eqR y' y))) ?_ (hy := (fun u => dV rfl rfl rfl))
    refine dwp 10 (.bool (!eqR y' y)) ?_
    refine aH (i := 11) (by kernel_rfl) rfl ?_
    intro K' hK'
    rw [if_pos (by go_simp)]
    refine aJ none rfl 28 _ _ rfl _ _ rfl rfl RS.out (hK' _ _ (.inr fun _ => HS2.out) ?_)
    clear hK'
    try simp only [Act.put, List.setIfInBounds_toArray, List.set_cons_zero, List.set_cons_succ]
    refine dwp 12 (.bool (!eqR y' y)) ?_
    refine aK (by kernel_rfl) ?_ _
    go_wp2
    exact bodyPost_ret (fA rfl rfl HR.out rfl) rfl ⟨(by first | rfl | (rw [he]; rfl)), HZ.out⟩
end Go.Proofs.YtljmklbbngpllaaGreatDoor.Rw
