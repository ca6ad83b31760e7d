/- RwCor. -/
import Derived.Test.YtljmklbbngpllaaGreatDoorRwNmNd
set_option linter.unusedVariables false
set_option linter.unusedSimpArgs false
set_option maxHeartbeats 16000000
set_option maxRecDepth 100000
namespace Go.Proofs.YtljmklbbngpllaaGreatDoor.Rw
open Go.RowKit
structure B4 (w u : World) (x y : Rf) : Prop where
 h0 : u.heap[w.heap.size]? = some (rfO x)
 h1 : u.heap[w.heap.size + 1]? = some (rfO y)
 h2 : u.heap[w.heap.size + 2]? = some (rfO z0)
 h3 : u.heap[w.heap.size + 3]? = some (rfO z0)
 bel : Below w.heap.size w u
theorem B4.new (w : World) (x y : Rf) : B4 w ((((w.alloc (rfO x)).alloc (rfO y)).alloc (rfO z0)).alloc (rfO z0)) x y := by
 have hu := Below.refl (((((w.alloc (rfO x)).alloc (rfO y)).alloc (rfO z0)).alloc (rfO z0))).heap.size ((((w.alloc (rfO x)).alloc (rfO y)).alloc (rfO z0)).alloc (rfO z0))
 have q3 := new1 hu
 have q2 := new1 (aR hu)
 have q1 := new1 (aR (aR hu))
 have q0 := new1 (aR (aR (aR hu)))
 simp only [World.size_alloc] at q0 q1 q2 q3
 exact ⟨q0, q1, q2, q3, aA (aA (aA (aA (Below.refl _ _) _) _) _) _⟩
theorem B4.drew {w u : World} {x y : Rf} (h : B4 w u x y) : B4 w u.drew x y := ⟨h.h0, h.h1, h.h2, h.h3, h.bel.drew⟩
theorem B4.fin {w u : World} {x y : Rf} (h : B4 w u x y) : Hid ((Instr.loadAt 25 (.pointer (some ⟨w.heap.size, 0, none⟩))).run Tryz.prog u = .ok (rfV x) u ∧ (Instr.loadAt 25 (.pointer (some ⟨w.heap.size + 1, 0, none⟩))).run Tryz.prog u = .ok (rfV y) u) ∧
  Hid ((Instr.storeAt 25 (.pointer (some ⟨w.heap.size + 2, 0, none⟩)) (rfV x)).run Tryz.prog u = .ok () (u.setRow (w.heap.size + 2) (rfC x))) ∧
  Hid ((Instr.loadAt 25 (.pointer (some ⟨w.heap.size, 0, none⟩))).run Tryz.prog (u.setRow (w.heap.size + 2) (rfC x)) = .ok (rfV x) (u.setRow (w.heap.size + 2) (rfC x)) ∧ (Instr.loadAt 25 (.pointer (some ⟨w.heap.size + 1, 0, none⟩))).run Tryz.prog (u.setRow (w.heap.size + 2) (rfC x)) = .ok (rfV y) (u.setRow (w.heap.size + 2) (rfC x))) ∧
  Hid ((Instr.storeAt 25 (.pointer (some ⟨w.heap.size + 3, 0, none⟩)) (rfV y)).run Tryz.prog (u.setRow (w.heap.size + 2) (rfC x)) = .ok () ((u.setRow (w.heap.size + 2) (rfC x)).setRow (w.heap.size + 3) (rfC y))) ∧
  Hid (((u.setRow (w.heap.size + 2) (rfC x)).setRow (w.heap.size + 3) (rfC y)).heap[w.heap.size + 2]? = some (rfO x) ∧ ((u.setRow (w.heap.size + 2) (rfC x)).setRow (w.heap.size + 3) (rfC y)).heap[w.heap.size + 3]? = some (rfO y) ∧ Below w.heap.size w ((u.setRow (w.heap.size + 2) (rfC x)).setRow (w.heap.size + 3) (rfC y))) := by
 have K3 := (setRow_other u (w.heap.size + 2) (w.heap.size + 3) (rfC x) (by omega)).trans h.h3
 have KB0 : Below w.heap.size w (u.setRow (w.heap.size + 2) (rfC x)) := h.bel.grown (aC _ _ _) h.bel.size (fun g e => by cases e; omega)
 exact ⟨⟨bX h.h0, bX h.h1⟩, pR (y := z0) x h.h2, ⟨bX ((setRow_other u (w.heap.size + 2) w.heap.size (rfC x) (by omega)).trans h.h0), bX ((setRow_other u (w.heap.size + 2) (w.heap.size + 1) (rfC x) (by omega)).trans h.h1)⟩, pR (y := z0) y K3,
  (setRow_other _ (w.heap.size + 3) (w.heap.size + 2) (rfC y) (by omega)).trans (pU (y := z0) x h.h2), pU (y := z0) y K3, KB0.grown (aC _ _ _) KB0.size (fun g e => by cases e; omega)⟩
theorem pI (x y : Rf) (w : World) : Calls Tryz.prog 73 #[rfV x, rfV y] w fun e w' => e = .returned (.tuple #[rfV (lo x y), rfV (hi x y)]) ∧ Below w.heap.size w w' := by
 obtain ⟨b1, s1, r1, c1, fr1, fc1⟩ := x
 obtain ⟨b2, s2, r2, c2, fr2, fc2⟩ := y
 have HW0 := B4.new w ⟨b1, s1, r1, c1, fr1, fc1⟩ ⟨b2, s2, r2, c2, fr2, fc2⟩
 have X11 : (r2 < r1) → (c2 < c1) → Calls Tryz.prog 73 #[bC b1 s1 r1 c1 fr1 fc1, bC b2 s2 r2 c2 fr2 fc2] w fun e w' => e = .returned (.tuple #[rfV ⟨b1, s1, r2, c2, fr2, fc2⟩, rfV ⟨b2, s2, r1, c1, fr1, fc1⟩]) ∧ Below w.heap.size w w' := by
  intro h1 h2
  have q := HW0
  obtain ⟨q0, q1, q2, q3, q4, q5⟩ := aP q.h0
  obtain ⟨f0, f1, f2, f3, f4, f5⟩ := bH q.h0
  obtain ⟨p0, p1, p2, p3, p4, p5⟩ := aP q.h1
  obtain ⟨g0, g1, g2, g3, g4, g5⟩ := bH q.h1
  have HF := (B4.new w ⟨b1, s1, r2, c2, fr2, fc2⟩ ⟨b2, s2, r1, c1, fr1, fc1⟩).drew
  clear q
  go_enter Tryz.func73, Tryz.ntmps73
  go_wp2
  clear q0 q1 q2 q3 q4 q5 f0 f1 f2 f3 f4 f5 p0 p1 p2 p3 p4 p5 g0 g1 g2 g3 g4 g5 HW0
  obtain ⟨HS, RS0, HS2, RS1, HE⟩ := HF.fin
  show Code.wp Tryz.prog _ _ _ ((((w.alloc (rfO ⟨b1, s1, r2, c2, fr2, fc2⟩)).alloc (rfO ⟨b2, s2, r1, c1, fr1, fc1⟩)).alloc (rfO z0)).alloc (rfO z0))
  generalize (((w.alloc (rfO ⟨b1, s1, r2, c2, fr2, fc2⟩)).alloc (rfO ⟨b2, s2, r1, c1, fr1, fc1⟩)).alloc (rfO z0)).alloc (rfO z0) = v at *
  clear HF
  refine aQ (fun u => (Instr.loadAt 25 (.pointer (some ⟨w.heap.size, 0, none⟩))).run Tryz.prog u = .ok (rfV ⟨b1, s1, r2, c2, fr2, fc2⟩) u ∧ (Instr.loadAt 25 (.pointer (some ⟨w.heap.size + 1, 0, none⟩))).run Tryz.prog u = .ok (rfV ⟨b2, s2, r1, c1, fr1, fc1⟩) u) (fun j => j == 3) (by kernel_rfl) ?_
  refine dwl 0 (rfV ⟨b1, s1, r2, c2, fr2, fc2⟩) ?_ (hS := HS.out) (hy := (fun u hSu => aI rfl rfl hSu.1))
  refine dwl 1 (rfV ⟨b2, s2, r1, c1, fr1, fc1⟩) ?_ (hS := HS.out) (hy := (fun u hSu => aI rfl rfl hSu.2))
  refine aH (i := 2) (by kernel_rfl) rfl ?_
  intro K' hK'
  rw [if_pos (by go_simp)]
  refine aJ none rfl 25 _ _ rfl _ _ rfl rfl RS0.out (hK' _ _ (.inr fun _ => HS2.out) ?_)
  clear hK'
  try simp only [Act.put, List.setIfInBounds_toArray, List.set_cons_zero, List.set_cons_succ]
  refine aH (i := 3) (by kernel_rfl) rfl ?_
  intro K' hK'
  rw [if_pos (by go_simp)]
  refine aJ none rfl 25 _ _ rfl _ _ rfl rfl RS1.out (hK' _ _ (.inl rfl) ?_)
  clear hK'
  try simp only [Act.put, List.setIfInBounds_toArray, List.set_cons_zero, List.set_cons_succ]
  refine aK (by kernel_rfl) ?_ _
  go_wp2
  exact bodyPost_ret (pG rfl rfl HE.out.1 rfl HE.out.2.1) rfl ⟨rfl, HE.out.2.2⟩
 have X10 : (r2 < r1) → (¬ c2 < c1) → Calls Tryz.prog 73 #[bC b1 s1 r1 c1 fr1 fc1, bC b2 s2 r2 c2 fr2 fc2] w fun e w' => e = .returned (.tuple #[rfV ⟨b1, s1, r2, c1, fr2, fc1⟩, rfV ⟨b2, s2, r1, c2, fr1, fc2⟩]) ∧ Below w.heap.size w w' := by
  intro h1 h2
  have q := HW0
  obtain ⟨q0, q1, q2, q3, q4, q5⟩ := aP q.h0
  obtain ⟨f0, f1, f2, f3, f4, f5⟩ := bH q.h0
  obtain ⟨p0, p1, p2, p3, p4, p5⟩ := aP q.h1
  obtain ⟨g0, g1, g2, g3, g4, g5⟩ := bH q.h1
  have HF := (B4.new w ⟨b1, s1, r2, c1, fr2, fc1⟩ ⟨b2, s2, r1, c2, fr1, fc2⟩).drew
  clear q
  go_enter Tryz.func73, Tryz.ntmps73
  go_wp2
  clear q0 q1 q2 q3 q4 q5 f0 f1 f2 f3 f4 f5 p0 p1 p2 p3 p4 p5 g0 g1 g2 g3 g4 g5 HW0
  obtain ⟨HS, RS0, HS2, RS1, HE⟩ := HF.fin
  show Code.wp Tryz.prog _ _ _ ((((w.alloc (rfO ⟨b1, s1, r2, c1, fr2, fc1⟩)).alloc (rfO ⟨b2, s2, r1, c2, fr1, fc2⟩)).alloc (rfO z0)).alloc (rfO z0))
  generalize (((w.alloc (rfO ⟨b1, s1, r2, c1, fr2, fc1⟩)).alloc (rfO ⟨b2, s2, r1, c2, fr1, fc2⟩)).alloc (rfO z0)).alloc (rfO z0) = v at *
  clear HF
  refine aQ (fun u => (Instr.loadAt 25 (.pointer (some ⟨w.heap.size, 0, none⟩))).run Tryz.prog u = .ok (rfV ⟨b1, s1, r2, c1, fr2, fc1⟩) u ∧ (Instr.loadAt 25 (.pointer (some ⟨w.heap.size + 1, 0, none⟩))).run Tryz.prog u = .ok (rfV ⟨b2, s2, r1, c2, fr1, fc2⟩) u) (fun j => j == 3) (by kernel_rfl) ?_
  refine dwl 0 (rfV ⟨b1, s1, r2, c1, fr2, fc1⟩) ?_ (hS := HS.out) (hy := (fun u hSu => aI rfl rfl hSu.1))
  refine dwl 1 (rfV ⟨b2, s2, r1, c2, fr1, fc2⟩) ?_ (hS := HS.out) (hy := (fun u hSu => aI rfl rfl hSu.2))
  refine aH (i := 2) (by kernel_rfl) rfl ?_
  intro K' hK'
  rw [if_pos (by go_simp)]
  refine aJ none rfl 25 _ _ rfl _ _ rfl rfl RS0.out (hK' _ _ (.inr fun _ => HS2.out) ?_)
  clear hK'
  try simp only [Act.put, List.setIfInBounds_toArray, List.set_cons_zero, List.set_cons_succ]
  refine aH (i := 3) (by kernel_rfl) rfl ?_
  intro K' hK'
  rw [if_pos (by go_simp)]
  refine aJ none rfl 25 _ _ rfl _ _ rfl rfl RS1.out (hK' _ _ (.inl rfl) ?_)
  clear hK'
  try simp only [Act.put, List.setIfInBounds_toArray, List.set_cons_zero, List.set_cons_succ]
  refine aK (by kernel_rfl) ?_ _
  go_wp2
  exact bodyPost_ret (pG rfl rfl HE.out.1 rfl HE.out.2.1) rfl ⟨rfl, HE.out.2.2⟩
 have X01 : (¬ r2 < r1) → (c2 < c1) → Calls Tryz.prog 73 #[bC b1 s1 r1 c1 fr1 fc1, bC b2 s2 r2 c2 fr2 fc2] w fun e w' => e = .returned (.tuple #[rfV ⟨b1, s1, r1, c2, fr1, fc2⟩, rfV ⟨b2, s2, r2, c1, fr2, fc1⟩]) ∧ Below w.heap.size w w' := by
  intro h1 h2
  have q := HW0
  obtain ⟨q0, q1, q2, q3, q4, q5⟩ := aP q.h0
  obtain ⟨f0, f1, f2, f3, f4, f5⟩ := bH q.h0
  obtain ⟨p0, p1, p2, p3, p4, p5⟩ := aP q.h1
  obtain ⟨g0, g1, g2, g3, g4, g5⟩ := bH q.h1
  have HF := (B4.new w ⟨b1, s1, r1, c2, fr1, fc2⟩ ⟨b2, s2, r2, c1, fr2, fc1⟩).drew
  clear q
  go_enter Tryz.func73, Tryz.ntmps73
  go_wp2
  clear q0 q1 q2 q3 q4 q5 f0 f1 f2 f3 f4 f5 p0 p1 p2 p3 p4 p5 g0 g1 g2 g3 g4 g5 HW0
  obtain ⟨HS, RS0, HS2, RS1, HE⟩ := HF.fin
  show Code.wp Tryz.prog _ _ _ ((((w.alloc (rfO ⟨b1, s1, r1, c2, fr1, fc2⟩)).alloc (rfO ⟨b2, s2, r2, c1, fr2, fc1⟩)).alloc (rfO z0)).alloc (rfO z0))
  generalize (((w.alloc (rfO ⟨b1, s1, r1, c2, fr1, fc2⟩)).alloc (rfO ⟨b2, s2, r2, c1, fr2, fc1⟩)).alloc (rfO z0)).alloc (rfO z0) = v at *
  clear HF
  refine aQ (fun u => (Instr.loadAt 25 (.pointer (some ⟨w.heap.size, 0, none⟩))).run Tryz.prog u = .ok (rfV ⟨b1, s1, r1, c2, fr1, fc2⟩) u ∧ (Instr.loadAt 25 (.pointer (some ⟨w.heap.size + 1, 0, none⟩))).run Tryz.prog u = .ok (rfV ⟨b2, s2, r2, c1, fr2, fc1⟩) u) (fun j => j == 3) (by kernel_rfl) ?_
  refine dwl 0 (rfV ⟨b1, s1, r1, c2, fr1, fc2⟩) ?_ (hS := HS.out) (hy := (fun u hSu => aI rfl rfl hSu.1))
  refine dwl 1 (rfV ⟨b2, s2, r2, c1, fr2, fc1⟩) ?_ (hS := HS.out) (hy := (fun u hSu => aI rfl rfl hSu.2))
  refine aH (i := 2) (by kernel_rfl) rfl ?_
  intro K' hK'
  rw [if_pos (by go_simp)]
  refine aJ none rfl 25 _ _ rfl _ _ rfl rfl RS0.out (hK' _ _ (.inr fun _ => HS2.out) ?_)
  clear hK'
  try simp only [Act.put, List.setIfInBounds_toArray, List.set_cons_zero, List.set_cons_succ]
  refine aH (i := 3) (by kernel_rfl) rfl ?_
  intro K' hK'
  rw [if_pos (by go_simp)]
  refine aJ none rfl 25 _ _ rfl _ _ rfl rfl RS1.out (hK' _ _ (.inl rfl) ?_)
  clear hK'
  try simp only [Act.put, List.setIfInBounds_toArray, List.set_cons_zero, List.set_cons_succ]
  refine aK (by kernel_rfl) ?_ _
  go_wp2
  exact bodyPost_ret (pG rfl rfl HE.out.1 rfl HE.out.2.1) rfl ⟨rfl, HE.out.2.2⟩
 have X00 : (¬ r2 < r1) → (¬ c2 < c1) → Calls Tryz.prog 73 #[bC b1 s1 r1 c1 fr1 fc1, bC b2 s2 r2 c2 fr2 fc2] w fun e w' => e = .returned (.tuple #[rfV ⟨b1, s1, r1, c1, fr1, fc1⟩, rfV ⟨b2, s2, r2, c2, fr2, fc2⟩]) ∧ Below w.heap.size w w' := by
  intro h1 h2
  have q := HW0
  obtain ⟨q0, q1, q2, q3, q4, q5⟩ := aP q.h0
  obtain ⟨f0, f1, f2, f3, f4, f5⟩ := bH q.h0
  obtain ⟨p0, p1, p2, p3, p4, p5⟩ := aP q.h1
  obtain ⟨g0, g1, g2, g3, g4, g5⟩ := bH q.h1
  have HF := (B4.new w ⟨b1, s1, r1, c1, fr1, fc1⟩ ⟨b2, s2, r2, c2, fr2, fc2⟩).drew
  clear q
  go_enter Tryz.func73, Tryz.ntmps73
  go_wp2
  clear q0 q1 q2 q3 q4 q5 f0 f1 f2 f3 f4 f5 p0 p1 p2 p3 p4 p5 g0 g1 g2 g3 g4 g5 HW0
  obtain ⟨HS, RS0, HS2, RS1, HE⟩ := HF.fin
  show Code.wp Tryz.prog _ _ _ ((((w.alloc (rfO ⟨b1, s1, r1, c1, fr1, fc1⟩)).alloc (rfO ⟨b2, s2, r2, c2, fr2, fc2⟩)).alloc (rfO z0)).alloc (rfO z0))
  generalize (((w.alloc (rfO ⟨b1, s1, r1, c1, fr1, fc1⟩)).alloc (rfO ⟨b2, s2, r2, c2, fr2, fc2⟩)).alloc (rfO z0)).alloc (rfO z0) = v at *
  clear HF
  refine aQ (fun u => (Instr.loadAt 25 (.pointer (some ⟨w.heap.size, 0, none⟩))).run Tryz.prog u = .ok (rfV ⟨b1, s1, r1, c1, fr1, fc1⟩) u ∧ (Instr.loadAt 25 (.pointer (some ⟨w.heap.size + 1, 0, none⟩))).run Tryz.prog u = .ok (rfV ⟨b2, s2, r2, c2, fr2, fc2⟩) u) (fun j => j == 3) (by kernel_rfl) ?_
  refine dwl 0 (rfV ⟨b1, s1, r1, c1, fr1, fc1⟩) ?_ (hS := HS.out) (hy := (fun u hSu => aI rfl rfl hSu.1))
  refine dwl 1 (rfV ⟨b2, s2, r2, c2, fr2, fc2⟩) ?_ (hS := HS.out) (hy := (fun u hSu => aI rfl rfl hSu.2))
  refine aH (i := 2) (by kernel_rfl) rfl ?_
  intro K' hK'
  rw [if_pos (by go_simp)]
  refine aJ none rfl 25 _ _ rfl _ _ rfl rfl RS0.out (hK' _ _ (.inr fun _ => HS2.out) ?_)
  clear hK'
  try simp only [Act.put, List.setIfInBounds_toArray, List.set_cons_zero, List.set_cons_succ]
  refine aH (i := 3) (by kernel_rfl) rfl ?_
  intro K' hK'
  rw [if_pos (by go_simp)]
  refine aJ none rfl 25 _ _ rfl _ _ rfl rfl RS1.out (hK' _ _ (.inl rfl) ?_)
  clear hK'
  try simp only [Act.put, List.setIfInBounds_toArray, List.set_cons_zero, List.set_cons_succ]
  refine aK (by kernel_rfl) ?_ _
  go_wp2
  exact bodyPost_ret (pG rfl rfl HE.out.1 rfl HE.out.2.1) rfl ⟨rfl, HE.out.2.2⟩
 simp only [lo, hi, Rw.c1, Rw.c2, o1, o2]
 by_cases h1 : r2 < r1 <;> by_cases h2 : c2 < c1
 ·simp only [if_pos h1, if_pos h2]; exact X11 h1 h2
 ·simp only [if_pos h1, if_neg h2]; exact X10 h1 h2
 ·simp only [if_neg h1, if_pos h2]; exact X01 h1 h2
 ·simp only [if_neg h1, if_neg h2]; exact X00 h1 h2
theorem nM (x y : Rf) (w : World) : Calls Tryz.prog 29 #[rfV x, rfV y] w fun e w' => e = .returned (.tuple #[rfV (lo x y), rfV (hi x y)]) ∧ Below w.heap.size w w' := by
 obtain ⟨b1, s1, r1, c1, fr1, fc1⟩ := x
 obtain ⟨b2, s2, r2, c2, fr2, fc2⟩ := y
 have HW0 := B4.new w ⟨b1, s1, r1, c1, fr1, fc1⟩ ⟨b2, s2, r2, c2, fr2, fc2⟩
 have X11 : (r2 < r1) → (c2 < c1) → Calls Tryz.prog 29 #[bC b1 s1 r1 c1 fr1 fc1, bC b2 s2 r2 c2 fr2 fc2] w fun e w' => e = .returned (.tuple #[rfV ⟨b1, s1, r2, c2, fr2, fc2⟩, rfV ⟨b2, s2, r1, c1, fr1, fc1⟩]) ∧ Below w.heap.size w w' := by
  intro h1 h2
  have q := HW0
  obtain ⟨q0, q1, q2, q3, q4, q5⟩ := aP q.h0
  obtain ⟨f0, f1, f2, f3, f4, f5⟩ := bH q.h0
  obtain ⟨p0, p1, p2, p3, p4, p5⟩ := aP q.h1
  obtain ⟨g0, g1, g2, g3, g4, g5⟩ := bH q.h1
  have HF := (B4.new w ⟨b1, s1, r2, c2, fr2, fc2⟩ ⟨b2, s2, r1, c1, fr1, fc1⟩).drew
  clear q
  go_enter Tryz.func29, Tryz.ntmps29
  go_wp2
  clear q0 q1 q2 q3 q4 q5 f0 f1 f2 f3 f4 f5 p0 p1 p2 p3 p4 p5 g0 g1 g2 g3 g4 g5 HW0
  obtain ⟨HS, RS0, HS2, RS1, HE⟩ := HF.fin
  show Code.wp Tryz.prog _ _ _ ((((w.alloc (rfO ⟨b1, s1, r2, c2, fr2, fc2⟩)).alloc (rfO ⟨b2, s2, r1, c1, fr1, fc1⟩)).alloc (rfO z0)).alloc (rfO z0))
  generalize (((w.alloc (rfO ⟨b1, s1, r2, c2, fr2, fc2⟩)).alloc (rfO ⟨b2, s2, r1, c1, fr1, fc1⟩)).alloc (rfO z0)).alloc (rfO z0) = v at *
  clear HF
  refine aQ (fun u => (Instr.loadAt 25 (.pointer (some ⟨w.heap.size, 0, none⟩))).run Tryz.prog u = .ok (rfV ⟨b1, s1, r2, c2, fr2, fc2⟩) u ∧ (Instr.loadAt 25 (.pointer (some ⟨w.heap.size + 1, 0, none⟩))).run Tryz.prog u = .ok (rfV ⟨b2, s2, r1, c1, fr1, fc1⟩) u) (fun j => j == 3) (by kernel_rfl) ?_
  refine dwl 0 (rfV ⟨b1, s1, r2, c2, fr2, fc2⟩) ?_ (hS := HS.out) (hy := (fun u hSu => aI rfl rfl hSu.1))
  refine dwl 1 (rfV ⟨b2, s2, r1, c1, fr1, fc1⟩) ?_ (hS := HS.out) (hy := (fun u hSu => aI rfl rfl hSu.2))
  refine aH (i := 2) (by kernel_rfl) rfl ?_
  intro K' hK'
  rw [if_pos (by go_simp)]
  refine aJ none rfl 25 _ _ rfl _ _ rfl rfl RS0.out (hK' _ _ (.inr fun _ => HS2.out) ?_)
  clear hK'
  try simp only [Act.put, List.setIfInBounds_toArray, List.set_cons_zero, List.set_cons_succ]
  refine aH (i := 3) (by kernel_rfl) rfl ?_
  intro K' hK'
  rw [if_pos (by go_simp)]
  refine aJ none rfl 25 _ _ rfl _ _ rfl rfl RS1.out (hK' _ _ (.inl rfl) ?_)
  clear hK'
  try simp only [Act.put, List.setIfInBounds_toArray, List.set_cons_zero, List.set_cons_succ]
  refine aK (by kernel_rfl) ?_ _
  go_wp2
  exact bodyPost_ret (pG rfl rfl HE.out.1 rfl HE.out.2.1) rfl ⟨rfl, HE.out.2.2⟩
 have X10 : (r2 < r1) → (¬ c2 < c1) → Calls Tryz.prog 29 #[bC b1 s1 r1 c1 fr1 fc1, bC b2 s2 r2 c2 fr2 fc2] w fun e w' => e = .returned (.tuple #[rfV ⟨b1, s1, r2, c1, fr2, fc1⟩, rfV ⟨b2, s2, r1, c2, fr1, fc2⟩]) ∧ Below w.heap.size w w' := by
  intro h1 h2
  have q := HW0
  obtain ⟨q0, q1, q2, q3, q4, q5⟩ := aP q.h0
  obtain ⟨f0, f1, f2, f3, f4, f5⟩ := bH q.h0
  obtain ⟨p0, p1, p2, p3, p4, p5⟩ := aP q.h1
  obtain ⟨g0, g1, g2, g3, g4, g5⟩ := bH q.h1
  have HF := (B4.new w ⟨b1, s1, r2, c1, fr2, fc1⟩ ⟨b2, s2, r1, c2, fr1, fc2⟩).drew
  clear q
  go_enter Tryz.func29, Tryz.ntmps29
  go_wp2
  clear q0 q1 q2 q3 q4 q5 f0 f1 f2 f3 f4 f5 p0 p1 p2 p3 p4 p5 g0 g1 g2 g3 g4 g5 HW0
  obtain ⟨HS, RS0, HS2, RS1, HE⟩ := HF.fin
  show Code.wp Tryz.prog _ _ _ ((((w.alloc (rfO ⟨b1, s1, r2, c1, fr2, fc1⟩)).alloc (rfO ⟨b2, s2, r1, c2, fr1, fc2⟩)).alloc (rfO z0)).alloc (rfO z0))
  generalize (((w.alloc (rfO ⟨b1, s1, r2, c1, fr2, fc1⟩)).alloc (rfO ⟨b2, s2, r1, c2, fr1, fc2⟩)).alloc (rfO z0)).alloc (rfO z0) = v at *
  clear HF
  refine aQ (fun u => (Instr.loadAt 25 (.pointer (some ⟨w.heap.size, 0, none⟩))).run Tryz.prog u = .ok (rfV ⟨b1, s1, r2, c1, fr2, fc1⟩) u ∧ (Instr.loadAt 25 (.pointer (some ⟨w.heap.size + 1, 0, none⟩))).run Tryz.prog u = .ok (rfV ⟨b2, s2, r1, c2, fr1, fc2⟩) u) (fun j => j == 3) (by kernel_rfl) ?_
  refine dwl 0 (rfV ⟨b1, s1, r2, c1, fr2, fc1⟩) ?_ (hS := HS.out) (hy := (fun u hSu => aI rfl rfl hSu.1))
  refine dwl 1 (rfV ⟨b2, s2, r1, c2, fr1, fc2⟩) ?_ (hS := HS.out) (hy := (fun u hSu => aI rfl rfl hSu.2))
  refine aH (i := 2) (by kernel_rfl) rfl ?_
  intro K' hK'
  rw [if_pos (by go_simp)]
  refine aJ none rfl 25 _ _ rfl _ _ rfl rfl RS0.out (hK' _ _ (.inr fun _ => HS2.out) ?_)
  clear hK'
  try simp only [Act.put, List.setIfInBounds_toArray, List.set_cons_zero, List.set_cons_succ]
  refine aH (i := 3) (by kernel_rfl) rfl ?_
  intro K' hK'
  rw [if_pos (by go_simp)]
  refine aJ none rfl 25 _ _ rfl _ _ rfl rfl RS1.out (hK' _ _ (.inl rfl) ?_)
  clear hK'
  try simp only [Act.put, List.setIfInBounds_toArray, List.set_cons_zero, List.set_cons_succ]
  refine aK (by kernel_rfl) ?_ _
  go_wp2
  exact bodyPost_ret (pG rfl rfl HE.out.1 rfl HE.out.2.1) rfl ⟨rfl, HE.out.2.2⟩
 have X01 : (¬ r2 < r1) → (c2 < c1) → Calls Tryz.prog 29 #[bC b1 s1 r1 c1 fr1 fc1, bC b2 s2 r2 c2 fr2 fc2] w fun e w' => e = .returned (.tuple #[rfV ⟨b1, s1, r1, c2, fr1, fc2⟩, rfV ⟨b2, s2, r2, c1, fr2, fc1⟩]) ∧ Below w.heap.size w w' := by
  intro h1 h2
  have q := HW0
  obtain ⟨q0, q1, q2, q3, q4, q5⟩ := aP q.h0
  obtain ⟨f0, f1, f2, f3, f4, f5⟩ := bH q.h0
  obtain ⟨p0, p1, p2, p3, p4, p5⟩ := aP q.h1
  obtain ⟨g0, g1, g2, g3, g4, g5⟩ := bH q.h1
  have HF := (B4.new w ⟨b1, s1, r1, c2, fr1, fc2⟩ ⟨b2, s2, r2, c1, fr2, fc1⟩).drew
  clear q
  go_enter Tryz.func29, Tryz.ntmps29
  go_wp2
  clear q0 q1 q2 q3 q4 q5 f0 f1 f2 f3 f4 f5 p0 p1 p2 p3 p4 p5 g0 g1 g2 g3 g4 g5 HW0
  obtain ⟨HS, RS0, HS2, RS1, HE⟩ := HF.fin
  show Code.wp Tryz.prog _ _ _ ((((w.alloc (rfO ⟨b1, s1, r1, c2, fr1, fc2⟩)).alloc (rfO ⟨b2, s2, r2, c1, fr2, fc1⟩)).alloc (rfO z0)).alloc (rfO z0))
  generalize (((w.alloc (rfO ⟨b1, s1, r1, c2, fr1, fc2⟩)).alloc (rfO ⟨b2, s2, r2, c1, fr2, fc1⟩)).alloc (rfO z0)).alloc (rfO z0) = v at *
  clear HF
  refine aQ (fun u => (Instr.loadAt 25 (.pointer (some ⟨w.heap.size, 0, none⟩))).run Tryz.prog u = .ok (rfV ⟨b1, s1, r1, c2, fr1, fc2⟩) u ∧ (Instr.loadAt 25 (.pointer (some ⟨w.heap.size + 1, 0, none⟩))).run Tryz.prog u = .ok (rfV ⟨b2, s2, r2, c1, fr2, fc1⟩) u) (fun j => j == 3) (by kernel_rfl) ?_
  refine dwl 0 (rfV ⟨b1, s1, r1, c2, fr1, fc2⟩) ?_ (hS := HS.out) (hy := (fun u hSu => aI rfl rfl hSu.1))
  refine dwl 1 (rfV ⟨b2, s2, r2, c1, fr2, fc1⟩) ?_ (hS := HS.out) (hy := (fun u hSu => aI rfl rfl hSu.2))
  refine aH (i := 2) (by kernel_rfl) rfl ?_
  intro K' hK'
  rw [if_pos (by go_simp)]
  refine aJ none rfl 25 _ _ rfl _ _ rfl rfl RS0.out (hK' _ _ (.inr fun _ => HS2.out) ?_)
  clear hK'
  try simp only [Act.put, List.setIfInBounds_toArray, List.set_cons_zero, List.set_cons_succ]
  refine aH (i := 3) (by kernel_rfl) rfl ?_
  intro K' hK'
  rw [if_pos (by go_simp)]
  refine aJ none rfl 25 _ _ rfl _ _ rfl rfl RS1.out (hK' _ _ (.inl rfl) ?_)
  clear hK'
  try simp only [Act.put, List.setIfInBounds_toArray, List.set_cons_zero, List.set_cons_succ]
  refine aK (by kernel_rfl) ?_ _
  go_wp2
  exact bodyPost_ret (pG rfl rfl HE.out.1 rfl HE.out.2.1) rfl ⟨rfl, HE.out.2.2⟩
 have X00 : (¬ r2 < r1) → (¬ c2 < c1) → Calls Tryz.prog 29 #[bC b1 s1 r1 c1 fr1 fc1, bC b2 s2 r2 c2 fr2 fc2] w fun e w' => e = .returned (.tuple #[rfV ⟨b1, s1, r1, c1, fr1, fc1⟩, rfV ⟨b2, s2, r2, c2, fr2, fc2⟩]) ∧ Below w.heap.size w w' := by
  intro h1 h2
  have q := HW0
  obtain ⟨q0, q1, q2, q3, q4, q5⟩ := aP q.h0
  obtain ⟨f0, f1, f2, f3, f4, f5⟩ := bH q.h0
  obtain ⟨p0, p1, p2, p3, p4, p5⟩ := aP q.h1
  obtain ⟨g0, g1, g2, g3, g4, g5⟩ := bH q.h1
  have HF := (B4.new w ⟨b1, s1, r1, c1, fr1, fc1⟩ ⟨b2, s2, r2, c2, fr2, fc2⟩).drew
  clear q
  go_enter Tryz.func29, Tryz.ntmps29
  go_wp2
  clear q0 q1 q2 q3 q4 q5 f0 f1 f2 f3 f4 f5 p0 p1 p2 p3 p4 p5 g0 g1 g2 g3 g4 g5 HW0
  obtain ⟨HS, RS0, HS2, RS1, HE⟩ := HF.fin
  show Code.wp Tryz.prog _ _ _ ((((w.alloc (rfO ⟨b1, s1, r1, c1, fr1, fc1⟩)).alloc (rfO ⟨b2, s2, r2, c2, fr2, fc2⟩)).alloc (rfO z0)).alloc (rfO z0))
  generalize (((w.alloc (rfO ⟨b1, s1, r1, c1, fr1, fc1⟩)).alloc (rfO ⟨b2, s2, r2, c2, fr2, fc2⟩)).alloc (rfO z0)).alloc (rfO z0) = v at *
  clear HF
  refine aQ (fun u => (Instr.loadAt 25 (.pointer (some ⟨w.heap.size, 0, none⟩))).run Tryz.prog u = .ok (rfV ⟨b1, s1, r1, c1, fr1, fc1⟩) u ∧ (Instr.loadAt 25 (.pointer (some ⟨w.heap.size + 1, 0, none⟩))).run Tryz.prog u = .ok (rfV ⟨b2, s2, r2, c2, fr2, fc2⟩) u) (fun j => j == 3) (by kernel_rfl) ?_
  refine dwl 0 (rfV ⟨b1, s1, r1, c1, fr1, fc1⟩) ?_ (hS := HS.out) (hy := (fun u hSu => aI rfl rfl hSu.1))
  refine dwl 1 (rfV ⟨b2, s2, r2, c2, fr2, fc2⟩) ?_ (hS := HS.out) (hy := (fun u hSu => aI rfl rfl hSu.2))
  refine aH (i := 2) (by kernel_rfl) rfl ?_
  intro K' hK'
  rw [if_pos (by go_simp)]
  refine aJ none rfl 25 _ _ rfl _ _ rfl rfl RS0.out (hK' _ _ (.inr fun _ => HS2.out) ?_)
  clear hK'
  try simp only [Act.put, List.setIfInBounds_toArray, List.set_cons_zero, List.set_cons_succ]
  refine aH (i := 3) (by kernel_rfl) rfl ?_
  intro K' hK'
  rw [if_pos (by go_simp)]
  refine aJ none rfl 25 _ _ rfl _ _ rfl rfl RS1.out (hK' _ _ (.inl rfl) ?_)
  clear hK'
  try simp only [Act.put, List.setIfInBounds_toArray, List.set_cons_zero, List.set_cons_succ]
  refine aK (by kernel_rfl) ?_ _
  go_wp2
  exact bodyPost_ret (pG rfl rfl HE.out.1 rfl HE.out.2.1) rfl ⟨rfl, HE.out.2.2⟩
 simp only [lo, hi, Rw.c1, Rw.c2, o1, o2]
 by_cases h1 : r2 < r1 <;> by_cases h2 : c2 < c1
 ·simp only [if_pos h1, if_pos h2]; exact X11 h1 h2
 ·simp only [if_pos h1, if_neg h2]; exact X10 h1 h2
 ·simp only [if_neg h1, if_pos h2]; exact X01 h1 h2
 ·simp only [if_neg h1, if_neg h2]; exact X00 h1 h2
end Go.Proofs.YtljmklbbngpllaaGreatDoor.Rw
