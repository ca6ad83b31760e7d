/- RwCor, RwFn2. -/
import Derived.Test.YtljmklbbngpllaaGreatDoorRwNmBk
set_option linter.unusedVariables false
set_option linter.unusedSimpArgs false
set_option maxHeartbeats 16000000
set_option maxRecDepth 100000
namespace Go.Proofs.YtljmklbbngpllaaGreatDoor.Rw
open Go.RowKit
structure B4 (w u : World) (x y : Rf) : Prop where
 h0 : u.heap[w.heap.size]? = some (rfO x)
 h1 : u.heap[w.heap.size + 1]? = some (rfO y)
 h2 : u.heap[w.heap.size + 2]? = some (rfO z0)
 h3 : u.heap[w.heap.size + 3]? = some (rfO z0)
 bel : Below w.heap.size w u
theorem B4.new (w : World) (x y : Rf) : B4 w ((((w.alloc (rfO x)).alloc (rfO y)).alloc (rfO z0)).alloc (rfO z0)) x y := by
 have hu := Below.refl (((((w.alloc (rfO x)).alloc (rfO y)).alloc (rfO z0)).alloc (rfO z0))).heap.size ((((w.alloc (rfO x)).alloc (rfO y)).alloc (rfO z0)).alloc (rfO z0))
 have q3 := new1 hu
 have q2 := new1 (aS hu)
 have q1 := new1 (aS (aS hu))
 have q0 := new1 (aS (aS (aS hu)))
 simp only [World.size_alloc] at q0 q1 q2 q3
 exact ⟨q0, q1, q2, q3, aC (aC (aC (aC (Below.refl _ _) _) _) _) _⟩
theorem B4.drew {w u : World} {x y : Rf} (h : B4 w u x y) : B4 w u.drew x y := ⟨h.h0, h.h1, h.h2, h.h3, h.bel.drew⟩
theorem B4.fin {w u : World} {x y : Rf} (h : B4 w u x y) : Hid ((Instr.loadAt 25 (.pointer (some ⟨w.heap.size, 0, none⟩))).run Tryz.prog u = .ok (rfV x) u ∧ (Instr.loadAt 25 (.pointer (some ⟨w.heap.size + 1, 0, none⟩))).run Tryz.prog u = .ok (rfV y) u) ∧
  Hid ((Instr.storeAt 25 (.pointer (some ⟨w.heap.size + 2, 0, none⟩)) (rfV x)).run Tryz.prog u = .ok () (u.setRow (w.heap.size + 2) (rfC x))) ∧
  Hid ((Instr.loadAt 25 (.pointer (some ⟨w.heap.size, 0, none⟩))).run Tryz.prog (u.setRow (w.heap.size + 2) (rfC x)) = .ok (rfV x) (u.setRow (w.heap.size + 2) (rfC x)) ∧ (Instr.loadAt 25 (.pointer (some ⟨w.heap.size + 1, 0, none⟩))).run Tryz.prog (u.setRow (w.heap.size + 2) (rfC x)) = .ok (rfV y) (u.setRow (w.heap.size + 2) (rfC x))) ∧
  Hid ((Instr.storeAt 25 (.pointer (some ⟨w.heap.size + 3, 0, none⟩)) (rfV y)).run Tryz.prog (u.setRow (w.heap.size + 2) (rfC x)) = .ok () ((u.setRow (w.heap.size + 2) (rfC x)).setRow (w.heap.size + 3) (rfC y))) ∧
  Hid (((u.setRow (w.heap.size + 2) (rfC x)).setRow (w.heap.size + 3) (rfC y)).heap[w.heap.size + 2]? = some (rfO x) ∧ ((u.setRow (w.heap.size + 2) (rfC x)).setRow (w.heap.size + 3) (rfC y)).heap[w.heap.size + 3]? = some (rfO y) ∧ Below w.heap.size w ((u.setRow (w.heap.size + 2) (rfC x)).setRow (w.heap.size + 3) (rfC y))) := by
 have K3 := (setRow_other u (w.heap.size + 2) (w.heap.size + 3) (rfC x) (by omega)).trans h.h3
 have KB0 : Below w.heap.size w (u.setRow (w.heap.size + 2) (rfC x)) := h.bel.grown (aD _ _ _) h.bel.size (fun g e => by cases e; omega)
 exact ⟨⟨eD h.h0, eD h.h1⟩, uJ (y := z0) x h.h2, ⟨eD ((setRow_other u (w.heap.size + 2) w.heap.size (rfC x) (by omega)).trans h.h0), eD ((setRow_other u (w.heap.size + 2) (w.heap.size + 1) (rfC x) (by omega)).trans h.h1)⟩, uJ (y := z0) y K3,
  (setRow_other _ (w.heap.size + 3) (w.heap.size + 2) (rfC y) (by omega)).trans (uK (y := z0) x h.h2), uK (y := z0) y K3, KB0.grown (aD _ _ _) KB0.size (fun g e => by cases e; omega)⟩
theorem qC (x y : Rf) (w : World) : Calls Tryz.prog 73 #[rfV x, rfV y] w fun e w' => e = .returned (.tuple #[rfV (lo x y), rfV (hi x y)]) ∧ Below w.heap.size w w' := by
 obtain ⟨b1, s1, r1, c1, fr1, fc1⟩ := x
 obtain ⟨b2, s2, r2, c2, fr2, fc2⟩ := y
 have HW0 := B4.new w ⟨b1, s1, r1, c1, fr1, fc1⟩ ⟨b2, s2, r2, c2, fr2, fc2⟩
 have X11 : (r2 < r1) → (c2 < c1) → Calls Tryz.prog 73 #[aY b1 s1 r1 c1 fr1 fc1, aY b2 s2 r2 c2 fr2 fc2] w fun e w' => e = .returned (.tuple #[rfV ⟨b1, s1, r2, c2, fr2, fc2⟩, rfV ⟨b2, s2, r1, c1, fr1, fc1⟩]) ∧ Below w.heap.size w w' := by
  intro h1 h2
  have q := HW0
  obtain ⟨q0, q1, q2, q3, q4, q5⟩ := aQ q.h0
  obtain ⟨f0, f1, f2, f3, f4, f5⟩ := dJ q.h0
  obtain ⟨p0, p1, p2, p3, p4, p5⟩ := aQ q.h1
  obtain ⟨g0, g1, g2, g3, g4, g5⟩ := dJ q.h1
  have HF := (B4.new w ⟨b1, s1, r2, c2, fr2, fc2⟩ ⟨b2, s2, r1, c1, fr1, fc1⟩).drew
  clear q
  go_enter Tryz.func73, Tryz.ntmps73
  go_wp2
  clear q0 q1 q2 q3 q4 q5 f0 f1 f2 f3 f4 f5 p0 p1 p2 p3 p4 p5 g0 g1 g2 g3 g4 g5 HW0
  obtain ⟨HS, RS0, HS2, RS1, HE⟩ := HF.fin
  show Code.wp Tryz.prog _ _ _ ((((w.alloc (rfO ⟨b1, s1, r2, c2, fr2, fc2⟩)).alloc (rfO ⟨b2, s2, r1, c1, fr1, fc1⟩)).alloc (rfO z0)).alloc (rfO z0))
  generalize (((w.alloc (rfO ⟨b1, s1, r2, c2, fr2, fc2⟩)).alloc (rfO ⟨b2, s2, r1, c1, fr1, fc1⟩)).alloc (rfO z0)).alloc (rfO z0) = v at *
  clear HF
  refine aM (fun u => (Instr.loadAt 25 (.pointer (some ⟨w.heap.size, 0, none⟩))).run Tryz.prog u = .ok (rfV ⟨b1, s1, r2, c2, fr2, fc2⟩) u ∧ (Instr.loadAt 25 (.pointer (some ⟨w.heap.size + 1, 0, none⟩))).run Tryz.prog u = .ok (rfV ⟨b2, s2, r1, c1, fr1, fc1⟩) u) (fun j => j == 3) (by kernel_rfl) ?_
  refine dwl 0 (rfV ⟨b1, s1, r2, c2, fr2, fc2⟩) ?_ (hS := HS.out) (hy := (fun u hSu => aG rfl rfl hSu.1))
  refine dwl 1 (rfV ⟨b2, s2, r1, c1, fr1, fc1⟩) ?_ (hS := HS.out) (hy := (fun u hSu => aG rfl rfl hSu.2))
  refine aF (i := 2) (by kernel_rfl) rfl ?_
  intro K' hK'
  rw [if_pos (by go_simp)]
  refine aH none rfl 25 _ _ rfl _ _ rfl rfl RS0.out (hK' _ _ (.inr fun _ => HS2.out) ?_)
  clear hK'
  try simp only [Act.put, List.setIfInBounds_toArray, List.set_cons_zero, List.set_cons_succ]
  refine aF (i := 3) (by kernel_rfl) rfl ?_
  intro K' hK'
  rw [if_pos (by go_simp)]
  refine aH none rfl 25 _ _ rfl _ _ rfl rfl RS1.out (hK' _ _ (.inl rfl) ?_)
  clear hK'
  try simp only [Act.put, List.setIfInBounds_toArray, List.set_cons_zero, List.set_cons_succ]
  refine aK (by kernel_rfl) ?_ _
  go_wp2
  exact bodyPost_ret (aCU rfl rfl HE.out.1 rfl HE.out.2.1) rfl ⟨rfl, HE.out.2.2⟩
 have X10 : (r2 < r1) → (¬ c2 < c1) → Calls Tryz.prog 73 #[aY b1 s1 r1 c1 fr1 fc1, aY b2 s2 r2 c2 fr2 fc2] w fun e w' => e = .returned (.tuple #[rfV ⟨b1, s1, r2, c1, fr2, fc1⟩, rfV ⟨b2, s2, r1, c2, fr1, fc2⟩]) ∧ Below w.heap.size w w' := by
  intro h1 h2
  have q := HW0
  obtain ⟨q0, q1, q2, q3, q4, q5⟩ := aQ q.h0
  obtain ⟨f0, f1, f2, f3, f4, f5⟩ := dJ q.h0
  obtain ⟨p0, p1, p2, p3, p4, p5⟩ := aQ q.h1
  obtain ⟨g0, g1, g2, g3, g4, g5⟩ := dJ q.h1
  have HF := (B4.new w ⟨b1, s1, r2, c1, fr2, fc1⟩ ⟨b2, s2, r1, c2, fr1, fc2⟩).drew
  clear q
  go_enter Tryz.func73, Tryz.ntmps73
  go_wp2
  clear q0 q1 q2 q3 q4 q5 f0 f1 f2 f3 f4 f5 p0 p1 p2 p3 p4 p5 g0 g1 g2 g3 g4 g5 HW0
  obtain ⟨HS, RS0, HS2, RS1, HE⟩ := HF.fin
  show Code.wp Tryz.prog _ _ _ ((((w.alloc (rfO ⟨b1, s1, r2, c1, fr2, fc1⟩)).alloc (rfO ⟨b2, s2, r1, c2, fr1, fc2⟩)).alloc (rfO z0)).alloc (rfO z0))
  generalize (((w.alloc (rfO ⟨b1, s1, r2, c1, fr2, fc1⟩)).alloc (rfO ⟨b2, s2, r1, c2, fr1, fc2⟩)).alloc (rfO z0)).alloc (rfO z0) = v at *
  clear HF
  refine aM (fun u => (Instr.loadAt 25 (.pointer (some ⟨w.heap.size, 0, none⟩))).run Tryz.prog u = .ok (rfV ⟨b1, s1, r2, c1, fr2, fc1⟩) u ∧ (Instr.loadAt 25 (.pointer (some ⟨w.heap.size + 1, 0, none⟩))).run Tryz.prog u = .ok (rfV ⟨b2, s2, r1, c2, fr1, fc2⟩) u) (fun j => j == 3) (by kernel_rfl) ?_
  refine dwl 0 (rfV ⟨b1, s1, r2, c1, fr2, fc1⟩) ?_ (hS := HS.out) (hy := (fun u hSu => aG rfl rfl hSu.1))
  refine dwl 1 (rfV ⟨b2, s2, r1, c2, fr1, fc2⟩) ?_ (hS := HS.out) (hy := (fun u hSu => aG rfl rfl hSu.2))
  refine aF (i := 2) (by kernel_rfl) rfl ?_
  intro K' hK'
  rw [if_pos (by go_simp)]
  refine aH none rfl 25 _ _ rfl _ _ rfl rfl RS0.out (hK' _ _ (.inr fun _ => HS2.out) ?_)
  clear hK'
  try simp only [Act.put, List.setIfInBounds_toArray, List.set_cons_zero, List.set_cons_succ]
  refine aF (i := 3) (by kernel_rfl) rfl ?_
  intro K' hK'
  rw [if_pos (by go_simp)]
  refine aH none rfl 25 _ _ rfl _ _ rfl rfl RS1.out (hK' _ _ (.inl rfl) ?_)
  clear hK'
  try simp only [Act.put, List.setIfInBounds_toArray, List.set_cons_zero, List.set_cons_succ]
  refine aK (by kernel_rfl) ?_ _
  go_wp2
  exact bodyPost_ret (aCU rfl rfl HE.out.1 rfl HE.out.2.1) rfl ⟨rfl, HE.out.2.2⟩
 have X01 : (¬ r2 < r1) → (c2 < c1) → Calls Tryz.prog 73 #[aY b1 s1 r1 c1 fr1 fc1, aY b2 s2 r2 c2 fr2 fc2] w fun e w' => e = .returned (.tuple #[rfV ⟨b1, s1, r1, c2, fr1, fc2⟩, rfV ⟨b2, s2, r2, c1, fr2, fc1⟩]) ∧ Below w.heap.size w w' := by
  intro h1 h2
  have q := HW0
  obtain ⟨q0, q1, q2, q3, q4, q5⟩ := aQ q.h0
  obtain ⟨f0, f1, f2, f3, f4, f5⟩ := dJ q.h0
  obtain ⟨p0, p1, p2, p3, p4, p5⟩ := aQ q.h1
  obtain ⟨g0, g1, g2, g3, g4, g5⟩ := dJ q.h1
  have HF := (B4.new w ⟨b1, s1, r1, c2, fr1, fc2⟩ ⟨b2, s2, r2, c1, fr2, fc1⟩).drew
  clear q
  go_enter Tryz.func73, Tryz.ntmps73
  go_wp2
  clear q0 q1 q2 q3 q4 q5 f0 f1 f2 f3 f4 f5 p0 p1 p2 p3 p4 p5 g0 g1 g2 g3 g4 g5 HW0
  obtain ⟨HS, RS0, HS2, RS1, HE⟩ := HF.fin
  show Code.wp Tryz.prog _ _ _ ((((w.alloc (rfO ⟨b1, s1, r1, c2, fr1, fc2⟩)).alloc (rfO ⟨b2, s2, r2, c1, fr2, fc1⟩)).alloc (rfO z0)).alloc (rfO z0))
  generalize (((w.alloc (rfO ⟨b1, s1, r1, c2, fr1, fc2⟩)).alloc (rfO ⟨b2, s2, r2, c1, fr2, fc1⟩)).alloc (rfO z0)).alloc (rfO z0) = v at *
  clear HF
  refine aM (fun u => (Instr.loadAt 25 (.pointer (some ⟨w.heap.size, 0, none⟩))).run Tryz.prog u = .ok (rfV ⟨b1, s1, r1, c2, fr1, fc2⟩) u ∧ (Instr.loadAt 25 (.pointer (some ⟨w.heap.size + 1, 0, none⟩))).run Tryz.prog u = .ok (rfV ⟨b2, s2, r2, c1, fr2, fc1⟩) u) (fun j => j == 3) (by kernel_rfl) ?_
  refine dwl 0 (rfV ⟨b1, s1, r1, c2, fr1, fc2⟩) ?_ (hS := HS.out) (hy := (fun u hSu => aG rfl rfl hSu.1))
  refine dwl 1 (rfV ⟨b2, s2, r2, c1, fr2, fc1⟩) ?_ (hS := HS.out) (hy := (fun u hSu => aG rfl rfl hSu.2))
  refine aF (i := 2) (by kernel_rfl) rfl ?_
  intro K' hK'
  rw [if_pos (by go_simp)]
  refine aH none rfl 25 _ _ rfl _ _ rfl rfl RS0.out (hK' _ _ (.inr fun _ => HS2.out) ?_)
  clear hK'
  try simp only [Act.put, List.setIfInBounds_toArray, List.set_cons_zero, List.set_cons_succ]
  refine aF (i := 3) (by kernel_rfl) rfl ?_
  intro K' hK'
  rw [if_pos (by go_simp)]
  refine aH none rfl 25 _ _ rfl _ _ rfl rfl RS1.out (hK' _ _ (.inl rfl) ?_)
  clear hK'
  try simp only [Act.put, List.setIfInBounds_toArray, List.set_cons_zero, List.set_cons_succ]
  refine aK (by kernel_rfl) ?_ _
  go_wp2
  exact bodyPost_ret (aCU rfl rfl HE.out.1 rfl HE.out.2.1) rfl ⟨rfl, HE.out.2.2⟩
 have X00 : (¬ r2 < r1) → (¬ c2 < c1) → Calls Tryz.prog 73 #[aY b1 s1 r1 c1 fr1 fc1, aY b2 s2 r2 c2 fr2 fc2] w fun e w' => e = .returned (.tuple #[rfV ⟨b1, s1, r1, c1, fr1, fc1⟩, rfV ⟨b2, s2, r2, c2, fr2, fc2⟩]) ∧ Below w.heap.size w w' := by
  intro h1 h2
  have q := HW0
  obtain ⟨q0, q1, q2, q3, q4, q5⟩ := aQ q.h0
  obtain ⟨f0, f1, f2, f3, f4, f5⟩ := dJ q.h0
  obtain ⟨p0, p1, p2, p3, p4, p5⟩ := aQ q.h1
  obtain ⟨g0, g1, g2, g3, g4, g5⟩ := dJ q.h1
  have HF := (B4.new w ⟨b1, s1, r1, c1, fr1, fc1⟩ ⟨b2, s2, r2, c2, fr2, fc2⟩).drew
  clear q
  go_enter Tryz.func73, Tryz.ntmps73
  go_wp2
  clear q0 q1 q2 q3 q4 q5 f0 f1 f2 f3 f4 f5 p0 p1 p2 p3 p4 p5 g0 g1 g2 g3 g4 g5 HW0
  obtain ⟨HS, RS0, HS2, RS1, HE⟩ := HF.fin
  show Code.wp Tryz.prog _ _ _ ((((w.alloc (rfO ⟨b1, s1, r1, c1, fr1, fc1⟩)).alloc (rfO ⟨b2, s2, r2, c2, fr2, fc2⟩)).alloc (rfO z0)).alloc (rfO z0))
  generalize (((w.alloc (rfO ⟨b1, s1, r1, c1, fr1, fc1⟩)).alloc (rfO ⟨b2, s2, r2, c2, fr2, fc2⟩)).alloc (rfO z0)).alloc (rfO z0) = v at *
  clear HF
  refine aM (fun u => (Instr.loadAt 25 (.pointer (some ⟨w.heap.size, 0, none⟩))).run Tryz.prog u = .ok (rfV ⟨b1, s1, r1, c1, fr1, fc1⟩) u ∧ (Instr.loadAt 25 (.pointer (some ⟨w.heap.size + 1, 0, none⟩))).run Tryz.prog u = .ok (rfV ⟨b2, s2, r2, c2, fr2, fc2⟩) u) (fun j => j == 3) (by kernel_rfl) ?_
  refine dwl 0 (rfV ⟨b1, s1, r1, c1, fr1, fc1⟩) ?_ (hS := HS.out) (hy := (fun u hSu => aG rfl rfl hSu.1))
  refine dwl 1 (rfV ⟨b2, s2, r2, c2, fr2, fc2⟩) ?_ (hS := HS.out) (hy := (fun u hSu => aG rfl rfl hSu.2))
  refine aF (i := 2) (by kernel_rfl) rfl ?_
  intro K' hK'
  rw [if_pos (by go_simp)]
  refine aH none rfl 25 _ _ rfl _ _ rfl rfl RS0.out (hK' _ _ (.inr fun _ => HS2.out) ?_)
  clear hK'
  try simp only [Act.put, List.setIfInBounds_toArray, List.set_cons_zero, List.set_cons_succ]
  refine aF (i := 3) (by kernel_rfl) rfl ?_
  intro K' hK'
  rw [if_pos (by go_simp)]
  refine aH none rfl 25 _ _ rfl _ _ rfl rfl RS1.out (hK' _ _ (.inl rfl) ?_)
  clear hK'
  try simp only [Act.put, List.setIfInBounds_toArray, List.set_cons_zero, List.set_cons_succ]
  refine aK (by kernel_rfl) ?_ _
  go_wp2
  exact bodyPost_ret (aCU rfl rfl HE.out.1 rfl HE.out.2.1) rfl ⟨rfl, HE.out.2.2⟩
 simp only [lo, hi, Rw.c1, Rw.c2, o1, o2]
 by_cases h1 : r2 < r1 <;> by_cases h2 : c2 < c1
 ·simp only [if_pos h1, if_pos h2]; exact X11 h1 h2
 ·simp only [if_pos h1, if_neg h2]; exact X10 h1 h2
 ·simp only [if_neg h1, if_pos h2]; exact X01 h1 h2
 ·simp only [if_neg h1, if_neg h2]; exact X00 h1 h2
theorem lY (g : Nat) (w : World) : Calls Tryz.prog 44 #[.pointer (some ⟨g, 0, none⟩)] w fun e w' => e = .returned (.pointer (some ⟨g, 3, none⟩)) ∧ w' = w := by
 go_enter Tryz.func44, Tryz.ntmps44
 go_wp2
 go_ret
 exact ⟨rfl, rfl⟩
theorem lZ (g : Nat) (w : World) : Calls Tryz.prog 45 #[.pointer (some ⟨g, 0, none⟩)] w fun e w' => e = .returned (.pointer (some ⟨g, 2, none⟩)) ∧ w' = w := by
 go_enter Tryz.func45, Tryz.ntmps45
 go_wp2
 go_ret
 exact ⟨rfl, rfl⟩
structure Fol (u : World) (g : Nat) (C : Chg) : Prop where
 sft : u.heap[g]? = some (Hs.shO C.a C.n C.m 32)
 lin : u.heap[g + 1]? = some (.cells #[.func (.func (if C.co = true then 44 else 45)) #[] #[]] 88)
theorem Fol.below {u u' : World} {g : Nat} {C : Chg} (h : Fol u g C) (hb : Below u.heap.size u u') : Fol u' g C :=
 ⟨(hb.block _ (aW h.sft)).trans h.sft, (hb.block _ (aW h.lin)).trans h.lin⟩
theorem mD {u : World} {g : Nat} {C : Chg} (h : Fol u g C) : (u.cell? ⟨g, 0, none⟩ = some (.int .i64 C.a) ∧ u.cell? ⟨g, 1, none⟩ = some (.int .i64 C.n) ∧ u.cell? ⟨g, 2, none⟩ = some (.int .i64 C.m)) ∧ u.cell? ⟨g + 1, 0, none⟩ = some (.func (.func (if C.co = true then 44 else 45)) #[] #[]) := by
 refine ⟨Hs.jX h.sft, ?_⟩
 simp [World.cell?, h.lin]
theorem aGx {bk sh : ByteArray} {dr : Bool} {a n m : Int} {g : Nat} {w : World} (h : Fol w g ⟨bk, sh, dr, true, a, n, m⟩) (x : Rf) :
  Calls Tryz.prog 67 #[rfV x, .pointer (some ⟨g, 0, none⟩), .pointer (some ⟨g + 1, 0, none⟩)] w fun e w' => e = .returned (.tuple #[rfV (bH ⟨bk, sh, dr, true, a, n, m⟩ x (Hs.iB a n m (ln ⟨bk, sh, dr, true, a, n, m⟩ x))), .bool (Hs.posB a n m (ln ⟨bk, sh, dr, true, a, n, m⟩ x))]) ∧ Below w.heap.size w w' := by
 obtain ⟨b, s, r, c, fr, fc⟩ := x
 simp only [bH, ln, if_true, Bool.false_eq_true, if_false]
 obtain ⟨W, hW⟩ : ∃ W, W = (w.alloc (aR b s r c fr fc)).alloc (aR ⟨#[]⟩ ⟨#[]⟩ 0 0 false false) := ⟨_, rfl⟩
 have HB0 : Below w.heap.size w W := by rw [hW]; exact aC (aC (Below.refl _ _) _) _
 have H0 : W.heap[w.heap.size]? = some (aR b s r c fr fc) := by rw [hW]; exact (new2 (Below.refl _ _)).1
 have H1 : W.heap[w.heap.size + 1]? = some (aR ⟨#[]⟩ ⟨#[]⟩ 0 0 false false) := by rw [hW]; exact (new2 (Below.refl _ _)).2
 have HC : Hid (∀ u, Below W.heap.size W u → (u.cell? ⟨w.heap.size, 0, none⟩ = some (.string b) ∧ u.cell? ⟨w.heap.size, 1, none⟩ = some (.string s) ∧ u.cell? ⟨w.heap.size, 2, none⟩ = some (.int .i64 r) ∧ u.cell? ⟨w.heap.size, 3, none⟩ = some (.int .i64 c) ∧ u.cell? ⟨w.heap.size, 4, none⟩ = some (.bool fr) ∧ u.cell? ⟨w.heap.size, 5, none⟩ = some (.bool fc)) ∧ (u.cell? ⟨g, 0, none⟩ = some (.int .i64 a) ∧ u.cell? ⟨g, 1, none⟩ = some (.int .i64 n) ∧ u.cell? ⟨g, 2, none⟩ = some (.int .i64 m)) ∧ u.cell? ⟨g + 1, 0, none⟩ = some (.func (.func 44) #[] #[])) :=
  fun u hu => ⟨aQ ((hu.block _ (aW H0)).trans H0), mD (h.below (aJ HB0 hu))⟩
 have HP : RC W 21 #[Hs.shV a n m, .int .i64 c] _ := RC.of fun u _ => Hs.aCR a n m c u
 have HR : Hid (Below W.heap.size W W.drew) := (Below.refl _ _).drew
 have HF : Hid (∀ u, Below W.heap.size W u → u.heap[w.heap.size]? = some (aR b s r c fr fc) ∧ u.heap[w.heap.size + 1]? = some (rfO z0) ∧ Below w.heap.size w u) := fun u hu => ⟨(hu.block _ (aW H0)).trans H0, (hu.block _ (aW H1)).trans H1, aJ HB0 hu⟩
 generalize Hs.iB a n m c = pf at *
 generalize Hs.posB a n m c = pb at *
 clear h HB0 H0 H1
 subst hW
 go_enter Tryz.func67, Tryz.ntmps67
 go_wp2
 go_region_held_law (fun u => (u.cell? ⟨w.heap.size, 0, none⟩ = some (.string b) ∧ u.cell? ⟨w.heap.size, 1, none⟩ = some (.string s) ∧ u.cell? ⟨w.heap.size, 2, none⟩ = some (.int .i64 r) ∧ u.cell? ⟨w.heap.size, 3, none⟩ = some (.int .i64 c) ∧ u.cell? ⟨w.heap.size, 4, none⟩ = some (.bool fr) ∧ u.cell? ⟨w.heap.size, 5, none⟩ = some (.bool fc)) ∧ (u.cell? ⟨g, 0, none⟩ = some (.int .i64 a) ∧ u.cell? ⟨g, 1, none⟩ = some (.int .i64 n) ∧ u.cell? ⟨g, 2, none⟩ = some (.int .i64 m)) ∧ u.cell? ⟨g + 1, 0, none⟩ = some (.func (.func 44) #[] #[]))
  (exact HC.out _ HR.out) (first
  | (go_at_call 44; refine (lY _ _).mono ?_; rintro e w' ⟨rfl, hw⟩; obtain rfl := hw.symm; clear hw)
  | (go_at_call 21; refine (HP _ HR.out).mono ?_; rintro e w7 ⟨rfl, hb⟩; have HR : Hid _ := hb; clear hb))
 obtain ⟨k0, k1, k2⟩ := HF.out _ HR.out
 have q0 := (aQ k0).2.2.2.1
 have f0 := (dJ k0).2.2.2.1
 have l0 := (HC.out _ HR.out).2.2
 have K0 := aGv k0 pf
 have K1 := (heap_setCell_other w7 ⟨w.heap.size, 3, none⟩ (w.heap.size + 1) (.int .i64 pf) (by simp)).trans k1
 have RL : Hid _ := eD (x := ⟨b, s, r, pf, fr, fc⟩) K0
 have RS : Hid _ := uJ (y := z0) ⟨b, s, r, pf, fr, fc⟩ K1
 have KB : Hid (Below w.heap.size w ((w7.setCell ⟨w.heap.size, 3, none⟩ (.int .i64 pf)).setRow (w.heap.size + 1) (rfC ⟨b, s, r, pf, fr, fc⟩))) := (k2.setCell (by simp) _).grown (aD _ _ _) (k2.setCell (by simp) _).size (fun g e => by cases e; omega)
 have KR : Hid _ := uK (y := z0) ⟨b, s, r, pf, fr, fc⟩ K1
 clear k0 k1 k2 HF HC HP HR K0 K1
 go_wp2_with (first
  | (go_at_call 44; refine (lY _ _).mono ?_; rintro e w' ⟨rfl, hw⟩; obtain rfl := hw.symm; clear hw)
  | ((with_reducible show wpList _ _ _ ({ dst := _, op := Op.load 25 _, type := _, pos := _, after := _, guard := none } :: _) _ _); refine aA rfl 25 _ rfl _ _ rfl RL.out ?_; clear RL)
  | ((with_reducible show wpList _ _ _ ({ dst := _, op := Op.store 25 _ _, type := _, pos := _, after := _, guard := none } :: _) _ _); refine aB rfl 25 _ _ rfl _ _ _ rfl rfl RS.out ?_; clear RS))
 exact bodyPost_ret (aKS rfl rfl KR.out rfl) rfl ⟨rfl, KB.out⟩
theorem aGy {bk sh : ByteArray} {dr : Bool} {a n m : Int} {g : Nat} {w : World} (h : Fol w g ⟨bk, sh, dr, false, a, n, m⟩) (x : Rf) :
  Calls Tryz.prog 67 #[rfV x, .pointer (some ⟨g, 0, none⟩), .pointer (some ⟨g + 1, 0, none⟩)] w fun e w' => e = .returned (.tuple #[rfV (bH ⟨bk, sh, dr, false, a, n, m⟩ x (Hs.iB a n m (ln ⟨bk, sh, dr, false, a, n, m⟩ x))), .bool (Hs.posB a n m (ln ⟨bk, sh, dr, false, a, n, m⟩ x))]) ∧ Below w.heap.size w w' := by
 obtain ⟨b, s, r, c, fr, fc⟩ := x
 simp only [bH, ln, if_true, Bool.false_eq_true, if_false]
 obtain ⟨W, hW⟩ : ∃ W, W = (w.alloc (aR b s r c fr fc)).alloc (aR ⟨#[]⟩ ⟨#[]⟩ 0 0 false false) := ⟨_, rfl⟩
 have HB0 : Below w.heap.size w W := by rw [hW]; exact aC (aC (Below.refl _ _) _) _
 have H0 : W.heap[w.heap.size]? = some (aR b s r c fr fc) := by rw [hW]; exact (new2 (Below.refl _ _)).1
 have H1 : W.heap[w.heap.size + 1]? = some (aR ⟨#[]⟩ ⟨#[]⟩ 0 0 false false) := by rw [hW]; exact (new2 (Below.refl _ _)).2
 have HC : Hid (∀ u, Below W.heap.size W u → (u.cell? ⟨w.heap.size, 0, none⟩ = some (.string b) ∧ u.cell? ⟨w.heap.size, 1, none⟩ = some (.string s) ∧ u.cell? ⟨w.heap.size, 2, none⟩ = some (.int .i64 r) ∧ u.cell? ⟨w.heap.size, 3, none⟩ = some (.int .i64 c) ∧ u.cell? ⟨w.heap.size, 4, none⟩ = some (.bool fr) ∧ u.cell? ⟨w.heap.size, 5, none⟩ = some (.bool fc)) ∧ (u.cell? ⟨g, 0, none⟩ = some (.int .i64 a) ∧ u.cell? ⟨g, 1, none⟩ = some (.int .i64 n) ∧ u.cell? ⟨g, 2, none⟩ = some (.int .i64 m)) ∧ u.cell? ⟨g + 1, 0, none⟩ = some (.func (.func 45) #[] #[])) :=
  fun u hu => ⟨aQ ((hu.block _ (aW H0)).trans H0), mD (h.below (aJ HB0 hu))⟩
 have HP : RC W 21 #[Hs.shV a n m, .int .i64 r] _ := RC.of fun u _ => Hs.aCR a n m r u
 have HR : Hid (Below W.heap.size W W.drew) := (Below.refl _ _).drew
 have HF : Hid (∀ u, Below W.heap.size W u → u.heap[w.heap.size]? = some (aR b s r c fr fc) ∧ u.heap[w.heap.size + 1]? = some (rfO z0) ∧ Below w.heap.size w u) := fun u hu => ⟨(hu.block _ (aW H0)).trans H0, (hu.block _ (aW H1)).trans H1, aJ HB0 hu⟩
 generalize Hs.iB a n m r = pf at *
 generalize Hs.posB a n m r = pb at *
 clear h HB0 H0 H1
 subst hW
 go_enter Tryz.func67, Tryz.ntmps67
 go_wp2
 go_region_held_law (fun u => (u.cell? ⟨w.heap.size, 0, none⟩ = some (.string b) ∧ u.cell? ⟨w.heap.size, 1, none⟩ = some (.string s) ∧ u.cell? ⟨w.heap.size, 2, none⟩ = some (.int .i64 r) ∧ u.cell? ⟨w.heap.size, 3, none⟩ = some (.int .i64 c) ∧ u.cell? ⟨w.heap.size, 4, none⟩ = some (.bool fr) ∧ u.cell? ⟨w.heap.size, 5, none⟩ = some (.bool fc)) ∧ (u.cell? ⟨g, 0, none⟩ = some (.int .i64 a) ∧ u.cell? ⟨g, 1, none⟩ = some (.int .i64 n) ∧ u.cell? ⟨g, 2, none⟩ = some (.int .i64 m)) ∧ u.cell? ⟨g + 1, 0, none⟩ = some (.func (.func 45) #[] #[]))
  (exact HC.out _ HR.out) (first
  | (go_at_call 45; refine (lZ _ _).mono ?_; rintro e w' ⟨rfl, hw⟩; obtain rfl := hw.symm; clear hw)
  | (go_at_call 21; refine (HP _ HR.out).mono ?_; rintro e w7 ⟨rfl, hb⟩; have HR : Hid _ := hb; clear hb))
 obtain ⟨k0, k1, k2⟩ := HF.out _ HR.out
 have q0 := (aQ k0).2.2.1
 have f0 := (dJ k0).2.2.1
 have l0 := (HC.out _ HR.out).2.2
 have K0 := aGw k0 pf
 have K1 := (heap_setCell_other w7 ⟨w.heap.size, 2, none⟩ (w.heap.size + 1) (.int .i64 pf) (by simp)).trans k1
 have RL : Hid _ := eD (x := ⟨b, s, pf, c, fr, fc⟩) K0
 have RS : Hid _ := uJ (y := z0) ⟨b, s, pf, c, fr, fc⟩ K1
 have KB : Hid (Below w.heap.size w ((w7.setCell ⟨w.heap.size, 2, none⟩ (.int .i64 pf)).setRow (w.heap.size + 1) (rfC ⟨b, s, pf, c, fr, fc⟩))) := (k2.setCell (by simp) _).grown (aD _ _ _) (k2.setCell (by simp) _).size (fun g e => by cases e; omega)
 have KR : Hid _ := uK (y := z0) ⟨b, s, pf, c, fr, fc⟩ K1
 clear k0 k1 k2 HF HC HP HR K0 K1
 go_wp2_with (first
  | (go_at_call 45; refine (lZ _ _).mono ?_; rintro e w' ⟨rfl, hw⟩; obtain rfl := hw.symm; clear hw)
  | ((with_reducible show wpList _ _ _ ({ dst := _, op := Op.load 25 _, type := _, pos := _, after := _, guard := none } :: _) _ _); refine aA rfl 25 _ rfl _ _ rfl RL.out ?_; clear RL)
  | ((with_reducible show wpList _ _ _ ({ dst := _, op := Op.store 25 _ _, type := _, pos := _, after := _, guard := none } :: _) _ _); refine aB rfl 25 _ _ rfl _ _ _ rfl rfl RS.out ?_; clear RS))
 exact bodyPost_ret (aKS rfl rfl KR.out rfl) rfl ⟨rfl, KB.out⟩
end Go.Proofs.YtljmklbbngpllaaGreatDoor.Rw
