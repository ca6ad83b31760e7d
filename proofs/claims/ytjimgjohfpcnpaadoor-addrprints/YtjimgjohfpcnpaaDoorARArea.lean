/- PrintArea of the reference. -/
import Derived.Test.YtjimgjohfpcnpaaDoorAArea2
namespace Go.Proofs.YtjimgjohfpcnpaaDoor
open Go.RowKit
set_option maxRecDepth 100000
set_option linter.unusedVariables false
set_option linter.unusedSimpArgs false
section
variable {b1 s1 b2 s2 X Y : ByteArray} {r1 c1 r2 c2 : Int} {fr1 fc1 fr2 fc2 : Bool} {w W : World}
set_option maxHeartbeats 4000000 in
theorem rarea_no (hW : W = (w.alloc (refO b1 s1 r1 c1 fr1 fc1)).alloc (refO b2 s2 r2 c2 fr2 fc2)) {g1 g2 : Bool} (G1 : RC W 17 #[.agg #[.string b1, .string s1, .int .i64 r1, .int .i64 c1, .bool fr1, .bool fc1]] (.bool g1)) (G2 : RC W 17 #[.agg #[.string b2, .string s2, .int .i64 r2, .int .i64 c2, .bool fr2, .bool fc2]] (.bool g2))
    (hg : g1 = false ∨ (g1 = true ∧ g2 = false) ∨ (g1 = true ∧ g2 = true ∧ (s2.toList == []) = false)) :
    Calls Tryd.prog 21 #[.agg #[.string b1, .string s1, .int .i64 r1, .int .i64 c1, .bool fr1, .bool fc1], .agg #[.string b2, .string s2, .int .i64 r2, .int .i64 c2, .bool fr2, .bool fc2]] w fun e w' => e = .returned (.string ⟨#[]⟩) ∧ Below w.heap.size w w' := by
  have HC : Hid (∀ u : World, Below W.heap.size W u → u.heap[w.heap.size]? = some (refO b1 s1 r1 c1 fr1 fc1) ∧ u.heap[w.heap.size + 1]? = some (refO b2 s2 r2 c2 fr2 fc2)) := by
    subst hW
    exact fun u hu => new2 hu
  have HB0 : Hid (Below W.heap.size W W) := Below.refl _ _
  have HF : Hid (∀ u, Below W.heap.size W u → Below w.heap.size w u) := by
    subst hW
    exact fun u hu => bel2 hu
  have hW2 := hW.symm
  clear hW
  obtain ⟨q0, q1, q2, q3, q4, q5⟩ := r_cells (HC.out _ HB0.out).1
  obtain ⟨p0, p1, p2, p3, p4, p5⟩ := r_cells (HC.out _ HB0.out).2
  rcases hg with rfl | ⟨rfl, rfl⟩ | ⟨rfl, rfl, hs⟩
  · go_enter Tryd.func21, Tryd.ntmps21
    go_wp2_with fail
    try rw [hW2]
    refine (G1 _ HB0.out).mono ?_
    rintro e w1 ⟨rfl, hb⟩
    have HB1 : Hid (Below W.heap.size W w1) := hb
    clear hb
    go_wp2
    go_ret
    exact ⟨rfl, HF.out _ HB1.out⟩
  · go_enter Tryd.func21, Tryd.ntmps21
    go_wp2_with fail
    try rw [hW2]
    refine (G1 _ HB0.out).mono ?_
    rintro e w1 ⟨rfl, hb⟩
    have HB1 : Hid (Below W.heap.size W w1) := hb
    clear hb q0 q1 q2 q3 q4 q5 p0 p1 p2 p3 p4 p5
    obtain ⟨p0, p1, p2, p3, p4, p5⟩ := r_cells (HC.out _ HB1.out).2
    go_wp2_with fail
    refine (G2 _ HB1.out).mono ?_
    rintro e w2 ⟨rfl, hb⟩
    have HB2 : Hid (Below W.heap.size W w2) := hb
    clear hb
    go_wp2
    go_ret
    exact ⟨rfl, HF.out _ HB2.out⟩
  · go_enter Tryd.func21, Tryd.ntmps21
    go_wp2_with fail
    try rw [hW2]
    refine (G1 _ HB0.out).mono ?_
    rintro e w1 ⟨rfl, hb⟩
    have HB1 : Hid (Below W.heap.size W w1) := hb
    clear hb q0 q1 q2 q3 q4 q5 p0 p1 p2 p3 p4 p5
    obtain ⟨p0, p1, p2, p3, p4, p5⟩ := r_cells (HC.out _ HB1.out).2
    go_wp2_with fail
    refine (G2 _ HB1.out).mono ?_
    rintro e w2 ⟨rfl, hb⟩
    have HB2 : Hid (Below W.heap.size W w2) := hb
    clear hb p0 p1 p2 p3 p4 p5
    obtain ⟨p0, p1, p2, p3, p4, p5⟩ := r_cells (HC.out _ HB2.out).2
    go_wp2
    go_ret
    exact ⟨rfl, HF.out _ HB2.out⟩
set_option maxHeartbeats 4000000 in
theorem rarea_yes (hW : W = (w.alloc (refO b1 s1 r1 c1 fr1 fc1)).alloc (refO b2 s2 r2 c2 fr2 fc2)) (G1 : RC W 17 #[.agg #[.string b1, .string s1, .int .i64 r1, .int .i64 c1, .bool fr1, .bool fc1]] (.bool true)) (G2 : RC W 17 #[.agg #[.string b2, .string s2, .int .i64 r2, .int .i64 c2, .bool fr2, .bool fc2]] (.bool true)) (hs : s2.toList = [])
    (P1 : RC W 19 #[.agg #[.string b1, .string s1, .int .i64 r1, .int .i64 c1, .bool fr1, .bool fc1]] (.string X)) (P2 : RC W 45 #[.agg #[.string b2, .string s2, .int .i64 r2, .int .i64 c2, .bool fr2, .bool fc2]] (.string Y)) (zX : X.size ≤ 50) (zY : Y.size ≤ 50) :
    Calls Tryd.prog 21 #[.agg #[.string b1, .string s1, .int .i64 r1, .int .i64 c1, .bool fr1, .bool fc1], .agg #[.string b2, .string s2, .int .i64 r2, .int .i64 c2, .bool fr2, .bool fc2]] w fun e w' => e = .returned (.string (X ++ ⟨#[58]⟩ ++ Y)) ∧ Below w.heap.size w w' := by
  have HC : Hid (∀ u : World, Below W.heap.size W u → u.heap[w.heap.size]? = some (refO b1 s1 r1 c1 fr1 fc1) ∧ u.heap[w.heap.size + 1]? = some (refO b2 s2 r2 c2 fr2 fc2)) := by
    subst hW
    exact fun u hu => new2 hu
  have HB0 : Hid (Below W.heap.size W W) := Below.refl _ _
  have HF : Hid (∀ u, Below W.heap.size W u → Below w.heap.size w u) := by
    subst hW
    exact fun u hu => bel2 hu
  have z5 : ¬ 9223372036854775807 < X.size + 1 := by omega
  have z6 : ¬ 9223372036854775807 < X.size + 1 + Y.size := by omega
  have hW2 := hW.symm
  clear hW
  obtain ⟨q0, q1, q2, q3, q4, q5⟩ := r_cells (HC.out _ HB0.out).1
  go_enter Tryd.func21, Tryd.ntmps21
  go_wp2_with fail
  try rw [hW2]
  refine (G1 _ HB0.out).mono ?_
  rintro e w1 ⟨rfl, hb⟩
  have HB1 : Hid (Below W.heap.size W w1) := hb
  clear hb q0 q1 q2 q3 q4 q5
  obtain ⟨p0, p1, p2, p3, p4, p5⟩ := r_cells (HC.out _ HB1.out).2
  go_wp2_with fail
  refine (G2 _ HB1.out).mono ?_
  rintro e w2 ⟨rfl, hb⟩
  have HB : Hid (Below W.heap.size W w2) := hb
  clear hb p0 p1 p2 p3 p4 p5
  obtain ⟨p0, p1, p2, p3, p4, p5⟩ := r_cells (HC.out _ HB.out).2
  go_wp2_with fail
  clear p0 p1 p2 p3 p4 p5
  replace HB : Hid (Below W.heap.size W w2.drew) := HB.out.drew
  go_region_held_law (fun u => (u.cell? ⟨w.heap.size, 0, none⟩ = some (.string b1) ∧ u.cell? ⟨w.heap.size, 1, none⟩ = some (.string s1) ∧ u.cell? ⟨w.heap.size, 2, none⟩ = some (.int .i64 r1) ∧ u.cell? ⟨w.heap.size, 3, none⟩ = some (.int .i64 c1) ∧ u.cell? ⟨w.heap.size, 4, none⟩ = some (.bool fr1) ∧ u.cell? ⟨w.heap.size, 5, none⟩ = some (.bool fc1)) ∧ (u.cell? ⟨w.heap.size + 1, 0, none⟩ = some (.string b2) ∧ u.cell? ⟨w.heap.size + 1, 1, none⟩ = some (.string s2) ∧ u.cell? ⟨w.heap.size + 1, 2, none⟩ = some (.int .i64 r2) ∧ u.cell? ⟨w.heap.size + 1, 3, none⟩ = some (.int .i64 c2) ∧ u.cell? ⟨w.heap.size + 1, 4, none⟩ = some (.bool fr2) ∧ u.cell? ⟨w.heap.size + 1, 5, none⟩ = some (.bool fc2)))
    (exact ⟨r_cells (HC.out _ HB.out).1, r_cells (HC.out _ HB.out).2⟩) (first
    | (go_at_call 19; refine (P1 _ HB.out).mono ?_; rintro e w7 ⟨rfl, hb⟩; have HB : Hid (Below W.heap.size W w7) := hb; clear hb)
    | (go_at_call 45; refine (P2 _ HB.out).mono ?_; rintro e w7 ⟨rfl, hb⟩; have HB : Hid (Below W.heap.size W w7) := hb; clear hb))
  all_goals (go_wp2; go_ret; exact ⟨rfl, HF.out _ HB.out⟩)
end
theorem rarea_any (b1 s1 : ByteArray) (r1 c1 : Int) (fr1 fc1 : Bool) (b2 s2 : ByteArray) (r2 c2 : Int) (fr2 fc2 : Bool) (z1 : b1.size ≤ 9223372036854775807) (z2 : s1.size ≤ 9223372036854775807) (z3 : b2.size ≤ 9223372036854775807) (z4 : s2.size ≤ 9223372036854775807) (w : World) :
    Calls Tryd.prog 21 #[refV b1 s1 r1 c1 fr1 fc1, refV b2 s2 r2 c2 fr2 fc2] w fun e w' => e = .returned (.string (paB b1 s1 r1 c1 fr1 fc1 b2 s2 r2 c2 fr2 fc2)) ∧ Below w.heap.size w w' := by
  have G1 : RC ((w.alloc (refO b1 s1 r1 c1 fr1 fc1)).alloc (refO b2 s2 r2 c2 fr2 fc2)) 17 #[refV b1 s1 r1 c1 fr1 fc1] _ := RC.of fun u hu => ragood_any b1 s1 r1 c1 fr1 fc1 z1 z2 u
  have G2 : RC ((w.alloc (refO b1 s1 r1 c1 fr1 fc1)).alloc (refO b2 s2 r2 c2 fr2 fc2)) 17 #[refV b2 s2 r2 c2 fr2 fc2] _ := RC.of fun u hu => ragood_any b2 s2 r2 c2 fr2 fc2 z3 z4 u
  unfold paB
  cases g1 : goodB b1 s1 r1 c1
  · rw [g1] at G1
    rw [if_neg (by simp)]
    exact rarea_no rfl G1 G2 (.inl rfl)
  rw [g1] at G1
  cases g2 : goodB b2 s2 r2 c2
  · rw [g2] at G2
    rw [if_neg (by simp)]
    exact rarea_no rfl G1 G2 (.inr (.inl ⟨rfl, rfl⟩))
  rw [g2] at G2
  by_cases hs : s2.toList = []
  · rw [if_pos ⟨rfl, rfl, hs⟩]
    obtain ⟨e1, n1, l1⟩ := prB_yes (fr := fr1) (fc := fc1) g1
    have P1 : RC ((w.alloc (refO b1 s1 r1 c1 fr1 fc1)).alloc (refO b2 s2 r2 c2 fr2 fc2)) 19 #[refV b1 s1 r1 c1 fr1 fc1] _ := RC.of fun u hu => rprint_any b1 s1 r1 c1 fr1 fc1 z1 z2 u
    rw [e1] at P1 l1
    obtain ⟨R, C, rfl, rfl, q1, q2, q3, q4, hw⟩ := good_yes g2
    exact rarea_yes rfl G1 G2 hs P1 (RC.of fun u hu => rcell_any b2 s2 R C fr2 fc2 (in_mk q1 q2 q3 q4) q1 q2 q3 q4 u) l1 (Nat.le_trans (cellB_size R C fr2 fc2 q1 q2) (by decide))
  · rw [if_neg (fun q => hs q.2.2)]
    exact rarea_no rfl G1 G2 (.inr (.inr ⟨rfl, rfl, by simpa using hs⟩))
end Go.Proofs.YtjimgjohfpcnpaaDoor
