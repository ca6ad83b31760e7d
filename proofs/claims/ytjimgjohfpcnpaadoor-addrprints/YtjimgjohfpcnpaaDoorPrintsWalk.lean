/- The walk of the law AddrPrints. -/
import Derived.Test.YtjimgjohfpcnpaaDoorALives
import Derived.Test.YtjimgjohfpcnpaaDoorARArea
namespace Go.Proofs.YtjimgjohfpcnpaaDoor
open Go.RowKit
set_option maxRecDepth 100000
set_option linter.unusedVariables false
set_option linter.unusedSimpArgs false
set_option maxHeartbeats 16000000 in
theorem prints_core {b1 s1 b2 s2 X Y Z : ByteArray} {r1 c1 r2 c2 k1 k2 k3 k4 : Int} {fr1 fc1 fr2 fc2 g : Bool} {w W : World} (hW : W = (w.alloc (refO b1 s1 r1 c1 fr1 fc1)).alloc (refO b2 s2 r2 c2 fr2 fc2))
    (B1 : RC W 14 #[.agg #[.string b1, .string s1, .int .i64 r1, .int .i64 c1, .bool fr1, .bool fc1], .agg #[.string b2, .string s2, .int .i64 r2, .int .i64 c2, .bool fr2, .bool fc2]] (.tuple #[.int .i64 k1, .int .i64 k2, .int .i64 k3, .int .i64 k4]))
    (B2 : RC W 15 #[.agg #[.string b1, .string s1, .int .i64 r1, .int .i64 c1, .bool fr1, .bool fc1], .agg #[.string b2, .string s2, .int .i64 r2, .int .i64 c2, .bool fr2, .bool fc2]] (.tuple #[.int .i64 k1, .int .i64 k2, .int .i64 k3, .int .i64 k4]))
    (G1 : RC W 16 #[.agg #[.string b1, .string s1, .int .i64 r1, .int .i64 c1, .bool fr1, .bool fc1]] (.bool g)) (G2 : RC W 17 #[.agg #[.string b1, .string s1, .int .i64 r1, .int .i64 c1, .bool fr1, .bool fc1]] (.bool g))
    (P1 : RC W 18 #[.agg #[.string b1, .string s1, .int .i64 r1, .int .i64 c1, .bool fr1, .bool fc1]] (.string X)) (P2 : RC W 19 #[.agg #[.string b1, .string s1, .int .i64 r1, .int .i64 c1, .bool fr1, .bool fc1]] (.string X))
    (A1 : RC W 20 #[.agg #[.string b1, .string s1, .int .i64 r1, .int .i64 c1, .bool fr1, .bool fc1], .agg #[.string b2, .string s2, .int .i64 r2, .int .i64 c2, .bool fr2, .bool fc2]] (.string Y))
    (A2 : RC W 21 #[.agg #[.string b1, .string s1, .int .i64 r1, .int .i64 c1, .bool fr1, .bool fc1], .agg #[.string b2, .string s2, .int .i64 r2, .int .i64 c2, .bool fr2, .bool fc2]] (.string Y))
    (C1 : RC W 22 #[.int .i64 r1, .int .i64 c1] (.string Z)) (C2 : RC W 23 #[.int .i64 r1, .int .i64 c1] (.string Z)) (LV : RC W 13 #[] (.bool true)) :
    Calls Tryd.prog 4 #[.agg #[.string b1, .string s1, .int .i64 r1, .int .i64 c1, .bool fr1, .bool fc1], .agg #[.string b2, .string s2, .int .i64 r2, .int .i64 c2, .bool fr2, .bool fc2]] w fun e w' => e = .returned (.bool true) ∧ Below w.heap.size w w' := by
  have HC : Hid (∀ u : World, Below W.heap.size W u → (u.cell? ⟨w.heap.size, 0, none⟩ = some (.string b1) ∧ u.cell? ⟨w.heap.size, 1, none⟩ = some (.string s1) ∧ u.cell? ⟨w.heap.size, 2, none⟩ = some (.int .i64 r1) ∧ u.cell? ⟨w.heap.size, 3, none⟩ = some (.int .i64 c1) ∧ u.cell? ⟨w.heap.size, 4, none⟩ = some (.bool fr1) ∧ u.cell? ⟨w.heap.size, 5, none⟩ = some (.bool fc1)) ∧ (u.cell? ⟨w.heap.size + 1, 0, none⟩ = some (.string b2) ∧ u.cell? ⟨w.heap.size + 1, 1, none⟩ = some (.string s2) ∧ u.cell? ⟨w.heap.size + 1, 2, none⟩ = some (.int .i64 r2) ∧ u.cell? ⟨w.heap.size + 1, 3, none⟩ = some (.int .i64 c2) ∧ u.cell? ⟨w.heap.size + 1, 4, none⟩ = some (.bool fr2) ∧ u.cell? ⟨w.heap.size + 1, 5, none⟩ = some (.bool fc2))) := by
    subst hW
    exact fun u hu => ⟨r_cells (new2 hu).1, r_cells (new2 hu).2⟩
  have HB0 : Hid (Below W.heap.size W W) := Below.refl _ _
  have HF : Hid (∀ u, Below W.heap.size W u → Below w.heap.size w u) := by
    subst hW
    exact fun u hu => bel2 hu
  have hW2 := hW.symm
  clear hW
  obtain ⟨⟨q0, q1, q2, q3, q4, q5⟩, p0, p1, p2, p3, p4, p5⟩ := HC.out _ HB0.out
  go_enter Tryd.func4, Tryd.ntmps4
  go_wp2_with fail
  try rw [hW2]
  refine (B1 _ HB0.out).mono ?_
  rintro e w1 ⟨rfl, hb⟩
  have HB1 : Hid (Below W.heap.size W w1) := hb
  clear hb B1 q0 q1 q2 q3 q4 q5 p0 p1 p2 p3 p4 p5
  obtain ⟨⟨q0, q1, q2, q3, q4, q5⟩, p0, p1, p2, p3, p4, p5⟩ := HC.out _ HB1.out
  go_wp2_with fail
  refine (B2 _ HB1.out).mono ?_
  rintro e w2 ⟨rfl, hb⟩
  have HB2 : Hid (Below W.heap.size W w2) := hb
  clear hb B2 q0 q1 q2 q3 q4 q5 p0 p1 p2 p3 p4 p5 HB1 HB0
  go_wp2_with fail
  have HB : Hid (Below W.heap.size W w2.drew) := HB2.out.drew
  clear HB2
  go_region_held_law (fun u => (u.cell? ⟨w.heap.size, 0, none⟩ = some (.string b1) ∧ u.cell? ⟨w.heap.size, 1, none⟩ = some (.string s1) ∧ u.cell? ⟨w.heap.size, 2, none⟩ = some (.int .i64 r1) ∧ u.cell? ⟨w.heap.size, 3, none⟩ = some (.int .i64 c1) ∧ u.cell? ⟨w.heap.size, 4, none⟩ = some (.bool fr1) ∧ u.cell? ⟨w.heap.size, 5, none⟩ = some (.bool fc1)) ∧ (u.cell? ⟨w.heap.size + 1, 0, none⟩ = some (.string b2) ∧ u.cell? ⟨w.heap.size + 1, 1, none⟩ = some (.string s2) ∧ u.cell? ⟨w.heap.size + 1, 2, none⟩ = some (.int .i64 r2) ∧ u.cell? ⟨w.heap.size + 1, 3, none⟩ = some (.int .i64 c2) ∧ u.cell? ⟨w.heap.size + 1, 4, none⟩ = some (.bool fr2) ∧ u.cell? ⟨w.heap.size + 1, 5, none⟩ = some (.bool fc2)))
    (exact HC.out _ HB.out) (first
    | (go_at_call 16; refine (G1 _ HB.out).mono ?_; rintro e w7 ⟨rfl, hb⟩; have HB : Hid (Below W.heap.size W w7) := hb; clear hb)
    | (go_at_call 17; refine (G2 _ HB.out).mono ?_; rintro e w7 ⟨rfl, hb⟩; have HB : Hid (Below W.heap.size W w7) := hb; clear hb)
    | (go_at_call 18; refine (P1 _ HB.out).mono ?_; rintro e w7 ⟨rfl, hb⟩; have HB : Hid (Below W.heap.size W w7) := hb; clear hb)
    | (go_at_call 19; refine (P2 _ HB.out).mono ?_; rintro e w7 ⟨rfl, hb⟩; have HB : Hid (Below W.heap.size W w7) := hb; clear hb)
    | (go_at_call 20; refine (A1 _ HB.out).mono ?_; rintro e w7 ⟨rfl, hb⟩; have HB : Hid (Below W.heap.size W w7) := hb; clear hb)
    | (go_at_call 21; refine (A2 _ HB.out).mono ?_; rintro e w7 ⟨rfl, hb⟩; have HB : Hid (Below W.heap.size W w7) := hb; clear hb)
    | (go_at_call 22; refine (C1 _ HB.out).mono ?_; rintro e w7 ⟨rfl, hb⟩; have HB : Hid (Below W.heap.size W w7) := hb; clear hb)
    | (go_at_call 23; refine (C2 _ HB.out).mono ?_; rintro e w7 ⟨rfl, hb⟩; have HB : Hid (Below W.heap.size W w7) := hb; clear hb)
    | (go_at_call 13; refine (LV _ HB.out).mono ?_; rintro e w7 ⟨rfl, hb⟩; have HB : Hid (Below W.heap.size W w7) := hb; clear hb))
  go_wp2
  go_ret
  exact ⟨rfl, HF.out _ HB.out⟩
theorem prints_walk (b1 s1 : ByteArray) (r1 c1 : Int) (fr1 fc1 : Bool) (b2 s2 : ByteArray) (r2 c2 : Int) (fr2 fc2 : Bool) (z1 : b1.size ≤ 9223372036854775807) (z2 : s1.size ≤ 9223372036854775807) (z3 : b2.size ≤ 9223372036854775807) (z4 : s2.size ≤ 9223372036854775807) (w : World) (T : Tab8 w) :
    Calls Tryd.prog 4 #[refV b1 s1 r1 c1 fr1 fc1, refV b2 s2 r2 c2 fr2 fc2] w fun e w' => e = .returned (.bool true) ∧ Below w.heap.size w w' :=
  prints_core rfl (RC.of fun u _ => box_any b1 s1 r1 c1 fr1 fc1 b2 s2 r2 c2 fr2 fc2 u) (RC.of fun u _ => rbox_any b1 s1 r1 c1 fr1 fc1 b2 s2 r2 c2 fr2 fc2 u)
    (RC.of fun u hu => agood_any b1 s1 r1 c1 fr1 fc1 z1 z2 u (T.below (bel2 hu)).t) (RC.of fun u _ => ragood_any b1 s1 r1 c1 fr1 fc1 z1 z2 u)
    (RC.of fun u hu => aprint_any b1 s1 r1 c1 fr1 fc1 z1 z2 u (T.below (bel2 hu)).t) (RC.of fun u _ => rprint_any b1 s1 r1 c1 fr1 fc1 z1 z2 u)
    (RC.of fun u hu => area_any b1 s1 r1 c1 fr1 fc1 b2 s2 r2 c2 fr2 fc2 z1 z2 z3 z4 u (T.below (bel2 hu)).t) (RC.of fun u _ => rarea_any b1 s1 r1 c1 fr1 fc1 b2 s2 r2 c2 fr2 fc2 z1 z2 z3 z4 u)
    (RC.of fun u hu => ct_any r1 c1 u (T.below (bel2 hu)).t) (RC.of fun u _ => rct_any r1 c1 u) (RC.of fun u hu => lives_any u (T.below (bel2 hu)))
end Go.Proofs.YtjimgjohfpcnpaaDoor
