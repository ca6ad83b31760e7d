/- The walk of the law AddrBack. -/
import Derived.Test.YtjimgjohfpcnpaaDoorALives
namespace Go.Proofs.YtjimgjohfpcnpaaDoor
open Go.RowKit
set_option maxRecDepth 100000
set_option linter.unusedVariables false
set_option linter.unusedSimpArgs false
set_option maxHeartbeats 4000000 in
theorem back_tt {b s S T0 b2 s2 T1 : ByteArray} {r c r2 c2 : Int} {fr fc f1 f2 : Bool} {w : World}
    (GD : ∀ u, Below w.heap.size w u → Calls Tryd.prog 16 #[refV b s r c fr fc] u fun e w' => e = .returned (.bool true) ∧ Below u.heap.size u w')
    (PT : ∀ u, Below w.heap.size w u → Calls Tryd.prog 18 #[refV b s r c fr fc] u fun e w' => e = .returned (.string T0) ∧ Below u.heap.size u w')
    (PR : ∀ u, Below w.heap.size w u → Calls Tryd.prog 9 #[.string T0] u fun e w' => e = .returned (.tuple #[refV b s r c fr fc, .bool true]) ∧ Below u.heap.size u w')
    (PS : ∀ u, Below w.heap.size w u → Calls Tryd.prog 9 #[.string S] u fun e w' => e = .returned (.tuple #[refV b2 s2 r2 c2 f1 f2, .bool true]) ∧ Below u.heap.size u w')
    (PX : ∀ u, Below w.heap.size w u → Calls Tryd.prog 18 #[refV b2 s2 r2 c2 f1 f2] u fun e w' => e = .returned (.string T1) ∧ Below u.heap.size u w')
    (PY : ∀ u, Below w.heap.size w u → Calls Tryd.prog 9 #[.string T1] u fun e w' => e = .returned (.tuple #[refV b2 s2 r2 c2 f1 f2, .bool true]) ∧ Below u.heap.size u w')
    (LV : ∀ u, Below w.heap.size w u → Calls Tryd.prog 13 #[] u fun e w' => e = .returned (.bool true) ∧ Below u.heap.size u w') (hz : (T1.size : Int) = S.size) :
    Calls Tryd.prog 6 #[refV b s r c fr fc, .string S] w fun e w' => e = .returned (.bool true) ∧ Below w.heap.size w w' := by
  have NE := fun W => run_ne_ref b s r c fr fc W
  have NF := fun W => run_ne_ref b2 s2 r2 c2 f1 f2 W
  have GU := guard23
  go_enter Tryd.func6, Tryd.ntmps6
  go_wp2_with fail
  refine (GD _ (bel_alloc (Below.refl _ _) _)).mono ?_
  rintro e w1 ⟨rfl, hb⟩
  have HB1 : Hid (Below (w.alloc (refO b s r c fr fc)).heap.size (w.alloc (refO b s r c fr fc)) w1) := hb
  obtain ⟨q0, q1, q2, q3, q4, q5⟩ := r_cells (new1 HB1.out)
  clear hb GD
  go_wp2_with fail
  refine (PT _ (bel1 HB1.out)).mono ?_
  rintro e w2 ⟨rfl, hb⟩
  have HB2 : Hid (Below (w.alloc (refO b s r c fr fc)).heap.size (w.alloc (refO b s r c fr fc)) w2) := bel_step HB1.out hb
  clear hb PT q0 q1 q2 q3 q4 q5
  go_wp2_with fail
  refine (PR _ (bel1 HB2.out)).mono ?_
  rintro e w3 ⟨rfl, hb⟩
  have HB3 : Hid (Below (w.alloc (refO b s r c fr fc)).heap.size (w.alloc (refO b s r c fr fc)) (w3.alloc (refO b s r c fr fc))) := bel_alloc (bel_step HB2.out hb) _
  obtain ⟨q0, q1, q2, q3, q4, q5⟩ := r_cells (new1 HB3.out)
  obtain ⟨d0, d1, d2, d3, d4, d5⟩ := r_cells (heap_alloc_new w3 (refO b s r c fr fc))
  clear hb PR
  go_wp2_with fail
  refine (PS _ (bel1 HB3.out)).mono ?_
  rintro e w4 ⟨rfl, hb⟩
  have HB4 : Hid (Below w.heap.size w w4) := bel_step (bel1 HB3.out) hb
  clear hb PS q0 q1 q2 q3 q4 q5 d0 d1 d2 d3 d4 d5 HB3 HB2 HB1
  have z1 := heap_alloc_new w4 (refO b2 s2 r2 c2 f1 f2)
  obtain ⟨q0, q1, q2, q3, q4, q5⟩ := r_cells z1
  go_wp2_with fail
  refine (PX _ (bel_alloc HB4.out _)).mono ?_
  rintro e w5 ⟨rfl, hb⟩
  have HB5 : Hid (Below w.heap.size w w5) := bel_step (bel_alloc HB4.out _) hb
  have z2 := (hb.block _ (lt_of z1)).trans z1
  clear hb PX q0 q1 q2 q3 q4 q5 z1
  have Z2 : Hid (w5.heap[w4.heap.size]? = some (refO b2 s2 r2 c2 f1 f2)) := z2
  clear z2
  go_wp2_with fail
  refine (PY _ HB5.out).mono ?_
  rintro e w6 ⟨rfl, hb⟩
  have HB6 : Hid (Below w.heap.size w (w6.alloc (refO b2 s2 r2 c2 f1 f2))) := bel_alloc (bel_step HB5.out hb) _
  obtain ⟨q0, q1, q2, q3, q4, q5⟩ := r_cells (kept_new ((hb.block _ (lt_of Z2.out)).trans Z2.out) (refO b2 s2 r2 c2 f1 f2))
  obtain ⟨d0, d1, d2, d3, d4, d5⟩ := r_cells (heap_alloc_new w6 (refO b2 s2 r2 c2 f1 f2))
  clear hb PY Z2
  go_wp2_with fail
  refine (LV _ HB6.out).mono ?_
  rintro e w7 ⟨rfl, hb⟩
  have HB7 : Hid (Below w.heap.size w w7) := bel_step HB6.out hb
  clear hb
  go_wp2
  go_ret
  exact ⟨rfl, HB7.out⟩
set_option maxHeartbeats 4000000 in
theorem back_tf {b s S T0 : ByteArray} {r c : Int} {fr fc : Bool} {w : World}
    (GD : ∀ u, Below w.heap.size w u → Calls Tryd.prog 16 #[refV b s r c fr fc] u fun e w' => e = .returned (.bool true) ∧ Below u.heap.size u w')
    (PT : ∀ u, Below w.heap.size w u → Calls Tryd.prog 18 #[refV b s r c fr fc] u fun e w' => e = .returned (.string T0) ∧ Below u.heap.size u w')
    (PR : ∀ u, Below w.heap.size w u → Calls Tryd.prog 9 #[.string T0] u fun e w' => e = .returned (.tuple #[refV b s r c fr fc, .bool true]) ∧ Below u.heap.size u w')
    (PS : ∀ u, Below w.heap.size w u → Calls Tryd.prog 9 #[.string S] u fun e w' => e = .returned (.tuple #[ref0, .bool false]) ∧ Below u.heap.size u w')
    (LV : ∀ u, Below w.heap.size w u → Calls Tryd.prog 13 #[] u fun e w' => e = .returned (.bool true) ∧ Below u.heap.size u w') :
    Calls Tryd.prog 6 #[refV b s r c fr fc, .string S] w fun e w' => e = .returned (.bool true) ∧ Below w.heap.size w w' := by
  have NE := fun W => run_ne_ref b s r c fr fc W
  have GU := guard23
  go_enter Tryd.func6, Tryd.ntmps6
  go_wp2_with fail
  refine (GD _ (bel_alloc (Below.refl _ _) _)).mono ?_
  rintro e w1 ⟨rfl, hb⟩
  have HB1 : Hid (Below (w.alloc (refO b s r c fr fc)).heap.size (w.alloc (refO b s r c fr fc)) w1) := hb
  obtain ⟨q0, q1, q2, q3, q4, q5⟩ := r_cells (new1 HB1.out)
  clear hb GD
  go_wp2_with fail
  refine (PT _ (bel1 HB1.out)).mono ?_
  rintro e w2 ⟨rfl, hb⟩
  have HB2 : Hid (Below (w.alloc (refO b s r c fr fc)).heap.size (w.alloc (refO b s r c fr fc)) w2) := bel_step HB1.out hb
  clear hb PT q0 q1 q2 q3 q4 q5
  go_wp2_with fail
  refine (PR _ (bel1 HB2.out)).mono ?_
  rintro e w3 ⟨rfl, hb⟩
  have HB3 : Hid (Below (w.alloc (refO b s r c fr fc)).heap.size (w.alloc (refO b s r c fr fc)) (w3.alloc (refO b s r c fr fc))) := bel_alloc (bel_step HB2.out hb) _
  obtain ⟨q0, q1, q2, q3, q4, q5⟩ := r_cells (new1 HB3.out)
  obtain ⟨d0, d1, d2, d3, d4, d5⟩ := r_cells (heap_alloc_new w3 (refO b s r c fr fc))
  clear hb PR
  go_wp2_with fail
  refine (PS _ (bel1 HB3.out)).mono ?_
  rintro e w4 ⟨rfl, hb⟩
  have HB4 : Hid (Below w.heap.size w w4) := bel_step (bel1 HB3.out) hb
  clear hb PS q0 q1 q2 q3 q4 q5 d0 d1 d2 d3 d4 d5 HB3 HB2 HB1
  go_wp2_with fail
  refine (LV _ (bel_alloc HB4.out _)).mono ?_
  rintro e w5 ⟨rfl, hb⟩
  have HB5 : Hid (Below w.heap.size w w5) := bel_step (bel_alloc HB4.out _) hb
  clear hb
  go_wp2
  go_ret
  exact ⟨rfl, HB5.out⟩
set_option maxHeartbeats 4000000 in
theorem back_ft {b s S b2 s2 T1 : ByteArray} {r c r2 c2 : Int} {fr fc f1 f2 : Bool} {w : World}
    (GD : ∀ u, Below w.heap.size w u → Calls Tryd.prog 16 #[refV b s r c fr fc] u fun e w' => e = .returned (.bool false) ∧ Below u.heap.size u w')
    (PT : ∀ u, Below w.heap.size w u → Calls Tryd.prog 18 #[refV b s r c fr fc] u fun e w' => e = .returned (.string ⟨#[]⟩) ∧ Below u.heap.size u w')
    (PS : ∀ u, Below w.heap.size w u → Calls Tryd.prog 9 #[.string S] u fun e w' => e = .returned (.tuple #[refV b2 s2 r2 c2 f1 f2, .bool true]) ∧ Below u.heap.size u w')
    (PX : ∀ u, Below w.heap.size w u → Calls Tryd.prog 18 #[refV b2 s2 r2 c2 f1 f2] u fun e w' => e = .returned (.string T1) ∧ Below u.heap.size u w')
    (PY : ∀ u, Below w.heap.size w u → Calls Tryd.prog 9 #[.string T1] u fun e w' => e = .returned (.tuple #[refV b2 s2 r2 c2 f1 f2, .bool true]) ∧ Below u.heap.size u w')
    (LV : ∀ u, Below w.heap.size w u → Calls Tryd.prog 13 #[] u fun e w' => e = .returned (.bool true) ∧ Below u.heap.size u w') (hz : (T1.size : Int) = S.size) :
    Calls Tryd.prog 6 #[refV b s r c fr fc, .string S] w fun e w' => e = .returned (.bool true) ∧ Below w.heap.size w w' := by
  have NF := fun W => run_ne_ref b2 s2 r2 c2 f1 f2 W
  have GU := guard23
  go_enter Tryd.func6, Tryd.ntmps6
  go_wp2_with fail
  refine (GD _ (bel_alloc (Below.refl _ _) _)).mono ?_
  rintro e w1 ⟨rfl, hb⟩
  have HB1 : Hid (Below (w.alloc (refO b s r c fr fc)).heap.size (w.alloc (refO b s r c fr fc)) w1) := hb
  obtain ⟨q0, q1, q2, q3, q4, q5⟩ := r_cells (new1 HB1.out)
  clear hb GD
  go_wp2_with fail
  refine (PT _ (bel1 HB1.out)).mono ?_
  rintro e w2 ⟨rfl, hb⟩
  have HB2 : Hid (Below w.heap.size w w2) := bel_step (bel1 HB1.out) hb
  clear hb PT q0 q1 q2 q3 q4 q5
  go_wp2_with fail
  refine (PS _ HB2.out).mono ?_
  rintro e w4 ⟨rfl, hb⟩
  have HB4 : Hid (Below w.heap.size w w4) := bel_step HB2.out hb
  clear hb PS HB2 HB1
  have z1 := heap_alloc_new w4 (refO b2 s2 r2 c2 f1 f2)
  obtain ⟨q0, q1, q2, q3, q4, q5⟩ := r_cells z1
  go_wp2_with fail
  refine (PX _ (bel_alloc HB4.out _)).mono ?_
  rintro e w5 ⟨rfl, hb⟩
  have HB5 : Hid (Below w.heap.size w w5) := bel_step (bel_alloc HB4.out _) hb
  have z2 := (hb.block _ (lt_of z1)).trans z1
  clear hb PX q0 q1 q2 q3 q4 q5 z1
  have Z2 : Hid (w5.heap[w4.heap.size]? = some (refO b2 s2 r2 c2 f1 f2)) := z2
  clear z2
  go_wp2_with fail
  refine (PY _ HB5.out).mono ?_
  rintro e w6 ⟨rfl, hb⟩
  have HB6 : Hid (Below w.heap.size w (w6.alloc (refO b2 s2 r2 c2 f1 f2))) := bel_alloc (bel_step HB5.out hb) _
  obtain ⟨q0, q1, q2, q3, q4, q5⟩ := r_cells (kept_new ((hb.block _ (lt_of Z2.out)).trans Z2.out) (refO b2 s2 r2 c2 f1 f2))
  obtain ⟨d0, d1, d2, d3, d4, d5⟩ := r_cells (heap_alloc_new w6 (refO b2 s2 r2 c2 f1 f2))
  clear hb PY Z2
  go_wp2_with fail
  refine (LV _ HB6.out).mono ?_
  rintro e w7 ⟨rfl, hb⟩
  have HB7 : Hid (Below w.heap.size w w7) := bel_step HB6.out hb
  clear hb
  go_wp2
  go_ret
  exact ⟨rfl, HB7.out⟩
set_option maxHeartbeats 4000000 in
theorem back_ff {b s S : ByteArray} {r c : Int} {fr fc : Bool} {w : World}
    (GD : ∀ u, Below w.heap.size w u → Calls Tryd.prog 16 #[refV b s r c fr fc] u fun e w' => e = .returned (.bool false) ∧ Below u.heap.size u w')
    (PT : ∀ u, Below w.heap.size w u → Calls Tryd.prog 18 #[refV b s r c fr fc] u fun e w' => e = .returned (.string ⟨#[]⟩) ∧ Below u.heap.size u w')
    (PS : ∀ u, Below w.heap.size w u → Calls Tryd.prog 9 #[.string S] u fun e w' => e = .returned (.tuple #[ref0, .bool false]) ∧ Below u.heap.size u w')
    (LV : ∀ u, Below w.heap.size w u → Calls Tryd.prog 13 #[] u fun e w' => e = .returned (.bool true) ∧ Below u.heap.size u w') :
    Calls Tryd.prog 6 #[refV b s r c fr fc, .string S] w fun e w' => e = .returned (.bool true) ∧ Below w.heap.size w w' := by
  have GU := guard23
  go_enter Tryd.func6, Tryd.ntmps6
  go_wp2_with fail
  refine (GD _ (bel_alloc (Below.refl _ _) _)).mono ?_
  rintro e w1 ⟨rfl, hb⟩
  have HB1 : Hid (Below (w.alloc (refO b s r c fr fc)).heap.size (w.alloc (refO b s r c fr fc)) w1) := hb
  obtain ⟨q0, q1, q2, q3, q4, q5⟩ := r_cells (new1 HB1.out)
  clear hb GD
  go_wp2_with fail
  refine (PT _ (bel1 HB1.out)).mono ?_
  rintro e w2 ⟨rfl, hb⟩
  have HB2 : Hid (Below w.heap.size w w2) := bel_step (bel1 HB1.out) hb
  clear hb PT q0 q1 q2 q3 q4 q5
  go_wp2_with fail
  refine (PS _ HB2.out).mono ?_
  rintro e w4 ⟨rfl, hb⟩
  have HB4 : Hid (Below w.heap.size w w4) := bel_step HB2.out hb
  clear hb PS HB2 HB1
  go_wp2_with fail
  refine (LV _ (bel_alloc HB4.out _)).mono ?_
  rintro e w5 ⟨rfl, hb⟩
  have HB5 : Hid (Below w.heap.size w w5) := bel_step (bel_alloc HB4.out _) hb
  clear hb
  go_wp2
  go_ret
  exact ⟨rfl, HB5.out⟩
end Go.Proofs.YtjimgjohfpcnpaaDoor
