/- The walk of the law AddrParses. -/
import Derived.Test.YtjimgjohfpcnpaaDoorALives
import Derived.Test.YtjimgjohfpcnpaaDoorARParseRef2
namespace Go.Proofs.YtjimgjohfpcnpaaDoor
open Go.RowKit
set_option maxRecDepth 100000
set_option linter.unusedVariables false
set_option linter.unusedSimpArgs false
theorem cellR_form (o : Option Ad.Cell) : ∃ b s r c fr fc, cellR o = refV b s r c fr fc := by
  cases o with
  | none => exact ⟨_, _, _, _, _, _, rfl⟩
  | some c => exact ⟨_, _, _, _, _, _, rfl⟩
theorem refR_form (o : Option Ad.Ref) : ∃ b s r c fr fc, refR o = refV b s r c fr fc := by
  cases o with
  | none => exact ⟨_, _, _, _, _, _, rfl⟩
  | some c => exact ⟨_, _, _, _, _, _, rfl⟩
set_option maxHeartbeats 8000000 in
theorem parses_core {S b1 s1 b2 s2 : ByteArray} {r1 c1 r2 c2 : Int} {fr1 fc1 fr2 fc2 k1 k2 g : Bool} {w : World}
    (P1 : CB w 7 #[.string S] (.tuple #[refV b1 s1 r1 c1 fr1 fc1, .bool k1])) (P2 : CB w 8 #[.string S] (.tuple #[refV b1 s1 r1 c1 fr1 fc1, .bool k1]))
    (P3 : CB w 9 #[.string S] (.tuple #[refV b2 s2 r2 c2 fr2 fc2, .bool k2])) (P4 : CB w 10 #[.string S] (.tuple #[refV b2 s2 r2 c2 fr2 fc2, .bool k2]))
    (G1 : CB w 11 #[.string S] (.bool g)) (G2 : CB w 12 #[.string S] (.bool g)) (LV : CB w 13 #[] (.bool true)) :
    Calls Tryd.prog 3 #[.string S] w fun e w' => e = .returned (.bool true) ∧ Below w.heap.size w w' := by
  have E1 := fun V => run_eq_ref b1 s1 r1 c1 fr1 fc1 V
  have E2 := fun V => run_eq_ref b2 s2 r2 c2 fr2 fc2 V
  have GU := guard23
  go_enter Tryd.func3, Tryd.ntmps3
  go_wp2_with fail
  refine (P1 _ (Below.refl _ _)).mono ?_
  rintro e w1 ⟨rfl, hb⟩
  have HB1 : Hid (Below w.heap.size w (w1.alloc (refO b1 s1 r1 c1 fr1 fc1))) := bel_alloc hb _
  have Z1 : Hid ((w1.alloc (refO b1 s1 r1 c1 fr1 fc1)).heap[w1.heap.size]? = some (refO b1 s1 r1 c1 fr1 fc1)) := heap_alloc_new _ _
  clear hb P1
  go_wp2_with fail
  refine (P2 _ HB1.out).mono ?_
  rintro e w2 ⟨rfl, hb⟩
  have HB2 : Hid (Below w.heap.size w (w2.alloc (refO b1 s1 r1 c1 fr1 fc1))) := bel_alloc (bel_step HB1.out hb) _
  have Z2 : Hid ((w2.alloc (refO b1 s1 r1 c1 fr1 fc1)).heap[w2.heap.size]? = some (refO b1 s1 r1 c1 fr1 fc1)) := heap_alloc_new _ _
  replace Z1 : Hid ((w2.alloc (refO b1 s1 r1 c1 fr1 fc1)).heap[w1.heap.size]? = some (refO b1 s1 r1 c1 fr1 fc1)) := kept_new ((hb.block _ (lt_of Z1.out)).trans Z1.out) _
  clear hb P2 HB1
  go_wp2_with fail
  refine (P3 _ HB2.out).mono ?_
  rintro e w3 ⟨rfl, hb⟩
  have HB3 : Hid (Below w.heap.size w (w3.alloc (refO b2 s2 r2 c2 fr2 fc2))) := bel_alloc (bel_step HB2.out hb) _
  have Z3 : Hid ((w3.alloc (refO b2 s2 r2 c2 fr2 fc2)).heap[w3.heap.size]? = some (refO b2 s2 r2 c2 fr2 fc2)) := heap_alloc_new _ _
  replace Z1 : Hid ((w3.alloc (refO b2 s2 r2 c2 fr2 fc2)).heap[w1.heap.size]? = some (refO b1 s1 r1 c1 fr1 fc1)) := kept_new ((hb.block _ (lt_of Z1.out)).trans Z1.out) _
  replace Z2 : Hid ((w3.alloc (refO b2 s2 r2 c2 fr2 fc2)).heap[w2.heap.size]? = some (refO b1 s1 r1 c1 fr1 fc1)) := kept_new ((hb.block _ (lt_of Z2.out)).trans Z2.out) _
  clear hb P3 HB2
  go_wp2_with fail
  refine (P4 _ HB3.out).mono ?_
  rintro e w4 ⟨rfl, hb⟩
  have HB4 : Hid (Below w.heap.size w (w4.alloc (refO b2 s2 r2 c2 fr2 fc2))) := bel_alloc (bel_step HB3.out hb) _
  have Z4 : Hid ((w4.alloc (refO b2 s2 r2 c2 fr2 fc2)).heap[w4.heap.size]? = some (refO b2 s2 r2 c2 fr2 fc2)) := heap_alloc_new _ _
  replace Z1 : Hid ((w4.alloc (refO b2 s2 r2 c2 fr2 fc2)).heap[w1.heap.size]? = some (refO b1 s1 r1 c1 fr1 fc1)) := kept_new ((hb.block _ (lt_of Z1.out)).trans Z1.out) _
  replace Z2 : Hid ((w4.alloc (refO b2 s2 r2 c2 fr2 fc2)).heap[w2.heap.size]? = some (refO b1 s1 r1 c1 fr1 fc1)) := kept_new ((hb.block _ (lt_of Z2.out)).trans Z2.out) _
  replace Z3 : Hid ((w4.alloc (refO b2 s2 r2 c2 fr2 fc2)).heap[w3.heap.size]? = some (refO b2 s2 r2 c2 fr2 fc2)) := kept_new ((hb.block _ (lt_of Z3.out)).trans Z3.out) _
  clear hb P4 HB3
  go_wp2_with fail
  refine (G1 _ HB4.out).mono ?_
  rintro e w5 ⟨rfl, hb⟩
  have HB5 : Hid (Below w.heap.size w w5) := bel_step HB4.out hb
  replace Z1 : Hid (w5.heap[w1.heap.size]? = some (refO b1 s1 r1 c1 fr1 fc1)) := (hb.block _ (lt_of Z1.out)).trans Z1.out
  replace Z2 : Hid (w5.heap[w2.heap.size]? = some (refO b1 s1 r1 c1 fr1 fc1)) := (hb.block _ (lt_of Z2.out)).trans Z2.out
  replace Z3 : Hid (w5.heap[w3.heap.size]? = some (refO b2 s2 r2 c2 fr2 fc2)) := (hb.block _ (lt_of Z3.out)).trans Z3.out
  replace Z4 : Hid (w5.heap[w4.heap.size]? = some (refO b2 s2 r2 c2 fr2 fc2)) := (hb.block _ (lt_of Z4.out)).trans Z4.out
  clear hb G1 HB4
  go_wp2_with fail
  refine (G2 _ HB5.out).mono ?_
  rintro e w6 ⟨rfl, hb⟩
  have HB6 : Hid (Below w.heap.size w w6) := bel_step HB5.out hb
  obtain ⟨x0, x1, x2, x3, x4, x5⟩ := r_cells ((hb.block _ (lt_of Z1.out)).trans Z1.out)
  obtain ⟨y0, y1, y2, y3, y4, y5⟩ := r_cells ((hb.block _ (lt_of Z2.out)).trans Z2.out)
  obtain ⟨u0, u1, u2, u3, u4, u5⟩ := r_cells ((hb.block _ (lt_of Z3.out)).trans Z3.out)
  obtain ⟨v0, v1, v2, v3, v4, v5⟩ := r_cells ((hb.block _ (lt_of Z4.out)).trans Z4.out)
  clear hb G2 HB5 Z1 Z2 Z3 Z4
  go_wp2_with fail
  refine (LV _ HB6.out).mono ?_
  rintro e w7 ⟨rfl, hb⟩
  have HB7 : Hid (Below w.heap.size w w7) := bel_step HB6.out hb
  clear hb
  go_wp2
  go_ret
  exact ⟨rfl, HB7.out⟩
theorem parses_walk (S : ByteArray) (hS : S.size ≤ 140737488355328) (w : World) (T : Tab8 w) :
    Calls Tryd.prog 3 #[.string S] w fun e w' => e = .returned (.bool true) ∧ Below w.heap.size w w' := by
  have hl : S.data.toList.length ≤ 140737488355328 := by rw [size_list]; exact hS
  have P1 : CB w 7 #[.string S] _ := fun u hu => by have := parsecell_any S.data.toList hl u (T.below hu); rw [mk_list] at this; exact this
  have P2 : CB w 8 #[.string S] _ := fun u hu => by have := rparsecell_any S.data.toList hl u; rw [mk_list] at this; exact this
  have P3 : CB w 9 #[.string S] _ := fun u hu => by have := parseref_any S.data.toList hl u (T.below hu); rw [mk_list] at this; exact this
  have P4 : CB w 10 #[.string S] _ := fun u hu => by have := rparseref_any S.data.toList hl u; rw [mk_list] at this; exact this
  have G1 : CB w 11 #[.string S] _ := fun u hu => goodname_any S (by omega) u (T.below hu).t
  have G2 : CB w 12 #[.string S] _ := fun u hu => rgoodname_any S (by omega) u
  obtain ⟨b1, s1, r1, c1, fr1, fc1, e1⟩ := cellR_form (Ad.cellP S.data.toList)
  obtain ⟨b2, s2, r2, c2, fr2, fc2, e2⟩ := refR_form (Ad.refP gnF S.data.toList)
  rw [e1] at P1 P2
  rw [e2] at P3 P4
  exact parses_core P1 P2 P3 P4 G1 G2 fun u hu => lives_any u (T.below hu)
end Go.Proofs.YtjimgjohfpcnpaaDoor
