/- The walk of the law ValueTurns. -/
import Derived.Test.YtelpllilepkjmaaDoorTellsWalk
namespace Go.Proofs.YtelpllilepkjmaaDoor
open Go.RowKit
set_option maxRecDepth 100000
set_option linter.unusedVariables false
set_option linter.unusedSimpArgs false

set_option maxHeartbeats 2000000 in
theorem turns_not {k n : Int} {s : ByteArray} {w : World}
    (G : RC (w.alloc (.cells #[.int .i64 k, .int .i64 n, .string s] 23)) 15 #[.agg #[.int .i64 k, .int .i64 n, .string s]] (.bool false))
    (LV : RC (w.alloc (.cells #[.int .i64 k, .int .i64 n, .string s] 23)) 18 #[] (.bool true)) :
    Calls Tryd.prog 7 #[.agg #[.int .i64 k, .int .i64 n, .string s]] w fun e w' => e = .returned (.bool true) ∧ Below w.heap.size w w' := by
  have HB : Hid (Below (w.alloc (.cells #[.int .i64 k, .int .i64 n, .string s] 23)).heap.size (w.alloc (.cells #[.int .i64 k, .int .i64 n, .string s] 23)) (w.alloc (.cells #[.int .i64 k, .int .i64 n, .string s] 23))) := Below.refl _ _
  have BC : Hid (∀ u : World, Below (w.alloc (.cells #[.int .i64 k, .int .i64 n, .string s] 23)).heap.size (w.alloc (.cells #[.int .i64 k, .int .i64 n, .string s] 23)) u → u.cell? ⟨w.heap.size, 0, none⟩ = some (.int .i64 k) ∧ u.cell? ⟨w.heap.size, 1, none⟩ = some (.int .i64 n) ∧ u.cell? ⟨w.heap.size, 2, none⟩ = some (.string s)) := fun u hu => (boxcell hu).2
  go_enter Tryd.func7, Tryd.ntmps7
  go_wp2_with fail
  refine (G _ HB.out).mono ?_
  rintro e w1 ⟨rfl, hb⟩
  replace HB : Hid (Below (w.alloc (.cells #[.int .i64 k, .int .i64 n, .string s] 23)).heap.size (w.alloc (.cells #[.int .i64 k, .int .i64 n, .string s] 23)) w1) := hb
  clear hb
  obtain ⟨c0, c1, c2⟩ := BC.out _ HB.out
  go_wp2_with fail
  refine (LV _ HB.out).mono ?_
  rintro e w2 ⟨rfl, hb⟩
  replace HB : Hid (Below (w.alloc (.cells #[.int .i64 k, .int .i64 n, .string s] 23)).heap.size (w.alloc (.cells #[.int .i64 k, .int .i64 n, .string s] 23)) w2) := hb
  clear hb
  obtain ⟨c0, c1, c2⟩ := BC.out _ HB.out
  go_wp2
  go_ret
  exact ⟨rfl, bel1 HB.out⟩
set_option maxHeartbeats 2000000 in
theorem turns_bad {n : Int} {s : ByteArray} {w : World}
    (G : RC (w.alloc (.cells #[.int .i64 4, .int .i64 n, .string s] 23)) 15 #[.agg #[.int .i64 4, .int .i64 n, .string s]] (.bool true))
    (A : RC (w.alloc (.cells #[.int .i64 4, .int .i64 n, .string s] 23)) 8 #[.agg #[.int .i64 4, .int .i64 n, .string s]] (.tuple #[.int .i64 0, .int .i64 n]))
    (B : RC (w.alloc (.cells #[.int .i64 4, .int .i64 n, .string s] 23)) 10 #[.agg #[.int .i64 4, .int .i64 n, .string s]] (.tuple #[.string ⟨#[]⟩, .int .i64 n]))
    (C : RC (w.alloc (.cells #[.int .i64 4, .int .i64 n, .string s] 23)) 12 #[.agg #[.int .i64 4, .int .i64 n, .string s]] (.tuple #[.bool false, .int .i64 n]))
    (LV : RC (w.alloc (.cells #[.int .i64 4, .int .i64 n, .string s] 23)) 18 #[] (.bool true)) :
    Calls Tryd.prog 7 #[.agg #[.int .i64 4, .int .i64 n, .string s]] w fun e w' => e = .returned (.bool true) ∧ Below w.heap.size w w' := by
  have HB : Hid (Below (w.alloc (.cells #[.int .i64 4, .int .i64 n, .string s] 23)).heap.size (w.alloc (.cells #[.int .i64 4, .int .i64 n, .string s] 23)) (w.alloc (.cells #[.int .i64 4, .int .i64 n, .string s] 23))) := Below.refl _ _
  have BC : Hid (∀ u : World, Below (w.alloc (.cells #[.int .i64 4, .int .i64 n, .string s] 23)).heap.size (w.alloc (.cells #[.int .i64 4, .int .i64 n, .string s] 23)) u → u.cell? ⟨w.heap.size, 0, none⟩ = some (.int .i64 4) ∧ u.cell? ⟨w.heap.size, 1, none⟩ = some (.int .i64 n) ∧ u.cell? ⟨w.heap.size, 2, none⟩ = some (.string s)) := fun u hu => (boxcell hu).2
  go_enter Tryd.func7, Tryd.ntmps7
  go_wp2_with fail
  refine (G _ HB.out).mono ?_
  rintro e w1 ⟨rfl, hb⟩
  replace HB : Hid (Below (w.alloc (.cells #[.int .i64 4, .int .i64 n, .string s] 23)).heap.size (w.alloc (.cells #[.int .i64 4, .int .i64 n, .string s] 23)) w1) := hb
  clear hb
  obtain ⟨c0, c1, c2⟩ := BC.out _ HB.out
  go_wp2_with fail
  refine (A _ HB.out).mono ?_
  rintro e w2 ⟨rfl, hb⟩
  replace HB : Hid (Below (w.alloc (.cells #[.int .i64 4, .int .i64 n, .string s] 23)).heap.size (w.alloc (.cells #[.int .i64 4, .int .i64 n, .string s] 23)) w2) := hb
  clear hb
  obtain ⟨c0, c1, c2⟩ := BC.out _ HB.out
  go_wp2_with fail
  refine (B _ HB.out).mono ?_
  rintro e w3 ⟨rfl, hb⟩
  replace HB : Hid (Below (w.alloc (.cells #[.int .i64 4, .int .i64 n, .string s] 23)).heap.size (w.alloc (.cells #[.int .i64 4, .int .i64 n, .string s] 23)) w3) := hb
  clear hb
  obtain ⟨c0, c1, c2⟩ := BC.out _ HB.out
  go_wp2_with fail
  refine (C _ HB.out).mono ?_
  rintro e w4 ⟨rfl, hb⟩
  replace HB : Hid (Below (w.alloc (.cells #[.int .i64 4, .int .i64 n, .string s] 23)).heap.size (w.alloc (.cells #[.int .i64 4, .int .i64 n, .string s] 23)) w4) := hb
  clear hb
  obtain ⟨c0, c1, c2⟩ := BC.out _ HB.out
  go_wp2_with fail
  refine (LV _ HB.out).mono ?_
  rintro e w5 ⟨rfl, hb⟩
  replace HB : Hid (Below (w.alloc (.cells #[.int .i64 4, .int .i64 n, .string s] 23)).heap.size (w.alloc (.cells #[.int .i64 4, .int .i64 n, .string s] 23)) w5) := hb
  clear hb
  obtain ⟨c0, c1, c2⟩ := BC.out _ HB.out
  go_wp2
  go_ret
  exact ⟨rfl, bel1 HB.out⟩
set_option maxHeartbeats 2000000 in
theorem turns_num {n : Int} {s X : ByteArray} {w : World}
    (G : RC (w.alloc (.cells #[.int .i64 1, .int .i64 n, .string s] 23)) 15 #[.agg #[.int .i64 1, .int .i64 n, .string s]] (.bool true))
    (A : RC (w.alloc (.cells #[.int .i64 1, .int .i64 n, .string s] 23)) 8 #[.agg #[.int .i64 1, .int .i64 n, .string s]] (.tuple #[.int .i64 n, .int .i64 0]))
    (B : RC (w.alloc (.cells #[.int .i64 1, .int .i64 n, .string s] 23)) 10 #[.agg #[.int .i64 1, .int .i64 n, .string s]] (.tuple #[.string X, .int .i64 0]))
    (C : RC (w.alloc (.cells #[.int .i64 1, .int .i64 n, .string s] 23)) 12 #[.agg #[.int .i64 1, .int .i64 n, .string s]] (.tuple #[.bool (n != 0), .int .i64 0]))
    (S : RC (w.alloc (.cells #[.int .i64 1, .int .i64 n, .string s] 23)) 28 #[.string X] (.agg #[.int .i64 2, .int .i64 0, .string X]))
    (M : RC (w.alloc (.cells #[.int .i64 1, .int .i64 n, .string s] 23)) 8 #[.agg #[.int .i64 2, .int .i64 0, .string X]] (.tuple #[.int .i64 n, .int .i64 0]))
    (LV : RC (w.alloc (.cells #[.int .i64 1, .int .i64 n, .string s] 23)) 18 #[] (.bool true)) :
    Calls Tryd.prog 7 #[.agg #[.int .i64 1, .int .i64 n, .string s]] w fun e w' => e = .returned (.bool true) ∧ Below w.heap.size w w' := by
  have HB : Hid (Below (w.alloc (.cells #[.int .i64 1, .int .i64 n, .string s] 23)).heap.size (w.alloc (.cells #[.int .i64 1, .int .i64 n, .string s] 23)) (w.alloc (.cells #[.int .i64 1, .int .i64 n, .string s] 23))) := Below.refl _ _
  have BC : Hid (∀ u : World, Below (w.alloc (.cells #[.int .i64 1, .int .i64 n, .string s] 23)).heap.size (w.alloc (.cells #[.int .i64 1, .int .i64 n, .string s] 23)) u → u.cell? ⟨w.heap.size, 0, none⟩ = some (.int .i64 1) ∧ u.cell? ⟨w.heap.size, 1, none⟩ = some (.int .i64 n) ∧ u.cell? ⟨w.heap.size, 2, none⟩ = some (.string s)) := fun u hu => (boxcell hu).2
  go_enter Tryd.func7, Tryd.ntmps7
  go_wp2_with fail
  refine (G _ HB.out).mono ?_
  rintro e w1 ⟨rfl, hb⟩
  replace HB : Hid (Below (w.alloc (.cells #[.int .i64 1, .int .i64 n, .string s] 23)).heap.size (w.alloc (.cells #[.int .i64 1, .int .i64 n, .string s] 23)) w1) := hb
  clear hb
  obtain ⟨c0, c1, c2⟩ := BC.out _ HB.out
  go_wp2_with fail
  refine (A _ HB.out).mono ?_
  rintro e w2 ⟨rfl, hb⟩
  replace HB : Hid (Below (w.alloc (.cells #[.int .i64 1, .int .i64 n, .string s] 23)).heap.size (w.alloc (.cells #[.int .i64 1, .int .i64 n, .string s] 23)) w2) := hb
  clear hb
  obtain ⟨c0, c1, c2⟩ := BC.out _ HB.out
  go_wp2_with fail
  refine (B _ HB.out).mono ?_
  rintro e w3 ⟨rfl, hb⟩
  replace HB : Hid (Below (w.alloc (.cells #[.int .i64 1, .int .i64 n, .string s] 23)).heap.size (w.alloc (.cells #[.int .i64 1, .int .i64 n, .string s] 23)) w3) := hb
  clear hb
  obtain ⟨c0, c1, c2⟩ := BC.out _ HB.out
  go_wp2_with fail
  refine (C _ HB.out).mono ?_
  rintro e w4 ⟨rfl, hb⟩
  replace HB : Hid (Below (w.alloc (.cells #[.int .i64 1, .int .i64 n, .string s] 23)).heap.size (w.alloc (.cells #[.int .i64 1, .int .i64 n, .string s] 23)) w4) := hb
  clear hb
  obtain ⟨c0, c1, c2⟩ := BC.out _ HB.out
  go_wp2_with fail
  refine (S _ HB.out).mono ?_
  rintro e w5 ⟨rfl, hb⟩
  replace HB : Hid (Below (w.alloc (.cells #[.int .i64 1, .int .i64 n, .string s] 23)).heap.size (w.alloc (.cells #[.int .i64 1, .int .i64 n, .string s] 23)) w5) := hb
  clear hb
  obtain ⟨c0, c1, c2⟩ := BC.out _ HB.out
  go_wp2_with fail
  refine (M _ HB.out).mono ?_
  rintro e w6 ⟨rfl, hb⟩
  replace HB : Hid (Below (w.alloc (.cells #[.int .i64 1, .int .i64 n, .string s] 23)).heap.size (w.alloc (.cells #[.int .i64 1, .int .i64 n, .string s] 23)) w6) := hb
  clear hb
  obtain ⟨c0, c1, c2⟩ := BC.out _ HB.out
  go_wp2_with fail
  refine (LV _ HB.out).mono ?_
  rintro e w7 ⟨rfl, hb⟩
  replace HB : Hid (Below (w.alloc (.cells #[.int .i64 1, .int .i64 n, .string s] 23)).heap.size (w.alloc (.cells #[.int .i64 1, .int .i64 n, .string s] 23)) w7) := hb
  clear hb
  obtain ⟨c0, c1, c2⟩ := BC.out _ HB.out
  go_wp2
  go_ret
  exact ⟨rfl, bel1 HB.out⟩
set_option maxHeartbeats 2000000 in
theorem turns_bool_no {s X : ByteArray} {w : World}
    (G : RC (w.alloc (.cells #[.int .i64 3, .int .i64 0, .string s] 23)) 15 #[.agg #[.int .i64 3, .int .i64 0, .string s]] (.bool true))
    (A : RC (w.alloc (.cells #[.int .i64 3, .int .i64 0, .string s] 23)) 8 #[.agg #[.int .i64 3, .int .i64 0, .string s]] (.tuple #[.int .i64 0, .int .i64 0]))
    (B : RC (w.alloc (.cells #[.int .i64 3, .int .i64 0, .string s] 23)) 10 #[.agg #[.int .i64 3, .int .i64 0, .string s]] (.tuple #[.string X, .int .i64 0]))
    (C : RC (w.alloc (.cells #[.int .i64 3, .int .i64 0, .string s] 23)) 12 #[.agg #[.int .i64 3, .int .i64 0, .string s]] (.tuple #[.bool false, .int .i64 0]))
    (LV : RC (w.alloc (.cells #[.int .i64 3, .int .i64 0, .string s] 23)) 18 #[] (.bool true)) :
    Calls Tryd.prog 7 #[.agg #[.int .i64 3, .int .i64 0, .string s]] w fun e w' => e = .returned (.bool true) ∧ Below w.heap.size w w' := by
  have HB : Hid (Below (w.alloc (.cells #[.int .i64 3, .int .i64 0, .string s] 23)).heap.size (w.alloc (.cells #[.int .i64 3, .int .i64 0, .string s] 23)) (w.alloc (.cells #[.int .i64 3, .int .i64 0, .string s] 23))) := Below.refl _ _
  have BC : Hid (∀ u : World, Below (w.alloc (.cells #[.int .i64 3, .int .i64 0, .string s] 23)).heap.size (w.alloc (.cells #[.int .i64 3, .int .i64 0, .string s] 23)) u → u.cell? ⟨w.heap.size, 0, none⟩ = some (.int .i64 3) ∧ u.cell? ⟨w.heap.size, 1, none⟩ = some (.int .i64 0) ∧ u.cell? ⟨w.heap.size, 2, none⟩ = some (.string s)) := fun u hu => (boxcell hu).2
  go_enter Tryd.func7, Tryd.ntmps7
  go_wp2_with fail
  refine (G _ HB.out).mono ?_
  rintro e w1 ⟨rfl, hb⟩
  replace HB : Hid (Below (w.alloc (.cells #[.int .i64 3, .int .i64 0, .string s] 23)).heap.size (w.alloc (.cells #[.int .i64 3, .int .i64 0, .string s] 23)) w1) := hb
  clear hb
  obtain ⟨c0, c1, c2⟩ := BC.out _ HB.out
  go_wp2_with fail
  refine (A _ HB.out).mono ?_
  rintro e w2 ⟨rfl, hb⟩
  replace HB : Hid (Below (w.alloc (.cells #[.int .i64 3, .int .i64 0, .string s] 23)).heap.size (w.alloc (.cells #[.int .i64 3, .int .i64 0, .string s] 23)) w2) := hb
  clear hb
  obtain ⟨c0, c1, c2⟩ := BC.out _ HB.out
  go_wp2_with fail
  refine (B _ HB.out).mono ?_
  rintro e w3 ⟨rfl, hb⟩
  replace HB : Hid (Below (w.alloc (.cells #[.int .i64 3, .int .i64 0, .string s] 23)).heap.size (w.alloc (.cells #[.int .i64 3, .int .i64 0, .string s] 23)) w3) := hb
  clear hb
  obtain ⟨c0, c1, c2⟩ := BC.out _ HB.out
  go_wp2_with fail
  refine (C _ HB.out).mono ?_
  rintro e w4 ⟨rfl, hb⟩
  replace HB : Hid (Below (w.alloc (.cells #[.int .i64 3, .int .i64 0, .string s] 23)).heap.size (w.alloc (.cells #[.int .i64 3, .int .i64 0, .string s] 23)) w4) := hb
  clear hb
  obtain ⟨c0, c1, c2⟩ := BC.out _ HB.out
  go_wp2_with fail
  refine (LV _ HB.out).mono ?_
  rintro e w5 ⟨rfl, hb⟩
  replace HB : Hid (Below (w.alloc (.cells #[.int .i64 3, .int .i64 0, .string s] 23)).heap.size (w.alloc (.cells #[.int .i64 3, .int .i64 0, .string s] 23)) w5) := hb
  clear hb
  obtain ⟨c0, c1, c2⟩ := BC.out _ HB.out
  go_wp2
  go_ret
  exact ⟨rfl, bel1 HB.out⟩
set_option maxHeartbeats 2000000 in
theorem turns_bool_yes {s X : ByteArray} {w : World}
    (G : RC (w.alloc (.cells #[.int .i64 3, .int .i64 1, .string s] 23)) 15 #[.agg #[.int .i64 3, .int .i64 1, .string s]] (.bool true))
    (A : RC (w.alloc (.cells #[.int .i64 3, .int .i64 1, .string s] 23)) 8 #[.agg #[.int .i64 3, .int .i64 1, .string s]] (.tuple #[.int .i64 10000, .int .i64 0]))
    (B : RC (w.alloc (.cells #[.int .i64 3, .int .i64 1, .string s] 23)) 10 #[.agg #[.int .i64 3, .int .i64 1, .string s]] (.tuple #[.string X, .int .i64 0]))
    (C : RC (w.alloc (.cells #[.int .i64 3, .int .i64 1, .string s] 23)) 12 #[.agg #[.int .i64 3, .int .i64 1, .string s]] (.tuple #[.bool true, .int .i64 0]))
    (LV : RC (w.alloc (.cells #[.int .i64 3, .int .i64 1, .string s] 23)) 18 #[] (.bool true)) :
    Calls Tryd.prog 7 #[.agg #[.int .i64 3, .int .i64 1, .string s]] w fun e w' => e = .returned (.bool true) ∧ Below w.heap.size w w' := by
  have HB : Hid (Below (w.alloc (.cells #[.int .i64 3, .int .i64 1, .string s] 23)).heap.size (w.alloc (.cells #[.int .i64 3, .int .i64 1, .string s] 23)) (w.alloc (.cells #[.int .i64 3, .int .i64 1, .string s] 23))) := Below.refl _ _
  have BC : Hid (∀ u : World, Below (w.alloc (.cells #[.int .i64 3, .int .i64 1, .string s] 23)).heap.size (w.alloc (.cells #[.int .i64 3, .int .i64 1, .string s] 23)) u → u.cell? ⟨w.heap.size, 0, none⟩ = some (.int .i64 3) ∧ u.cell? ⟨w.heap.size, 1, none⟩ = some (.int .i64 1) ∧ u.cell? ⟨w.heap.size, 2, none⟩ = some (.string s)) := fun u hu => (boxcell hu).2
  go_enter Tryd.func7, Tryd.ntmps7
  go_wp2_with fail
  refine (G _ HB.out).mono ?_
  rintro e w1 ⟨rfl, hb⟩
  replace HB : Hid (Below (w.alloc (.cells #[.int .i64 3, .int .i64 1, .string s] 23)).heap.size (w.alloc (.cells #[.int .i64 3, .int .i64 1, .string s] 23)) w1) := hb
  clear hb
  obtain ⟨c0, c1, c2⟩ := BC.out _ HB.out
  go_wp2_with fail
  refine (A _ HB.out).mono ?_
  rintro e w2 ⟨rfl, hb⟩
  replace HB : Hid (Below (w.alloc (.cells #[.int .i64 3, .int .i64 1, .string s] 23)).heap.size (w.alloc (.cells #[.int .i64 3, .int .i64 1, .string s] 23)) w2) := hb
  clear hb
  obtain ⟨c0, c1, c2⟩ := BC.out _ HB.out
  go_wp2_with fail
  refine (B _ HB.out).mono ?_
  rintro e w3 ⟨rfl, hb⟩
  replace HB : Hid (Below (w.alloc (.cells #[.int .i64 3, .int .i64 1, .string s] 23)).heap.size (w.alloc (.cells #[.int .i64 3, .int .i64 1, .string s] 23)) w3) := hb
  clear hb
  obtain ⟨c0, c1, c2⟩ := BC.out _ HB.out
  go_wp2_with fail
  refine (C _ HB.out).mono ?_
  rintro e w4 ⟨rfl, hb⟩
  replace HB : Hid (Below (w.alloc (.cells #[.int .i64 3, .int .i64 1, .string s] 23)).heap.size (w.alloc (.cells #[.int .i64 3, .int .i64 1, .string s] 23)) w4) := hb
  clear hb
  obtain ⟨c0, c1, c2⟩ := BC.out _ HB.out
  go_wp2_with fail
  refine (LV _ HB.out).mono ?_
  rintro e w5 ⟨rfl, hb⟩
  replace HB : Hid (Below (w.alloc (.cells #[.int .i64 3, .int .i64 1, .string s] 23)).heap.size (w.alloc (.cells #[.int .i64 3, .int .i64 1, .string s] 23)) w5) := hb
  clear hb
  obtain ⟨c0, c1, c2⟩ := BC.out _ HB.out
  go_wp2
  go_ret
  exact ⟨rfl, bel1 HB.out⟩
set_option maxHeartbeats 2000000 in
theorem turns_blank {n a b g : Int} {s : ByteArray} {x : Bool} {w : World}
    (G : RC (w.alloc (.cells #[.int .i64 0, .int .i64 n, .string s] 23)) 15 #[.agg #[.int .i64 0, .int .i64 n, .string s]] (.bool true))
    (A : RC (w.alloc (.cells #[.int .i64 0, .int .i64 n, .string s] 23)) 8 #[.agg #[.int .i64 0, .int .i64 n, .string s]] (.tuple #[.int .i64 a, .int .i64 b]))
    (B : RC (w.alloc (.cells #[.int .i64 0, .int .i64 n, .string s] 23)) 10 #[.agg #[.int .i64 0, .int .i64 n, .string s]] (.tuple #[.string s, .int .i64 0]))
    (C : RC (w.alloc (.cells #[.int .i64 0, .int .i64 n, .string s] 23)) 12 #[.agg #[.int .i64 0, .int .i64 n, .string s]] (.tuple #[.bool x, .int .i64 g]))
    (LV : RC (w.alloc (.cells #[.int .i64 0, .int .i64 n, .string s] 23)) 18 #[] (.bool true)) :
    Calls Tryd.prog 7 #[.agg #[.int .i64 0, .int .i64 n, .string s]] w fun e w' => e = .returned (.bool true) ∧ Below w.heap.size w w' := by
  have HB : Hid (Below (w.alloc (.cells #[.int .i64 0, .int .i64 n, .string s] 23)).heap.size (w.alloc (.cells #[.int .i64 0, .int .i64 n, .string s] 23)) (w.alloc (.cells #[.int .i64 0, .int .i64 n, .string s] 23))) := Below.refl _ _
  have BC : Hid (∀ u : World, Below (w.alloc (.cells #[.int .i64 0, .int .i64 n, .string s] 23)).heap.size (w.alloc (.cells #[.int .i64 0, .int .i64 n, .string s] 23)) u → u.cell? ⟨w.heap.size, 0, none⟩ = some (.int .i64 0) ∧ u.cell? ⟨w.heap.size, 1, none⟩ = some (.int .i64 n) ∧ u.cell? ⟨w.heap.size, 2, none⟩ = some (.string s)) := fun u hu => (boxcell hu).2
  go_enter Tryd.func7, Tryd.ntmps7
  go_wp2_with fail
  refine (G _ HB.out).mono ?_
  rintro e w1 ⟨rfl, hb⟩
  replace HB : Hid (Below (w.alloc (.cells #[.int .i64 0, .int .i64 n, .string s] 23)).heap.size (w.alloc (.cells #[.int .i64 0, .int .i64 n, .string s] 23)) w1) := hb
  clear hb
  obtain ⟨c0, c1, c2⟩ := BC.out _ HB.out
  go_wp2_with fail
  refine (A _ HB.out).mono ?_
  rintro e w2 ⟨rfl, hb⟩
  replace HB : Hid (Below (w.alloc (.cells #[.int .i64 0, .int .i64 n, .string s] 23)).heap.size (w.alloc (.cells #[.int .i64 0, .int .i64 n, .string s] 23)) w2) := hb
  clear hb
  obtain ⟨c0, c1, c2⟩ := BC.out _ HB.out
  go_wp2_with fail
  refine (B _ HB.out).mono ?_
  rintro e w3 ⟨rfl, hb⟩
  replace HB : Hid (Below (w.alloc (.cells #[.int .i64 0, .int .i64 n, .string s] 23)).heap.size (w.alloc (.cells #[.int .i64 0, .int .i64 n, .string s] 23)) w3) := hb
  clear hb
  obtain ⟨c0, c1, c2⟩ := BC.out _ HB.out
  go_wp2_with fail
  refine (C _ HB.out).mono ?_
  rintro e w4 ⟨rfl, hb⟩
  replace HB : Hid (Below (w.alloc (.cells #[.int .i64 0, .int .i64 n, .string s] 23)).heap.size (w.alloc (.cells #[.int .i64 0, .int .i64 n, .string s] 23)) w4) := hb
  clear hb
  obtain ⟨c0, c1, c2⟩ := BC.out _ HB.out
  go_wp2_with fail
  refine (LV _ HB.out).mono ?_
  rintro e w5 ⟨rfl, hb⟩
  replace HB : Hid (Below (w.alloc (.cells #[.int .i64 0, .int .i64 n, .string s] 23)).heap.size (w.alloc (.cells #[.int .i64 0, .int .i64 n, .string s] 23)) w5) := hb
  clear hb
  obtain ⟨c0, c1, c2⟩ := BC.out _ HB.out
  go_wp2
  go_ret
  exact ⟨rfl, bel1 HB.out⟩
set_option maxHeartbeats 2000000 in
theorem turns_str {n a b g : Int} {s : ByteArray} {x : Bool} {w : World}
    (G : RC (w.alloc (.cells #[.int .i64 2, .int .i64 n, .string s] 23)) 15 #[.agg #[.int .i64 2, .int .i64 n, .string s]] (.bool true))
    (A : RC (w.alloc (.cells #[.int .i64 2, .int .i64 n, .string s] 23)) 8 #[.agg #[.int .i64 2, .int .i64 n, .string s]] (.tuple #[.int .i64 a, .int .i64 b]))
    (B : RC (w.alloc (.cells #[.int .i64 2, .int .i64 n, .string s] 23)) 10 #[.agg #[.int .i64 2, .int .i64 n, .string s]] (.tuple #[.string s, .int .i64 0]))
    (C : RC (w.alloc (.cells #[.int .i64 2, .int .i64 n, .string s] 23)) 12 #[.agg #[.int .i64 2, .int .i64 n, .string s]] (.tuple #[.bool x, .int .i64 g]))
    (LV : RC (w.alloc (.cells #[.int .i64 2, .int .i64 n, .string s] 23)) 18 #[] (.bool true)) :
    Calls Tryd.prog 7 #[.agg #[.int .i64 2, .int .i64 n, .string s]] w fun e w' => e = .returned (.bool true) ∧ Below w.heap.size w w' := by
  have HB : Hid (Below (w.alloc (.cells #[.int .i64 2, .int .i64 n, .string s] 23)).heap.size (w.alloc (.cells #[.int .i64 2, .int .i64 n, .string s] 23)) (w.alloc (.cells #[.int .i64 2, .int .i64 n, .string s] 23))) := Below.refl _ _
  have BC : Hid (∀ u : World, Below (w.alloc (.cells #[.int .i64 2, .int .i64 n, .string s] 23)).heap.size (w.alloc (.cells #[.int .i64 2, .int .i64 n, .string s] 23)) u → u.cell? ⟨w.heap.size, 0, none⟩ = some (.int .i64 2) ∧ u.cell? ⟨w.heap.size, 1, none⟩ = some (.int .i64 n) ∧ u.cell? ⟨w.heap.size, 2, none⟩ = some (.string s)) := fun u hu => (boxcell hu).2
  go_enter Tryd.func7, Tryd.ntmps7
  go_wp2_with fail
  refine (G _ HB.out).mono ?_
  rintro e w1 ⟨rfl, hb⟩
  replace HB : Hid (Below (w.alloc (.cells #[.int .i64 2, .int .i64 n, .string s] 23)).heap.size (w.alloc (.cells #[.int .i64 2, .int .i64 n, .string s] 23)) w1) := hb
  clear hb
  obtain ⟨c0, c1, c2⟩ := BC.out _ HB.out
  go_wp2_with fail
  refine (A _ HB.out).mono ?_
  rintro e w2 ⟨rfl, hb⟩
  replace HB : Hid (Below (w.alloc (.cells #[.int .i64 2, .int .i64 n, .string s] 23)).heap.size (w.alloc (.cells #[.int .i64 2, .int .i64 n, .string s] 23)) w2) := hb
  clear hb
  obtain ⟨c0, c1, c2⟩ := BC.out _ HB.out
  go_wp2_with fail
  refine (B _ HB.out).mono ?_
  rintro e w3 ⟨rfl, hb⟩
  replace HB : Hid (Below (w.alloc (.cells #[.int .i64 2, .int .i64 n, .string s] 23)).heap.size (w.alloc (.cells #[.int .i64 2, .int .i64 n, .string s] 23)) w3) := hb
  clear hb
  obtain ⟨c0, c1, c2⟩ := BC.out _ HB.out
  go_wp2_with fail
  refine (C _ HB.out).mono ?_
  rintro e w4 ⟨rfl, hb⟩
  replace HB : Hid (Below (w.alloc (.cells #[.int .i64 2, .int .i64 n, .string s] 23)).heap.size (w.alloc (.cells #[.int .i64 2, .int .i64 n, .string s] 23)) w4) := hb
  clear hb
  obtain ⟨c0, c1, c2⟩ := BC.out _ HB.out
  go_wp2_with fail
  refine (LV _ HB.out).mono ?_
  rintro e w5 ⟨rfl, hb⟩
  replace HB : Hid (Below (w.alloc (.cells #[.int .i64 2, .int .i64 n, .string s] 23)).heap.size (w.alloc (.cells #[.int .i64 2, .int .i64 n, .string s] 23)) w5) := hb
  clear hb
  obtain ⟨c0, c1, c2⟩ := BC.out _ HB.out
  go_wp2
  go_ret
  exact ⟨rfl, bel1 HB.out⟩
theorem em_nil {s : ByteArray} (h : emB s = true) : s = ⟨#[]⟩ := by
  have h1 : s.toList = [] := by simpa [emB] using h
  rw [ByteArray.toList_eq] at h1
  exact Go.WideShapes.bytes_inj h1
theorem print_len (n : Int) (h : gd n = true) : (printF n).length ≤ 20 := by
  rw [gd_iff] at h
  have l1 := (dec_len 8 (n.natAbs / 10000) (by decide) (by omega)).2
  have tl := tail_len (n.natAbs % 10000) (by omega)
  unfold printF
  simp only [List.length_append]
  by_cases h1 : n < 0 <;> by_cases h2 : n.natAbs % 10000 = 0 <;> simp [h1, h2] <;> omega
theorem turns_walk (k n : Int) (s : ByteArray) (hn : In64 n) (hs : s.size ≤ 9223372036854775807) (w : World) (T : Tabs w) :
    Calls Tryd.prog 7 #[val k n s] w fun e w' => e = .returned (.bool true) ∧ Below w.heap.size w w' := by
  have TW : ∀ u, Below (w.alloc (.cells #[.int .i64 k, .int .i64 n, .string s] 23)).heap.size (w.alloc (.cells #[.int .i64 k, .int .i64 n, .string s] 23)) u → Tabs u := fun u hu => T.below (bel1 hu)
  have LV : RC (w.alloc (.cells #[.int .i64 k, .int .i64 n, .string s] 23)) 18 #[] (.bool true) := RC.of fun u hu => lives_any u (TW u hu)
  have G : RC (w.alloc (.cells #[.int .i64 k, .int .i64 n, .string s] 23)) 15 #[val k n s] _ := RC.of fun u _ => rvgood_any k n s u
  have A : RC (w.alloc (.cells #[.int .i64 k, .int .i64 n, .string s] 23)) 8 #[val k n s] _ := RC.of fun u _ => tonum_any k n s hs u
  have B : RC (w.alloc (.cells #[.int .i64 k, .int .i64 n, .string s] 23)) 10 #[val k n s] _ := RC.of fun u hu => totext_any k n s hn u (TW u hu)
  have C : RC (w.alloc (.cells #[.int .i64 k, .int .i64 n, .string s] 23)) 12 #[val k n s] _ := RC.of fun u _ => tobool_any k n s hs u
  by_cases hg : goodF k n s = true
  · rw [hg] at G
    rcases k_cases k with rfl | rfl | rfl | rfl | rfl | ⟨h0, h1, h2, h3, h4⟩
    · have he : emB s = true := by simp [goodF] at hg; exact hg.2
      obtain rfl := em_nil he
      exact turns_blank G A B C LV
    · have hgn : gd n = true := by simp [goodF] at hg; exact hg.2
      have hl := print_len n hgn
      have S : RC (w.alloc (.cells #[.int .i64 1, .int .i64 n, .string s] 23)) 28 #[.string ⟨(printF n).toArray⟩] _ := RC.of fun u _ => str_any ⟨(printF n).toArray⟩ u
      have M : RC (w.alloc (.cells #[.int .i64 1, .int .i64 n, .string s] 23)) 8 #[val 2 0 ⟨(printF n).toArray⟩] _ := RC.of fun u _ => tonum_any 2 0 ⟨(printF n).toArray⟩ (by rw [size_mk]; omega) u
      have hb : lenB ⟨(printF n).toArray⟩ = true := by unfold lenB; rw [size_mk]; simp; omega
      rw [hb, if_pos rfl] at S
      have hp : tonumF 2 0 ⟨(printF n).toArray⟩ = (n, 0) := by
        show (if (parseF (printF n)).2 = true then (parseF (printF n)).1 else 0, if (parseF (printF n)).2 = true then (0 : Int) else 2) = _
        rw [parse_print n ((gd_iff n).1 hgn)]
        rfl
      rw [hp] at M
      exact turns_num G A B C S M LV
    · exact turns_str G A B C LV
    · have h01 : n = 0 ∨ n = 1 := by simp [goodF] at hg; exact hg.2
      rcases h01 with rfl | rfl
      · exact turns_bool_no G A B C LV
      · exact turns_bool_yes G A B C LV
    · exact turns_bad G A B C LV
    · simp [goodF, h0, h1, h2, h3, h4] at hg
  · rw [Bool.not_eq_true] at hg
    rw [hg] at G
    exact turns_not G LV

end Go.Proofs.YtelpllilepkjmaaDoor
