/- The walk of the law ValueTells. -/
import Derived.Test.YtelpllilepkjmaaDoorVLives
namespace Go.Proofs.YtelpllilepkjmaaDoor
open Go.RowKit
set_option maxRecDepth 100000
set_option linter.unusedVariables false
set_option linter.unusedSimpArgs false
/-- A call behind a world, whatever came between. -/
def RC (W : World) (f : Nat) (args : Array Value) (r : Value) : Prop := ∀ u, Below W.heap.size W u → Calls Tryd.prog f args u fun e w' => e = .returned r ∧ Below W.heap.size W w'
theorem RC.of {W : World} {f : Nat} {args : Array Value} {r : Value} (h : ∀ u, Below W.heap.size W u → Calls Tryd.prog f args u fun e w' => e = .returned r ∧ Below u.heap.size u w') : RC W f args r := fun u hu =>
  (h u hu).mono fun _ _ ⟨h1, h2⟩ => ⟨h1, bel_step hu h2⟩

set_option maxHeartbeats 4000000 in
theorem tells_core {k n a b d g : Int} {s X Y : ByteArray} {x G : Bool} {w : World}
    (A1 : RC (w.alloc (.cells #[.int .i64 k, .int .i64 n, .string s] 23)) 8 #[.agg #[.int .i64 k, .int .i64 n, .string s]] (.tuple #[.int .i64 a, .int .i64 b]))
    (A2 : RC (w.alloc (.cells #[.int .i64 k, .int .i64 n, .string s] 23)) 9 #[.agg #[.int .i64 k, .int .i64 n, .string s]] (.tuple #[.int .i64 a, .int .i64 b]))
    (B1 : RC (w.alloc (.cells #[.int .i64 k, .int .i64 n, .string s] 23)) 10 #[.agg #[.int .i64 k, .int .i64 n, .string s]] (.tuple #[.string X, .int .i64 d]))
    (B2 : RC (w.alloc (.cells #[.int .i64 k, .int .i64 n, .string s] 23)) 11 #[.agg #[.int .i64 k, .int .i64 n, .string s]] (.tuple #[.string X, .int .i64 d]))
    (C1 : RC (w.alloc (.cells #[.int .i64 k, .int .i64 n, .string s] 23)) 12 #[.agg #[.int .i64 k, .int .i64 n, .string s]] (.tuple #[.bool x, .int .i64 g]))
    (C2 : RC (w.alloc (.cells #[.int .i64 k, .int .i64 n, .string s] 23)) 13 #[.agg #[.int .i64 k, .int .i64 n, .string s]] (.tuple #[.bool x, .int .i64 g]))
    (G1 : RC (w.alloc (.cells #[.int .i64 k, .int .i64 n, .string s] 23)) 14 #[.agg #[.int .i64 k, .int .i64 n, .string s]] (.bool G))
    (G2 : RC (w.alloc (.cells #[.int .i64 k, .int .i64 n, .string s] 23)) 15 #[.agg #[.int .i64 k, .int .i64 n, .string s]] (.bool G))
    (T1 : RC (w.alloc (.cells #[.int .i64 k, .int .i64 n, .string s] 23)) 16 #[.agg #[.int .i64 k, .int .i64 n, .string s]] (.string Y))
    (T2 : RC (w.alloc (.cells #[.int .i64 k, .int .i64 n, .string s] 23)) 17 #[.agg #[.int .i64 k, .int .i64 n, .string s]] (.string Y))
    (LV : RC (w.alloc (.cells #[.int .i64 k, .int .i64 n, .string s] 23)) 18 #[] (.bool true)) :
    Calls Tryd.prog 3 #[.agg #[.int .i64 k, .int .i64 n, .string s]] w fun e w' => e = .returned (.bool true) ∧ Below w.heap.size w w' := by
  have HB : Hid (Below (w.alloc (.cells #[.int .i64 k, .int .i64 n, .string s] 23)).heap.size (w.alloc (.cells #[.int .i64 k, .int .i64 n, .string s] 23)) (w.alloc (.cells #[.int .i64 k, .int .i64 n, .string s] 23))) := Below.refl _ _
  have BC : Hid (∀ u : World, Below (w.alloc (.cells #[.int .i64 k, .int .i64 n, .string s] 23)).heap.size (w.alloc (.cells #[.int .i64 k, .int .i64 n, .string s] 23)) u → u.cell? ⟨w.heap.size, 0, none⟩ = some (.int .i64 k) ∧ u.cell? ⟨w.heap.size, 1, none⟩ = some (.int .i64 n) ∧ u.cell? ⟨w.heap.size, 2, none⟩ = some (.string s)) := fun u hu => (boxcell hu).2
  go_enter Tryd.func3, Tryd.ntmps3
  go_wp2_with fail
  refine (A1 _ HB.out).mono ?_
  rintro e w1 ⟨rfl, hb⟩
  replace HB : Hid (Below (w.alloc (.cells #[.int .i64 k, .int .i64 n, .string s] 23)).heap.size (w.alloc (.cells #[.int .i64 k, .int .i64 n, .string s] 23)) w1) := hb
  clear hb
  obtain ⟨c0, c1, c2⟩ := BC.out _ HB.out
  go_wp2_with fail
  refine (A2 _ HB.out).mono ?_
  rintro e w2 ⟨rfl, hb⟩
  replace HB : Hid (Below (w.alloc (.cells #[.int .i64 k, .int .i64 n, .string s] 23)).heap.size (w.alloc (.cells #[.int .i64 k, .int .i64 n, .string s] 23)) w2) := hb
  clear hb
  obtain ⟨c0, c1, c2⟩ := BC.out _ HB.out
  go_wp2_with fail
  refine (B1 _ HB.out).mono ?_
  rintro e w3 ⟨rfl, hb⟩
  replace HB : Hid (Below (w.alloc (.cells #[.int .i64 k, .int .i64 n, .string s] 23)).heap.size (w.alloc (.cells #[.int .i64 k, .int .i64 n, .string s] 23)) w3) := hb
  clear hb
  obtain ⟨c0, c1, c2⟩ := BC.out _ HB.out
  go_wp2_with fail
  refine (B2 _ HB.out).mono ?_
  rintro e w4 ⟨rfl, hb⟩
  replace HB : Hid (Below (w.alloc (.cells #[.int .i64 k, .int .i64 n, .string s] 23)).heap.size (w.alloc (.cells #[.int .i64 k, .int .i64 n, .string s] 23)) w4) := hb
  clear hb
  obtain ⟨c0, c1, c2⟩ := BC.out _ HB.out
  go_wp2_with fail
  refine (C1 _ HB.out).mono ?_
  rintro e w5 ⟨rfl, hb⟩
  replace HB : Hid (Below (w.alloc (.cells #[.int .i64 k, .int .i64 n, .string s] 23)).heap.size (w.alloc (.cells #[.int .i64 k, .int .i64 n, .string s] 23)) w5) := hb
  clear hb
  obtain ⟨c0, c1, c2⟩ := BC.out _ HB.out
  go_wp2_with fail
  refine (C2 _ HB.out).mono ?_
  rintro e w6 ⟨rfl, hb⟩
  replace HB : Hid (Below (w.alloc (.cells #[.int .i64 k, .int .i64 n, .string s] 23)).heap.size (w.alloc (.cells #[.int .i64 k, .int .i64 n, .string s] 23)) w6) := hb
  clear hb
  obtain ⟨c0, c1, c2⟩ := BC.out _ HB.out
  go_wp2_with fail
  replace HB : Hid (Below (w.alloc (.cells #[.int .i64 k, .int .i64 n, .string s] 23)).heap.size (w.alloc (.cells #[.int .i64 k, .int .i64 n, .string s] 23)) w6.drew) := HB.out.drew
  go_region_held_law (fun u => u.cell? ⟨w.heap.size, 0, none⟩ = some (.int .i64 k) ∧ u.cell? ⟨w.heap.size, 1, none⟩ = some (.int .i64 n) ∧ u.cell? ⟨w.heap.size, 2, none⟩ = some (.string s)) (exact BC.out _ HB.out) (first
    | (go_at_call 14; refine (G1 _ HB.out).mono ?_; rintro e w7 ⟨rfl, hb⟩; have HB : Hid (Below (w.alloc (.cells #[.int .i64 k, .int .i64 n, .string s] 23)).heap.size (w.alloc (.cells #[.int .i64 k, .int .i64 n, .string s] 23)) w7) := hb; clear hb)
    | (go_at_call 15; refine (G2 _ HB.out).mono ?_; rintro e w7 ⟨rfl, hb⟩; have HB : Hid (Below (w.alloc (.cells #[.int .i64 k, .int .i64 n, .string s] 23)).heap.size (w.alloc (.cells #[.int .i64 k, .int .i64 n, .string s] 23)) w7) := hb; clear hb)
    | (go_at_call 16; refine (T1 _ HB.out).mono ?_; rintro e w7 ⟨rfl, hb⟩; have HB : Hid (Below (w.alloc (.cells #[.int .i64 k, .int .i64 n, .string s] 23)).heap.size (w.alloc (.cells #[.int .i64 k, .int .i64 n, .string s] 23)) w7) := hb; clear hb)
    | (go_at_call 17; refine (T2 _ HB.out).mono ?_; rintro e w7 ⟨rfl, hb⟩; have HB : Hid (Below (w.alloc (.cells #[.int .i64 k, .int .i64 n, .string s] 23)).heap.size (w.alloc (.cells #[.int .i64 k, .int .i64 n, .string s] 23)) w7) := hb; clear hb)
    | (go_at_call 18; refine (LV _ HB.out).mono ?_; rintro e w7 ⟨rfl, hb⟩; have HB : Hid (Below (w.alloc (.cells #[.int .i64 k, .int .i64 n, .string s] 23)).heap.size (w.alloc (.cells #[.int .i64 k, .int .i64 n, .string s] 23)) w7) := hb; clear hb))
  go_wp2
  go_ret
  exact ⟨rfl, bel1 HB.out⟩
theorem tells_walk (k n : Int) (s : ByteArray) (hn : In64 n) (hs : s.size ≤ 9223372036854775807) (w : World) (T : Tabs w) :
    Calls Tryd.prog 3 #[val k n s] w fun e w' => e = .returned (.bool true) ∧ Below w.heap.size w w' := by
  have TW : ∀ u, Below (w.alloc (.cells #[.int .i64 k, .int .i64 n, .string s] 23)).heap.size (w.alloc (.cells #[.int .i64 k, .int .i64 n, .string s] 23)) u → Tabs u := fun u hu => T.below (bel1 hu)
  exact tells_core (RC.of fun u _ => tonum_any k n s hs u) (RC.of fun u _ => rtonum_any k n s hs u) (RC.of fun u hu => totext_any k n s hn u (TW u hu)) (RC.of fun u _ => rtotext_any k n s hn u)
    (RC.of fun u _ => tobool_any k n s hs u) (RC.of fun u _ => rtobool_any k n s hs u) (RC.of fun u _ => vgood_any k n s u) (RC.of fun u _ => rvgood_any k n s u)
    (RC.of fun u hu => vtext_any k n s hn u (TW u hu)) (RC.of fun u _ => rtext_any k n s hn u) (RC.of fun u hu => lives_any u (TW u hu))

end Go.Proofs.YtelpllilepkjmaaDoor
