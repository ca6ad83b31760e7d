/- The contract of Cmp. -/
import Derived.Test.YtelpllilepkjmaaDoorVCmp2
namespace Go.Proofs.YtelpllilepkjmaaDoor
open Go.RowKit
set_option maxRecDepth 100000
set_option linter.unusedVariables false
set_option linter.unusedSimpArgs false
/-- How two keys stand to each other. -/
def cmpK (x y : Int × Int × ByteArray) : Int := orF (Lib.compareInt x.1 y.1) (Lib.compareInt x.2.1 y.2.1) (cmpL x.2.2.toList y.2.2.toList)
/-- How two values stand to each other. -/
def cmpF (k1 n1 : Int) (s1 : ByteArray) (k2 n2 : Int) (s2 : ByteArray) : Int := cmpK (besF (keyF k1 n1 s1) (keyF k2 n2 s2)) (besF (keyF k2 n2 s2) (keyF k1 n1 s1))
theorem two_box {w x : World} {a b c d e f : Value} (h : Below ((w.alloc (.cells #[a, b, c] 23)).alloc (.cells #[d, e, f] 23)).heap.size ((w.alloc (.cells #[a, b, c] 23)).alloc (.cells #[d, e, f] 23)) x) :
    (x.cell? ⟨w.heap.size, 0, none⟩ = some a ∧ x.cell? ⟨w.heap.size, 1, none⟩ = some b ∧ x.cell? ⟨w.heap.size, 2, none⟩ = some c) ∧
    (x.cell? ⟨w.heap.size + 1, 0, none⟩ = some d ∧ x.cell? ⟨w.heap.size + 1, 1, none⟩ = some e ∧ x.cell? ⟨w.heap.size + 1, 2, none⟩ = some f) := by
  have h1 : x.heap[w.heap.size]? = some (.cells #[a, b, c] 23 (0, 0)) := by
    rw [h.block _ (by simp; omega), Below.heap_alloc _ _ _ (by simp)]
    exact heap_alloc_new w _
  have h2 : x.heap[w.heap.size + 1]? = some (.cells #[d, e, f] 23 (0, 0)) := by
    rw [h.block _ (by simp)]
    have := heap_alloc_new (w.alloc (.cells #[a, b, c] 23)) (.cells #[d, e, f] 23)
    simpa using this
  exact ⟨by simp [World.cell?, h1], by simp [World.cell?, h2]⟩
theorem two_below {w x : World} {a b : Obj} (h : Below ((w.alloc a).alloc b).heap.size ((w.alloc a).alloc b) x) : Below w.heap.size w x :=
  (bel_alloc ((Below.refl _ _).alloc (Nat.le_refl _) _) _).trans (h.mono (by simp; omega))
theorem or_new (u : World) (x y z : Int) : Calls Tryd.prog 57 #[.slice (some ⟨u.heap.size, 0, none⟩) 3 3] (u.alloc (.cells #[.int .i64 x, .int .i64 y, .int .i64 z] 3)).drew fun e w' => e = .returned (.int .i64 (orF x y z)) ∧ w' = (u.alloc (.cells #[.int .i64 x, .int .i64 y, .int .i64 z] 3)).drew := by
  have hz : (u.alloc (.cells #[.int .i64 x, .int .i64 y, .int .i64 z] 3)).drew.heap[u.heap.size]? = some (.cells #[.int .i64 x, .int .i64 y, .int .i64 z] 3 (0, 0)) := heap_alloc_new u _
  have c := fun j => cell_of_row _ u.heap.size j _ 3 _ hz
  exact or_any ((c 0).trans rfl) ((c 1).trans rfl) ((c 2).trans rfl)
set_option maxHeartbeats 8000000 in
theorem cmp_core {w : World} {k1 n1 k2 n2 r1 m1 r2 m2 a1 b1 a2 b2 : Int} {s1 s2 t1 t2 c1 c2 : ByteArray} {I1 I2 : Value}
    (C1 : RB ((w.alloc (.cells #[.int .i64 k1, .int .i64 n1, .string s1] 23)).alloc (.cells #[.int .i64 k2, .int .i64 n2, .string s2] 23)) 35 #[.agg #[.int .i64 k1, .int .i64 n1, .string s1]] I1)
    (C2 : RB ((w.alloc (.cells #[.int .i64 k1, .int .i64 n1, .string s1] 23)).alloc (.cells #[.int .i64 k2, .int .i64 n2, .string s2] 23)) 55 #[I1] (key r1 m1 t1))
    (C4 : RB ((w.alloc (.cells #[.int .i64 k1, .int .i64 n1, .string s1] 23)).alloc (.cells #[.int .i64 k2, .int .i64 n2, .string s2] 23)) 35 #[.agg #[.int .i64 k2, .int .i64 n2, .string s2]] I2)
    (C5 : RB ((w.alloc (.cells #[.int .i64 k1, .int .i64 n1, .string s1] 23)).alloc (.cells #[.int .i64 k2, .int .i64 n2, .string s2] 23)) 55 #[I2] (key r2 m2 t2))
    (D2 : RB ((w.alloc (.cells #[.int .i64 k1, .int .i64 n1, .string s1] 23)).alloc (.cells #[.int .i64 k2, .int .i64 n2, .string s2] 23)) 56 #[key r1 m1 t1, key r2 m2 t2] (key a1 b1 c1))
    (D5 : RB ((w.alloc (.cells #[.int .i64 k1, .int .i64 n1, .string s1] 23)).alloc (.cells #[.int .i64 k2, .int .i64 n2, .string s2] 23)) 56 #[key r2 m2 t2, key r1 m1 t1] (key a2 b2 c2)) :
    Calls Tryd.prog 34 #[.agg #[.int .i64 k1, .int .i64 n1, .string s1], .agg #[.int .i64 k2, .int .i64 n2, .string s2]] w fun e w' => e = .returned (.int .i64 (cmpK (a1, b1, c1) (a2, b2, c2))) ∧ Below w.heap.size w w' := by
  generalize hR : cmpK (a1, b1, c1) (a2, b2, c2) = R
  have HR : Hid (orF (Lib.compareInt a1 a2) (Lib.compareInt b1 b2) (cmpL c1.toList c2.toList) = R) := hR
  clear hR
  go_enter Tryd.func34, Tryd.ntmps34
  go_wp2_with fail
  refine region1 C1 C2 C4 C5 ?_ (fun _ _ _ _ _ h => h) (Below.refl _ _) (fun x hx => (two_box hx).1) (fun x hx => (two_box hx).2)
  intro g5 g6 u ne l5 l6 z5 z6 HB
  go_wp2_with fail
  refine region2 D2 D5 ?_ (fun _ _ _ _ _ h => h) ne l5 l6 z5 z6 HB
  clear HB z5 z6 C1 C2 C4 C5 D2 D5
  intro u2 z5 z6 HB
  have HZ : Hid ((u2.drew.heap[g5]? = some (.cells #[.int .i64 a1, .int .i64 b1, .string c1] 70) ∧ u2.drew.heap[g6]? = some (.cells #[.int .i64 a2, .int .i64 b2, .string c2] 70)) ∧ Below w.heap.size w u2.drew) := ⟨⟨z5, z6⟩, (two_below HB).drew⟩
  have HZA : Hid (∀ o, (u2.alloc o).drew.heap[g5]? = some (.cells #[.int .i64 a1, .int .i64 b1, .string c1] 70) ∧ (u2.alloc o).drew.heap[g6]? = some (.cells #[.int .i64 a2, .int .i64 b2, .string c2] 70)) := fun o =>
    ⟨(Below.heap_alloc u2 o _ (lt_of z5)).trans z5, (Below.heap_alloc u2 o _ (lt_of z6)).trans z6⟩
  have OR : ∀ x y z : Int, Calls Tryd.prog 57 #[.slice (some ⟨u2.heap.size, 0, none⟩) 3 3] (u2.alloc (.cells #[.int .i64 x, .int .i64 y, .int .i64 z] 3)).drew fun e w' => e = .returned (.int .i64 (orF x y z)) ∧ w' = (u2.alloc (.cells #[.int .i64 x, .int .i64 y, .int .i64 z] 3)).drew := fun x y z => by
    exact or_new u2 x y z
  have HBA : Hid (∀ o, Below w.heap.size w (u2.alloc o).drew) := fun o => (bel_alloc (two_below HB) o).drew
  clear z5 z6 HB
  go_wp2_with fail
  go_region_held_law (fun u => (u.cell? ⟨g5, 0, none⟩ = some (.int .i64 a1) ∧ u.cell? ⟨g5, 1, none⟩ = some (.int .i64 b1) ∧ u.cell? ⟨g5, 2, none⟩ = some (.string c1)) ∧ (u.cell? ⟨g6, 0, none⟩ = some (.int .i64 a2) ∧ u.cell? ⟨g6, 1, none⟩ = some (.int .i64 b2) ∧ u.cell? ⟨g6, 2, none⟩ = some (.string c2))) (first | exact ⟨(z_cells HZ.out.1.1).1, (z_cells HZ.out.1.2).1⟩ | exact ⟨(z_cells (HZA.out _).1).1, (z_cells (HZA.out _).2).1⟩) (first
    | (go_at_call_of 58 a1; refine (Tryd.cmp_Compare_int _ _ _).mono ?_; rintro e w' ⟨rfl, hw⟩; obtain rfl := hw.symm; clear hw)
    | (go_at_call_of 58 b1; refine (Tryd.cmp_Compare_int _ _ _).mono ?_; rintro e w' ⟨rfl, hw⟩; obtain rfl := hw.symm; clear hw)
    | (go_at_call 59; refine (cmpS_any _ _ _).mono ?_; rintro e w' ⟨rfl, hw⟩; obtain rfl := hw.symm; clear hw)
    | (go_at_call 57; refine (OR _ _ _).mono ?_; rintro e w' ⟨rfl, hw⟩; obtain rfl := hw.symm; clear hw))
  go_wp2
  go_ret
  exact ⟨by rw [← HR.out]; rfl, HBA.out _⟩
theorem cmp_any (k1 n1 : Int) (s1 : ByteArray) (k2 n2 : Int) (s2 : ByteArray) (h1 : s1.size ≤ 9223372036854775807) (h2 : s2.size ≤ 9223372036854775807) (w : World) :
    Calls Tryd.prog 34 #[.agg #[.int .i64 k1, .int .i64 n1, .string s1], .agg #[.int .i64 k2, .int .i64 n2, .string s2]] w fun e w' => e = .returned (.int .i64 (cmpF k1 n1 s1 k2 n2 s2)) ∧ Below w.heap.size w w' :=
  cmp_core (fun u _ => kind_any k1 n1 s1 u) (fun u _ => key_any k1 n1 s1 h1 u) (fun u _ => kind_any k2 n2 s2 u) (fun u _ => key_any k2 n2 s2 h2 u) (fun u _ => bes_any _ _ u) (fun u _ => bes_any _ _ u)
end Go.Proofs.YtelpllilepkjmaaDoor
