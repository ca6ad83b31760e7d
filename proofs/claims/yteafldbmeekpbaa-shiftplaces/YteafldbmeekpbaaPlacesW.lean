/- The walk of the law ShiftPlaces. -/
import Derived.Test.YteafldbmeekpbaaHLives
namespace Go.Proofs.Yteafldbmeekpbaa
open Go.RowKit
set_option maxRecDepth 100000
set_option linter.unusedVariables false
set_option linter.unusedSimpArgs false
theorem run_eq23 (a n m : Int) (W : World) : (binOp .eql 23 (shV a n m) (shV a n m)).run Try.prog W = .ok (.bool true) W := by
  rw [run_eql_struct, eqn23]
  rfl
theorem run_eq25 (a n m : Int) (W : World) : (binOp .eql 25 (shV a n m) (shV a n m)).run Try.prog W = .ok (.bool true) W := by
  rw [run_eql_struct, eqn25]
  rfl
/-- What lies in memory while ShiftPlaces runs: the shift, the span, the document's shift. -/
structure SP (w : World) (g : Nat) (a n m x y : Int) (u : World) : Prop where
  b0 : u.heap[w.heap.size]? = some (.cells #[.int .i64 a, .int .i64 n, .int .i64 m] 23)
  b1 : u.heap[w.heap.size + 1]? = some (.cells #[.int .i64 x, .int .i64 y] 24)
  b2 : u.heap[g]? = some (.cells #[.int .i64 a, .int .i64 n, .int .i64 m] 25)
  bel : Below w.heap.size w u
theorem blk_lt {u : World} {g : Nat} {o : Obj} (h : u.heap[g]? = some o) : g < u.heap.size := (Array.getElem?_eq_some_iff.1 h).1
theorem SP.step {w u u' : World} {g : Nat} {a n m x y : Int} (h : SP w g a n m x y u) (hb : Below u.heap.size u u') : SP w g a n m x y u' :=
  ⟨(hb.block _ (blk_lt h.b0)).trans h.b0, (hb.block _ (blk_lt h.b1)).trans h.b1, (hb.block _ (blk_lt h.b2)).trans h.b2, bel_step h.bel hb⟩
def SPC (w : World) (g : Nat) (a n m x y : Int) (u : World) : Prop :=
  (u.cell? ⟨w.heap.size, 0, none⟩ = some (.int .i64 a) ∧ u.cell? ⟨w.heap.size, 1, none⟩ = some (.int .i64 n) ∧ u.cell? ⟨w.heap.size, 2, none⟩ = some (.int .i64 m)) ∧
  (u.cell? ⟨g, 0, none⟩ = some (.int .i64 a) ∧ u.cell? ⟨g, 1, none⟩ = some (.int .i64 n) ∧ u.cell? ⟨g, 2, none⟩ = some (.int .i64 m))
theorem SP.cells {w u : World} {g : Nat} {a n m x y : Int} (h : SP w g a n m x y u) :
    ((u.cell? ⟨w.heap.size, 0, none⟩ = some (.int .i64 a) ∧ u.cell? ⟨w.heap.size, 1, none⟩ = some (.int .i64 n) ∧ u.cell? ⟨w.heap.size, 2, none⟩ = some (.int .i64 m)) ∧
    (u.cell? ⟨g, 0, none⟩ = some (.int .i64 a) ∧ u.cell? ⟨g, 1, none⟩ = some (.int .i64 n) ∧ u.cell? ⟨g, 2, none⟩ = some (.int .i64 m))) ∧
    (u.cell? ⟨w.heap.size + 1, 0, none⟩ = some (.int .i64 x) ∧ u.cell? ⟨w.heap.size + 1, 1, none⟩ = some (.int .i64 y)) :=
  ⟨⟨s_cells h.b0, s_cells h.b2⟩, by simp [World.cell?, h.b1]⟩
theorem sp_begin {w w1 : World} {a n m x y : Int} (h : Below ((w.alloc (shO a n m 23)).alloc (.cells #[.int .i64 x, .int .i64 y] 24)).heap.size ((w.alloc (shO a n m 23)).alloc (.cells #[.int .i64 x, .int .i64 y] 24)) w1) :
    SP w w1.heap.size a n m x y (w1.alloc (shO a n m 25)) := by
  have e : (w.alloc (shO a n m 23)).heap.size = w.heap.size + 1 := by simp
  have h1 := new1 h
  rw [e] at h1
  have h0 := new1 (bel1 h)
  refine ⟨?_, ?_, heap_alloc_new w1 _, bel_alloc (bel1 (bel1 h)) _⟩
  · exact ((bel_alloc (Below.refl w1.heap.size w1) _).block _ (blk_lt h0)).trans h0
  · exact ((bel_alloc (Below.refl w1.heap.size w1) _).block _ (blk_lt h1)).trans h1
set_option maxHeartbeats 8000000 in
theorem places_walk (a n m p x y : Int) (w : World) : Calls Try.prog 3 #[shV a n m, .int .i64 p, .agg #[.int .i64 x, .int .i64 y]] w fun e w' => e = .returned (.bool true) ∧ Below w.heap.size w w' := by
  have HB0 : Hid (Below ((w.alloc (shO a n m 23)).alloc (.cells #[.int .i64 x, .int .i64 y] 24)).heap.size ((w.alloc (shO a n m 23)).alloc (.cells #[.int .i64 x, .int .i64 y] 24)) ((w.alloc (shO a n m 23)).alloc (.cells #[.int .i64 x, .int .i64 y] 24))) := Below.refl _ _
  have PL : RC ((w.alloc (shO a n m 23)).alloc (.cells #[.int .i64 x, .int .i64 y] 24)) 7 #[shV a n m] _ := RC.of fun u => plain_any a n m u
  have C8 : Hid (∀ u, Calls Try.prog 8 #[shV a n m, .int .i64 p] u _) := fun u => pos_any a n m p u
  have C9 : Hid (∀ u, Calls Try.prog 9 #[shV a n m, .int .i64 p] u _) := fun u => rpos_any a n m p u
  have C10 : Hid (∀ u, Calls Try.prog 10 #[shV a n m, .int .i64 x, .int .i64 y] u _) := fun u => span_any a n m x y u
  have C11 : Hid (∀ u, Calls Try.prog 11 #[shV a n m, .int .i64 x, .int .i64 y] u _) := fun u => rspan_any a n m x y u
  have C12 : Hid (∀ u, Calls Try.prog 12 #[shV a n m] u _) := fun u => good_any a n m u
  have C13 : Hid (∀ u, Calls Try.prog 13 #[shV a n m] u _) := fun u => rgood_any a n m u
  have C14 : Hid (∀ u, Calls Try.prog 14 #[shV a n m] u _) := fun u => back_any a n m u
  have C15 : Hid (∀ u, Calls Try.prog 15 #[shV a n m] u _) := fun u => rback_any a n m u
  have C16 : Hid (∀ u, Calls Try.prog 16 #[] u _) := fun u => lives_any u
  have C7 : Hid (∀ u, Calls Try.prog 7 #[shV (bkA a n m) (bkN a n m) (bkM a n m)] u _) := fun u => plain_any (bkA a n m) (bkN a n m) (bkM a n m) u
  have GU := guard25
  generalize posF a n m p = r1 at *
  generalize posB a n m p = r2 at *
  generalize spL a n m x y = r3 at *
  generalize spH a n m x y = r4 at *
  generalize spB a n m x y = r5 at *
  generalize goodB a n m = r6 at *
  generalize bkA a n m = r7 at *
  generalize bkN a n m = r8 at *
  generalize bkM a n m = r9 at *
  have EQ := fun V => run_eq25 r7 r8 r9 V
  go_enter Try.func3, Try.ntmps3
  go_wp2_with (first
    | (go_at_call 7; refine (PL _ HB0.out).mono ?_; clear PL; rintro e w1 ⟨rfl, hb⟩; have Z0 : Hid _ := sp_begin hb; obtain ⟨⟨⟨c0, c1, c2⟩, d0, d1, d2⟩, s0, s1⟩ := Z0.out.cells; clear hb)
    | (go_at_call 8; refine (C8.out _).mono ?_; clear C8; rintro e w2 ⟨rfl, hb⟩; have Z1 : Hid (SP w w1.heap.size a n m x y w2) := Z0.out.step hb; clear hb; obtain ⟨⟨⟨c0, c1, c2⟩, d0, d1, d2⟩, s0, s1⟩ := Z1.out.cells)
    | (go_at_call 9; refine (C9.out _).mono ?_; clear C9; rintro e w3 ⟨rfl, hb⟩; have Z2 : Hid (SP w w1.heap.size a n m x y w3) := Z1.out.step hb; clear hb; obtain ⟨⟨⟨c0, c1, c2⟩, d0, d1, d2⟩, s0, s1⟩ := Z2.out.cells)
    | (go_at_call 10; refine (C10.out _).mono ?_; clear C10; rintro e w4 ⟨rfl, hb⟩; have Z3 : Hid (SP w w1.heap.size a n m x y w4) := Z2.out.step hb; clear hb; obtain ⟨⟨⟨c0, c1, c2⟩, d0, d1, d2⟩, s0, s1⟩ := Z3.out.cells)
    | (go_at_call 11; refine (C11.out _).mono ?_; clear C11; rintro e w5 ⟨rfl, hb⟩; have ZZ : Hid (SP w w1.heap.size a n m x y w5) := Z3.out.step hb; clear hb))
  have ZD : Hid (SP w w1.heap.size a n m x y w5.drew) := ZZ.out.step (Below.refl _ _).drew
  clear ZZ
  have ZZ : Hid (SP w w1.heap.size a n m x y w5.drew) := ZD.out
  go_region_held_law (fun u => (u.cell? ⟨w.heap.size, 0, none⟩ = some (.int .i64 a) ∧ u.cell? ⟨w.heap.size, 1, none⟩ = some (.int .i64 n) ∧ u.cell? ⟨w.heap.size, 2, none⟩ = some (.int .i64 m)) ∧
      (u.cell? ⟨w1.heap.size, 0, none⟩ = some (.int .i64 a) ∧ u.cell? ⟨w1.heap.size, 1, none⟩ = some (.int .i64 n) ∧ u.cell? ⟨w1.heap.size, 2, none⟩ = some (.int .i64 m)))
    (exact ZZ.out.cells.1) (first
    | (go_at_call 12; refine (C12.out _).mono ?_; rintro e w7 ⟨rfl, hb⟩; have ZZ : Hid (SP w w1.heap.size a n m x y w7) := ZZ.out.step hb; clear hb)
    | (go_at_call 13; refine (C13.out _).mono ?_; rintro e w7 ⟨rfl, hb⟩; have ZZ : Hid (SP w w1.heap.size a n m x y w7) := ZZ.out.step hb; clear hb)
    | (go_at_call 14; refine (C14.out _).mono ?_; rintro e w7 ⟨rfl, hb⟩; have ZZ : Hid (SP w w1.heap.size a n m x y w7) := ZZ.out.step hb; clear hb)
    | (go_at_call 15; refine (C15.out _).mono ?_; rintro e w7 ⟨rfl, hb⟩; have ZZ : Hid (SP w w1.heap.size a n m x y w7) := ZZ.out.step hb; clear hb)
    | (go_at_call 7; refine (C7.out _).mono ?_; rintro e w7 ⟨rfl, hb⟩; have ZZ : Hid (SP w w1.heap.size a n m x y w7) := ZZ.out.step hb; clear hb)
    | (go_at_call 16; refine (C16.out _).mono ?_; rintro e w7 ⟨rfl, hb⟩; have ZZ : Hid (SP w w1.heap.size a n m x y w7) := ZZ.out.step hb; clear hb))
  go_wp2
  go_ret
  exact ⟨rfl, ZZ.out.bel⟩
end Go.Proofs.Yteafldbmeekpbaa
