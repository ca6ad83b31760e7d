/- The walk of FilesNone. -/
import Derived.Test.YtdhobgnclmmikaaUnmade
namespace Go.Proofs.Ytdhobgnclmmikaa
open Go.RowKit Go.Maps
open Go.WideMaps

abbrev actW (w : World) (kind n m : Int) (A B : ByteArray) (a : Option Addr) (l c : Nat) : World :=
  (w.alloc (.cells #[.int .i64 kind, .string A, .string B, .int .i64 n, .int .i64 m, .slice a l c] 31)).alloc (.cells #[.map none, .bool false, .int .i64 0, .int .i64 0, .int .i64 0, .int .i64 0] 51)

theorem act_cells {w w1 : World} {kind n m : Int} {A B : ByteArray} {a : Option Addr} {l c : Nat} (h : Below (w.heap.size + 2) (actW w kind n m A B a l c) w1) :
    w1.cell? ⟨w.heap.size, 1, none⟩ = some (.string A) ∧ w1.cell? ⟨w.heap.size, 2, none⟩ = some (.string B) ∧ w1.cell? ⟨w.heap.size, 3, none⟩ = some (.int .i64 n) ∧ w1.cell? ⟨w.heap.size, 4, none⟩ = some (.int .i64 m) ∧ w1.cell? ⟨w.heap.size, 5, none⟩ = some (.slice a l c) := by
  have h0 : (actW w kind n m A B a l c).heap[w.heap.size]? = some (.cells #[.int .i64 kind, .string A, .string B, .int .i64 n, .int .i64 m, .slice a l c] 31 (0, 0)) := heap_old (heap_new w _) _
  have h1 := (h.block w.heap.size (by omega)).trans h0
  simp [World.cell?, h1]

theorem act_un {w : World} {kind n m : Int} {A B : ByteArray} {a : Option Addr} {l c : Nat} : Un (actW w kind n m A B a l c) (some ⟨w.heap.size + 1, 0, none⟩) := by
  refine un_zero ?_
  have h0 := heap_new1 w (.cells #[.int .i64 kind, .string A, .string B, .int .i64 n, .int .i64 m, .slice a l c] 31) (.cells #[.map none, .bool false, .int .i64 0, .int .i64 0, .int .i64 0, .int .i64 0] 51)
  have h1 : (actW w kind n m A B a l c).heap[w.heap.size + 1]? = some (.cells #[.map none, .bool false, .int .i64 0, .int .i64 0, .int .i64 0, .int .i64 0] 51 (0, 0)) := h0
  simp only [World.cell?, h1]
  rfl

set_option maxRecDepth 100000 in
set_option maxHeartbeats 4000000 in
theorem none_walk (kind n m : Int) (A B : ByteArray) (a : Option Addr) (l c : Nat) (w : World) :
    Calls Try.prog 7 #[.agg #[.int .i64 kind, .string A, .string B, .int .i64 n, .int .i64 m, .slice a l c]] w fun e w' => e = .returned (.bool true) ∧ Below w.heap.size w w' := by
  have i0 : ∀ (x0 x1 : Value) (w : World), (Instr.index 52 (.agg #[x0, x1]) (.int .i64 0)).run Try.prog w = .ok x0 w := fun _ _ _ => by kernel_rfl
  have i1 : ∀ (x0 x1 : Value) (w : World), (Instr.index 52 (.agg #[x0, x1]) (.int .i64 1)).run Try.prog w = .ok x1 w := fun _ _ _ => by kernel_rfl
  have hsz : (actW w kind n m A B a l c).heap.size = w.heap.size + 2 := by simp
  have HSZ : Hid ((actW w kind n m A B a l c).heap.size = w.heap.size + 2) := hsz
  clear hsz
  have U0 : Hid (Un (actW w kind n m A B a l c) none) := un_nil _
  have U1 : Hid (Un (actW w kind n m A B a l c) (some ⟨w.heap.size + 1, 0, none⟩)) := act_un
  have B0 : Hid (Below (w.heap.size + 2) (actW w kind n m A B a l c) (actW w kind n m A B a l c)) := Below.refl _ _
  obtain ⟨k1, k2, k3, k4, k5⟩ := act_cells B0.out
  go_enter Try.func7, Try.ntmps7
  go_wp2_with fail
  refine wp_loop_rounds 3 ?_
  rw [rounds_succ]
  go_wp2_with fail
  refine (un_read (U0.out.later (HSZ.out ▸ B0.out)) A).mono ?_
  rintro e w1 ⟨rfl, b1⟩
  have B1 : Hid (Below (w.heap.size + 2) (actW w kind n m A B a l c) w1) := B0.out.trans (b1.mono (Nat.le_trans (Nat.le_of_eq HSZ.out.symm) B0.out.size))
  clear b1 B0 k1 k2 k3 k4 k5
  obtain ⟨k1, k2, k3, k4, k5⟩ := act_cells B1.out
  go_wp2_with fail
  refine (un_synced (U0.out.later (HSZ.out ▸ B1.out)) A).mono ?_
  rintro e w2 ⟨rfl, b2⟩
  have B2 : Hid (Below (w.heap.size + 2) (actW w kind n m A B a l c) w2) := B1.out.trans (b2.mono (Nat.le_trans (Nat.le_of_eq HSZ.out.symm) B1.out.size))
  clear b2 B1 k1 k2 k3 k4 k5
  obtain ⟨k1, k2, k3, k4, k5⟩ := act_cells B2.out
  go_wp2_with fail
  refine (un_power (U0.out.later (HSZ.out ▸ B2.out))).mono ?_
  rintro e w' ⟨rfl, hsame⟩
  subst w'
  go_wp2_with fail
  refine (un_create (U0.out.later (HSZ.out ▸ B2.out)) A).mono ?_
  rintro e w3 ⟨rfl, b3⟩
  have B3 : Hid (Below (w.heap.size + 2) (actW w kind n m A B a l c) w3) := B2.out.trans (b3.mono (Nat.le_trans (Nat.le_of_eq HSZ.out.symm) B2.out.size))
  clear b3 B2 k1 k2 k3 k4 k5
  obtain ⟨k1, k2, k3, k4, k5⟩ := act_cells B3.out
  go_wp2_with fail
  refine (un_append (U0.out.later (HSZ.out ▸ B3.out)) A a l c).mono ?_
  rintro e w4 ⟨rfl, b4⟩
  have B4 : Hid (Below (w.heap.size + 2) (actW w kind n m A B a l c) w4) := B3.out.trans (b4.mono (Nat.le_trans (Nat.le_of_eq HSZ.out.symm) B3.out.size))
  clear b4 B3 k1 k2 k3 k4 k5
  obtain ⟨k1, k2, k3, k4, k5⟩ := act_cells B4.out
  go_wp2_with fail
  refine (un_sync (U0.out.later (HSZ.out ▸ B4.out)) A).mono ?_
  rintro e w5 ⟨rfl, b5⟩
  have B5 : Hid (Below (w.heap.size + 2) (actW w kind n m A B a l c) w5) := B4.out.trans (b5.mono (Nat.le_trans (Nat.le_of_eq HSZ.out.symm) B4.out.size))
  clear b5 B4 k1 k2 k3 k4 k5
  obtain ⟨k1, k2, k3, k4, k5⟩ := act_cells B5.out
  go_wp2_with fail
  refine (un_rename (U0.out.later (HSZ.out ▸ B5.out)) A B).mono ?_
  rintro e w6 ⟨rfl, b6⟩
  have B6 : Hid (Below (w.heap.size + 2) (actW w kind n m A B a l c) w6) := B5.out.trans (b6.mono (Nat.le_trans (Nat.le_of_eq HSZ.out.symm) B5.out.size))
  clear b6 B5 k1 k2 k3 k4 k5
  obtain ⟨k1, k2, k3, k4, k5⟩ := act_cells B6.out
  go_wp2_with fail
  refine (un_remove (U0.out.later (HSZ.out ▸ B6.out)) A).mono ?_
  rintro e w7 ⟨rfl, b7⟩
  have B7 : Hid (Below (w.heap.size + 2) (actW w kind n m A B a l c) w7) := B6.out.trans (b7.mono (Nat.le_trans (Nat.le_of_eq HSZ.out.symm) B6.out.size))
  clear b7 B6 k1 k2 k3 k4 k5
  obtain ⟨k1, k2, k3, k4, k5⟩ := act_cells B7.out
  go_wp2_with fail
  refine (un_place (U0.out.later (HSZ.out ▸ B7.out)) A _).mono ?_
  rintro e w' ⟨rfl, hsame⟩
  subst w'
  go_wp2_with fail
  refine (un_cut (U0.out.later (HSZ.out ▸ B7.out)) n m).mono ?_
  rintro e w' ⟨rfl, hsame⟩
  subst w'
  go_wp2_with fail
  refine (un_on (U0.out.later (HSZ.out ▸ B7.out))).mono ?_
  rintro e w' ⟨rfl, hsame⟩
  subst w'
  go_wp2_with fail
  refine (un_ops (U0.out.later (HSZ.out ▸ B7.out))).mono ?_
  rintro e w' ⟨rfl, hsame⟩
  subst w'
  go_wp2_with fail
  refine (un_written (U0.out.later (HSZ.out ▸ B7.out))).mono ?_
  rintro e w' ⟨rfl, hsame⟩
  subst w'
  go_wp2_with fail
  refine (un_names (U0.out.later (HSZ.out ▸ B7.out))).mono ?_
  rintro e w' ⟨rfl, hsame⟩
  subst w'
  go_wp2_with fail
  rw [rounds_succ]
  go_wp2_with fail
  refine (un_read (U1.out.later (HSZ.out ▸ B7.out)) A).mono ?_
  rintro e w8 ⟨rfl, b8⟩
  have B8 : Hid (Below (w.heap.size + 2) (actW w kind n m A B a l c) w8) := B7.out.trans (b8.mono (Nat.le_trans (Nat.le_of_eq HSZ.out.symm) B7.out.size))
  clear b8 B7 k1 k2 k3 k4 k5
  obtain ⟨k1, k2, k3, k4, k5⟩ := act_cells B8.out
  go_wp2_with fail
  refine (un_synced (U1.out.later (HSZ.out ▸ B8.out)) A).mono ?_
  rintro e w9 ⟨rfl, b9⟩
  have B9 : Hid (Below (w.heap.size + 2) (actW w kind n m A B a l c) w9) := B8.out.trans (b9.mono (Nat.le_trans (Nat.le_of_eq HSZ.out.symm) B8.out.size))
  clear b9 B8 k1 k2 k3 k4 k5
  obtain ⟨k1, k2, k3, k4, k5⟩ := act_cells B9.out
  go_wp2_with fail
  refine (un_power (U1.out.later (HSZ.out ▸ B9.out))).mono ?_
  rintro e w' ⟨rfl, hsame⟩
  subst w'
  go_wp2_with fail
  refine (un_create (U1.out.later (HSZ.out ▸ B9.out)) A).mono ?_
  rintro e w10 ⟨rfl, b10⟩
  have B10 : Hid (Below (w.heap.size + 2) (actW w kind n m A B a l c) w10) := B9.out.trans (b10.mono (Nat.le_trans (Nat.le_of_eq HSZ.out.symm) B9.out.size))
  clear b10 B9 k1 k2 k3 k4 k5
  obtain ⟨k1, k2, k3, k4, k5⟩ := act_cells B10.out
  go_wp2_with fail
  refine (un_append (U1.out.later (HSZ.out ▸ B10.out)) A a l c).mono ?_
  rintro e w11 ⟨rfl, b11⟩
  have B11 : Hid (Below (w.heap.size + 2) (actW w kind n m A B a l c) w11) := B10.out.trans (b11.mono (Nat.le_trans (Nat.le_of_eq HSZ.out.symm) B10.out.size))
  clear b11 B10 k1 k2 k3 k4 k5
  obtain ⟨k1, k2, k3, k4, k5⟩ := act_cells B11.out
  go_wp2_with fail
  refine (un_sync (U1.out.later (HSZ.out ▸ B11.out)) A).mono ?_
  rintro e w12 ⟨rfl, b12⟩
  have B12 : Hid (Below (w.heap.size + 2) (actW w kind n m A B a l c) w12) := B11.out.trans (b12.mono (Nat.le_trans (Nat.le_of_eq HSZ.out.symm) B11.out.size))
  clear b12 B11 k1 k2 k3 k4 k5
  obtain ⟨k1, k2, k3, k4, k5⟩ := act_cells B12.out
  go_wp2_with fail
  refine (un_rename (U1.out.later (HSZ.out ▸ B12.out)) A B).mono ?_
  rintro e w13 ⟨rfl, b13⟩
  have B13 : Hid (Below (w.heap.size + 2) (actW w kind n m A B a l c) w13) := B12.out.trans (b13.mono (Nat.le_trans (Nat.le_of_eq HSZ.out.symm) B12.out.size))
  clear b13 B12 k1 k2 k3 k4 k5
  obtain ⟨k1, k2, k3, k4, k5⟩ := act_cells B13.out
  go_wp2_with fail
  refine (un_remove (U1.out.later (HSZ.out ▸ B13.out)) A).mono ?_
  rintro e w14 ⟨rfl, b14⟩
  have B14 : Hid (Below (w.heap.size + 2) (actW w kind n m A B a l c) w14) := B13.out.trans (b14.mono (Nat.le_trans (Nat.le_of_eq HSZ.out.symm) B13.out.size))
  clear b14 B13 k1 k2 k3 k4 k5
  obtain ⟨k1, k2, k3, k4, k5⟩ := act_cells B14.out
  go_wp2_with fail
  refine (un_place (U1.out.later (HSZ.out ▸ B14.out)) A _).mono ?_
  rintro e w' ⟨rfl, hsame⟩
  subst w'
  go_wp2_with fail
  refine (un_cut (U1.out.later (HSZ.out ▸ B14.out)) n m).mono ?_
  rintro e w' ⟨rfl, hsame⟩
  subst w'
  go_wp2_with fail
  refine (un_on (U1.out.later (HSZ.out ▸ B14.out))).mono ?_
  rintro e w' ⟨rfl, hsame⟩
  subst w'
  go_wp2_with fail
  refine (un_ops (U1.out.later (HSZ.out ▸ B14.out))).mono ?_
  rintro e w' ⟨rfl, hsame⟩
  subst w'
  go_wp2_with fail
  refine (un_written (U1.out.later (HSZ.out ▸ B14.out))).mono ?_
  rintro e w' ⟨rfl, hsame⟩
  subst w'
  go_wp2_with fail
  refine (un_names (U1.out.later (HSZ.out ▸ B14.out))).mono ?_
  rintro e w' ⟨rfl, hsame⟩
  subst w'
  go_wp2_with fail
  rw [rounds_succ]
  have L := lives_any w14
  go_wp2_with (go_at_call 12; refine L.mono ?_; rintro e w' ⟨rfl, hb⟩)
  go_ret
  have hB : Below w.heap.size w w14 := ((((Below.refl _ _).alloc (Nat.le_refl _) _).alloc (by simp) _).trans (B14.out.mono (by omega)))
  exact ⟨rfl, hB.trans (hb.mono hB.size)⟩
end Go.Proofs.Ytdhobgnclmmikaa
