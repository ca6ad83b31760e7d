/- The contracts of the methods of a files.World that no call made: nil, or a zero value. -/
import Derived.Test.YtdhobgnclmmikaaLives
namespace Go.Proofs.Ytdhobgnclmmikaa
open Go.RowKit Go.Maps
open Go.WideMaps

/-- In this world, and in all that grow out of it, the pointer leads to no world that New made. -/
def Un (w : World) (q : Option Addr) : Prop := ∀ w1, Below w.heap.size w w1 → Calls Try.prog 50 #[.pointer q] w1 fun e w' => e = .returned (.bool false) ∧ w' = w1

theorem Un.later {w w1 : World} {q : Option Addr} (h : Un w q) (hb : Below w.heap.size w w1) : Un w1 q := fun w2 h2 => h w2 (hb.trans (h2.mono hb.size))
theorem un_nil (w : World) : Un w none := fun w1 _ => made_nil w1
theorem un_zero {w : World} {z : Nat} (c0 : w.cell? ⟨z, 0, none⟩ = some (.map none)) : Un w (some ⟨z, 0, none⟩) := fun w1 h1 => by
  have hz := World.block_lt_of_cell? w _ c0
  exact made_zero ((h1.cell (p := ⟨z, 0, none⟩) hz).trans c0)

set_option maxHeartbeats 1000000 in
theorem un_refusal {w : World} {q : Option Addr} (h : Un w q) (nv : Value) : Calls Try.prog 43 #[.pointer q, nv] w fun e w' => e = .returned (.int .i64 1) ∧ w' = w := by
  have R := h w (Below.refl _ _)
  clear h
  go_enter Try.func43, Try.ntmps43
  go_wp2_with (go_at_call 50; refine R.mono ?_; rintro e w' ⟨rfl, rfl⟩)
  go_ret
  exact ⟨rfl, rfl⟩
set_option maxHeartbeats 1000000 in
theorem un_find {w : World} {q : Option Addr} (h : Un w q) (nm : ByteArray) : Calls Try.prog 47 #[.pointer q, .string nm] w fun e w' => e = .returned (.tuple #[.pointer none, .int .i64 1]) ∧ ∃ o, w' = w.alloc o := by
  have R := fun nv => un_refusal (h.later ((Below.refl _ _).alloc (Nat.le_refl _) (.cells #[.string nm] 9))) nv
  clear h
  go_enter Try.func47, Try.ntmps47
  go_wp2_with (go_at_call 43; refine (R _).mono ?_; rintro e w' ⟨rfl, rfl⟩)
  go_ret2
  exact ⟨rfl, _, rfl⟩
set_option maxHeartbeats 1000000 in
theorem un_read {w : World} {q : Option Addr} (h : Un w q) (nm : ByteArray) : Calls Try.prog 21 #[.pointer q, .string nm] w fun e w' => e = .returned (.tuple #[.slice none 0 0, .int .i64 1]) ∧ Below w.heap.size w w' := by
  have R := un_find h nm
  clear h
  go_enter Try.func21, Try.ntmps21
  go_wp2_with (go_at_call 47; refine R.mono ?_; rintro e w' ⟨rfl, o, rfl⟩)
  go_ret2
  exact ⟨rfl, (Below.refl _ _).alloc (Nat.le_refl _) _⟩
set_option maxHeartbeats 1000000 in
theorem un_synced {w : World} {q : Option Addr} (h : Un w q) (nm : ByteArray) : Calls Try.prog 25 #[.pointer q, .string nm] w fun e w' => e = .returned (.tuple #[.int .i64 0, .int .i64 1]) ∧ Below w.heap.size w w' := by
  have R := un_find h nm
  clear h
  go_enter Try.func25, Try.ntmps25
  go_wp2_with (go_at_call 47; refine R.mono ?_; rintro e w' ⟨rfl, o, rfl⟩)
  go_ret2
  exact ⟨rfl, (Below.refl _ _).alloc (Nat.le_refl _) _⟩
set_option maxHeartbeats 1000000 in
theorem un_power {w : World} {q : Option Addr} (h : Un w q) : Calls Try.prog 20 #[.pointer q] w fun e w' => e = .returned (.tuple #[]) ∧ w' = w := by
  have R := h w (Below.refl _ _)
  clear h
  go_enter Try.func20, Try.ntmps20
  go_wp2_with (go_at_call 50; refine R.mono ?_; rintro e w' ⟨rfl, rfl⟩)
  go_end0
  exact ⟨rfl, rfl⟩
set_option maxHeartbeats 1000000 in
theorem un_create {w : World} {q : Option Addr} (h : Un w q) (nm : ByteArray) : Calls Try.prog 15 #[.pointer q, .string nm] w fun e w' => e = .returned (.int .i64 1) ∧ Below w.heap.size w w' := by
  have B : Below w.heap.size w (((w.alloc (.cells #[.pointer q] 23)).alloc (.cells #[.string nm] 9)).alloc (.cells #[.string nm] 9)) := (((Below.refl _ _).alloc (Nat.le_refl _) _).alloc (by simp) _).alloc (by simp; omega) _
  have R := fun nv => un_refusal (h.later B) nv
  have HB : Hid _ := B
  clear h B
  go_enter Try.func15, Try.ntmps15
  go_wp2_with (go_at_call 43; refine (R _).mono ?_; rintro e w' ⟨rfl, rfl⟩)
  go_ret
  exact ⟨rfl, HB.out⟩
set_option maxHeartbeats 1000000 in
theorem un_append {w : World} {q : Option Addr} (h : Un w q) (nm : ByteArray) (a : Option Addr) (l c : Nat) : Calls Try.prog 16 #[.pointer q, .string nm, .slice a l c] w fun e w' => e = .returned (.int .i64 1) ∧ Below w.heap.size w w' := by
  have B : Below w.heap.size w ((w.alloc (.cells #[.pointer q] 23)).alloc (.cells #[.slice a l c] 29)) := ((Below.refl _ _).alloc (Nat.le_refl _) _).alloc (by simp) _
  have R := un_find (h.later B) nm
  have HB : Hid _ := B
  clear h B
  go_enter Try.func16, Try.ntmps16
  go_wp2_with (go_at_call 47; refine R.mono ?_; rintro e w' ⟨rfl, o, rfl⟩)
  go_ret
  exact ⟨rfl, (HB.out.alloc (by simp; omega) _).alloc (by simp; omega) _⟩
set_option maxHeartbeats 1000000 in
theorem un_sync {w : World} {q : Option Addr} (h : Un w q) (nm : ByteArray) : Calls Try.prog 17 #[.pointer q, .string nm] w fun e w' => e = .returned (.int .i64 1) ∧ Below w.heap.size w w' := by
  have R := un_find h nm
  clear h
  go_enter Try.func17, Try.ntmps17
  go_wp2_with (go_at_call 47; refine R.mono ?_; rintro e w' ⟨rfl, o, rfl⟩)
  go_ret
  exact ⟨rfl, ((Below.refl _ _).alloc (Nat.le_refl _) _).alloc (by simp) _⟩
set_option maxHeartbeats 1000000 in
theorem un_rename {w : World} {q : Option Addr} (h : Un w q) (a b : ByteArray) : Calls Try.prog 23 #[.pointer q, .string a, .string b] w fun e w' => e = .returned (.int .i64 1) ∧ Below w.heap.size w w' := by
  have B : Below w.heap.size w ((((w.alloc (.cells #[.pointer q] 23)).alloc (.cells #[.string a] 9)).alloc (.cells #[.string b] 9)).alloc (.cells #[.string a, .string b] 9)) := ((((Below.refl _ _).alloc (Nat.le_refl _) _).alloc (by simp) _).alloc (by simp; omega) _).alloc (by simp; omega) _
  have R := fun nv => un_refusal (h.later B) nv
  have HB : Hid _ := B
  clear h B
  go_enter Try.func23, Try.ntmps23
  go_wp2_with (go_at_call 43; refine (R _).mono ?_; rintro e w' ⟨rfl, rfl⟩)
  go_ret
  exact ⟨rfl, HB.out⟩
set_option maxHeartbeats 1000000 in
theorem un_remove {w : World} {q : Option Addr} (h : Un w q) (nm : ByteArray) : Calls Try.prog 26 #[.pointer q, .string nm] w fun e w' => e = .returned (.int .i64 1) ∧ Below w.heap.size w w' := by
  have B : Below w.heap.size w ((w.alloc (.cells #[.pointer q] 23)).alloc (.cells #[.string nm] 9)) := ((Below.refl _ _).alloc (Nat.le_refl _) _).alloc (by simp) _
  have R := un_find (h.later B) nm
  have HB : Hid _ := B
  clear h B
  go_enter Try.func26, Try.ntmps26
  go_wp2_with (go_at_call 47; refine R.mono ?_; rintro e w' ⟨rfl, o, rfl⟩)
  go_ret
  exact ⟨rfl, HB.out.alloc (by simp; omega) _⟩
set_option maxHeartbeats 1000000 in
theorem un_place {w : World} {q : Option Addr} (h : Un w q) (nm : ByteArray) (bv : Value) : Calls Try.prog 27 #[.pointer q, .string nm, bv] w fun e w' => e = .returned (.int .i64 1) ∧ w' = w := by
  have R := h w (Below.refl _ _)
  clear h
  go_enter Try.func27, Try.ntmps27
  go_wp2_with (go_at_call 50; refine R.mono ?_; rintro e w' ⟨rfl, rfl⟩)
  go_ret
  exact ⟨rfl, rfl⟩
set_option maxHeartbeats 1000000 in
theorem un_cut {w : World} {q : Option Addr} (h : Un w q) (n m : Int) : Calls Try.prog 18 #[.pointer q, .int .i64 n, .int .i64 m] w fun e w' => e = .returned (.int .i64 1) ∧ w' = w := by
  have R := un_refusal h (.slice none 0 0)
  clear h
  go_enter Try.func18, Try.ntmps18
  go_wp2_with (go_at_call 43; refine R.mono ?_; rintro e w' ⟨rfl, rfl⟩)
  go_ret
  exact ⟨rfl, rfl⟩
set_option maxHeartbeats 1000000 in
theorem un_on {w : World} {q : Option Addr} (h : Un w q) : Calls Try.prog 19 #[.pointer q] w fun e w' => e = .returned (.bool false) ∧ w' = w := by
  have R := h w (Below.refl _ _)
  clear h
  go_enter Try.func19, Try.ntmps19
  go_wp2_with (go_at_call 50; refine R.mono ?_; rintro e w' ⟨rfl, rfl⟩)
  go_ret
  exact ⟨rfl, rfl⟩
set_option maxHeartbeats 1000000 in
theorem un_ops {w : World} {q : Option Addr} (h : Un w q) : Calls Try.prog 28 #[.pointer q] w fun e w' => e = .returned (.int .i64 0) ∧ w' = w := by
  have R := h w (Below.refl _ _)
  clear h
  go_enter Try.func28, Try.ntmps28
  go_wp2_with (go_at_call 50; refine R.mono ?_; rintro e w' ⟨rfl, rfl⟩)
  go_ret
  exact ⟨rfl, rfl⟩
set_option maxHeartbeats 1000000 in
theorem un_written {w : World} {q : Option Addr} (h : Un w q) : Calls Try.prog 29 #[.pointer q] w fun e w' => e = .returned (.int .i64 0) ∧ w' = w := by
  have R := h w (Below.refl _ _)
  clear h
  go_enter Try.func29, Try.ntmps29
  go_wp2_with (go_at_call 50; refine R.mono ?_; rintro e w' ⟨rfl, rfl⟩)
  go_ret
  exact ⟨rfl, rfl⟩
set_option maxHeartbeats 1000000 in
theorem un_names {w : World} {q : Option Addr} (h : Un w q) : Calls Try.prog 24 #[.pointer q] w fun e w' => e = .returned (.slice none 0 0) ∧ w' = w := by
  have R := h w (Below.refl _ _)
  clear h
  go_enter Try.func24, Try.ntmps24
  go_wp2_with (go_at_call 50; refine R.mono ?_; rintro e w' ⟨rfl, rfl⟩)
  go_ret
  exact ⟨rfl, rfl⟩
end Go.Proofs.Ytdhobgnclmmikaa
