/- The reference's functions at errors: regions that draw their order. -/
import Derived.Test.YtelpllilepkjmaaDoorVName
namespace Go.Proofs.YtelpllilepkjmaaDoor
open Go.RowKit
set_option maxRecDepth 100000
set_option linter.unusedVariables false
set_option linter.unusedSimpArgs false
theorem box_below (w : World) (o : Obj) : Below w.heap.size w (w.alloc o) := (Below.refl _ _).alloc (Nat.le_refl _) _
theorem bel_drewN {w w1 : World} (h : Below w.heap.size w w1) (n : Nat) : Below w.heap.size w (w1.drewN n) := h.trans ((drewN_below w1 n).mono h.size)
set_option maxHeartbeats 1000000 in
theorem rtonum_bad (n : Int) (s : ByteArray) (w : World) : Calls Tryd.prog 9 #[.agg #[.int .i64 4, .int .i64 n, .string s]] w fun e w' => e = .returned (.tuple #[.int .i64 (0), .int .i64 (n)]) ∧ Below w.heap.size w w' := by
  have HB : Hid (Below w.heap.size w (w.alloc (.cells #[.int .i64 4, .int .i64 n, .string s] 23))) := box_below w _
  go_enter Tryd.func9, Tryd.ntmps9
  go_wp2
  go_quiet ((fail))
  go_wp2
  go_ret2
  exact ⟨rfl, bel_drewN HB.out _⟩
set_option maxHeartbeats 1000000 in
theorem rtobool_bad (n : Int) (s : ByteArray) (w : World) : Calls Tryd.prog 13 #[.agg #[.int .i64 4, .int .i64 n, .string s]] w fun e w' => e = .returned (.tuple #[.bool (false), .int .i64 (n)]) ∧ Below w.heap.size w w' := by
  have HB : Hid (Below w.heap.size w (w.alloc (.cells #[.int .i64 4, .int .i64 n, .string s] 23))) := box_below w _
  go_enter Tryd.func13, Tryd.ntmps13
  go_wp2
  go_quiet ((fail))
  go_wp2
  go_ret2
  exact ⟨rfl, bel_drewN HB.out _⟩
set_option maxHeartbeats 1000000 in
theorem rtotext_bad (n : Int) (s : ByteArray) (w : World) : Calls Tryd.prog 11 #[.agg #[.int .i64 4, .int .i64 n, .string s]] w fun e w' => e = .returned (.tuple #[.string ⟨#[]⟩, .int .i64 (n)]) ∧ Below w.heap.size w w' := by
  have HB : Hid (Below w.heap.size w (w.alloc (.cells #[.int .i64 4, .int .i64 n, .string s] 23))) := box_below w _
  go_enter Tryd.func11, Tryd.ntmps11
  go_wp2
  go_quiet ((fail))
  go_wp2
  go_ret2
  exact ⟨rfl, bel_drewN HB.out _⟩
set_option maxHeartbeats 1000000 in
theorem rtotext_else (k n : Int) (s : ByteArray) (w : World) (h4 : (k == 4) = false) (X : ByteArray) (P : ∀ u : World, Below w.heap.size w u → Calls Tryd.prog 17 #[.agg #[.int .i64 k, .int .i64 n, .string s]] u fun e w' => e = .returned (.string X) ∧ Below u.heap.size u w') :
    Calls Tryd.prog 11 #[.agg #[.int .i64 k, .int .i64 n, .string s]] w fun e w' => e = .returned (.tuple #[.string X, .int .i64 (0)]) ∧ Below w.heap.size w w' := by
  have HB : Hid (Below w.heap.size w (w.alloc (.cells #[.int .i64 k, .int .i64 n, .string s] 23))) := box_below w _
  go_enter Tryd.func11, Tryd.ntmps11
  go_wp2_with (go_at_call 17; refine (P _ HB.out).mono ?_; rintro e w2 ⟨rfl, hb⟩; have HB2 : Hid (Below w.heap.size w w2) := bel_step HB.out hb; clear hb)
  go_ret2
  exact ⟨rfl, HB2.out⟩
theorem ixn0 (W : World) : (Instr.index 61 (.agg namesV) (.int .i64 0)).run Tryd.prog W = .ok (.string (fnm 0)) W := by kernel_rfl
theorem ixn1 (W : World) : (Instr.index 61 (.agg namesV) (.int .i64 1)).run Tryd.prog W = .ok (.string (fnm 1)) W := by kernel_rfl
theorem ixn2 (W : World) : (Instr.index 61 (.agg namesV) (.int .i64 2)).run Tryd.prog W = .ok (.string (fnm 2)) W := by kernel_rfl
theorem ixn3 (W : World) : (Instr.index 61 (.agg namesV) (.int .i64 3)).run Tryd.prog W = .ok (.string (fnm 3)) W := by kernel_rfl
theorem ixn4 (W : World) : (Instr.index 61 (.agg namesV) (.int .i64 4)).run Tryd.prog W = .ok (.string (fnm 4)) W := by kernel_rfl
theorem ixn5 (W : World) : (Instr.index 61 (.agg namesV) (.int .i64 5)).run Tryd.prog W = .ok (.string (fnm 5)) W := by kernel_rfl
theorem ixn6 (W : World) : (Instr.index 61 (.agg namesV) (.int .i64 6)).run Tryd.prog W = .ok (.string (fnm 6)) W := by kernel_rfl
theorem ixn7 (W : World) : (Instr.index 61 (.agg namesV) (.int .i64 7)).run Tryd.prog W = .ok (.string (fnm 7)) W := by kernel_rfl
theorem ixn8 (W : World) : (Instr.index 61 (.agg namesV) (.int .i64 8)).run Tryd.prog W = .ok (.string (fnm 8)) W := by kernel_rfl
theorem index_names (i : Nat) (h : i < 9) (W : World) : (Instr.index 61 (.agg namesV) (.int .i64 (i : Int))).run Tryd.prog W = .ok (.string (fnm i)) W := by
  have h' : i = 0 ∨ i = 1 ∨ i = 2 ∨ i = 3 ∨ i = 4 ∨ i = 5 ∨ i = 6 ∨ i = 7 ∨ i = 8 := by omega
  rcases h' with rfl | rfl | rfl | rfl | rfl | rfl | rfl | rfl | rfl
  · exact ixn0 W
  · exact ixn1 W
  · exact ixn2 W
  · exact ixn3 W
  · exact ixn4 W
  · exact ixn5 W
  · exact ixn6 W
  · exact ixn7 W
  · exact ixn8 W
set_option maxHeartbeats 2000000 in
theorem rtext_bad (n : Int) (s : ByteArray) (w : World) : Calls Tryd.prog 17 #[.agg #[.int .i64 4, .int .i64 n, .string s]] w fun e w' => e = .returned (.string (fnB n)) ∧ Below w.heap.size w w' := by
  have HB : Hid (Below w.heap.size w (w.alloc (.cells #[.int .i64 4, .int .i64 n, .string s] 23))) := box_below w _
  rcases kn_cases n with ⟨g0, g1, h⟩ | ⟨g0, h⟩ | ⟨g0, g1, h⟩
  · have HC : Hid (∀ u : World, Below (w.alloc (.cells #[.int .i64 4, .int .i64 n, .string s] 23)).heap.size (w.alloc (.cells #[.int .i64 4, .int .i64 n, .string s] 23)) u → u.cell? ⟨w.heap.size, 1, none⟩ = some (.int .i64 n)) := fun u hu => (boxcell hu).2.2.1
    have HW : Hid (Below (w.alloc (.cells #[.int .i64 4, .int .i64 n, .string s] 23)).heap.size (w.alloc (.cells #[.int .i64 4, .int .i64 n, .string s] 23)) (w.alloc (.cells #[.int .i64 4, .int .i64 n, .string s] 23)).drew) := (Below.refl _ _).drew
    have NM := fun u => names_any u
    have e : fnB n = fnm n.toNat := by simp [fnB, h]
    rw [e]
    have IX : ∀ W : World, (Instr.index 61 (.agg namesV) (.int .i64 n)).run Tryd.prog W = .ok (.string (fnm n.toNat)) W := fun W => by
      have := index_names n.toNat (by omega) W
      rw [show ((n.toNat : Nat) : Int) = n by omega] at this
      exact this
    clear e
    go_enter Tryd.func17, Tryd.ntmps17
    go_wp2
    go_region_held_law (fun u => u.cell? ⟨w.heap.size, 1, none⟩ = some (.int .i64 n)) (exact HC.out _ HW.out) (
      (go_at_call 48; refine (NM _).mono ?_; rintro e w1 ⟨rfl, hb⟩; have HW : Hid _ := bel_step HW.out hb; clear hb))
    go_wp2
    go_ret
    exact ⟨rfl, bel1 HW.out⟩
  · have e : fnB n = ⟨#[]⟩ := by simp [fnB, h]
    rw [e]
    go_enter Tryd.func17, Tryd.ntmps17
    go_wp2
    go_ret
    exact ⟨rfl, HB.out⟩
  · have e : fnB n = ⟨#[]⟩ := by simp [fnB, h]
    rw [e]
    go_enter Tryd.func17, Tryd.ntmps17
    go_wp2
    go_ret
    exact ⟨rfl, HB.out⟩
end Go.Proofs.YtelpllilepkjmaaDoor
