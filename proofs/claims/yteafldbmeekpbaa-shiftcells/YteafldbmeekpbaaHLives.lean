/- Shifts compared as structs, and the document's examples. -/
import Derived.Test.YteafldbmeekpbaaHSpan
import Derived.Test.YteafldbmeekpbaaHRSpan
namespace Go.Proofs.Yteafldbmeekpbaa
open Go.RowKit
set_option maxRecDepth 100000
set_option linter.unusedVariables false
set_option linter.unusedSimpArgs false
theorem guard23 : Try.prog.eqGuardType Try.prog.depth 23 = false := by kernel_rfl
theorem guard25 : Try.prog.eqGuardType Try.prog.depth 25 = false := by kernel_rfl
theorem held23 : Try.prog.stoodInHeld 23 = false := by kernel_rfl
theorem held25 : Try.prog.stoodInHeld 25 = false := by kernel_rfl
theorem str23 : Try.prog.underlying 23 = some (.struct (Try.prog.fieldsOf 23)) := by kernel_rfl
theorem str25 : Try.prog.underlying 25 = some (.struct (Try.prog.fieldsOf 25)) := by kernel_rfl
abbrev rf0 : Field := { name := "At", type := 3, offset := 0, embedded := false, tag := "", pkgPath := "", byteOffset := 0 }
abbrev rf1 : Field := { name := "N", type := 3, offset := 1, embedded := false, tag := "", pkgPath := "", byteOffset := 8 }
abbrev rf2 : Field := { name := "Most", type := 3, offset := 2, embedded := false, tag := "", pkgPath := "", byteOffset := 16 }
theorem fields23 : (Try.prog.fieldsOf 23).toList = [rf0, rf1, rf2] := by kernel_rfl
theorem fields25 : (Try.prog.fieldsOf 25).toList = [rf0, rf1, rf2] := by kernel_rfl
section
variable (a n m : Int) (W : World)
theorem eqn23 : (Op.equalIn 10000 23 (shV a n m) (shV a n m)).run Try.prog W = .ok true W := by
  rw [run_equalIn_struct W 9999 23 _ _ str23 held23, fields23]
  have h3 := Try.underlying3
  have a3 := Try.isAgg3
  have z3 := Try.sizeOf3
  simp only [Op.eqFields]
  go_simp
theorem eqn25 : (Op.equalIn 10000 25 (shV a n m) (shV a n m)).run Try.prog W = .ok true W := by
  rw [run_equalIn_struct W 9999 25 _ _ str25 held25, fields25]
  have h3 := Try.underlying3
  have a3 := Try.isAgg3
  have z3 := Try.sizeOf3
  simp only [Op.eqFields]
  go_simp
end
theorem lv1 : posF 3 2 64 3 = 5 ∧ posB 3 2 64 3 = true ∧ spL 3 2 64 1 3 = 1 ∧ spH 3 2 64 1 3 = 5 ∧ spB 3 2 64 1 3 = true ∧ spL 3 (-2) 64 3 4 = 0 ∧ spH 3 (-2) 64 3 4 = 0 ∧ spB 3 (-2) 64 3 4 = false ∧ goodB 3 2 64 = true := by decide
set_option maxHeartbeats 4000000 in
theorem lives_any (w : World) : Calls Try.prog 16 #[] w fun e w' => e = .returned (.bool true) ∧ Below w.heap.size w w' := by
  obtain ⟨x1, x2, x3, x4, x5, x6, x7, x8, x9⟩ := lv1
  have HB0 : Hid (Below (w.alloc (shO 3 2 64 23)).heap.size (w.alloc (shO 3 2 64 23)) (w.alloc (shO 3 2 64 23))) := Below.refl _ _
  have P1 : RC (w.alloc (shO 3 2 64 23)) 8 #[shV 3 2 64, .int .i64 3] _ := RC.of fun u => pos_any 3 2 64 3 u
  have S1 : RC (w.alloc (shO 3 2 64 23)) 10 #[shV 3 2 64, .int .i64 1, .int .i64 3] _ := RC.of fun u => span_any 3 2 64 1 3 u
  have S2 : RC (w.alloc (shO 3 2 64 23)) 10 #[shV 3 (-2) 64, .int .i64 3, .int .i64 4] _ := RC.of fun u => span_any 3 (-2) 64 3 4 u
  have G1 : RC (w.alloc (shO 3 2 64 23)) 12 #[shV 3 2 64] _ := RC.of fun u => good_any 3 2 64 u
  rw [x1, x2] at P1
  rw [x3, x4, x5] at S1
  rw [x6, x7, x8] at S2
  rw [x9] at G1
  clear x1 x2 x3 x4 x5 x6 x7 x8 x9
  go_enter Try.func16, Try.ntmps16
  go_wp2_with (first
    | (go_at_call 8; refine (P1 _ HB0.out).mono ?_; clear P1; rintro e w1 ⟨rfl, hb⟩; have H1 : Hid (Below (w.alloc (shO 3 2 64 23)).heap.size (w.alloc (shO 3 2 64 23)) w1) := hb; clear hb; obtain ⟨c0, c1, c2⟩ := box_cells H1.out)
    | (go_at_call 10; refine (S1 _ H1.out).mono ?_; clear S1; rintro e w2 ⟨rfl, hb⟩; have H2 : Hid (Below (w.alloc (shO 3 2 64 23)).heap.size (w.alloc (shO 3 2 64 23)) w2) := hb; clear hb c0 c1 c2; obtain ⟨c0, c1, c2⟩ := box_cells H2.out)
    | (go_at_call 10; refine (S2 _ H2.out).mono ?_; clear S2; rintro e w3 ⟨rfl, hb⟩; have H3 : Hid (Below (w.alloc (shO 3 2 64 23)).heap.size (w.alloc (shO 3 2 64 23)) w3) := hb; clear hb c0 c1 c2; obtain ⟨c0, c1, c2⟩ := box_cells H3.out)
    | (go_at_call 12; refine (G1 _ H3.out).mono ?_; clear G1; rintro e w4 ⟨rfl, hb⟩; have H4 : Hid (Below (w.alloc (shO 3 2 64 23)).heap.size (w.alloc (shO 3 2 64 23)) w4) := hb; clear hb))
  go_ret
  exact ⟨rfl, bel1 H4.out⟩
end Go.Proofs.Yteafldbmeekpbaa
