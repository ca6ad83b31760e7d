/- Refs and places are compared as structs. -/
import Derived.Test.YtjimgjohfpcnpaaDoorAMem
namespace Go.Proofs.YtjimgjohfpcnpaaDoor
open Go.RowKit
set_option maxRecDepth 100000
set_option linter.unusedVariables false
set_option linter.unusedSimpArgs false
theorem guard23 : Tryd.prog.eqGuardType Tryd.prog.depth 23 = false := by kernel_rfl
theorem guard36 : Tryd.prog.eqGuardType Tryd.prog.depth 36 = false := by kernel_rfl
theorem held23 : Tryd.prog.stoodInHeld 23 = false := by kernel_rfl
theorem held36 : Tryd.prog.stoodInHeld 36 = false := by kernel_rfl
theorem str23 : Tryd.prog.underlying 23 = some (.struct (Tryd.prog.fieldsOf 23)) := by kernel_rfl
theorem str36 : Tryd.prog.underlying 36 = some (.struct (Tryd.prog.fieldsOf 36)) := by kernel_rfl
abbrev rf0 : Field := { name := "Book", type := 9, offset := 0, embedded := false, tag := "", pkgPath := "", byteOffset := 0 }
abbrev rf1 : Field := { name := "Sheet", type := 9, offset := 1, embedded := false, tag := "", pkgPath := "", byteOffset := 16 }
abbrev rf2 : Field := { name := "Row", type := 3, offset := 2, embedded := false, tag := "", pkgPath := "", byteOffset := 32 }
abbrev rf3 : Field := { name := "Col", type := 3, offset := 3, embedded := false, tag := "", pkgPath := "", byteOffset := 40 }
abbrev rf4 : Field := { name := "FixRow", type := 4, offset := 4, embedded := false, tag := "", pkgPath := "", byteOffset := 48 }
abbrev rf5 : Field := { name := "FixCol", type := 4, offset := 5, embedded := false, tag := "", pkgPath := "", byteOffset := 49 }
theorem fields23 : (Tryd.prog.fieldsOf 23).toList = [rf0, rf1, rf2, rf3, rf4, rf5] := by kernel_rfl
theorem fields36 : (Tryd.prog.fieldsOf 36).toList = [rf0, rf1, rf2, rf3] := by kernel_rfl
section
variable (b s : ByteArray) (r c : Int) (fr fc : Bool) (b' s' : ByteArray) (r' c' : Int) (fr' fc' : Bool) (W : World)
theorem eqn_ref : (Op.equalIn 10000 23 (refV b s r c fr fc) (refV b s r c fr fc)).run Tryd.prog W = .ok true W := by
  rw [run_equalIn_struct W 9999 23 _ _ str23 held23, fields23]
  have h9 := Tryd.underlying9
  have h3 := Tryd.underlying3
  have h4 := Tryd.underlying4
  have a9 := Tryd.isAgg9
  have a3 := Tryd.isAgg3
  have a4 := Tryd.isAgg4
  have z9 := Tryd.sizeOf9
  have z3 := Tryd.sizeOf3
  have z4 := Tryd.sizeOf4
  simp only [Op.eqFields]
  go_simp
theorem eqn_plc : (Op.equalIn 10000 36 (plcV b s r c) (plcV b s r c)).run Tryd.prog W = .ok true W := by
  rw [run_equalIn_struct W 9999 36 _ _ str36 held36, fields36]
  have h9 := Tryd.underlying9
  have h3 := Tryd.underlying3
  have h4 := Tryd.underlying4
  have a9 := Tryd.isAgg9
  have a3 := Tryd.isAgg3
  have a4 := Tryd.isAgg4
  have z9 := Tryd.sizeOf9
  have z3 := Tryd.sizeOf3
  have z4 := Tryd.sizeOf4
  simp only [Op.eqFields]
  go_simp
theorem nen_b (hb : (b.toList == b'.toList) = false) : (Op.equalIn 10000 23 (refV b s r c fr fc) (refV b' s' r' c' fr' fc')).run Tryd.prog W = .ok false W := by
  rw [run_equalIn_struct W 9999 23 _ _ str23 held23, fields23]
  have h9 := Tryd.underlying9
  have h3 := Tryd.underlying3
  have h4 := Tryd.underlying4
  have a9 := Tryd.isAgg9
  have a3 := Tryd.isAgg3
  have a4 := Tryd.isAgg4
  have z9 := Tryd.sizeOf9
  have z3 := Tryd.sizeOf3
  have z4 := Tryd.sizeOf4
  simp only [Op.eqFields]
  go_simp
theorem nen_s (hb : (b.toList == b'.toList) = true) (hs : (s.toList == s'.toList) = false) : (Op.equalIn 10000 23 (refV b s r c fr fc) (refV b' s' r' c' fr' fc')).run Tryd.prog W = .ok false W := by
  rw [run_equalIn_struct W 9999 23 _ _ str23 held23, fields23]
  have h9 := Tryd.underlying9
  have h3 := Tryd.underlying3
  have h4 := Tryd.underlying4
  have a9 := Tryd.isAgg9
  have a3 := Tryd.isAgg3
  have a4 := Tryd.isAgg4
  have z9 := Tryd.sizeOf9
  have z3 := Tryd.sizeOf3
  have z4 := Tryd.sizeOf4
  simp only [Op.eqFields]
  go_simp
theorem run_eq_ref : (binOp .eql 23 (refV b s r c fr fc) (refV b s r c fr fc)).run Tryd.prog W = .ok (.bool true) W := by
  rw [run_eql_struct, eqn_ref]
  rfl
theorem run_ne_ref : (binOp .neq 23 (refV b s r c fr fc) (refV b s r c fr fc)).run Tryd.prog W = .ok (.bool false) W := by
  rw [run_neq_struct, eqn_ref]
  rfl
theorem run_eq_plc : (binOp .eql 36 (plcV b s r c) (plcV b s r c)).run Tryd.prog W = .ok (.bool true) W := by
  rw [run_eql_struct, eqn_plc]
  rfl
theorem run_ne_other (h : (b.toList == b'.toList) = false ∨ (s.toList == s'.toList) = false) : (binOp .neq 23 (refV b s r c fr fc) (refV b' s' r' c' fr' fc')).run Tryd.prog W = .ok (.bool true) W := by
  rw [run_neq_struct]
  cases hb : (b.toList == b'.toList)
  · rw [nen_b _ _ _ _ _ _ _ _ _ _ _ _ _ hb]; rfl
  · rw [hb] at h
    rw [nen_s _ _ _ _ _ _ _ _ _ _ _ _ _ hb (h.resolve_left (by decide))]; rfl
end
end Go.Proofs.YtjimgjohfpcnpaaDoor
