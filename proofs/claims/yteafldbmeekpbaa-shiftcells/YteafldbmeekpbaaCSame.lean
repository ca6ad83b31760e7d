/- same: the very same cells; structs of cells compared. -/
import Derived.Test.YteafldbmeekpbaaCMem
import Derived.Test.YteafldbmeekpbaaVDraw
import Derived.Laws.StructEq
namespace Go.Proofs.Yteafldbmeekpbaa
open Go.RowKit
set_option maxRecDepth 100000
set_option linter.unusedVariables false
set_option linter.unusedSimpArgs false
theorem nguard : Try.prog.eqGuardType Try.prog.depth 45 = false := by kernel_rfl
theorem nheld : Try.prog.stoodInHeld 45 = false := by kernel_rfl
theorem nstr : Try.prog.underlying 45 = some (.struct (Try.prog.fieldsOf 45)) := by kernel_rfl
abbrev nf0 : Field := { name := "Row", type := 3, offset := 0, embedded := false, tag := "", pkgPath := "", byteOffset := 0 }
abbrev nf1 : Field := { name := "Col", type := 3, offset := 1, embedded := false, tag := "", pkgPath := "", byteOffset := 8 }
abbrev nf2 : Field := { name := "Text", type := 9, offset := 2, embedded := false, tag := "", pkgPath := "", byteOffset := 16 }
theorem nfields : (Try.prog.fieldsOf 45).toList = [nf0, nf1, nf2] := by kernel_rfl
theorem neqn (x : CT) (W : World) : (Op.equalIn 10000 45 (nmV x) (nmV x)).run Try.prog W = .ok true W := by
  rw [run_equalIn_struct W 9999 45 _ _ nstr nheld, nfields]
  have h9 := Try.underlying9
  have h3 := Try.underlying3
  have a3 := Try.isAgg3
  have z3 := Try.sizeOf3
  have a9 := Try.isAgg9
  have z9 := Try.sizeOf9
  simp only [Op.eqFields]
  go_simp
theorem nrun_eq (x : CT) (W : World) : (binOp .eql 45 (nmV x) (nmV x)).run Try.prog W = .ok (.bool true) W := by
  rw [run_eql_struct, neqn]
  rfl
theorem nrun_ne (x : CT) (W : World) : (binOp .neq 45 (nmV x) (nmV x)).run Try.prog W = .ok (.bool false) W := by
  rw [run_neq_struct, neqn]
  rfl
theorem nexec_load {P : Program} {ev : Operand → Value} {o : Oper} {ty : TypeId} {x : Operand} {p v : Value} {u : World} (ho : o.op = .load ty x) (hx : ev x = p) (hrun : (Instr.loadAt ty p).run P u = .ok v u) : (execOp ev o).run P u = .ok (.value v) u := by
  unfold execOp
  simp only [ho, hx, Sem.run_bind, Sem.run_pure, hrun, Result.andThen_ok]
theorem nrun_drew {w : World} {a : Addr} {x : CT} (h : ∀ u : World, u.heap = w.heap → (Instr.loadAt 45 (.pointer (some a))).run Try.prog u = .ok (nmV x) u) : (Instr.loadAt 45 (.pointer (some a))).run Try.prog w.drew = .ok (nmV x) w.drew := h _ rfl
set_option maxHeartbeats 8000000 in
theorem nsame_any (L : List CT) (hn : L.length ≤ 4398046511104) (w : World) (p q : Option Addr) (n c m d : Nat) (h : Rds w p n L) (k : Rds w q m L) :
    Calls Try.prog 19 #[.slice p n c, .slice q m d] w fun e w' => e = .returned (.bool true) ∧ Below w.heap.size w w' := by
  obtain rfl : m = n := by rw [h.1, k.1]
  have HR : Hid (Rds w p m L) := h
  have HK : Hid (Rds w q m L) := k
  have HN : Hid (m = L.length) := h.1
  have hn2 : m ≤ 4398046511104 := by rw [h.1]; exact hn
  clear h k hn
  go_enter Try.func19, Try.ntmps19
  go_wp2
  go_loopw [13] (fun i wr => ∃ (k : Nat), k ≤ m ∧ i = .int .i64 (k : Nat) ∧ Hid (Below w.heap.size w wr)) (fun i _ => m - (intOf i).toNat)
  case atStart => exact ⟨0, Nat.zero_le _, rfl, Below.refl _ _⟩
  case round =>
    obtain ⟨k, hk, rfl, HB⟩ := hrel
    by_cases hlt : k < m
    · have hki : (k : Int) < m := by omega
      have hkL : k < L.length := by rw [← HN.out]; exact hlt
      have HBd : Hid (Below w.heap.size w wr.drew) := HB.out.drew
      obtain ⟨a', rfl, RL⟩ := (HR.out.below HBd.out).load hkL
      obtain ⟨b', rfl, RK⟩ := (HK.out.below HBd.out).load hkL
      have NE := fun W => nrun_ne L[k] W
      have HS : Hid ((Instr.loadAt 45 (.pointer (some (a'.add (k * 3))))).run Try.prog wr.drew = .ok (nmV L[k]) wr.drew ∧ (Instr.loadAt 45 (.pointer (some (b'.add (k * 3))))).run Try.prog wr.drew = .ok (nmV L[k]) wr.drew) := ⟨RL, RK⟩
      clear RL RK
      generalize L[k] = y at *
      go_wp2
      refine wp_region_d (fun u => (Instr.loadAt 45 (.pointer (some (a'.add (k * 3))))).run Try.prog u = .ok (nmV y) u ∧ (Instr.loadAt 45 (.pointer (some (b'.add (k * 3))))).run Try.prog u = .ok (nmV y) u) (fun _ => false) (by kernel_rfl) ?_
      refine wpAnyD_pured (i := 0) (v := .slice (some a') m c) rfl rfl (by kernel_rfl) (by kernel_rfl) (by kernel_rfl) (fun _ _ _ h => h) (by go_simp) (by intro u; go_simp) ?_
      try simp only [Act.put, List.setIfInBounds_toArray, List.set_cons_zero, List.set_cons_succ]
      refine wpAnyD_pured (i := 1) (v := .int .i64 (k : Int)) rfl rfl (by kernel_rfl) (by kernel_rfl) (by kernel_rfl) (fun _ _ _ h => h) (by go_simp) (by intro u; go_simp) ?_
      try simp only [Act.put, List.setIfInBounds_toArray, List.set_cons_zero, List.set_cons_succ]
      refine wpAnyD_pured (i := 2) (v := .pointer (some (a'.add (k * 3)))) rfl rfl (by kernel_rfl) (by kernel_rfl) (by kernel_rfl) (fun _ _ _ h => h) (by go_simp) (by intro u; go_simp) ?_
      try simp only [Act.put, List.setIfInBounds_toArray, List.set_cons_zero, List.set_cons_succ]
      refine wpAnyD_loadd (i := 3) (v := nmV y) rfl rfl (by kernel_rfl) (by kernel_rfl) (by kernel_rfl) (by kernel_rfl) (fun _ _ _ h => h) (by go_simp) (fun u hSu => nexec_load rfl rfl hSu.1) HS.out ?_
      try simp only [Act.put, List.setIfInBounds_toArray, List.set_cons_zero, List.set_cons_succ]
      refine wpAnyD_pured (i := 4) (v := .slice (some b') m d) rfl rfl (by kernel_rfl) (by kernel_rfl) (by kernel_rfl) (fun _ _ _ h => h) (by go_simp) (by intro u; go_simp) ?_
      try simp only [Act.put, List.setIfInBounds_toArray, List.set_cons_zero, List.set_cons_succ]
      refine wpAnyD_pured (i := 5) (v := .int .i64 (k : Int)) rfl rfl (by kernel_rfl) (by kernel_rfl) (by kernel_rfl) (fun _ _ _ h => h) (by go_simp) (by intro u; go_simp) ?_
      try simp only [Act.put, List.setIfInBounds_toArray, List.set_cons_zero, List.set_cons_succ]
      refine wpAnyD_pured (i := 6) (v := .pointer (some (b'.add (k * 3)))) rfl rfl (by kernel_rfl) (by kernel_rfl) (by kernel_rfl) (fun _ _ _ h => h) (by go_simp) (by intro u; go_simp) ?_
      try simp only [Act.put, List.setIfInBounds_toArray, List.set_cons_zero, List.set_cons_succ]
      refine wpAnyD_loadd (i := 7) (v := nmV y) rfl rfl (by kernel_rfl) (by kernel_rfl) (by kernel_rfl) (by kernel_rfl) (fun _ _ _ h => h) (by go_simp) (fun u hSu => nexec_load rfl rfl hSu.2) HS.out ?_
      try simp only [Act.put, List.setIfInBounds_toArray, List.set_cons_zero, List.set_cons_succ]
      refine wpAnyD_pured (i := 8) (v := .bool false) rfl rfl (by kernel_rfl) (by kernel_rfl) (by kernel_rfl) (fun _ _ _ h => h) (by go_simp) (by intro u; go_simp) ?_
      try simp only [Act.put, List.setIfInBounds_toArray, List.set_cons_zero, List.set_cons_succ]
      refine wpAnyD_done (by kernel_rfl) ?_ _
      go_wp2
      go_roundw
      case rel => exact ⟨k + 1, by omega, by go_num, HBd⟩
      case measure => simp [intOf]; omega
    · have hki : ¬ (k : Int) < m := by omega
      go_wp2
      go_ret
      exact ⟨rfl, HB.out⟩
end Go.Proofs.Yteafldbmeekpbaa
