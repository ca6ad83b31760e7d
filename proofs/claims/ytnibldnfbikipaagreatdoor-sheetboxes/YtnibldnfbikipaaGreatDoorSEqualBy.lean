/- SEq, SEqual. -/
import Derived.Test.YtnibldnfbikipaaGreatDoorSRtBy
set_option linter.unusedVariables false
set_option linter.unusedSimpArgs false
set_option maxHeartbeats 16000000
set_option maxRecDepth 100000
namespace Go.Proofs.YtnibldnfbikipaaGreatDoor.Sh
open Go.RowKit
theorem cstr : Tryz.prog.underlying 57 = some (.struct (Tryz.prog.fieldsOf 57)) := by kernel_rfl
theorem cheld : Tryz.prog.stoodInHeld 57 = false := by kernel_rfl
theorem cfields : (Tryz.prog.fieldsOf 57).toList = [{ name := "Row", type := 3, offset := 0, embedded := false, tag := "", pkgPath := "", byteOffset := 0 }, { name := "Col", type := 3, offset := 1, embedded := false, tag := "", pkgPath := "", byteOffset := 8 }, { name := "Text", type := 9, offset := 2, embedded := false, tag := "", pkgPath := "", byteOffset := 16 }] := by kernel_rfl
theorem nstr : Tryz.prog.underlying 89 = some (.struct (Tryz.prog.fieldsOf 89)) := by kernel_rfl
theorem nheld : Tryz.prog.stoodInHeld 89 = false := by kernel_rfl
theorem nfields : (Tryz.prog.fieldsOf 89).toList = [{ name := "Scope", type := 9, offset := 0, embedded := false, tag := "", pkgPath := "", byteOffset := 0 }, { name := "Name", type := 9, offset := 1, embedded := false, tag := "", pkgPath := "", byteOffset := 16 }, { name := "Text", type := 9, offset := 2, embedded := false, tag := "", pkgPath := "", byteOffset := 32 }] := by kernel_rfl
theorem vstr : Tryz.prog.underlying 62 = some (.struct (Tryz.prog.fieldsOf 62)) := by kernel_rfl
theorem vheld : Tryz.prog.stoodInHeld 62 = false := by kernel_rfl
theorem vfields : (Tryz.prog.fieldsOf 62).toList = [{ name := "Kind", type := 3, offset := 0, embedded := false, tag := "", pkgPath := "", byteOffset := 0 }, { name := "N", type := 3, offset := 1, embedded := false, tag := "", pkgPath := "", byteOffset := 8 }, { name := "S", type := 9, offset := 2, embedded := false, tag := "", pkgPath := "", byteOffset := 16 }] := by kernel_rfl
theorem lstr : Tryz.prog.underlying 91 = some (.struct (Tryz.prog.fieldsOf 91)) := by kernel_rfl
theorem lheld : Tryz.prog.stoodInHeld 91 = false := by kernel_rfl
theorem lfields : (Tryz.prog.fieldsOf 91).toList = [{ name := "Book", type := 9, offset := 0, embedded := false, tag := "", pkgPath := "", byteOffset := 0 }, { name := "Sheet", type := 9, offset := 1, embedded := false, tag := "", pkgPath := "", byteOffset := 16 }, { name := "Row", type := 3, offset := 2, embedded := false, tag := "", pkgPath := "", byteOffset := 32 }, { name := "Col", type := 3, offset := 3, embedded := false, tag := "", pkgPath := "", byteOffset := 40 }, { name := "Value", type := 62, offset := 4, embedded := false, tag := "", pkgPath := "", byteOffset := 48 }] := by kernel_rfl
def cellEq (a b : CellT) : Bool := a.row == b.row && (a.col == b.col && a.text.toList == b.text.toList)
def nameEq (a b : NameT) : Bool := a.scope.toList == b.scope.toList && (a.name.toList == b.name.toList && a.text.toList == b.text.toList)
def valEq (a b : ValT) : Bool := a.kind == b.kind && (a.n == b.n && a.s.toList == b.s.toList)
def linkEq (a b : LinkT) : Bool := a.book.toList == b.book.toList && (a.sheet.toList == b.sheet.toList && (a.row == b.row && (a.col == b.col && valEq a.value b.value)))
theorem ceqn (a b : CellT) (W : World) : (Op.equalIn 10000 57 (cellV a) (cellV b)).run Tryz.prog W = .ok (cellEq a b) W := by
 rw [run_equalIn_struct W 9999 57 _ _ cstr cheld, cfields]
 have h9 := Tryz.underlying9
 have a9 := Tryz.isAgg9
 have z9 := Tryz.sizeOf9
 have h3 := Tryz.underlying3
 have a3 := Tryz.isAgg3
 have z3 := Tryz.sizeOf3
 obtain ⟨r1, c1, t1⟩ := a
 obtain ⟨r2, c2, t2⟩ := b
 unfold cellEq
 simp only [Op.eqFields]
 cases e1 : r1 == r2
 ·go_simp
 ·cases e2 : c1 == c2
  ·go_simp
  ·cases e3 : t1.toList == t2.toList
   ·go_simp
   ·go_simp
theorem cne (a b : CellT) (W : World) : (binOp .neq 57 (cellV a) (cellV b)).run Tryz.prog W = .ok (.bool (!cellEq a b)) W := by
 rw [run_neq_struct, ceqn]
 rfl
theorem neqn (a b : NameT) (W : World) : (Op.equalIn 10000 89 (nameV a) (nameV b)).run Tryz.prog W = .ok (nameEq a b) W := by
 rw [run_equalIn_struct W 9999 89 _ _ nstr nheld, nfields]
 have h9 := Tryz.underlying9
 have a9 := Tryz.isAgg9
 have z9 := Tryz.sizeOf9
 obtain ⟨r1, c1, t1⟩ := a
 obtain ⟨r2, c2, t2⟩ := b
 unfold nameEq
 simp only [Op.eqFields]
 cases e1 : r1.toList == r2.toList
 ·go_simp
 ·cases e2 : c1.toList == c2.toList
  ·go_simp
  ·cases e3 : t1.toList == t2.toList
   ·go_simp
   ·go_simp
theorem nne (a b : NameT) (W : World) : (binOp .neq 89 (nameV a) (nameV b)).run Tryz.prog W = .ok (.bool (!nameEq a b)) W := by
 rw [run_neq_struct, neqn]
 rfl
theorem veqn (k : Nat) (a b : ValT) (W : World) : (Op.equalIn (k + 1 + 1) 62 (valV a) (valV b)).run Tryz.prog W = .ok (valEq a b) W := by
 rw [run_equalIn_struct W (k + 1) 62 _ _ vstr vheld, vfields]
 have h9 := Tryz.underlying9
 have a9 := Tryz.isAgg9
 have z9 := Tryz.sizeOf9
 have h3 := Tryz.underlying3
 have a3 := Tryz.isAgg3
 have z3 := Tryz.sizeOf3
 obtain ⟨r1, c1, t1⟩ := a
 obtain ⟨r2, c2, t2⟩ := b
 unfold valEq
 simp only [Op.eqFields]
 cases e1 : r1 == r2
 ·go_simp
 ·cases e2 : c1 == c2
  ·go_simp
  ·cases e3 : t1.toList == t2.toList
   ·go_simp
   ·go_simp
theorem leqn (a b : LinkT) (W : World) : (Op.equalIn 10000 91 (linkV a) (linkV b)).run Tryz.prog W = .ok (linkEq a b) W := by
 rw [run_equalIn_struct W 9999 91 _ _ lstr lheld, lfields]
 have h9 := Tryz.underlying9
 have a9 := Tryz.isAgg9
 have z9 := Tryz.sizeOf9
 have h3 := Tryz.underlying3
 have a3 := Tryz.isAgg3
 have z3 := Tryz.sizeOf3
 have a62 := Tryz.isAgg62
 have z62 := Tryz.sizeOf62
 obtain ⟨b1, s1, r1, c1, v1⟩ := a
 obtain ⟨b2, s2, r2, c2, v2⟩ := b
 have hv : ∀ W, (Op.equalIn 9999 62 (.agg #[.int .i64 v1.kind, .int .i64 v1.n, .string v1.s]) (.agg #[.int .i64 v2.kind, .int .i64 v2.n, .string v2.s])).run Tryz.prog W = .ok (valEq v1 v2) W := fun W => veqn 9997 v1 v2 W
 unfold linkEq
 simp only [Op.eqFields]
 cases e1 : b1.toList == b2.toList
 ·go_simp
 ·cases e2 : s1.toList == s2.toList
  ·go_simp
  ·cases e3 : r1 == r2
   ·go_simp
   ·cases e4 : c1 == c2
    ·go_simp
    ·generalize valEq v1 v2 = ve at *
     cases ve <;> go_simp
theorem lne (a b : LinkT) (W : World) : (binOp .neq 91 (linkV a) (linkV b)).run Tryz.prog W = .ok (.bool (!linkEq a b)) W := by
 rw [run_neq_struct, leqn]
 rfl
def eqAt {α : Type} (eq : α → α → Bool) (L M : List α) (i : Nat) : Bool := match L[i]?, M[i]? with
 | some x, some y => eq x y
 | _, _ => true
def eqL {α : Type} (eq : α → α → Bool) (L M : List α) : Bool := decide (L.length = M.length) && (List.range L.length).all (eqAt eq L M)
theorem eqL_len {α : Type} {eq : α → α → Bool} {L M : List α} (h : L.length ≠ M.length) : eqL eq L M = false := by unfold eqL; simp [h]
theorem eqL_yes {α : Type} {eq : α → α → Bool} {L M : List α} (h : L.length = M.length) (k : ∀ i, i < L.length → eqAt eq L M i = true) : eqL eq L M = true := by
 unfold eqL
 simp only [h, decide_true, Bool.true_and]
 rw [List.all_eq_true]
 intro i hi
 exact k i (by rw [h]; exact List.mem_range.1 hi)
theorem eqL_no {α : Type} {eq : α → α → Bool} {L M : List α} {i : Nat} (hi : i < L.length) (k : eqAt eq L M i = false) : eqL eq L M = false := by
 unfold eqL
 rw [Bool.and_eq_false_iff]
 right
 rw [List.all_eq_false]
 exact ⟨i, List.mem_range.2 hi, by simp [k]⟩
theorem equal_103 {lo hi lo2 hi2 : Nat} {w : World} {a b : Option Addr} {c d : Nat} {L M : List CellT} (h : Cls lo hi w (.slice a L.length c) L) (hhi : hi ≤ w.heap.size) (h2 : Cls lo2 hi2 w (.slice b M.length d) M) (hhi2 : hi2 ≤ w.heap.size) :
  Calls Tryz.prog 103 #[.slice a L.length c, .slice b M.length d] w fun e w' => e = .returned (.bool (eqL cellEq L M)) ∧ Below w.heap.size w w' := by
 obtain ⟨_, _, he, hz1, hz2⟩ := h.slice
 cases he
 have hlen : L.length ≤ 9223372036854775807 := by unfold maxLen at hz2; omega
 have H1 : Hid (Cls lo hi w (.slice a L.length c) L) := h
 have H2 : Hid (Cls lo2 hi2 w (.slice b M.length d) M) := h2
 have HEA : Hid (∀ k (hk : k < L.length) (hm : k < M.length), eqAt cellEq L M k = cellEq L[k] M[k]) := fun k hk hm => by
  unfold eqAt
  simp only [List.getElem?_eq_getElem hk, List.getElem?_eq_getElem hm]
 generalize hO : eqL cellEq L M = eb
 have HO : Hid (eqL cellEq L M = eb) := hO
 have hgd : Tryz.prog.eqGuardType Tryz.prog.depth 57 = false := by kernel_rfl
 clear h h2 hz1 hz2 hO
 by_cases hlm : L.length = M.length
 ·have hne : ((L.length : Int) != (M.length : Int)) = false := by simp [hlm]
  have HLM : Hid (L.length = M.length) := hlm
  clear hlm
  go_enter Tryz.func103, Tryz.ntmps103
  go_wp2
  go_loopw [13] (fun i wr => ∃ (k : Nat), k ≤ L.length ∧ i = .int .i64 (k : Nat) ∧ Hid (∀ j, j < k → eqAt cellEq L M j = true) ∧ Hid (Below w.heap.size w wr)) (fun i _ => L.length - (intOf i).toNat)
  case atStart => exact ⟨0, Nat.zero_le _, rfl, fun j hj => by omega, Below.refl _ _⟩
  case round =>
   obtain ⟨k, hk, rfl, HA, HD⟩ := hrel
   by_cases hkL : k < L.length
   ·have hki : (k : Int) < L.length := by omega
    have hkM : k < M.length := by rw [← HLM.out]; exact hkL
    have hkm : (k : Int) < M.length := by omega
    have hk63 : k < 9223372036854775807 := by omega
    have HDd : Hid (Below w.heap.size w wr.drew) := HD.out.drew
    obtain ⟨a', _, _, rfl, rfl, _, R1, -, -⟩ := (H1.out.below hhi HDd.out).runs hkL
    obtain ⟨b', _, _, rfl, rfl, _, R2, -, -⟩ := (H2.out.below hhi2 HDd.out).runs hkM
    have HX : Hid (cellEq L[k] M[k] = true → ∀ j, j < k + 1 → eqAt cellEq L M j = true) := fun e j hj => by
     by_cases hjk : j = k
     ·subst hjk; rw [HEA.out j hkL hkM]; exact e
     ·exact HA.out j (by omega)
    have HY : Hid (cellEq L[k] M[k] = false → eb = false) := fun e => by rw [← HO.out]; exact eqL_no hkL (by rw [HEA.out k hkL hkM]; exact e)
    have NE := fun W => cne L[k] M[k] W
    have HS : Hid ((Instr.loadAt 57 (.pointer (some (a'.add (k * 3))))).run Tryz.prog wr.drew = .ok (cellV L[k]) wr.drew ∧ (Instr.loadAt 57 (.pointer (some (b'.add (k * 3))))).run Tryz.prog wr.drew = .ok (cellV M[k]) wr.drew) := ⟨R1.out, R2.out⟩
    clear R1 R2
    generalize L[k] = x at *
    generalize M[k] = y at *
    cases hq : cellEq x y with
    | true =>
     rw [hq] at NE
     have HX2 : Hid _ := HX.out hq
     clear HX HY
     go_wp2
     refine wp_region_d (fun u => (Instr.loadAt 57 (.pointer (some (a'.add (k * 3))))).run Tryz.prog u = .ok (cellV x) u ∧ (Instr.loadAt 57 (.pointer (some (b'.add (k * 3))))).run Tryz.prog u = .ok (cellV y) u) (fun j => false) (by kernel_rfl) ?_
     refine dwp 0 ((.slice (some a') L.length c)) (h := ?_)
     refine dwp 1 ((.int .i64 (k : Int))) (h := ?_)
     refine dwp 2 ((.pointer (some (a'.add (k * 3))))) (h := ?_)
     refine dwl 3 ((cellV x)) (hS := HS.out) (hy := (fun u hSu => exec_load rfl rfl hSu.1)) (h := ?_)
     refine dwp 4 ((.slice (some b') M.length d)) (h := ?_)
     refine dwp 5 ((.int .i64 (k : Int))) (h := ?_)
     refine dwp 6 ((.pointer (some (b'.add (k * 3))))) (h := ?_)
     refine dwl 7 ((cellV y)) (hS := HS.out) (hy := (fun u hSu => exec_load rfl rfl hSu.2)) (h := ?_)
     refine dwp 8 ((.bool false)) (h := ?_)
     refine wpAnyD_done (by kernel_rfl) ?_ _
     go_wp2
     go_roundw
     case rel => exact ⟨k + 1, by omega, by go_num, HX2, HDd⟩
     case measure => simp [intOf]; omega
    | false =>
     rw [hq] at NE
     obtain rfl := HY.out hq
     clear HX HY
     go_wp2
     refine wp_region_d (fun u => (Instr.loadAt 57 (.pointer (some (a'.add (k * 3))))).run Tryz.prog u = .ok (cellV x) u ∧ (Instr.loadAt 57 (.pointer (some (b'.add (k * 3))))).run Tryz.prog u = .ok (cellV y) u) (fun j => false) (by kernel_rfl) ?_
     refine dwp 0 ((.slice (some a') L.length c)) (h := ?_)
     refine dwp 1 ((.int .i64 (k : Int))) (h := ?_)
     refine dwp 2 ((.pointer (some (a'.add (k * 3))))) (h := ?_)
     refine dwl 3 ((cellV x)) (hS := HS.out) (hy := (fun u hSu => exec_load rfl rfl hSu.1)) (h := ?_)
     refine dwp 4 ((.slice (some b') M.length d)) (h := ?_)
     refine dwp 5 ((.int .i64 (k : Int))) (h := ?_)
     refine dwp 6 ((.pointer (some (b'.add (k * 3))))) (h := ?_)
     refine dwl 7 ((cellV y)) (hS := HS.out) (hy := (fun u hSu => exec_load rfl rfl hSu.2)) (h := ?_)
     refine dwp 8 ((.bool true)) (h := ?_)
     refine wpAnyD_done (by kernel_rfl) ?_ _
     go_wp2
     go_ret
     exact ⟨rfl, HDd.out⟩
   ·have hki : ¬ (k : Int) < L.length := by omega
    obtain rfl : eb = true := by rw [← HO.out]; exact eqL_yes HLM.out fun i hi => HA.out i (by omega)
    go_wp2
    go_ret
    exact ⟨rfl, HD.out⟩
 ·have hne : ((L.length : Int) != (M.length : Int)) = true := by simp only [bne_iff_ne]; omega
  obtain rfl : eb = false := by rw [← HO.out]; exact eqL_len hlm
  clear hlm HEA HO
  go_enter Tryz.func103, Tryz.ntmps103
  go_wp2
  go_ret
  exact ⟨rfl, Below.refl _ _⟩
theorem equal_68 {lo hi lo2 hi2 : Nat} {w : World} {a b : Option Addr} {c d : Nat} {L M : List NameT} (h : Nms lo hi w (.slice a L.length c) L) (hhi : hi ≤ w.heap.size) (h2 : Nms lo2 hi2 w (.slice b M.length d) M) (hhi2 : hi2 ≤ w.heap.size) :
  Calls Tryz.prog 68 #[.slice a L.length c, .slice b M.length d] w fun e w' => e = .returned (.bool (eqL nameEq L M)) ∧ Below w.heap.size w w' := by
 obtain ⟨_, _, he, hz1, hz2⟩ := h.slice
 cases he
 have hlen : L.length ≤ 9223372036854775807 := by unfold maxLen at hz2; omega
 have H1 : Hid (Nms lo hi w (.slice a L.length c) L) := h
 have H2 : Hid (Nms lo2 hi2 w (.slice b M.length d) M) := h2
 have HEA : Hid (∀ k (hk : k < L.length) (hm : k < M.length), eqAt nameEq L M k = nameEq L[k] M[k]) := fun k hk hm => by
  unfold eqAt
  simp only [List.getElem?_eq_getElem hk, List.getElem?_eq_getElem hm]
 generalize hO : eqL nameEq L M = eb
 have HO : Hid (eqL nameEq L M = eb) := hO
 have hgd : Tryz.prog.eqGuardType Tryz.prog.depth 89 = false := by kernel_rfl
 clear h h2 hz1 hz2 hO
 by_cases hlm : L.length = M.length
 ·have hne : ((L.length : Int) != (M.length : Int)) = false := by simp [hlm]
  have HLM : Hid (L.length = M.length) := hlm
  clear hlm
  go_enter Tryz.func68, Tryz.ntmps68
  go_wp2
  go_loopw [13] (fun i wr => ∃ (k : Nat), k ≤ L.length ∧ i = .int .i64 (k : Nat) ∧ Hid (∀ j, j < k → eqAt nameEq L M j = true) ∧ Hid (Below w.heap.size w wr)) (fun i _ => L.length - (intOf i).toNat)
  case atStart => exact ⟨0, Nat.zero_le _, rfl, fun j hj => by omega, Below.refl _ _⟩
  case round =>
   obtain ⟨k, hk, rfl, HA, HD⟩ := hrel
   by_cases hkL : k < L.length
   ·have hki : (k : Int) < L.length := by omega
    have hkM : k < M.length := by rw [← HLM.out]; exact hkL
    have hkm : (k : Int) < M.length := by omega
    have hk63 : k < 9223372036854775807 := by omega
    have HDd : Hid (Below w.heap.size w wr.drew) := HD.out.drew
    obtain ⟨a', _, _, rfl, rfl, _, R1, -, -⟩ := (H1.out.below hhi HDd.out).runs hkL
    obtain ⟨b', _, _, rfl, rfl, _, R2, -, -⟩ := (H2.out.below hhi2 HDd.out).runs hkM
    have HX : Hid (nameEq L[k] M[k] = true → ∀ j, j < k + 1 → eqAt nameEq L M j = true) := fun e j hj => by
     by_cases hjk : j = k
     ·subst hjk; rw [HEA.out j hkL hkM]; exact e
     ·exact HA.out j (by omega)
    have HY : Hid (nameEq L[k] M[k] = false → eb = false) := fun e => by rw [← HO.out]; exact eqL_no hkL (by rw [HEA.out k hkL hkM]; exact e)
    have NE := fun W => nne L[k] M[k] W
    have HS : Hid ((Instr.loadAt 89 (.pointer (some (a'.add (k * 3))))).run Tryz.prog wr.drew = .ok (nameV L[k]) wr.drew ∧ (Instr.loadAt 89 (.pointer (some (b'.add (k * 3))))).run Tryz.prog wr.drew = .ok (nameV M[k]) wr.drew) := ⟨R1.out, R2.out⟩
    clear R1 R2
    generalize L[k] = x at *
    generalize M[k] = y at *
    cases hq : nameEq x y with
    | true =>
     rw [hq] at NE
     have HX2 : Hid _ := HX.out hq
     clear HX HY
     go_wp2
     refine wp_region_d (fun u => (Instr.loadAt 89 (.pointer (some (a'.add (k * 3))))).run Tryz.prog u = .ok (nameV x) u ∧ (Instr.loadAt 89 (.pointer (some (b'.add (k * 3))))).run Tryz.prog u = .ok (nameV y) u) (fun j => false) (by kernel_rfl) ?_
     refine dwp 0 ((.slice (some a') L.length c)) (h := ?_)
     refine dwp 1 ((.int .i64 (k : Int))) (h := ?_)
     refine dwp 2 ((.pointer (some (a'.add (k * 3))))) (h := ?_)
     refine dwl 3 ((nameV x)) (hS := HS.out) (hy := (fun u hSu => exec_load rfl rfl hSu.1)) (h := ?_)
     refine dwp 4 ((.slice (some b') M.length d)) (h := ?_)
     refine dwp 5 ((.int .i64 (k : Int))) (h := ?_)
     refine dwp 6 ((.pointer (some (b'.add (k * 3))))) (h := ?_)
     refine dwl 7 ((nameV y)) (hS := HS.out) (hy := (fun u hSu => exec_load rfl rfl hSu.2)) (h := ?_)
     refine dwp 8 ((.bool false)) (h := ?_)
     refine wpAnyD_done (by kernel_rfl) ?_ _
     go_wp2
     go_roundw
     case rel => exact ⟨k + 1, by omega, by go_num, HX2, HDd⟩
     case measure => simp [intOf]; omega
    | false =>
     rw [hq] at NE
     obtain rfl := HY.out hq
     clear HX HY
     go_wp2
     refine wp_region_d (fun u => (Instr.loadAt 89 (.pointer (some (a'.add (k * 3))))).run Tryz.prog u = .ok (nameV x) u ∧ (Instr.loadAt 89 (.pointer (some (b'.add (k * 3))))).run Tryz.prog u = .ok (nameV y) u) (fun j => false) (by kernel_rfl) ?_
     refine dwp 0 ((.slice (some a') L.length c)) (h := ?_)
     refine dwp 1 ((.int .i64 (k : Int))) (h := ?_)
     refine dwp 2 ((.pointer (some (a'.add (k * 3))))) (h := ?_)
     refine dwl 3 ((nameV x)) (hS := HS.out) (hy := (fun u hSu => exec_load rfl rfl hSu.1)) (h := ?_)
     refine dwp 4 ((.slice (some b') M.length d)) (h := ?_)
     refine dwp 5 ((.int .i64 (k : Int))) (h := ?_)
     refine dwp 6 ((.pointer (some (b'.add (k * 3))))) (h := ?_)
     refine dwl 7 ((nameV y)) (hS := HS.out) (hy := (fun u hSu => exec_load rfl rfl hSu.2)) (h := ?_)
     refine dwp 8 ((.bool true)) (h := ?_)
     refine wpAnyD_done (by kernel_rfl) ?_ _
     go_wp2
     go_ret
     exact ⟨rfl, HDd.out⟩
   ·have hki : ¬ (k : Int) < L.length := by omega
    obtain rfl : eb = true := by rw [← HO.out]; exact eqL_yes HLM.out fun i hi => HA.out i (by omega)
    go_wp2
    go_ret
    exact ⟨rfl, HD.out⟩
 ·have hne : ((L.length : Int) != (M.length : Int)) = true := by simp only [bne_iff_ne]; omega
  obtain rfl : eb = false := by rw [← HO.out]; exact eqL_len hlm
  clear hlm HEA HO
  go_enter Tryz.func68, Tryz.ntmps68
  go_wp2
  go_ret
  exact ⟨rfl, Below.refl _ _⟩
theorem equal_69 {lo hi lo2 hi2 : Nat} {w : World} {a b : Option Addr} {c d : Nat} {L M : List LinkT} (h : Lks lo hi w (.slice a L.length c) L) (hhi : hi ≤ w.heap.size) (h2 : Lks lo2 hi2 w (.slice b M.length d) M) (hhi2 : hi2 ≤ w.heap.size) :
  Calls Tryz.prog 69 #[.slice a L.length c, .slice b M.length d] w fun e w' => e = .returned (.bool (eqL linkEq L M)) ∧ Below w.heap.size w w' := by
 obtain ⟨_, _, he, hz1, hz2⟩ := h.slice
 cases he
 have hlen : L.length ≤ 9223372036854775807 := by unfold maxLen at hz2; omega
 have H1 : Hid (Lks lo hi w (.slice a L.length c) L) := h
 have H2 : Hid (Lks lo2 hi2 w (.slice b M.length d) M) := h2
 have HEA : Hid (∀ k (hk : k < L.length) (hm : k < M.length), eqAt linkEq L M k = linkEq L[k] M[k]) := fun k hk hm => by
  unfold eqAt
  simp only [List.getElem?_eq_getElem hk, List.getElem?_eq_getElem hm]
 generalize hO : eqL linkEq L M = eb
 have HO : Hid (eqL linkEq L M = eb) := hO
 have hgd : Tryz.prog.eqGuardType Tryz.prog.depth 91 = false := by kernel_rfl
 clear h h2 hz1 hz2 hO
 by_cases hlm : L.length = M.length
 ·have hne : ((L.length : Int) != (M.length : Int)) = false := by simp [hlm]
  have HLM : Hid (L.length = M.length) := hlm
  clear hlm
  go_enter Tryz.func69, Tryz.ntmps69
  go_wp2
  go_loopw [13] (fun i wr => ∃ (k : Nat), k ≤ L.length ∧ i = .int .i64 (k : Nat) ∧ Hid (∀ j, j < k → eqAt linkEq L M j = true) ∧ Hid (Below w.heap.size w wr)) (fun i _ => L.length - (intOf i).toNat)
  case atStart => exact ⟨0, Nat.zero_le _, rfl, fun j hj => by omega, Below.refl _ _⟩
  case round =>
   obtain ⟨k, hk, rfl, HA, HD⟩ := hrel
   by_cases hkL : k < L.length
   ·have hki : (k : Int) < L.length := by omega
    have hkM : k < M.length := by rw [← HLM.out]; exact hkL
    have hkm : (k : Int) < M.length := by omega
    have hk63 : k < 9223372036854775807 := by omega
    have HDd : Hid (Below w.heap.size w wr.drew) := HD.out.drew
    obtain ⟨a', _, _, rfl, rfl, _, R1, -, -⟩ := (H1.out.below hhi HDd.out).runs hkL
    obtain ⟨b', _, _, rfl, rfl, _, R2, -, -⟩ := (H2.out.below hhi2 HDd.out).runs hkM
    have HX : Hid (linkEq L[k] M[k] = true → ∀ j, j < k + 1 → eqAt linkEq L M j = true) := fun e j hj => by
     by_cases hjk : j = k
     ·subst hjk; rw [HEA.out j hkL hkM]; exact e
     ·exact HA.out j (by omega)
    have HY : Hid (linkEq L[k] M[k] = false → eb = false) := fun e => by rw [← HO.out]; exact eqL_no hkL (by rw [HEA.out k hkL hkM]; exact e)
    have NE := fun W => lne L[k] M[k] W
    have HS : Hid ((Instr.loadAt 91 (.pointer (some (a'.add (k * 7))))).run Tryz.prog wr.drew = .ok (linkV L[k]) wr.drew ∧ (Instr.loadAt 91 (.pointer (some (b'.add (k * 7))))).run Tryz.prog wr.drew = .ok (linkV M[k]) wr.drew) := ⟨R1.out, R2.out⟩
    clear R1 R2
    generalize L[k] = x at *
    generalize M[k] = y at *
    cases hq : linkEq x y with
    | true =>
     rw [hq] at NE
     have HX2 : Hid _ := HX.out hq
     clear HX HY
     go_wp2
     refine wp_region_d (fun u => (Instr.loadAt 91 (.pointer (some (a'.add (k * 7))))).run Tryz.prog u = .ok (linkV x) u ∧ (Instr.loadAt 91 (.pointer (some (b'.add (k * 7))))).run Tryz.prog u = .ok (linkV y) u) (fun j => false) (by kernel_rfl) ?_
     refine dwp 0 ((.slice (some a') L.length c)) (h := ?_)
     refine dwp 1 ((.int .i64 (k : Int))) (h := ?_)
     refine dwp 2 ((.pointer (some (a'.add (k * 7))))) (h := ?_)
     refine dwl 3 ((linkV x)) (hS := HS.out) (hy := (fun u hSu => exec_load rfl rfl hSu.1)) (h := ?_)
     refine dwp 4 ((.slice (some b') M.length d)) (h := ?_)
     refine dwp 5 ((.int .i64 (k : Int))) (h := ?_)
     refine dwp 6 ((.pointer (some (b'.add (k * 7))))) (h := ?_)
     refine dwl 7 ((linkV y)) (hS := HS.out) (hy := (fun u hSu => exec_load rfl rfl hSu.2)) (h := ?_)
     refine dwp 8 ((.bool false)) (h := ?_)
     refine wpAnyD_done (by kernel_rfl) ?_ _
     go_wp2
     go_roundw
     case rel => exact ⟨k + 1, by omega, by go_num, HX2, HDd⟩
     case measure => simp [intOf]; omega
    | false =>
     rw [hq] at NE
     obtain rfl := HY.out hq
     clear HX HY
     go_wp2
     refine wp_region_d (fun u => (Instr.loadAt 91 (.pointer (some (a'.add (k * 7))))).run Tryz.prog u = .ok (linkV x) u ∧ (Instr.loadAt 91 (.pointer (some (b'.add (k * 7))))).run Tryz.prog u = .ok (linkV y) u) (fun j => false) (by kernel_rfl) ?_
     refine dwp 0 ((.slice (some a') L.length c)) (h := ?_)
     refine dwp 1 ((.int .i64 (k : Int))) (h := ?_)
     refine dwp 2 ((.pointer (some (a'.add (k * 7))))) (h := ?_)
     refine dwl 3 ((linkV x)) (hS := HS.out) (hy := (fun u hSu => exec_load rfl rfl hSu.1)) (h := ?_)
     refine dwp 4 ((.slice (some b') M.length d)) (h := ?_)
     refine dwp 5 ((.int .i64 (k : Int))) (h := ?_)
     refine dwp 6 ((.pointer (some (b'.add (k * 7))))) (h := ?_)
     refine dwl 7 ((linkV y)) (hS := HS.out) (hy := (fun u hSu => exec_load rfl rfl hSu.2)) (h := ?_)
     refine dwp 8 ((.bool true)) (h := ?_)
     refine wpAnyD_done (by kernel_rfl) ?_ _
     go_wp2
     go_ret
     exact ⟨rfl, HDd.out⟩
   ·have hki : ¬ (k : Int) < L.length := by omega
    obtain rfl : eb = true := by rw [← HO.out]; exact eqL_yes HLM.out fun i hi => HA.out i (by omega)
    go_wp2
    go_ret
    exact ⟨rfl, HD.out⟩
 ·have hne : ((L.length : Int) != (M.length : Int)) = true := by simp only [bne_iff_ne]; omega
  obtain rfl : eb = false := by rw [← HO.out]; exact eqL_len hlm
  clear hlm HEA HO
  go_enter Tryz.func69, Tryz.ntmps69
  go_wp2
  go_ret
  exact ⟨rfl, Below.refl _ _⟩
end Go.Proofs.YtnibldnfbikipaaGreatDoor.Sh
