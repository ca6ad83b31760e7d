/- FAlike, FAlike2. -/
import Derived.Test.YtljfkkpkcjigpaaGreatDoorAEqa
set_option linter.unusedVariables false
set_option linter.unusedSimpArgs false
namespace Go.Proofs.YtljfkkpkcjigpaaGreatDoor
open Go.RowKit Go.Fm
set_option maxRecDepth 100000
theorem held23 : Tryz.prog.stoodInHeld 23 = false := by kernel_rfl
theorem guard23 : Tryz.prog.eqGuardType Tryz.prog.depth 23 = false := by kernel_rfl
theorem str23 : Tryz.prog.underlying 23 = some (.struct (Tryz.prog.fieldsOf 23)) := by kernel_rfl
abbrev vf0 : Field := { name := "Kind", type := 3, offset := 0, embedded := false, tag := "", pkgPath := "", byteOffset := 0 }
abbrev vf1 : Field := { name := "N", type := 3, offset := 1, embedded := false, tag := "", pkgPath := "", byteOffset := 8 }
abbrev vf2 : Field := { name := "S", type := 9, offset := 2, embedded := false, tag := "", pkgPath := "", byteOffset := 16 }
theorem fields23 : (Tryz.prog.fieldsOf 23).toList = [vf0, vf1, vf2] := by kernel_rfl
def veB (k n : Int) (s : ByteArray) (k' n' : Int) (s' : ByteArray) : Bool := (k == k') && ((n == n') && (s.toList == s'.toList))
def reB (b s : ByteArray) (r c : Int) (fr fc : Bool) (b' s' : ByteArray) (r' c' : Int) (fr' fc' : Bool) : Bool := (b.toList == b'.toList) && ((s.toList == s'.toList) && ((r == r') && ((c == c') && ((fr == fr') && (fc == fc')))))
theorem bytes_eq {a b : ByteArray} (h : (a.toList == b.toList) = true) : a = b := by
  rw [ByteArray.toList_eq, ByteArray.toList_eq] at h
  have h2 : a.data.toList = b.data.toList := by simpa using h
  have h3 : a.data = b.data := Array.toList_inj.1 h2
  obtain ⟨x⟩ := a
  obtain ⟨y⟩ := b
  exact congrArg ByteArray.mk h3
section
variable (W : World)
theorem eqn_val (k n : Int) (s : ByteArray) (k' n' : Int) (s' : ByteArray) : (Op.equalIn 10000 23 (val k n s) (val k' n' s')).run Tryz.prog W = .ok (veB k n s k' n' s') W := by
  rw [run_equalIn_struct W 9999 23 _ _ str23 held23, fields23]
  have h9 := Tryz.underlying9
  have h3 := Tryz.underlying3
  have a9 := Tryz.isAgg9
  have a3 := Tryz.isAgg3
  have z9 := Tryz.sizeOf9
  have z3 := Tryz.sizeOf3
  unfold veB
  simp only [Op.eqFields]
  cases e1 : (k == k') <;> cases e2 : (n == n') <;> cases e3 : (s.toList == s'.toList) <;> go_simp
theorem eqn_refB (b s : ByteArray) (r c : Int) (fr fc : Bool) (b' s' : ByteArray) (r' c' : Int) (fr' fc' : Bool) : (Op.equalIn 10000 25 (refV b s r c fr fc) (refV b' s' r' c' fr' fc')).run Tryz.prog W = .ok (reB b s r c fr fc b' s' r' c' fr' fc') W := by
  rw [run_equalIn_struct W 9999 25 _ _ str25 held25, fields25]
  have h9 := Tryz.underlying9
  have h3 := Tryz.underlying3
  have h4 := Tryz.underlying4
  have a9 := Tryz.isAgg9
  have a3 := Tryz.isAgg3
  have a4 := Tryz.isAgg4
  have z9 := Tryz.sizeOf9
  have z3 := Tryz.sizeOf3
  have z4 := Tryz.sizeOf4
  unfold reB
  simp only [Op.eqFields]
  cases e1 : (b.toList == b'.toList)
  · go_simp
  cases e2 : (s.toList == s'.toList)
  · go_simp
  cases e3 : (r == r')
  · go_simp
  cases e4 : (c == c')
  · go_simp
  cases e5 : (fr == fr')
  · go_simp
  cases e6 : (fc == fc')
  · go_simp
  go_simp
end
def labB (a b : Lab) : Bool := (a.k == b.k) && ((a.s.toList == b.s.toList) && (veB a.vk a.vn a.vs b.vk b.vn b.vs && (reB a.b1 a.h1 a.r1 a.c1 a.fr1 a.fc1 b.b1 b.h1 b.r1 b.c1 b.fr1 b.fc1 && reB a.b2 a.h2 a.r2 a.c2 a.fr2 a.fc2 b.b2 b.h2 b.r2 b.c2 b.fr2 b.fc2)))
theorem labB_refl (a : Lab) : labB a a = true := by unfold labB veB reB; simp
theorem labB_eq {a b : Lab} (h : labB a b = true) : a = b := by
  unfold labB veB reB at h
  simp only [Bool.and_eq_true] at h
  obtain ⟨h1, h2, ⟨h3, h4, h5⟩, ⟨h6, h7, h8, h9, h10, h11⟩, h12, h13, h14, h15, h16, h17⟩ := h
  obtain ⟨k, s, vk, vn, vs, b1, x1, r1, c1, f1, g1, b2, x2, r2, c2, f2, g2⟩ := a
  obtain ⟨k', s', vk', vn', vs', b1', x1', r1', c1', f1', g1', b2', x2', r2', c2', f2', g2'⟩ := b
  simp only at *
  simp only [beq_iff_eq] at h1 h3 h4 h8 h9 h10 h11 h14 h15 h16 h17
  rw [h1, bytes_eq h2, h3, h4, bytes_eq h5, bytes_eq h6, bytes_eq h7, h8, h9, h10, h11, bytes_eq h12, bytes_eq h13, h14, h15, h16, h17]
theorem box_all {u : World} {g : Nat} {a : Lab} {sl : Value} {z : Nat × Nat} (h : u.heap[g]? = some (.cells (lcs a sl) 28 z)) :
    u.cell? ⟨g, 0, none⟩ = some (.int .i64 a.k) ∧ u.cell? ⟨g, 1, none⟩ = some (.string a.s) ∧ (Instr.loadAt 23 (.pointer (some ⟨g, 2, none⟩))).run Tryz.prog u = .ok (val a.vk a.vn a.vs) u ∧ (Instr.loadAt 25 (.pointer (some ⟨g, 5, none⟩))).run Tryz.prog u = .ok (refV a.b1 a.h1 a.r1 a.c1 a.fr1 a.fc1) u ∧ (Instr.loadAt 25 (.pointer (some ⟨g, 11, none⟩))).run Tryz.prog u = .ok (refV a.b2 a.h2 a.r2 a.c2 a.fr2 a.fc2) u := by
  have hc : ∀ j v, (lcs a sl)[j]? = some v → u.cell? ⟨g, j, none⟩ = some v := fun j v hj => by rw [cell_of_row u g j _ 28 z h]; exact hj
  have hadd : ∀ o j, (⟨g, o, none⟩ : Addr).add j = ⟨g, o + j, none⟩ := fun o j => by unfold Addr.add; split <;> simp_all
  refine ⟨hc 0 _ rfl, hc 1 _ rfl, ?_, ?_, ?_⟩
  · exact run_loadVar_any u ⟨g, 2, none⟩ 23 [.int .i64 a.vk, .int .i64 a.vn, .string a.vs] _ (fun j v hj => by
      rw [hadd]
      refine hc _ _ ?_
      match j, hj with
      | 0, hj => exact hj
      | 1, hj => exact hj
      | 2, hj => exact hj) Tryz.underlying23 rfl (by kernel_rfl)
  · exact run_loadVar_any u ⟨g, 5, none⟩ 25 [.string a.b1, .string a.h1, .int .i64 a.r1, .int .i64 a.c1, .bool a.fr1, .bool a.fc1] _ (fun j v hj => by
      rw [hadd]
      refine hc _ _ ?_
      match j, hj with
      | 0, hj => exact hj
      | 1, hj => exact hj
      | 2, hj => exact hj
      | 3, hj => exact hj
      | 4, hj => exact hj
      | 5, hj => exact hj) Tryz.underlying25 rfl (by kernel_rfl)
  · exact run_loadVar_any u ⟨g, 11, none⟩ 25 [.string a.b2, .string a.h2, .int .i64 a.r2, .int .i64 a.c2, .bool a.fr2, .bool a.fc2] _ (fun j v hj => by
      rw [hadd]
      refine hc _ _ ?_
      match j, hj with
      | 0, hj => exact hj
      | 1, hj => exact hj
      | 2, hj => exact hj
      | 3, hj => exact hj
      | 4, hj => exact hj
      | 5, hj => exact hj) Tryz.underlying25 rfl (by kernel_rfl)
theorem run_eql_val (W : World) (k n : Int) (s : ByteArray) (k' n' : Int) (s' : ByteArray) : (binOp .eql 23 (val k n s) (val k' n' s')).run Tryz.prog W = .ok (.bool (veB k n s k' n' s')) W := by
  rw [run_eql_struct, eqn_val]; rfl
theorem run_neq_val (W : World) (k n : Int) (s : ByteArray) (k' n' : Int) (s' : ByteArray) : (binOp .neq 23 (val k n s) (val k' n' s')).run Tryz.prog W = .ok (.bool (!veB k n s k' n' s')) W := by
  rw [run_neq_struct, eqn_val]; rfl
theorem run_eql_refB (W : World) (b s : ByteArray) (r c : Int) (fr fc : Bool) (b' s' : ByteArray) (r' c' : Int) (fr' fc' : Bool) : (binOp .eql 25 (refV b s r c fr fc) (refV b' s' r' c' fr' fc')).run Tryz.prog W = .ok (.bool (reB b s r c fr fc b' s' r' c' fr' fc')) W := by
  rw [run_eql_struct, eqn_refB]; rfl
theorem run_neq_refB (W : World) (b s : ByteArray) (r c : Int) (fr fc : Bool) (b' s' : ByteArray) (r' c' : Int) (fr' fc' : Bool) : (binOp .neq 25 (refV b s r c fr fc) (refV b' s' r' c' fr' fc')).run Tryz.prog W = .ok (.bool (!reB b s r c fr fc b' s' r' c' fr' fc')) W := by
  rw [run_neq_struct, eqn_refB]; rfl
end Go.Proofs.YtljfkkpkcjigpaaGreatDoor

namespace Go.Proofs.YtljfkkpkcjigpaaGreatDoor
open Go.RowKit Go.Fm
set_option maxRecDepth 100000
set_option maxHeartbeats 4000000 in
theorem alike_0 {a b : Lab} {sl sl' : Value} (hk : (a.k == b.k) = false) (w : World) : Calls Tryz.prog 28 #[.agg (lcs a sl), .agg (lcs b sl')] w fun e w' => e = .returned (.bool false) ∧ Below w.heap.size w w' := by
  obtain ⟨w2, hw2⟩ : ∃ w2, (w.alloc (.cells (lcs a sl) 28)).alloc (.cells (lcs b sl') 28) = w2 := ⟨_, rfl⟩
  have H0 : w2.heap[w.heap.size]? = some (.cells (lcs a sl) 28) := by rw [← hw2]; exact (Below.heap_alloc _ _ _ (by simp)).trans (heap_alloc_new w _)
  have H1 : w2.heap[w.heap.size + 1]? = some (.cells (lcs b sl') 28) := by
    rw [← hw2]
    have := heap_alloc_new (w.alloc (.cells (lcs a sl) 28)) (.cells (lcs b sl') 28)
    simpa using this
  have HB : Hid (Below w.heap.size w w2) := by show Below _ _ _; rw [← hw2]; exact bel_alloc (bel_alloc (Below.refl _ _) _) _
  obtain ⟨c0, c1, l2, l3, l4⟩ := box_all H0
  obtain ⟨d0, d1, m2, m3, m4⟩ := box_all H1
  have L2 : Hid _ := l2
  have L3 : Hid _ := l3
  have L4 : Hid _ := l4
  have M2 : Hid _ := m2
  have M3 : Hid _ := m3
  have M4 : Hid _ := m4
  have E2 := fun u => run_eql_val u a.vk a.vn a.vs b.vk b.vn b.vs
  have E3 := fun u => run_eql_refB u a.b1 a.h1 a.r1 a.c1 a.fr1 a.fc1 b.b1 b.h1 b.r1 b.c1 b.fr1 b.fc1
  have E4 := fun u => run_eql_refB u a.b2 a.h2 a.r2 a.c2 a.fr2 a.fc2 b.b2 b.h2 b.r2 b.c2 b.fr2 b.fc2
  have G2 := guard23
  have G3 := guard25
  clear H0 H1 l2 l3 l4 m2 m3 m4
  generalize lcs a sl = bx at *
  generalize lcs b sl' = bz at *
  obtain ⟨k, s, vk, vn, vs, b1, x1, r1, c1_, f1, g1, b2, x2, r2, c2, f2, g2⟩ := a
  obtain ⟨k', s', vk', vn', vs', b1', x1', r1', c1', f1', g1', b2', x2', r2', c2', f2', g2'⟩ := b
  dsimp only at *
  go_enter Tryz.func28, Tryz.ntmps28
  go_wp2_with (first
    | (refine wpList_load_g 23 _ rfl _ _ rfl L2.out (by go_simp) ?_)
    | (refine wpList_load_g 23 _ rfl _ _ rfl M2.out (by go_simp) ?_)
    | (refine wpList_load_g 25 _ rfl _ _ rfl L3.out (by go_simp) ?_)
    | (refine wpList_load_g 25 _ rfl _ _ rfl M3.out (by go_simp) ?_)
    | (refine wpList_load_g 25 _ rfl _ _ rfl L4.out (by go_simp) ?_)
    | (refine wpList_load_g 25 _ rfl _ _ rfl M4.out (by go_simp) ?_))
  go_ret
  exact ⟨by first | rfl | (simp; done), HB.out⟩
set_option maxHeartbeats 4000000 in
theorem alike_1 {a b : Lab} {sl sl' : Value} (hk : (a.k == b.k) = true) (hs : (a.s.toList == b.s.toList) = false) (w : World) : Calls Tryz.prog 28 #[.agg (lcs a sl), .agg (lcs b sl')] w fun e w' => e = .returned (.bool false) ∧ Below w.heap.size w w' := by
  obtain ⟨w2, hw2⟩ : ∃ w2, (w.alloc (.cells (lcs a sl) 28)).alloc (.cells (lcs b sl') 28) = w2 := ⟨_, rfl⟩
  have H0 : w2.heap[w.heap.size]? = some (.cells (lcs a sl) 28) := by rw [← hw2]; exact (Below.heap_alloc _ _ _ (by simp)).trans (heap_alloc_new w _)
  have H1 : w2.heap[w.heap.size + 1]? = some (.cells (lcs b sl') 28) := by
    rw [← hw2]
    have := heap_alloc_new (w.alloc (.cells (lcs a sl) 28)) (.cells (lcs b sl') 28)
    simpa using this
  have HB : Hid (Below w.heap.size w w2) := by show Below _ _ _; rw [← hw2]; exact bel_alloc (bel_alloc (Below.refl _ _) _) _
  obtain ⟨c0, c1, l2, l3, l4⟩ := box_all H0
  obtain ⟨d0, d1, m2, m3, m4⟩ := box_all H1
  have L2 : Hid _ := l2
  have L3 : Hid _ := l3
  have L4 : Hid _ := l4
  have M2 : Hid _ := m2
  have M3 : Hid _ := m3
  have M4 : Hid _ := m4
  have E2 := fun u => run_eql_val u a.vk a.vn a.vs b.vk b.vn b.vs
  have E3 := fun u => run_eql_refB u a.b1 a.h1 a.r1 a.c1 a.fr1 a.fc1 b.b1 b.h1 b.r1 b.c1 b.fr1 b.fc1
  have E4 := fun u => run_eql_refB u a.b2 a.h2 a.r2 a.c2 a.fr2 a.fc2 b.b2 b.h2 b.r2 b.c2 b.fr2 b.fc2
  have G2 := guard23
  have G3 := guard25
  clear H0 H1 l2 l3 l4 m2 m3 m4
  generalize lcs a sl = bx at *
  generalize lcs b sl' = bz at *
  obtain ⟨k, s, vk, vn, vs, b1, x1, r1, c1_, f1, g1, b2, x2, r2, c2, f2, g2⟩ := a
  obtain ⟨k', s', vk', vn', vs', b1', x1', r1', c1', f1', g1', b2', x2', r2', c2', f2', g2'⟩ := b
  dsimp only at *
  go_enter Tryz.func28, Tryz.ntmps28
  go_wp2_with (first
    | (refine wpList_load_g 23 _ rfl _ _ rfl L2.out (by go_simp) ?_)
    | (refine wpList_load_g 23 _ rfl _ _ rfl M2.out (by go_simp) ?_)
    | (refine wpList_load_g 25 _ rfl _ _ rfl L3.out (by go_simp) ?_)
    | (refine wpList_load_g 25 _ rfl _ _ rfl M3.out (by go_simp) ?_)
    | (refine wpList_load_g 25 _ rfl _ _ rfl L4.out (by go_simp) ?_)
    | (refine wpList_load_g 25 _ rfl _ _ rfl M4.out (by go_simp) ?_))
  go_ret
  exact ⟨by first | rfl | (simp; done), HB.out⟩
set_option maxHeartbeats 4000000 in
theorem alike_2 {a b : Lab} {sl sl' : Value} (hk : (a.k == b.k) = true) (hs : (a.s.toList == b.s.toList) = true) (hv : veB a.vk a.vn a.vs b.vk b.vn b.vs = false) (w : World) : Calls Tryz.prog 28 #[.agg (lcs a sl), .agg (lcs b sl')] w fun e w' => e = .returned (.bool false) ∧ Below w.heap.size w w' := by
  obtain ⟨w2, hw2⟩ : ∃ w2, (w.alloc (.cells (lcs a sl) 28)).alloc (.cells (lcs b sl') 28) = w2 := ⟨_, rfl⟩
  have H0 : w2.heap[w.heap.size]? = some (.cells (lcs a sl) 28) := by rw [← hw2]; exact (Below.heap_alloc _ _ _ (by simp)).trans (heap_alloc_new w _)
  have H1 : w2.heap[w.heap.size + 1]? = some (.cells (lcs b sl') 28) := by
    rw [← hw2]
    have := heap_alloc_new (w.alloc (.cells (lcs a sl) 28)) (.cells (lcs b sl') 28)
    simpa using this
  have HB : Hid (Below w.heap.size w w2) := by show Below _ _ _; rw [← hw2]; exact bel_alloc (bel_alloc (Below.refl _ _) _) _
  obtain ⟨c0, c1, l2, l3, l4⟩ := box_all H0
  obtain ⟨d0, d1, m2, m3, m4⟩ := box_all H1
  have L2 : Hid _ := l2
  have L3 : Hid _ := l3
  have L4 : Hid _ := l4
  have M2 : Hid _ := m2
  have M3 : Hid _ := m3
  have M4 : Hid _ := m4
  have E2 := fun u => run_eql_val u a.vk a.vn a.vs b.vk b.vn b.vs
  have E3 := fun u => run_eql_refB u a.b1 a.h1 a.r1 a.c1 a.fr1 a.fc1 b.b1 b.h1 b.r1 b.c1 b.fr1 b.fc1
  have E4 := fun u => run_eql_refB u a.b2 a.h2 a.r2 a.c2 a.fr2 a.fc2 b.b2 b.h2 b.r2 b.c2 b.fr2 b.fc2
  rw [hv] at E2
  have G2 := guard23
  have G3 := guard25
  clear H0 H1 l2 l3 l4 m2 m3 m4
  generalize lcs a sl = bx at *
  generalize lcs b sl' = bz at *
  obtain ⟨k, s, vk, vn, vs, b1, x1, r1, c1_, f1, g1, b2, x2, r2, c2, f2, g2⟩ := a
  obtain ⟨k', s', vk', vn', vs', b1', x1', r1', c1', f1', g1', b2', x2', r2', c2', f2', g2'⟩ := b
  dsimp only at *
  go_enter Tryz.func28, Tryz.ntmps28
  go_wp2_with (first
    | (refine wpList_load_g 23 _ rfl _ _ rfl L2.out (by go_simp) ?_)
    | (refine wpList_load_g 23 _ rfl _ _ rfl M2.out (by go_simp) ?_)
    | (refine wpList_load_g 25 _ rfl _ _ rfl L3.out (by go_simp) ?_)
    | (refine wpList_load_g 25 _ rfl _ _ rfl M3.out (by go_simp) ?_)
    | (refine wpList_load_g 25 _ rfl _ _ rfl L4.out (by go_simp) ?_)
    | (refine wpList_load_g 25 _ rfl _ _ rfl M4.out (by go_simp) ?_))
  go_ret
  exact ⟨by first | rfl | (simp; done), HB.out⟩
set_option maxHeartbeats 4000000 in
theorem alike_3 {a b : Lab} {sl sl' : Value} (hk : (a.k == b.k) = true) (hs : (a.s.toList == b.s.toList) = true) (hv : veB a.vk a.vn a.vs b.vk b.vn b.vs = true) (hr : reB a.b1 a.h1 a.r1 a.c1 a.fr1 a.fc1 b.b1 b.h1 b.r1 b.c1 b.fr1 b.fc1 = false) (w : World) : Calls Tryz.prog 28 #[.agg (lcs a sl), .agg (lcs b sl')] w fun e w' => e = .returned (.bool false) ∧ Below w.heap.size w w' := by
  obtain ⟨w2, hw2⟩ : ∃ w2, (w.alloc (.cells (lcs a sl) 28)).alloc (.cells (lcs b sl') 28) = w2 := ⟨_, rfl⟩
  have H0 : w2.heap[w.heap.size]? = some (.cells (lcs a sl) 28) := by rw [← hw2]; exact (Below.heap_alloc _ _ _ (by simp)).trans (heap_alloc_new w _)
  have H1 : w2.heap[w.heap.size + 1]? = some (.cells (lcs b sl') 28) := by
    rw [← hw2]
    have := heap_alloc_new (w.alloc (.cells (lcs a sl) 28)) (.cells (lcs b sl') 28)
    simpa using this
  have HB : Hid (Below w.heap.size w w2) := by show Below _ _ _; rw [← hw2]; exact bel_alloc (bel_alloc (Below.refl _ _) _) _
  obtain ⟨c0, c1, l2, l3, l4⟩ := box_all H0
  obtain ⟨d0, d1, m2, m3, m4⟩ := box_all H1
  have L2 : Hid _ := l2
  have L3 : Hid _ := l3
  have L4 : Hid _ := l4
  have M2 : Hid _ := m2
  have M3 : Hid _ := m3
  have M4 : Hid _ := m4
  have E2 := fun u => run_eql_val u a.vk a.vn a.vs b.vk b.vn b.vs
  have E3 := fun u => run_eql_refB u a.b1 a.h1 a.r1 a.c1 a.fr1 a.fc1 b.b1 b.h1 b.r1 b.c1 b.fr1 b.fc1
  have E4 := fun u => run_eql_refB u a.b2 a.h2 a.r2 a.c2 a.fr2 a.fc2 b.b2 b.h2 b.r2 b.c2 b.fr2 b.fc2
  rw [hv] at E2
  rw [hr] at E3
  have G2 := guard23
  have G3 := guard25
  clear H0 H1 l2 l3 l4 m2 m3 m4
  generalize lcs a sl = bx at *
  generalize lcs b sl' = bz at *
  obtain ⟨k, s, vk, vn, vs, b1, x1, r1, c1_, f1, g1, b2, x2, r2, c2, f2, g2⟩ := a
  obtain ⟨k', s', vk', vn', vs', b1', x1', r1', c1', f1', g1', b2', x2', r2', c2', f2', g2'⟩ := b
  dsimp only at *
  go_enter Tryz.func28, Tryz.ntmps28
  go_wp2_with (first
    | (refine wpList_load_g 23 _ rfl _ _ rfl L2.out (by go_simp) ?_)
    | (refine wpList_load_g 23 _ rfl _ _ rfl M2.out (by go_simp) ?_)
    | (refine wpList_load_g 25 _ rfl _ _ rfl L3.out (by go_simp) ?_)
    | (refine wpList_load_g 25 _ rfl _ _ rfl M3.out (by go_simp) ?_)
    | (refine wpList_load_g 25 _ rfl _ _ rfl L4.out (by go_simp) ?_)
    | (refine wpList_load_g 25 _ rfl _ _ rfl M4.out (by go_simp) ?_))
  go_ret
  exact ⟨by first | rfl | (simp; done), HB.out⟩
set_option maxHeartbeats 4000000 in
theorem alike_4 {a b : Lab} {sl sl' : Value} (hk : (a.k == b.k) = true) (hs : (a.s.toList == b.s.toList) = true) (hv : veB a.vk a.vn a.vs b.vk b.vn b.vs = true) (hr : reB a.b1 a.h1 a.r1 a.c1 a.fr1 a.fc1 b.b1 b.h1 b.r1 b.c1 b.fr1 b.fc1 = true) (ht : reB a.b2 a.h2 a.r2 a.c2 a.fr2 a.fc2 b.b2 b.h2 b.r2 b.c2 b.fr2 b.fc2 = false) (w : World) : Calls Tryz.prog 28 #[.agg (lcs a sl), .agg (lcs b sl')] w fun e w' => e = .returned (.bool false) ∧ Below w.heap.size w w' := by
  obtain ⟨w2, hw2⟩ : ∃ w2, (w.alloc (.cells (lcs a sl) 28)).alloc (.cells (lcs b sl') 28) = w2 := ⟨_, rfl⟩
  have H0 : w2.heap[w.heap.size]? = some (.cells (lcs a sl) 28) := by rw [← hw2]; exact (Below.heap_alloc _ _ _ (by simp)).trans (heap_alloc_new w _)
  have H1 : w2.heap[w.heap.size + 1]? = some (.cells (lcs b sl') 28) := by
    rw [← hw2]
    have := heap_alloc_new (w.alloc (.cells (lcs a sl) 28)) (.cells (lcs b sl') 28)
    simpa using this
  have HB : Hid (Below w.heap.size w w2) := by show Below _ _ _; rw [← hw2]; exact bel_alloc (bel_alloc (Below.refl _ _) _) _
  obtain ⟨c0, c1, l2, l3, l4⟩ := box_all H0
  obtain ⟨d0, d1, m2, m3, m4⟩ := box_all H1
  have L2 : Hid _ := l2
  have L3 : Hid _ := l3
  have L4 : Hid _ := l4
  have M2 : Hid _ := m2
  have M3 : Hid _ := m3
  have M4 : Hid _ := m4
  have E2 := fun u => run_eql_val u a.vk a.vn a.vs b.vk b.vn b.vs
  have E3 := fun u => run_eql_refB u a.b1 a.h1 a.r1 a.c1 a.fr1 a.fc1 b.b1 b.h1 b.r1 b.c1 b.fr1 b.fc1
  have E4 := fun u => run_eql_refB u a.b2 a.h2 a.r2 a.c2 a.fr2 a.fc2 b.b2 b.h2 b.r2 b.c2 b.fr2 b.fc2
  rw [hv] at E2
  rw [hr] at E3
  rw [ht] at E4
  have G2 := guard23
  have G3 := guard25
  clear H0 H1 l2 l3 l4 m2 m3 m4
  generalize lcs a sl = bx at *
  generalize lcs b sl' = bz at *
  obtain ⟨k, s, vk, vn, vs, b1, x1, r1, c1_, f1, g1, b2, x2, r2, c2, f2, g2⟩ := a
  obtain ⟨k', s', vk', vn', vs', b1', x1', r1', c1', f1', g1', b2', x2', r2', c2', f2', g2'⟩ := b
  dsimp only at *
  go_enter Tryz.func28, Tryz.ntmps28
  go_wp2_with (first
    | (refine wpList_load_g 23 _ rfl _ _ rfl L2.out (by go_simp) ?_)
    | (refine wpList_load_g 23 _ rfl _ _ rfl M2.out (by go_simp) ?_)
    | (refine wpList_load_g 25 _ rfl _ _ rfl L3.out (by go_simp) ?_)
    | (refine wpList_load_g 25 _ rfl _ _ rfl M3.out (by go_simp) ?_)
    | (refine wpList_load_g 25 _ rfl _ _ rfl L4.out (by go_simp) ?_)
    | (refine wpList_load_g 25 _ rfl _ _ rfl M4.out (by go_simp) ?_))
  go_ret
  exact ⟨by first | rfl | (simp; done), HB.out⟩
set_option maxHeartbeats 4000000 in
theorem alike_5 {a b : Lab} {sl sl' : Value} (hk : (a.k == b.k) = true) (hs : (a.s.toList == b.s.toList) = true) (hv : veB a.vk a.vn a.vs b.vk b.vn b.vs = true) (hr : reB a.b1 a.h1 a.r1 a.c1 a.fr1 a.fc1 b.b1 b.h1 b.r1 b.c1 b.fr1 b.fc1 = true) (ht : reB a.b2 a.h2 a.r2 a.c2 a.fr2 a.fc2 b.b2 b.h2 b.r2 b.c2 b.fr2 b.fc2 = true) (w : World) : Calls Tryz.prog 28 #[.agg (lcs a sl), .agg (lcs b sl')] w fun e w' => e = .returned (.bool true) ∧ Below w.heap.size w w' := by
  obtain ⟨w2, hw2⟩ : ∃ w2, (w.alloc (.cells (lcs a sl) 28)).alloc (.cells (lcs b sl') 28) = w2 := ⟨_, rfl⟩
  have H0 : w2.heap[w.heap.size]? = some (.cells (lcs a sl) 28) := by rw [← hw2]; exact (Below.heap_alloc _ _ _ (by simp)).trans (heap_alloc_new w _)
  have H1 : w2.heap[w.heap.size + 1]? = some (.cells (lcs b sl') 28) := by
    rw [← hw2]
    have := heap_alloc_new (w.alloc (.cells (lcs a sl) 28)) (.cells (lcs b sl') 28)
    simpa using this
  have HB : Hid (Below w.heap.size w w2) := by show Below _ _ _; rw [← hw2]; exact bel_alloc (bel_alloc (Below.refl _ _) _) _
  obtain ⟨c0, c1, l2, l3, l4⟩ := box_all H0
  obtain ⟨d0, d1, m2, m3, m4⟩ := box_all H1
  have L2 : Hid _ := l2
  have L3 : Hid _ := l3
  have L4 : Hid _ := l4
  have M2 : Hid _ := m2
  have M3 : Hid _ := m3
  have M4 : Hid _ := m4
  have E2 := fun u => run_eql_val u a.vk a.vn a.vs b.vk b.vn b.vs
  have E3 := fun u => run_eql_refB u a.b1 a.h1 a.r1 a.c1 a.fr1 a.fc1 b.b1 b.h1 b.r1 b.c1 b.fr1 b.fc1
  have E4 := fun u => run_eql_refB u a.b2 a.h2 a.r2 a.c2 a.fr2 a.fc2 b.b2 b.h2 b.r2 b.c2 b.fr2 b.fc2
  rw [hv] at E2
  rw [hr] at E3
  rw [ht] at E4
  have G2 := guard23
  have G3 := guard25
  clear H0 H1 l2 l3 l4 m2 m3 m4
  generalize lcs a sl = bx at *
  generalize lcs b sl' = bz at *
  obtain ⟨k, s, vk, vn, vs, b1, x1, r1, c1_, f1, g1, b2, x2, r2, c2, f2, g2⟩ := a
  obtain ⟨k', s', vk', vn', vs', b1', x1', r1', c1', f1', g1', b2', x2', r2', c2', f2', g2'⟩ := b
  dsimp only at *
  go_enter Tryz.func28, Tryz.ntmps28
  go_wp2_with (first
    | (refine wpList_load_g 23 _ rfl _ _ rfl L2.out (by go_simp) ?_)
    | (refine wpList_load_g 23 _ rfl _ _ rfl M2.out (by go_simp) ?_)
    | (refine wpList_load_g 25 _ rfl _ _ rfl L3.out (by go_simp) ?_)
    | (refine wpList_load_g 25 _ rfl _ _ rfl M3.out (by go_simp) ?_)
    | (refine wpList_load_g 25 _ rfl _ _ rfl L4.out (by go_simp) ?_)
    | (refine wpList_load_g 25 _ rfl _ _ rfl M4.out (by go_simp) ?_))
  go_ret
  exact ⟨by first | rfl | (simp; done), HB.out⟩
theorem alike_any {w : World} {a b : Lab} {sl sl' : Value} : Calls Tryz.prog 28 #[.agg (lcs a sl), .agg (lcs b sl')] w fun e w' => e = .returned (.bool (labB a b)) ∧ Below w.heap.size w w' := by
  unfold labB
  cases hk : (a.k == b.k)
  · exact alike_0 hk w
  cases hs : (a.s.toList == b.s.toList)
  · exact alike_1 hk hs w
  cases hv : veB a.vk a.vn a.vs b.vk b.vn b.vs
  · exact alike_2 hk hs hv w
  cases hr : reB a.b1 a.h1 a.r1 a.c1 a.fr1 a.fc1 b.b1 b.h1 b.r1 b.c1 b.fr1 b.fc1
  · exact alike_3 hk hs hv hr w
  cases ht : reB a.b2 a.h2 a.r2 a.c2 a.fr2 a.fc2 b.b2 b.h2 b.r2 b.c2 b.fr2 b.fc2
  · exact alike_4 hk hs hv hr ht w
  · exact alike_5 hk hs hv hr ht w
end Go.Proofs.YtljfkkpkcjigpaaGreatDoor
