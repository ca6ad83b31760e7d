/- Pairs of numbers in memory: rows of edges. -/
import Derived.Test.YtbbcnjagndfmbaaDMem
import Derived.Deep.WholeRow
namespace Go.Proofs.Ytbbcnjagndfmbaa
open Go.RowKit
set_option maxRecDepth 4398046511104
set_option linter.unusedVariables false
set_option linter.unusedSimpArgs false
abbrev pcs (x : Int × Int) : Array Value := #[.int .i64 x.1, .int .i64 x.2]
abbrev pcl (x : Int × Int) : List Value := [.int .i64 x.1, .int .i64 x.2]
abbrev pV (x : Int × Int) : Value := .agg (pcs x)
abbrev pO (x : Int × Int) : Obj := .cells (pcs x) 33
theorem pinf : (Try.prog.info? 33).map (·.size) = some 2 := by kernel_rfl
theorem pinfz : (Try.prog.info? 33).map (fun i => (i.zero, i.size, i.bytes)) = some (some (pV (0, 0)), 2, 16) := by kernel_rfl
theorem p_cells {u : World} {g : Nat} {t : TypeId} {a b : Value} {z : Nat × Nat} (h : u.heap[g]? = some (.cells #[a, b] t z)) : u.cell? ⟨g, 0, none⟩ = some a ∧ u.cell? ⟨g, 1, none⟩ = some b := by
  simp [World.cell?, h]
theorem pcl_one (L : List (Int × Int)) : ∀ u ∈ L.flatMap pcl, u.oneCell' = true := by
  intro u hu
  obtain ⟨x, _, hx⟩ := List.mem_flatMap.1 hu
  simp only [pcl, List.mem_cons, List.not_mem_nil, or_false] at hx
  rcases hx with rfl | rfl <;> rfl
theorem pfl_len : ∀ L : List (Int × Int), (L.flatMap pcl).length = L.length * 2
  | [] => rfl
  | t :: L => by rw [List.flatMap_cons, List.length_append, pfl_len L, List.length_cons]; simp; omega
theorem pfl_at : ∀ (L : List (Int × Int)) (i j : Nat) (v : Value) (hi : i < L.length), (pcl L[i])[j]? = some v → (L.flatMap pcl)[i * 2 + j]? = some v
  | t :: L, 0, j, v, _, h => by
    have hj : j < (pcl t).length := (List.getElem?_eq_some_iff.1 h).1
    rw [List.flatMap_cons, Nat.zero_mul, Nat.zero_add, List.getElem?_append_left hj]
    exact h
  | t :: L, i + 1, j, v, hi, h => by
    rw [List.flatMap_cons, List.getElem?_append_right (by simp; omega), show (i + 1) * 2 + j - (pcl t).length = i * 2 + j by simp; omega]
    exact pfl_at L i j v (by simpa using hi) h
theorem pfl_of : ∀ (L : List (Int × Int)) (j : Nat) (u : Value), (L.flatMap pcl)[j]? = some u → ∃ k i, ∃ h : k < L.length, j = k * 2 + i ∧ i < 2 ∧ (pcl L[k])[i]? = some u
  | [], j, u, h => by simp at h
  | t :: L, j, u, h => by
    rw [List.flatMap_cons] at h
    by_cases hj : j < 2
    · rw [List.getElem?_append_left (by simpa using hj)] at h
      exact ⟨0, j, by simp, by omega, hj, h⟩
    · rw [List.getElem?_append_right (by simp; omega)] at h
      obtain ⟨k, i, hk, e, hi, hu⟩ := pfl_of L _ u h
      refine ⟨k + 1, i, by simp; omega, ?_, hi, by simpa using hu⟩
      simp at e; omega
/-- A row of pairs that is read. -/
abbrev Pr (w : World) (v : Value) (L : List (Int × Int)) : Prop := Rd w v L.length (L.flatMap pcl)
/-- A load of the k-th pair. -/
theorem Pr.load {w : World} {v : Value} {L : List (Int × Int)} (h : Pr w v L) {k : Nat} (hk : k < L.length) : ∃ a c, v = .slice (some a) L.length c ∧ (Instr.loadAt 33 (.pointer (some (a.add (k * 2))))).run Try.prog w = .ok (pV L[k]) w := by
  obtain ⟨a, c, e, h1, h2, ⟨_, h0, _⟩ | ⟨A, rfl, hc⟩⟩ := h
  · omega
  · refine ⟨A, c, e, ?_⟩
    have hc2 : ∀ j v, (pcl L[k])[j]? = some v → w.cell? ((A.add (k * 2)).add j) = some v := fun j v hj => by
      rw [Go.Deep.add_add]
      exact hc _ _ (pfl_at L k j v hk hj)
    have hl : (loadCells (A.add (k * 2)) (pcl L[k]).length).run Try.prog w = .ok (pcl L[k]).toArray w := run_loadCells_list (P := Try.prog) w _ _ hc2
    obtain ⟨i, hi⟩ : ∃ i, Try.prog.info? 33 = some i := by
      cases h : Try.prog.info? 33 with
      | none => have := pinf; rw [h] at this; cases this
      | some i => exact ⟨i, rfl⟩
    have hs : i.size = 2 := by have := pinf; rw [hi] at this; simpa using this
    have hagg : (isAgg 33).run Try.prog w = .ok true w := Try.isAgg33 w
    have hl2 : (loadCells (A.add (k * 2)) 2).run Try.prog w = .ok (pcl L[k]).toArray w := hl
    simp [Instr.loadAt, Instr.sureAddr, loadVar, Sem.run_bind, hagg, sizeOf, typeInfo, hi, hs, hl2]
theorem pbox (u : World) (y : Int × Int) : (Instr.storeAt 33 (.pointer (some ⟨u.heap.size, 0, none⟩)) (pV y)).run Try.prog (u.alloc (pO (0, 0))) = .ok () (u.alloc (pO y)) :=
  run_storeAt_new u 33 (pcs (0, 0)) (pcs y) pinf rfl (by simp [Value.oneCell'])
theorem pload {u : World} {g : Nat} {x : Int × Int} {z : Nat × Nat} (hg : u.heap[g]? = some (.cells (pcs x) 33 z)) : (Instr.loadAt 33 (.pointer (some ⟨g, 0, none⟩))).run Try.prog u = .ok (pV x) u := by
  have hr := run_loadVar_row (P := Try.prog) u g 33 33 (pcs x) z _ hg Try.underlying33 rfl pinf
  simp only [Instr.loadAt, Instr.sureAddr, Sem.run_bind, Sem.run_pure, Result.andThen_ok, hr]
theorem pslice_one (w : World) (x : Int × Int) : (Instr.buildSlice 22 1 #[(0, pV x)]).run Try.prog w = .ok (.slice (some ⟨w.heap.size, 0, none⟩) 1 1) (w.alloc (pO x)) := by kernel_rfl
theorem pbuild (w : World) (x : Int × Int) : (Instr.build 33 #[(0, .int .i64 x.1), (1, .int .i64 x.2)]).run Try.prog w = .ok (pV x) w := by kernel_rfl
/-- A row of pairs of one's own, one more behind it. -/
abbrev OwnP (base : Nat) (w : World) (v : Value) (L : List (Int × Int)) : Prop := w.ownsRow base 33 2 v L.length (L.flatMap pcl)
theorem ownP_cat {base : Nat} {w : World} {v : Value} {L L2 : List (Int × Int)} {bv : Value} (h : OwnP base w v L) (h2 : Pr w bv L2) (hn : L.length + L2.length ≤ 4398046511104) (hbase : base ≤ w.heap.size) :
    ∃ v' w', Hid ((Builtin.append_ #[22, 22] 22 #[v, bv]).run Try.prog w = .ok v' w') ∧ OwnP base w' v' (L ++ L2) ∧ w.grownBy w' v.ownBlock ∧ Below base w w' := by
  obtain ⟨v', w', r1, o1, g1, b1, _⟩ := own_cat (ty := 22) Try.underlying22 pinfz rfl (by decide) h h2 (pfl_len L2) (pcl_one L2) hn (by decide) hbase
  refine ⟨v', w', r1, ?_, g1, b1⟩
  unfold OwnP
  rw [List.length_append, List.flatMap_append]
  exact o1
end Go.Proofs.Ytbbcnjagndfmbaa
