/- Cells in memory: rows of cells that are read, rows of one's own (as names are in layer 11). -/
import Derived.Test.YteafldbmeekpbaaHPure
import Derived.Maps.AppendAt
import Derived.Lib.AppendZeros
import Derived.Laws.OwnMore
import Derived.Deep.MidRow
import Derived.Deep.Slices
import Derived.Deep.WholeRow
namespace Go.Proofs.Yteafldbmeekpbaa
open Go.RowKit
set_option maxRecDepth 4398046511104
set_option linter.unusedVariables false
set_option linter.unusedSimpArgs false
structure CT where
  r : Int
  c : Int
  t : ByteArray
abbrev ncs (x : CT) : Array Value := #[.int .i64 x.r, .int .i64 x.c, .string x.t]
abbrev ncl (x : CT) : List Value := [.int .i64 x.r, .int .i64 x.c, .string x.t]
abbrev nmV (x : CT) : Value := .agg (ncs x)
abbrev nmO (x : CT) : Obj := .cells (ncs x) 45
abbrev nm0 : CT := ⟨0, 0, ⟨#[]⟩⟩
theorem ninf : (Try.prog.info? 45).map (·.size) = some 3 := by kernel_rfl
theorem ninfz : (Try.prog.info? 45).map (fun i => (i.zero, i.size, i.bytes)) = some (some (nmV nm0), 3, 32) := by kernel_rfl
theorem n_cells {u : World} {g : Nat} {t : TypeId} {a b c : Value} {z : Nat × Nat} (h : u.heap[g]? = some (.cells #[a, b, c] t z)) : u.cell? ⟨g, 0, none⟩ = some a ∧ u.cell? ⟨g, 1, none⟩ = some b ∧ u.cell? ⟨g, 2, none⟩ = some c := by
  simp [World.cell?, h]
theorem n_free {u : World} {g : Nat} {t : TypeId} {a b c : Value} (h : u.heap[g]? = some (.cells #[a, b, c] t (0, 0))) : u.frozen? ⟨g, 0, none⟩ = false ∧ u.frozen? ⟨g, 1, none⟩ = false ∧ u.frozen? ⟨g, 2, none⟩ = false := by
  simp [World.frozen?, h]
theorem ncl_one (L : List CT) : ∀ u ∈ L.flatMap ncl, u.oneCell' = true := by
  intro u hu
  obtain ⟨x, _, hx⟩ := List.mem_flatMap.1 hu
  simp only [ncl, List.mem_cons, List.not_mem_nil, or_false] at hx
  rcases hx with rfl | rfl | rfl <;> rfl
theorem nfl_len : ∀ L : List CT, (L.flatMap ncl).length = L.length * 3
  | [] => rfl
  | t :: L => by rw [List.flatMap_cons, List.length_append, nfl_len L, List.length_cons]; simp; omega
theorem nfl_at : ∀ (L : List CT) (i j : Nat) (v : Value) (hi : i < L.length), (ncl L[i])[j]? = some v → (L.flatMap ncl)[i * 3 + j]? = some v
  | t :: L, 0, j, v, _, h => by
    have hj : j < (ncl t).length := (List.getElem?_eq_some_iff.1 h).1
    rw [List.flatMap_cons, Nat.zero_mul, Nat.zero_add, List.getElem?_append_left hj]
    exact h
  | t :: L, i + 1, j, v, hi, h => by
    rw [List.flatMap_cons, List.getElem?_append_right (by simp; omega), show (i + 1) * 3 + j - (ncl t).length = i * 3 + j by simp; omega]
    exact nfl_at L i j v (by simpa using hi) h
theorem nfl_drop : ∀ (L : List CT) (k : Nat), (L.drop k).flatMap ncl = (L.flatMap ncl).drop (k * 3)
  | L, 0 => by simp
  | [], k + 1 => by simp
  | t :: L, k + 1 => by
    rw [List.drop_succ_cons, nfl_drop L k, List.flatMap_cons, show (k + 1) * 3 = 3 + k * 3 by omega, ← List.drop_drop]
    rfl
theorem nfl_take : ∀ (L : List CT) (k : Nat), (L.take k).flatMap ncl = (L.flatMap ncl).take (k * 3)
  | L, 0 => by simp
  | [], k + 1 => by simp
  | t :: L, k + 1 => by
    rw [List.take_succ_cons, List.flatMap_cons, nfl_take L k, List.flatMap_cons, show (k + 1) * 3 = 3 + k * 3 by omega]
    rw [show 3 + k * 3 = k * 3 + 1 + 1 + 1 by omega]
    rfl
theorem ncell_bel {w w' : World} (hb : Below w.heap.size w w') {a : Addr} {v : Value} (h : w.cell? a = some v) : w'.cell? a = some v :=
  (World.cell?_of_block (hb.block _ (World.block_lt_of_cell? w a h))).trans h
theorem ngrown_below {w w' : World} {row : Option Nat} (h : Below w.heap.size w w') : w.grownBy w' row := ⟨h.os, h.tape, h.output, h.size, fun i hi _ => h.block i hi⟩
/-- A slice that reads as names: where it lies, unless it is empty. -/
def Rds (w : World) (p : Option Addr) (n : Nat) (L : List CT) : Prop :=
  n = L.length ∧ (L = [] ∨ ∃ a, p = some a ∧ ∀ j u, (L.flatMap ncl)[j]? = some u → w.cell? (a.add j) = some u)
theorem Rds.nil (w : World) (p : Option Addr) : Rds w p 0 [] := ⟨rfl, .inl rfl⟩
theorem Rds.below {w w' : World} {p : Option Addr} {n : Nat} {L : List CT} (h : Rds w p n L) (hb : Below w.heap.size w w') : Rds w' p n L :=
  ⟨h.1, h.2.imp id fun ⟨a, e, hc⟩ => ⟨a, e, fun j u hj => ncell_bel hb (hc j u hj)⟩⟩
theorem Rds.drew {w : World} {p : Option Addr} {n : Nat} {L : List CT} (h : Rds w p n L) : Rds w.drew p n L := h
/-- A load of the k-th name. -/
theorem Rds.load {w : World} {p : Option Addr} {n : Nat} {L : List CT} (h : Rds w p n L) {k : Nat} (hk : k < L.length) : ∃ a, p = some a ∧ (Instr.loadAt 45 (.pointer (some (a.add (k * 3))))).run Try.prog w = .ok (nmV L[k]) w := by
  rcases h.2 with rfl | ⟨a, rfl, hc⟩
  · simp at hk
  · refine ⟨a, rfl, ?_⟩
    have hc2 : ∀ j v, (ncl L[k])[j]? = some v → w.cell? ((a.add (k * 3)).add j) = some v := fun j v hj => by
      rw [Go.Deep.add_add]
      exact hc _ _ (nfl_at L k j v hk hj)
    have hl : (loadCells (a.add (k * 3)) (ncl L[k]).length).run Try.prog w = .ok (ncl L[k]).toArray w := run_loadCells_list (P := Try.prog) w _ _ hc2
    obtain ⟨i, hi⟩ : ∃ i, Try.prog.info? 45 = some i := by
      cases h : Try.prog.info? 45 with
      | none => have := ninf; rw [h] at this; cases this
      | some i => exact ⟨i, rfl⟩
    have hs : i.size = 3 := by have := ninf; rw [hi] at this; simpa using this
    have hagg : (isAgg 45).run Try.prog w = .ok true w := Try.isAgg45 w
    have hl3 : (loadCells (a.add (k * 3)) 3).run Try.prog w = .ok (ncl L[k]).toArray w := hl
    simp [Instr.loadAt, Instr.sureAddr, loadVar, Sem.run_bind, hagg, sizeOf, typeInfo, hi, hs, hl3]
/-- A row of names of one's own. -/
def OwnM (base : Nat) (w : World) (v : Value) (L : List CT) : Prop := w.ownsRow base 45 3 v L.length (L.flatMap ncl)
theorem OwnM.nil (base : Nat) (w : World) : OwnM base w (.slice none 0 0) [] := World.ownsRow_nil w base 45 3
theorem OwnM.slice {base : Nat} {w : World} {v : Value} {L : List CT} (h : OwnM base w v L) : ∃ p c, v = .slice p L.length c ∧ Rds w p L.length L := by
  have hc := fun g (hg : v.ownBlock = some g) => World.ownsRow.cells h hg
  rcases h.2 with ⟨rfl, h0⟩ | ⟨g, cap, cur, rfl, _⟩
  · exact ⟨none, 0, by rw [h0], rfl, .inl (List.eq_nil_of_length_eq_zero h0)⟩
  · exact ⟨_, _, rfl, rfl, .inr ⟨_, rfl, fun j u hj => hc g rfl j u hj⟩⟩
theorem OwnM.kept {base : Nat} {w w' : World} {v : Value} {L : List CT} {row : Option Nat} (h : OwnM base w v L) (hg : w.grownBy w' row) (hne : v.ownBlock = none ∨ v.ownBlock ≠ row) : OwnM base w' v L := World.ownsRow.kept h hg hne
theorem OwnM.below {base : Nat} {w w' : World} {v : Value} {L : List CT} (h : OwnM base w v L) (hb : Below w.heap.size w w') : OwnM base w' v L :=
  h.kept (ngrown_below (row := none) hb) (by cases v.ownBlock <;> simp)
theorem OwnM.base {base base' : Nat} {w : World} {v : Value} {L : List CT} (h : OwnM base w v L) (hb : base' ≤ base) : OwnM base' w v L := by
  obtain ⟨h1, h2⟩ := h
  refine ⟨h1, h2.imp id ?_⟩
  rintro ⟨g, cap, cur, e1, e2, r⟩
  exact ⟨g, cap, cur, e1, by omega, r⟩
theorem ninfo : ∃ i z, Try.prog.info? 45 = some i ∧ i.zero = some z ∧ i.size = 3 ∧ i.bytes = 32 ∧ z.cells.size = 3 ∧ z = nmV nm0 := by
  cases h : Try.prog.info? 45 with
  | none => have := ninfz; rw [h] at this; cases this
  | some i =>
    have := ninfz
    rw [h] at this
    simp only [Option.map_some, Option.some.injEq, Prod.mk.injEq] at this
    exact ⟨i, _, rfl, this.1, this.2.1, this.2.2, rfl, rfl⟩
/-- Names are put behind a row of one's own. -/
theorem ownM_cat {base : Nat} {w : World} {v : Value} {L L2 : List CT} {p : Option Addr} {n c : Nat} (h : OwnM base w v L) (h2 : Rds w p n L2) (hp : p = none → c = 0) (hn : L.length + L2.length ≤ 4398046511104) (hbase : base ≤ w.heap.size) :
    ∃ v' w', Hid ((Builtin.append_ #[39, 39] 39 #[v, .slice p n c]).run Try.prog w = .ok v' w') ∧ OwnM base w' v' (L ++ L2) ∧ w.grownBy w' v.ownBlock ∧ Below base w w' := by
  obtain ⟨i, z, hi, hz, hz1, hz2, hz3, _⟩ := ninfo
  obtain ⟨rfl, h2⟩ := h2
  have hrow := fun k hk => (World.ownsRow.lt h k hk).1
  cases p with
  | none =>
    have e2 : L2 = [] := h2.elim id fun ⟨a, e, _⟩ => by cases e
    subst e2
    rw [hp rfl]
    refine ⟨v, w, run_append_owned_none w base 39 39 45 i 3 Try.underlying39 hi v _ _ h, by rw [List.append_nil]; exact h, World.grownBy.refl _ _, Below.refl _ _⟩
  | some a =>
    have hc : ∀ j u, (L2.flatMap ncl)[j]? = some u → w.cell? (a.add j) = some u := by
      rcases h2 with rfl | ⟨a', e, hc⟩
      · intro j u hj; simp at hj
      · cases e; exact hc
    obtain ⟨v', w', r1, o1, g1, _, _⟩ := run_append_own_at w base 39 39 45 i z 3 32 Try.underlying39 hi hz hz1 hz2 hz3 (by decide) v _ _ h a L2.length c (L2.flatMap ncl) (nfl_len L2) hc (ncl_one L2) (by simp only [maxLen]; omega) (by omega) hbase
    refine ⟨v', w', r1, ?_, g1, (Below.refl base w).grown g1 hbase hrow⟩
    unfold OwnM
    rw [List.length_append, List.flatMap_append]
    exact o1
/-- One more. -/
theorem ownM_one {base : Nat} {w : World} {v : Value} {L : List CT} (h : OwnM base w v L) {g : Nat} {x : CT} (hg : w.heap[g]? = some (nmO x)) (hn : L.length + 1 ≤ 4398046511104) (hbase : base ≤ w.heap.size) :
    ∃ v' w', Hid ((Builtin.append_ #[39, 39] 39 #[v, .slice (some ⟨g, 0, none⟩) 1 1]).run Try.prog w = .ok v' w') ∧ OwnM base w' v' (L ++ [x]) ∧ w.grownBy w' v.ownBlock ∧ Below base w w' := by
  refine ownM_cat h (L2 := [x]) ⟨rfl, .inr ⟨_, rfl, fun j u hj => ?_⟩⟩ (fun e => by cases e) (by simpa using hn) hbase
  rw [Addr.add_mid, cell_of_row w g (0 + j) _ _ _ hg, Nat.zero_add, ← hj]
  simp
theorem nslice_one (w : World) (x : CT) : (Instr.buildSlice 39 1 #[(0, nmV x)]).run Try.prog w = .ok (.slice (some ⟨w.heap.size, 0, none⟩) 1 1) (w.alloc (nmO x)) := by kernel_rfl
theorem nslice_zero (w : World) : (Instr.buildSlice 39 0 #[]).run Try.prog w = .ok (.slice (some ⟨w.heap.size, 0, none⟩) 0 0) (w.alloc (.cells #[] 45)) := by kernel_rfl
section
variable {P : Program} {ops : Array Oper} {rest : List Oper} {o : Oper} {a : Act} {w : World} {Q : Exit → Act → World → Prop}
theorem nl_load (hgd : o.guard = none) (ty : TypeId) (x : Operand) (ho : o.op = .load ty x)
    (p v : Value) (hx : a.eval x = p) (hrun : (Instr.loadAt ty p).run P w = .ok v w) (h : wpList P ops Q rest (a.put o.dst v) w) : wpList P ops Q (o :: rest) a w := by
  refine wpList_plain hgd fun K hK => ?_
  unfold Oper.wp execOp
  simp only [ho, hx, Sem.run_bind, Sem.run_pure, hrun, Result.andThen_ok]
  exact hK _ _ h
theorem nl_loadg (ty : TypeId) (x : Operand) (ho : o.op = .load ty x)
    (p v : Value) (hx : a.eval x = p) (hrun : (Instr.loadAt ty p).run P w = .ok v w) (hw : Region.wanted o (yielded ops a.tmps) = true) (h : wpList P ops Q rest (a.put o.dst v) w) : wpList P ops Q (o :: rest) a w := by
  refine wpList_step fun K hK => ?_
  rw [if_pos hw]
  unfold Oper.wp execOp
  simp only [ho, hx, Sem.run_bind, Sem.run_pure, hrun, Result.andThen_ok]
  exact hK _ _ h
theorem nl_store (hgd : o.guard = none) (ty : TypeId) (x y : Operand) (ho : o.op = .store ty x y)
    (p v : Value) (w' : World) (hx : a.eval x = p) (hy : a.eval y = v) (hrun : (Instr.storeAt ty p v).run P w = .ok () w') (h : wpList P ops Q rest (a.put o.dst undef) w') : wpList P ops Q (o :: rest) a w := by
  refine wpList_plain hgd fun K hK => ?_
  unfold Oper.wp execOp
  simp only [ho, hx, hy, Sem.run_bind, Sem.run_pure, hrun, Result.andThen_ok]
  exact hK _ _ h
theorem nl_build (hgd : o.guard = none) (ty : TypeId) (xs : Array (Nat × Operand)) (ho : o.op = .build ty xs)
    (ps : Array (Nat × Value)) (v : Value) (hx : (xs.map fun (i, x) => (i, a.eval x)) = ps) (hrun : (Instr.build ty ps).run P w = .ok v w) (h : wpList P ops Q rest (a.put o.dst v) w) : wpList P ops Q (o :: rest) a w := by
  refine wpList_plain hgd fun K hK => ?_
  unfold Oper.wp execOp
  simp only [ho, hx, Sem.run_bind, Sem.run_pure, hrun, Result.andThen_ok]
  exact hK _ _ h
theorem nl_bslice (hgd : o.guard = none) (ty : TypeId) (len : Nat) (xs : Array (Nat × Operand)) (ho : o.op = .buildSlice ty len xs)
    (ps : Array (Nat × Value)) (v : Value) (w' : World) (hx : (xs.map fun (i, x) => (i, a.eval x)) = ps) (hrun : (Instr.buildSlice ty len ps).run P w = .ok v w') (h : wpList P ops Q rest (a.put o.dst v) w') : wpList P ops Q (o :: rest) a w := by
  refine wpList_plain hgd fun K hK => ?_
  unfold Oper.wp execOp
  simp only [ho, hx, Sem.run_bind, Sem.run_pure, hrun, Result.andThen_ok]
  exact hK _ _ h
theorem nl_append (hgd : o.guard = none) (s x : Operand) (t t2 : TypeId)
    (ho : o.op = .call { callee := .builtin .append, args := #[s, x], argTypes := #[t, t2] }) (v bv v' : Value) (w' : World) (hs : a.eval s = v) (hx : a.eval x = bv) (hrun : (Builtin.append_ #[t, t2] o.type #[v, bv]).run P w = .ok v' w')
    (h : wpList P ops Q rest (a.put o.dst v') w') : wpList P ops Q (o :: rest) a w := by
  refine wpList_plain hgd fun K hK => ?_
  unfold Oper.wp
  simp [execOp, ho, resolve, invoke, builtin, hs, hx, hrun, Result.andThen]
  exact hK _ _ h
end
theorem mbox (u : World) (y : CT) : (Instr.storeAt 45 (.pointer (some ⟨u.heap.size, 0, none⟩)) (nmV y)).run Try.prog (u.alloc (nmO nm0)) = .ok () (u.alloc (nmO y)) :=
  run_storeAt_new u 45 (ncs nm0) (ncs y) ninf rfl (by simp [Value.oneCell'])
theorem nload {u : World} {g : Nat} {x : CT} {z : Nat × Nat} (hg : u.heap[g]? = some (.cells (ncs x) 45 z)) : (Instr.loadAt 45 (.pointer (some ⟨g, 0, none⟩))).run Try.prog u = .ok (nmV x) u := by
  obtain ⟨c0, c1, c2⟩ := n_cells hg
  have hr := run_loadVar_row (P := Try.prog) u g 45 45 (ncs x) z _ hg Try.underlying45 rfl ninf
  simp only [Instr.loadAt, Instr.sureAddr, Sem.run_bind, Sem.run_pure, Result.andThen_ok, hr]
theorem nbuild0 (w : World) : (Instr.build 45 #[]).run Try.prog w = .ok (nmV nm0) w := by kernel_rfl
/-- A name that lies in a box, built into a row of one. -/
theorem nslice_box (wr : World) (y : CT) : (Instr.buildSlice 39 1 #[(0, nmV y)]).run Try.prog (wr.alloc (nmO y)) = .ok (.slice (some ⟨wr.heap.size + 1, 0, none⟩) 1 1) ((wr.alloc (nmO y)).alloc (nmO y)) := by
  have := nslice_one (wr.alloc (nmO y)) y
  rw [show (wr.alloc (nmO y)).heap.size = wr.heap.size + 1 by simp] at this
  exact this
/-- One more, behind a box and the row of one. -/
theorem ownM_box {base : Nat} {wr : World} {v : Value} {L : List CT} (h : OwnM base wr v L) (y : CT) (hn : L.length + 1 ≤ 4398046511104) (hbase : base ≤ wr.heap.size) :
    ∃ v' w', Hid ((Builtin.append_ #[39, 39] 39 #[v, .slice (some ⟨wr.heap.size + 1, 0, none⟩) 1 1]).run Try.prog ((wr.alloc (nmO y)).alloc (nmO y)) = .ok v' w') ∧ OwnM base w' v' (L ++ [y]) ∧ ((wr.alloc (nmO y)).alloc (nmO y)).grownBy w' v.ownBlock ∧ Below base ((wr.alloc (nmO y)).alloc (nmO y)) w' := by
  have hb : Below wr.heap.size wr ((wr.alloc (nmO y)).alloc (nmO y)) := bel_alloc (bel_alloc (Below.refl _ _) _) _
  refine ownM_one (h.below hb) ?_ hn (Nat.le_trans hbase hb.size)
  have := heap_alloc_new (wr.alloc (nmO y)) (nmO y)
  rw [show (wr.alloc (nmO y)).heap.size = wr.heap.size + 1 by simp] at this
  exact this
end Go.Proofs.Yteafldbmeekpbaa
