/- Rows in memory: rows that are read, rows of one's own whose cells are turned one by one. -/
import Derived.Test.YtbbcnjagndfmbaaRows
import Derived.WalkKit
import Derived.Below
import Derived.LoopTactic
import Derived.BigQuiet
import Derived.Maps.AppendAt
import Derived.Laws.OwnMore
import Derived.Laws.RangeAny
import Derived.Deep.Slices
import Derived.Deep.MidRow
import Derived.Deep.Onto
namespace Go.Proofs.Ytbbcnjagndfmbaa
open Go.RowKit
set_option maxRecDepth 4398046511104
set_option linter.unusedVariables false
set_option linter.unusedSimpArgs false
theorem bel1 {w w1 : World} {o : Obj} (hb : Below (w.alloc o).heap.size (w.alloc o) w1) : Below w.heap.size w w1 :=
  (Below.alloc (Below.refl _ _) (Nat.le_refl _) o).trans (hb.mono (by simp))
theorem bel_step {w w1 w2 : World} (h : Below w.heap.size w w1) (hb : Below w1.heap.size w1 w2) : Below w.heap.size w w2 := h.trans (hb.mono h.size)
theorem bel_alloc {w w1 : World} (h : Below w.heap.size w w1) (o : Obj) : Below w.heap.size w (w1.alloc o) := h.alloc h.size _
theorem cell_bel {w w' : World} (hb : Below w.heap.size w w') {a : Addr} {v : Value} (h : w.cell? a = some v) : w'.cell? a = some v :=
  (World.cell?_of_block (hb.block _ (World.block_lt_of_cell? w a h))).trans h
theorem grown_below {w w' : World} {row : Option Nat} (h : Below w.heap.size w w') : w.grownBy w' row := ⟨h.os, h.tape, h.output, h.size, fun i hi _ => h.block i hi⟩
/-- A row that is read: n elements, the cells xs. -/
def Rd (w : World) (v : Value) (n : Nat) (xs : List Value) : Prop :=
  ∃ a c, v = .slice a n c ∧ n ≤ c ∧ c ≤ maxLen ∧ ((a = none ∧ n = 0 ∧ c = 0 ∧ xs = []) ∨ ∃ A, a = some A ∧ ∀ j u, xs[j]? = some u → w.cell? (A.add j) = some u)
theorem Rd.nil (w : World) : Rd w (.slice none 0 0) 0 [] := ⟨_, _, rfl, Nat.le_refl _, by decide, .inl ⟨rfl, rfl, rfl, rfl⟩⟩
theorem Rd.below {w w' : World} {v : Value} {n : Nat} {xs : List Value} (h : Rd w v n xs) (hb : Below w.heap.size w w') : Rd w' v n xs := by
  obtain ⟨a, c, e, h1, h2, h3⟩ := h
  exact ⟨a, c, e, h1, h2, h3.imp id fun ⟨A, e, hc⟩ => ⟨A, e, fun j u hj => cell_bel hb (hc j u hj)⟩⟩
theorem Rd.drew {w : World} {v : Value} {n : Nat} {xs : List Value} (h : Rd w v n xs) : Rd w.drew v n xs := h
theorem Rd.slice {w : World} {v : Value} {n : Nat} {xs : List Value} (h : Rd w v n xs) : ∃ a c, v = .slice a n c := by
  obtain ⟨a, c, e, _⟩ := h
  exact ⟨a, c, e⟩
theorem Rd.at {w : World} {v : Value} {n : Nat} {xs : List Value} (h : Rd w v n xs) {j : Nat} (hj : j < xs.length) : ∃ A c, v = .slice (some A) n c ∧ w.cell? (A.add j) = some xs[j] := by
  obtain ⟨a, c, e, h1, h2, ⟨_, _, _, rfl⟩ | ⟨A, rfl, hc⟩⟩ := h
  · simp at hj
  · exact ⟨A, c, e, hc j _ (List.getElem?_eq_getElem hj)⟩
theorem own_slice {base : Nat} {t : TypeId} {sz n : Nat} {w : World} {v : Value} {xs : List Value} (h : w.ownsRow base t sz v n xs) : ∃ a c, v = .slice a n c := by
  rcases h.2 with ⟨rfl, rfl⟩ | ⟨g, cap, cur, rfl, _⟩
  · exact ⟨_, _, rfl⟩
  · exact ⟨_, _, rfl⟩
theorem own_rd {base : Nat} {t : TypeId} {sz n : Nat} {w : World} {v : Value} {xs : List Value} (h : w.ownsRow base t sz v n xs) : Rd w v n xs := by
  have hc := fun g (hg : v.ownBlock = some g) => World.ownsRow.cells h hg
  have hl := h.1
  rcases h.2 with ⟨rfl, rfl⟩ | ⟨g, cap, cur, rfl, _, _, h1, h2, _⟩
  · exact ⟨none, 0, rfl, Nat.le_refl _, by decide, .inl ⟨rfl, rfl, rfl, List.eq_nil_of_length_eq_zero (by rw [hl, Nat.zero_mul])⟩⟩
  · exact ⟨some ⟨g, 0, none⟩, cap, rfl, h1, h2, .inr ⟨_, rfl, fun j u hj => hc g rfl j u hj⟩⟩
theorem own_below {base : Nat} {t : TypeId} {sz n : Nat} {w w' : World} {v : Value} {xs : List Value} (h : w.ownsRow base t sz v n xs) (hb : Below w.heap.size w w') : w'.ownsRow base t sz v n xs :=
  World.ownsRow.kept h (grown_below (row := none) hb) (by cases v.ownBlock <;> simp)
/-- A row of one's own, at A: its cells one by one. -/
structure Ro (base : Nat) (w : World) (t : TypeId) (A : Addr) (n c : Nat) (xs : List Value) : Prop where
  own : w.ownsRow base t 1 (.slice (some A) n c) n xs
theorem Ro.form {base : Nat} {w : World} {t : TypeId} {A : Addr} {n c : Nat} {xs : List Value} (h : Ro base w t A n c xs) : ∃ g, A = ⟨g, 0, none⟩ ∧ base ≤ g ∧ g < w.heap.size := by
  have hl := World.ownsRow.lt h.own
  rcases h.own.2 with ⟨h', _⟩ | ⟨g, cap, cur, h', hb, hg, _⟩
  · simp at h'
  · simp only [Value.slice.injEq, Option.some.injEq, true_and] at h'
    obtain ⟨rfl, rfl⟩ := h'
    exact ⟨g, rfl, hb, (Array.getElem?_eq_some_iff.1 hg).1⟩
theorem Ro.len {base : Nat} {w : World} {t : TypeId} {A : Addr} {n c : Nat} {xs : List Value} (h : Ro base w t A n c xs) : xs.length = n := by
  rw [h.own.1, Nat.mul_one]
theorem Ro.cell {base : Nat} {w : World} {t : TypeId} {A : Addr} {n c : Nat} {xs : List Value} (h : Ro base w t A n c xs) {j : Nat} {u : Value} (hj : xs[j]? = some u) : w.cell? (A.add j) = some u ∧ w.frozen? (A.add j) = false := by
  obtain ⟨g, rfl, _⟩ := h.form
  refine ⟨World.ownsRow.cells h.own rfl j u hj, ?_⟩
  have := World.ownsRow.frozenAt h.own j
  rw [Addr.add_mid, Nat.zero_add]
  exact this
theorem Ro.set {base : Nat} {w : World} {t : TypeId} {A : Addr} {n c : Nat} {xs : List Value} (h : Ro base w t A n c xs) (j : Nat) (u : Value) : Ro base (w.setCell (A.add j) u) t A n c (xs.set j u) := by
  obtain ⟨g, rfl, _⟩ := h.form
  rw [Addr.add_mid, Nat.zero_add]
  exact ⟨(World.ownsRow.stored h.own j u).1⟩
theorem Ro.below {base : Nat} {w w' : World} {t : TypeId} {A : Addr} {n c : Nat} {xs : List Value} (h : Ro base w t A n c xs) (hb : Below w.heap.size w w') : Ro base w' t A n c xs := ⟨own_below h.own hb⟩
theorem Ro.grown {base : Nat} {w w' : World} {t : TypeId} {A : Addr} {n c : Nat} {xs : List Value} {row : Option Nat} (h : Ro base w t A n c xs) (hb : w.grownBy w' row) (hne : row ≠ some A.block) : Ro base w' t A n c xs :=
  ⟨World.ownsRow.kept h.own hb (.inr fun e => hne e.symm)⟩
theorem bel_set {B : Nat} {base : Nat} {w0 w : World} {t : TypeId} {A : Addr} {n c : Nat} {xs : List Value} (h : Ro base w t A n c xs) (hb : Below B w0 w) (hB : B ≤ base) (j : Nat) (u : Value) : Below B w0 (w.setCell (A.add j) u) := by
  obtain ⟨g, rfl, hg, _⟩ := h.form
  exact hb.setCell (by rw [Addr.add_mid]; exact Nat.le_trans hB hg) u
/-- A row of n zeros, new. -/
theorem ro_make (w : World) (S t : TypeId) (z : Value) (bytes : Nat) (ht : Try.prog.underlying S = some (.slice t)) (hi : (Try.prog.info? t).map (fun i => (i.zero, i.size, i.bytes)) = some (some z, 1, bytes)) (hz : z.cells = #[z]) (n : Nat) (hb : bytes * n ≤ 281474976710656) (hn : n ≤ 4398046511104) :
    ∃ A w', Hid ((Instr.makeSlice S (.int .i64 (n : Int)) (.int .i64 (n : Int))).run Try.prog w = .ok (.slice (some A) n n) w') ∧ Ro w.heap.size w' t A n n (List.replicate n z) ∧ Below w.heap.size w w' := by
  obtain ⟨i, hi1, h⟩ := Option.map_eq_some_iff.1 hi
  simp only [Prod.mk.injEq] at h
  obtain ⟨w', hr, ho, hg⟩ := run_make_full (P := Try.prog) w w.heap.size S t i z 1 ht hi1 h.1 h.2.1 .i64 .i64 n (by rw [h.2.2]; exact hb) (by simp only [maxLen]; omega) (Nat.le_refl _)
  refine ⟨_, w', hr, ⟨?_⟩, ?_⟩
  · rw [hz, Nat.mul_one, toList_madeCells_one] at ho
    exact ho
  · exact ⟨hg.os, hg.tape, hg.output, hg.size, fun k hk => hg.block k hk (by simp)⟩
/-- Elements put behind a row of one's own. -/
theorem own_cat {base : Nat} {w : World} {S t ty : TypeId} {z : Value} {sz bytes : Nat} (ht : Try.prog.underlying S = some (.slice t)) (hi : (Try.prog.info? t).map (fun i => (i.zero, i.size, i.bytes)) = some (some z, sz, bytes)) (hz : z.cells.size = sz) (hp : 0 < sz)
    {v : Value} {n : Nat} {xs : List Value} (h : w.ownsRow base t sz v n xs) {bv : Value} {m : Nat} {news : List Value} (hr : Rd w bv m news) (hl : news.length = m * sz) (h1 : ∀ u ∈ news, u.oneCell' = true) (hn : n + m ≤ 4398046511104) (hby : bytes ≤ 32) (hbase : base ≤ w.heap.size) :
    ∃ v' w', Hid ((Builtin.append_ #[S, S] ty #[v, bv]).run Try.prog w = .ok v' w') ∧ w'.ownsRow base t sz v' (n + m) (xs ++ news) ∧ w.grownBy w' v.ownBlock ∧ Below base w w' ∧ (v'.ownBlock = v.ownBlock ∨ v'.ownBlock = some w.heap.size) := by
  obtain ⟨i, hi1, hh⟩ := Option.map_eq_some_iff.1 hi
  simp only [Prod.mk.injEq] at hh
  have hrow := fun k hk => (World.ownsRow.lt h k hk).1
  obtain ⟨a, c, rfl, _, _, ⟨rfl, rfl, rfl, rfl⟩ | ⟨A, rfl, hc⟩⟩ := hr
  · exact ⟨v, w, run_append_owned_none w base S ty t i sz ht hi1 v _ _ h, by rw [List.append_nil]; exact h, World.grownBy.refl _ _, Below.refl _ _, .inl rfl⟩
  · have hk : (n + m) * bytes ≤ 140737488355328 := Nat.le_trans (Nat.mul_le_mul hn hby) (by decide)
    obtain ⟨v', w', r1, o1, g1, _, l1⟩ := run_append_own_at w base S ty t i z sz bytes ht hi1 hh.1 hh.2.1 hh.2.2 hz hp v _ _ h A m c news hl hc h1 (by simp only [maxLen]; omega) hk hbase
    exact ⟨v', w', r1, o1, g1, (Below.refl base w).grown g1 hbase hrow, l1⟩
section
variable {P : Program} {ops : Array Oper} {rest : List Oper} {o : Oper} {a : Act} {w : World} {Q : Exit → Act → World → Prop}
theorem nl_load (hgd : o.guard = none) (ty : TypeId) (x : Operand) (ho : o.op = .load ty x)
    (p v : Value) (hx : a.eval x = p) (hrun : (Instr.loadAt ty p).run P w = .ok v w) (h : wpList P ops Q rest (a.put o.dst v) w) : wpList P ops Q (o :: rest) a w := by
  refine wpList_plain hgd fun K hK => ?_
  unfold Oper.wp execOp
  simp only [ho, hx, Sem.run_bind, Sem.run_pure, hrun, Result.andThen_ok]
  exact hK _ _ h
theorem nl_store (hgd : o.guard = none) (ty : TypeId) (x y : Operand) (ho : o.op = .store ty x y)
    (p v : Value) (w' : World) (hx : a.eval x = p) (hy : a.eval y = v) (hrun : (Instr.storeAt ty p v).run P w = .ok () w') (h : wpList P ops Q rest (a.put o.dst undef) w') : wpList P ops Q (o :: rest) a w := by
  refine wpList_plain hgd fun K hK => ?_
  unfold Oper.wp execOp
  simp only [ho, hx, hy, Sem.run_bind, Sem.run_pure, hrun, Result.andThen_ok]
  exact hK _ _ h
theorem nl_make (hgd : o.guard = none) (ty : TypeId) (x y : Operand) (ho : o.op = .makeSlice ty x y)
    (p q v : Value) (w' : World) (hx : a.eval x = p) (hy : a.eval y = q) (hrun : (Instr.makeSlice ty p q).run P w = .ok v w') (h : wpList P ops Q rest (a.put o.dst v) w') : wpList P ops Q (o :: rest) a w := by
  refine wpList_plain hgd fun K hK => ?_
  unfold Oper.wp execOp
  simp only [ho, hx, hy, Sem.run_bind, Sem.run_pure, hrun, Result.andThen_ok]
  exact hK _ _ h
theorem nl_bslice (hgd : o.guard = none) (ty : TypeId) (len : Nat) (xs : Array (Nat × Operand)) (ho : o.op = .buildSlice ty len xs)
    (ps : Array (Nat × Value)) (v : Value) (w' : World) (hx : (xs.map fun (i, x) => (i, a.eval x)) = ps) (hrun : (Instr.buildSlice ty len ps).run P w = .ok v w') (h : wpList P ops Q rest (a.put o.dst v) w') : wpList P ops Q (o :: rest) a w := by
  refine wpList_plain hgd fun K hK => ?_
  unfold Oper.wp execOp
  simp only [ho, hx, Sem.run_bind, Sem.run_pure, hrun, Result.andThen_ok]
  exact hK _ _ h
theorem nl_append (hgd : o.guard = none) (s x : Operand) (t t2 : TypeId)
    (ho : o.op = .call { callee := .builtin .append, args := #[s, x], argTypes := #[t, t2] }) (v bv v' : Value) (w' : World) (hs : a.eval s = v) (hx : a.eval x = bv) (hrun : (Builtin.append_ #[t, t2] o.type #[v, bv]).run P w = .ok v' w')
    (h : wpList P ops Q rest (a.put o.dst v') w') : wpList P ops Q (o :: rest) a w := by
  refine wpList_plain hgd fun K hK => ?_
  unfold Oper.wp
  simp [execOp, ho, resolve, invoke, builtin, hs, hx, hrun, Result.andThen]
  exact hK _ _ h
end
end Go.Proofs.Ytbbcnjagndfmbaa
