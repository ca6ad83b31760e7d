/- A list of acts in memory; an act of it loaded, and laid as a copy of one's own. -/
import Derived.Test.YtjncibejdplamaaActAny
import Derived.Deep.WholeRow
import Derived.Deep.Slices
import Derived.Deep.MidRow
import Derived.Laws.Rows
namespace Go.Proofs.Ytjncibejdplamaa
open Go.RowKit Go.Maps
set_option maxRecDepth 100000
set_option linter.unusedVariables false
set_option linter.unusedSimpArgs false
structure ActT where
  k : Int
  nm : ByteArray
  to : ByteArray
  n : Int
  m : Int
  da : Option Addr
  dn : Nat
  dc : Nat
  l : List UInt8
def actC (t : ActT) : List Value := [.int .i64 t.k, .string t.nm, .string t.to, .int .i64 t.n, .int .i64 t.m, .slice t.da t.dn t.dc]
def ActOk (base : Nat) (w : World) (t : ActT) : Prop := DB base w (.slice t.da t.dn t.dc) t.l ∧ t.nm.size ≤ maxLen ∧ t.to.size ≤ maxLen ∧ t.l.length ≤ 140737488351232
def ActsIn (base : Nat) (w : World) (v : Value) (L : List ActT) : Prop :=
  (∀ t ∈ L, ActOk base w t) ∧ ((v = .slice none 0 0 ∧ L = []) ∨ ∃ a cap, v = .slice (some a) L.length cap ∧ L.length ≤ cap ∧ cap ≤ maxLen ∧ (L ≠ [] → a.block < base) ∧ ∀ k t, L[k]? = some t → ∀ j u, (actC t)[j]? = some u → w.cell? ((a.add (k * 6)).add j) = some u)
theorem inf31 : (Try.prog.info? 31).map (·.size) = some 6 := by kernel_rfl
theorem run_loadVar_any {P : Program} (w : World) (x : Addr) (ty : TypeId) (cs : List Value) (d : TypeDesc) (hc : ∀ j v, cs[j]? = some v → w.cell? (x.add j) = some v)
    (hu : P.underlying ty = some d) (hd : d.isRow = true) (hi : (P.info? ty).map (·.size) = some cs.length) :
    (Instr.loadAt ty (.pointer (some x))).run P w = .ok (.agg cs.toArray) w := by
  have hl : (loadCells x cs.length).run P w = .ok cs.toArray w := run_loadCells_list (P := P) w x cs hc
  cases hq : P.info? ty with
  | none => simp [hq] at hi
  | some i =>
    have hs : i.size = cs.length := by simpa [hq] using hi
    have hagg : (isAgg ty).run P w = .ok true w := by
      unfold isAgg
      rw [Sem.run_bind, run_underlying hu w]
      cases d <;> simp_all
    simp [Instr.loadAt, Instr.sureAddr, loadVar, Sem.run_bind, hagg, sizeOf, typeInfo, hq, hs, hl]
theorem wpList_load_run {P : Program} {ops : Array Oper} {rest : List Oper} {o : Oper} {a : Act} {w : World} {Q : Exit → Act → World → Prop} (hgd : o.guard = none) (ty : TypeId) (x : Operand) (ho : o.op = .load ty x)
    (p v : Value) (hx : a.eval x = p) (hrun : (Instr.loadAt ty p).run P w = .ok v w) (h : wpList P ops Q rest (a.put o.dst v) w) : wpList P ops Q (o :: rest) a w := by
  refine wpList_plain hgd fun K hK => ?_
  unfold Oper.wp execOp
  simp only [ho, hx, Sem.run_bind, Sem.run_pure, hrun, Result.andThen_ok]
  exact hK _ _ h
theorem wpList_store_run {P : Program} {ops : Array Oper} {rest : List Oper} {o : Oper} {a : Act} {w : World} {Q : Exit → Act → World → Prop} (hgd : o.guard = none) (ty : TypeId) (x y : Operand) (ho : o.op = .store ty x y)
    (p v : Value) (w' : World) (hx : a.eval x = p) (hy : a.eval y = v) (hrun : (Instr.storeAt ty p v).run P w = .ok () w') (h : wpList P ops Q rest (a.put o.dst undef) w') : wpList P ops Q (o :: rest) a w := by
  refine wpList_plain hgd fun K hK => ?_
  unfold Oper.wp execOp
  simp only [ho, hx, hy, Sem.run_bind, Sem.run_pure, hrun, Result.andThen_ok]
  exact hK _ _ h
abbrev actZ : Obj := .cells #[.int .i64 0, .string ⟨#[]⟩, .string ⟨#[]⟩, .int .i64 0, .int .i64 0, .slice none 0 0] 31
/-- An act of the list: loaded, and laid as a copy of one's own; the copy loaded, also behind the next new block. -/
theorem ActsIn.runs {base : Nat} {w : World} {a : Option Addr} {c : Nat} {L : List ActT} (h : ActsIn base w (.slice a L.length c) L) {wr : World} (hb : Below base w wr) {k : Nat} (hk : k < L.length) :
    ∃ a', a = some a' ∧ Hid ((Instr.loadAt 31 (.pointer (some (a'.add (k * 6))))).run Try.prog wr = .ok (.agg (actC L[k]).toArray) wr) ∧
      Hid ((Instr.storeAt 31 (.pointer (some ⟨wr.heap.size, 0, none⟩)) (.agg (actC L[k]).toArray)).run Try.prog (wr.alloc actZ) = .ok () (wr.alloc (.cells (actC L[k]).toArray 31))) ∧
      Hid (∀ o, (Instr.loadAt 31 (.pointer (some ⟨wr.heap.size, 0, none⟩))).run Try.prog ((wr.alloc (.cells (actC L[k]).toArray 31)).alloc o) = .ok (.agg (actC L[k]).toArray) ((wr.alloc (.cells (actC L[k]).toArray 31)).alloc o)) ∧
      Hid (ActOk base wr L[k]) := by
  obtain ⟨h0, h⟩ := h
  have hi : (Try.prog.info? 31).map (·.size) = some (actC L[k]).length := inf31
  rcases h with ⟨_, e⟩ | ⟨a', cap, h1, h2, h3, h4, h5⟩
  · rw [e] at hk; simp at hk
  · simp only [Value.slice.injEq] at h1
    obtain ⟨rfl, -, -⟩ := h1
    refine ⟨a', rfl, run_loadVar_any wr _ 31 (actC L[k]) _ (fun j v hv => ?_) Try.underlying31 rfl hi, ?_, fun o => ?_, ?_⟩
    · have e := h5 k _ (List.getElem?_eq_getElem hk) j v hv
      have hblk : ((a'.add (k * 6)).add j).block < base := by rw [Byt.addr_block, Byt.addr_block]; exact h4 (fun e => by rw [e] at hk; simp at hk)
      have := hb.block _ hblk
      simpa [World.cell?, this] using e
    · exact run_storeAt_new wr 31 _ (actC L[k]).toArray (by simpa using hi) rfl (by simp [actC, Value.oneCell'])
    · refine run_loadVar_any _ ⟨wr.heap.size, 0, none⟩ 31 (actC L[k]) _ (fun j v hv => ?_) Try.underlying31 rfl hi
      have hadd : (⟨wr.heap.size, 0, none⟩ : Addr).add j = ⟨wr.heap.size, j, none⟩ := by unfold Addr.add; split <;> simp_all
      rw [hadd, cell_of_row _ _ j (actC L[k]).toArray 31 (0, 0) ((Below.heap_alloc _ _ _ (by simp)).trans (heap_alloc_new wr _))]
      simpa using hv
    · obtain ⟨q1, q2⟩ := h0 _ (List.getElem_mem hk)
      exact ⟨q1.below hb, q2⟩
end Go.Proofs.Ytjncibejdplamaa
