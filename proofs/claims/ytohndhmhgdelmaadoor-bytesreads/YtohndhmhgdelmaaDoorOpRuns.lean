/- Loads and stores of whole structs, by their run equations; no walk of a function. -/
import Derived.Test.YtohndhmhgdelmaaDoorOpMem
import Derived.Deep.WholeRow
import Derived.Deep.Slices
import Derived.Deep.MidRow
import Derived.Laws.Rows
namespace Go.Proofs.YtohndhmhgdelmaaDoor
open Go.RowKit

theorem run_loadVar_any {P : Program} (w : World) (x : Addr) (ty : TypeId) (cs : List Value) (d : TypeDesc) (hc : ∀ j v, cs[j]? = some v → w.cell? (x.add j) = some v)
    (hu : P.underlying ty = some d) (hd : d.isRow = true) (hi : (P.info? ty).map (·.size) = some cs.length) :
    (Instr.loadAt ty (.pointer (some x))).run P w = .ok (.agg cs.toArray) w := by
  have hl : (loadCells x cs.length).run P w = .ok cs.toArray w := run_loadCells_list (P := P) w x cs hc
  cases hq : P.info? ty with
  | none => simp [hq] at hi
  | some i =>
    have hs : i.size = cs.length := by simpa [hq] using hi
    have hagg : (isAgg ty).run P w = .ok true w := by
      unfold isAgg
      rw [Sem.run_bind, run_underlying hu w]
      cases d <;> simp_all
    simp [Instr.loadAt, Instr.sureAddr, loadVar, Sem.run_bind, hagg, sizeOf, typeInfo, hq, hs, hl]

/-- A load whose run is known, as the next operation. -/
theorem wpList_load_run {P : Program} {ops : Array Oper} {rest : List Oper} {o : Oper} {a : Act} {w : World} {Q : Exit → Act → World → Prop} (hgd : o.guard = none) (ty : TypeId) (x : Operand) (ho : o.op = .load ty x)
    (p v : Value) (hx : a.eval x = p) (hrun : (Instr.loadAt ty p).run P w = .ok v w) (h : wpList P ops Q rest (a.put o.dst v) w) : wpList P ops Q (o :: rest) a w := by
  refine wpList_plain hgd fun K hK => ?_
  unfold Oper.wp execOp
  simp only [ho, hx, Sem.run_bind, Sem.run_pure, hrun, Result.andThen_ok]
  exact hK _ _ h
/-- A store whose run is known. -/
theorem wpList_store_run {P : Program} {ops : Array Oper} {rest : List Oper} {o : Oper} {a : Act} {w : World} {Q : Exit → Act → World → Prop} (hgd : o.guard = none) (ty : TypeId) (x y : Operand) (ho : o.op = .store ty x y)
    (p v : Value) (w' : World) (hx : a.eval x = p) (hy : a.eval y = v) (hrun : (Instr.storeAt ty p v).run P w = .ok () w') (h : wpList P ops Q rest (a.put o.dst undef) w') : wpList P ops Q (o :: rest) a w := by
  refine wpList_plain hgd fun K hK => ?_
  unfold Oper.wp execOp
  simp only [ho, hx, hy, Sem.run_bind, Sem.run_pure, hrun, Result.andThen_ok]
  exact hK _ _ h

/-- A struct's own copy: laid, stored, loaded. -/
theorem box_runs {t : TypeId} {zv : Value} {sz bytes : Nat} {d : TypeDesc} (hu : Tryd.prog.underlying t = some d) (hd : d.isRow = true) (hinf : (Tryd.prog.info? t).map (fun i => (i.zero, i.size, i.bytes)) = some (some zv, sz, bytes)) (w : World) (zs es : Array Value) (hz : zs.size = sz) (he : es.size = sz) (h1 : es.all (·.oneCell') = true) :
    (Instr.storeAt t (.pointer (some ⟨w.heap.size, 0, none⟩)) (.agg es)).run Tryd.prog (w.alloc (.cells zs t)) = .ok () (w.alloc (.cells es t)) ∧
    (Instr.loadAt t (.pointer (some ⟨w.heap.size, 0, none⟩))).run Tryd.prog (w.alloc (.cells es t)) = .ok (.agg es) (w.alloc (.cells es t)) := by
  have hi : (Tryd.prog.info? t).map (·.size) = some es.size := by
    cases hq : Tryd.prog.info? t with
    | none => simp [hq] at hinf
    | some i => simp [hq] at hinf ⊢; omega
  refine ⟨run_storeAt_new w t zs es hi (by omega) h1, ?_⟩
  have := run_loadVar_any (P := Tryd.prog) (w.alloc (.cells es t)) ⟨w.heap.size, 0, none⟩ t es.toList d (fun j v hv => by
    have hadd : (⟨w.heap.size, 0, none⟩ : Addr).add j = ⟨w.heap.size, j, none⟩ := by unfold Addr.add; split <;> simp_all
    rw [hadd, cell_of_row _ _ j es t (0, 0) (heap_alloc_new w _)]
    simpa using hv) hu hd (by simpa using hi)
  simpa using this
/-- An element of a slice, loaded. -/
theorem Rws.load {lo hi sz : Nat} {w : World} {a : Option Addr} {n c : Nat} {C : Nat → List Value} (h : Rws lo hi sz w (.slice a n c) n C) {k : Nat} (hk : k < n) {t : TypeId} {d : TypeDesc} (hu : Tryd.prog.underlying t = some d) (hd : d.isRow = true) (hi : (Tryd.prog.info? t).map (·.size) = some (C k).length) :
    ∃ a', a = some a' ∧ (Instr.loadAt t (.pointer (some (a'.add (k * sz))))).run Tryd.prog w = .ok (.agg (C k).toArray) w := by
  rcases h with ⟨_, e2⟩ | ⟨a', cap, g1, g2, g3, g4, g5⟩
  · omega
  · cases g1
    refine ⟨a', rfl, run_loadVar_any w _ t (C k) d (fun j v hv => ?_) hu hd hi⟩
    rw [Go.Deep.add_add]
    exact g5 k j v hk hv

/-- A change of a list: loaded, and laid as a copy of one's own. -/
theorem Opl.runs {lo hi : Nat} {w : World} {a : Option Addr} {c : Nat} {L : List OpT} (h : Opl lo hi w (.slice a L.length c) L) {k : Nat} (hk : k < L.length) :
    ∃ a' cv ov W, a = some a' ∧ ov = opV L[k] cv ∧ Cls lo hi w cv L[k].cells ∧ W = w.alloc (.cells (opC L[k] cv).toArray 84) ∧
      Hid ((Instr.loadAt 84 (.pointer (some (a'.add (k * 19))))).run Tryd.prog w = .ok ov w) ∧
      Hid ((Instr.storeAt 84 (.pointer (some ⟨w.heap.size, 0, none⟩)) ov).run Tryd.prog (w.alloc (.cells #[int0, strE, strE, int0, int0, int0, int0, strE, strE, strE, strE, strE, strE, int0, int0, int0, int0, strE, .slice none 0 0] 84)) = .ok () W) ∧
      Hid ((Instr.loadAt 84 (.pointer (some ⟨w.heap.size, 0, none⟩))).run Tryd.prog W = .ok ov W) := by
  obtain ⟨cv, hr, hc⟩ := h
  have e : (L[k]?.map fun o => opC o (cv k)).getD [] = opC L[k] (cv k) := by simp [List.getElem?_eq_getElem hk]
  obtain ⟨a', h1, h2⟩ := Rws.load hr hk (t := 84) Tryd.underlying84 rfl (by rw [e]; simp only [opC]; kernel_rfl)
  rw [e] at h2
  have hcs := hc k _ (List.getElem?_eq_getElem hk)
  obtain ⟨ca, cc, e1, _, _⟩ := hcs.slice
  obtain ⟨b1, b2⟩ := box_runs Tryd.underlying84 rfl inf84 w #[int0, strE, strE, int0, int0, int0, int0, strE, strE, strE, strE, strE, strE, int0, int0, int0, int0, strE, .slice none 0 0] (opC L[k] (cv k)).toArray rfl rfl (by rw [e1]; simp [opC, Value.oneCell'])
  exact ⟨a', cv k, _, _, h1, rfl, hcs, rfl, h2, b1, b2⟩
end Go.Proofs.YtohndhmhgdelmaaDoor
