/- Bytes of a string appended; a row that is marked (of a constant); no walk. -/
import Derived.Test.YthomhaegdlglhaaDoorGood
import Derived.Lib.AppendStr
namespace Go.Proofs.YthomhaegdlglhaaDoor
open Go.RowKit
set_option maxRecDepth 100000

theorem own_str {base : Nat} {w : World} {v : Value} {l : List UInt8} (ty : TypeId) (h : Own base w v l) (s : ByteArray) (hn : l.length + s.size ≤ 140737488355328) (hbase : base ≤ w.heap.size) :
    ∃ v' w', (Builtin.append_ #[25, 9] ty #[v, .string s]).run Tryd.prog w = .ok v' w' ∧ Own base w' v' (l ++ s.data.toList) ∧ w.grownBy w' v.ownBlock := by
  obtain ⟨i0, hi, hz0, hz1, hz2⟩ := info_parts info5
  obtain ⟨v', w', h1, h2, h3, _⟩ := Go.Lib.run_append_own_string (P := Tryd.prog) w base 25 9 ty 5 i0 Tryd.underlying25 Tryd.underlying9 hi hz0 hz1 hz2 v _ _ h s (by simp only [maxLen]; omega) hn hbase
  refine ⟨v', w', h1, ?_, h3⟩
  unfold Own
  rw [List.length_append, bcells_append]
  exact h2

/-- A chunk's own copy lies in no row of bytes. -/
theorem Own.notBox {base : Nat} {w : World} {v : Value} {l : List UInt8} (h : Own base w v l) {b : Nat} {C : Array Value} {z : Nat × Nat} {t : TypeId} (ht : t ≠ 5) (hb : w.heap[b]? = some (.cells C t z)) : some b ≠ v.ownBlock := by
  rcases h.2 with ⟨rfl, _⟩ | ⟨g, cap, cur, rfl, _, hh, _⟩
  · simp [Value.ownBlock]
  · simp only [Value.ownBlock]
    intro e
    simp at e
    subst e
    rw [hb] at hh
    simp at hh
    exact ht hh.2.1

/-- An append whose run is known, as the next operation (a string's bytes). -/
theorem wpList_append_run2 {P : Program} {ops : Array Oper} {rest : List Oper} {o : Oper} {a : Act} {w : World} {Q : Exit → Act → World → Prop} (hgd : o.guard = none) (s x : Operand) (t u : TypeId)
    (ho : o.op = Op.call { callee := Callee.builtin Builtin.append, args := #[s, x], argTypes := #[t, u] }) (v bv v' : Value) (w' : World) (hs : a.eval s = v) (hx : a.eval x = bv)
    (hrun : (Builtin.append_ #[t, u] o.type #[v, bv]).run P w = .ok v' w') (h : wpList P ops Q rest (a.put o.dst v') w') : wpList P ops Q (o :: rest) a w := by
  refine wpList_plain hgd fun K hK => ?_
  unfold Oper.wp
  simp [execOp, ho, resolve, invoke, builtin, hs, hx, hrun, Result.andThen]
  exact hK _ _ h

theorem conv25 (w : World) (C : Array Value) (n c : Nat) : (convert 25 25 (.slice (some ⟨w.heap.size, 0, none⟩) n c)).run Tryd.prog (w.alloc (.cells C 5)) = .ok (.slice (some ⟨w.heap.size, 0, none⟩) n c) (w.alloc (.cells C 5 (C.size, C.size + 1))) :=
  Lib.run_convert_bytes_const w 25 5 C n c Tryd.underlying25 Tryd.underlying5

/-- A row of one's own, or one that bears the mark of a constant and is full. -/
def OwnM (base : Nat) (w : World) (v : Value) (l : List UInt8) : Prop :=
  Own base w v l ∨ ∃ g cur z, v = .slice (some ⟨g, 0, none⟩) l.length l.length ∧ base ≤ g ∧ w.heap[g]? = some (.cells cur 5 z) ∧ cur.toList = bcells l ∧ l.length ≤ maxLen
theorem OwnM.lt {base : Nat} {w : World} {v : Value} {l : List UInt8} (h : OwnM base w v l) {g : Nat} (hg : v.ownBlock = some g) : base ≤ g ∧ g < w.heap.size := by
  rcases h with h | ⟨g', cur, z, rfl, hb, hh, _⟩
  · exact h.lt hg
  · simp [Value.ownBlock] at hg
    subst hg
    exact ⟨hb, (Array.getElem?_eq_some_iff.1 hh).1⟩
theorem OwnM.kept {base : Nat} {w w' : World} {v : Value} {l : List UInt8} (h : OwnM base w v l) (hk : ∀ i, i < w.heap.size → w'.heap[i]? = w.heap[i]?) : OwnM base w' v l := by
  rcases h with h | ⟨g, cur, z, hv, hb, hh, hc, hl⟩
  · exact .inl (h.kept hk)
  · exact .inr ⟨g, cur, z, hv, hb, by rw [hk g (Array.getElem?_eq_some_iff.1 hh).1]; exact hh, hc, hl⟩
theorem OwnM.alloc {base : Nat} {w : World} {v : Value} {l : List UInt8} (h : OwnM base w v l) (o : Obj) : OwnM base (w.alloc o) v l := h.kept fun i hi => Below.heap_alloc w o i hi
theorem OwnM.slice {w : World} {base : Nat} {v : Value} {l : List UInt8} (h : OwnM base w v l) : ∃ a c, v = .slice a l.length c := by
  rcases h with h | ⟨g, cur, z, rfl, _⟩
  · exact h.slice
  · exact ⟨_, _, rfl⟩
theorem ownM_lit (w : World) (l : List UInt8) (z : Nat × Nat) (hl : l.length ≤ maxLen) : OwnM w.heap.size (w.alloc (.cells (bcells l).toArray 5 z)) (.slice (some ⟨w.heap.size, 0, none⟩) l.length l.length) l :=
  .inr ⟨w.heap.size, _, z, rfl, Nat.le_refl _, heap_alloc_new w _, by simp, hl⟩

theorem ownM_app {base : Nat} {w : World} {v : Value} {l : List UInt8} (ty : TypeId) (h : OwnM base w v l) {bv : Value} {m : List UInt8} (hs : Bts w bv m) (hn : l.length + m.length ≤ 140737488355328) (hbase : base ≤ w.heap.size) :
    ∃ v' w', (Builtin.append_ #[25, 25] ty #[v, bv]).run Tryd.prog w = .ok v' w' ∧ OwnM base w' v' (l ++ m) ∧ (m ≠ [] → Own base w' v' (l ++ m)) ∧ Below base w w' := by
  rcases h with h | ⟨g, cur, z, rfl, hb, hh, hc, hl⟩
  · obtain ⟨v', w', h1, h2⟩ := own_app ty h hs hn hbase
    exact ⟨v', w', h1, .inl h2.own, fun _ => h2.own, h2.below h hbase⟩
  obtain ⟨i0, hi, hz0, hz1, hz2⟩ := info_parts info5
  have hself : ∀ x : List UInt8, x = [] → OwnM base w (.slice (some ⟨g, 0, none⟩) l.length l.length) (l ++ x) := by
    rintro x rfl
    rw [List.append_nil]
    exact .inr ⟨g, cur, z, rfl, hb, hh, hc, hl⟩
  have holds : ∀ j u, (bcells l)[j]? = some u → w.cell? ((⟨g, 0, none⟩ : Addr).add j) = some u := by
    intro j u hu
    have hadd : (⟨g, 0, none⟩ : Addr).add j = ⟨g, j, none⟩ := by unfold Addr.add; split <;> simp_all
    rw [hadd, cell_of_row w g j cur 5 z hh, ← hu, ← hc]
    simp
  rcases hs with ⟨rfl, rfl⟩ | ⟨a, cap, rfl, _, _, hcs⟩
  · refine ⟨_, w, ?_, hself [] rfl, fun h => absurd rfl h, Below.refl _ _⟩
    simp [Builtin.append_, run_underlying Tryd.underlying25, sizeOf, typeInfo, hi, Builtin.lenOf, Builtin.firstCells, storeCells]
  · by_cases hm : m = []
    · subst hm
      refine ⟨_, w, ?_, hself [] rfl, fun h => absurd rfl h, Below.refl _ _⟩
      have hf := run_firstCells_some (P := Tryd.prog) w i0.size 0 a 0 cap [] (by simp) (by simp)
      simp [Builtin.append_, run_underlying Tryd.underlying25, sizeOf, typeInfo, hi, Builtin.lenOf, hf, storeCells]
    · have hlen : 0 < m.length := List.length_pos_iff.2 hm
      have hr := run_append_grow (P := Tryd.prog) w 25 ty 5 i0 (.int .u8 0) Tryd.underlying25 hi hz0 ⟨g, 0, none⟩ l.length l.length (bcells l) (by rw [bcells_length, hz1, Nat.mul_one]) holds a m.length cap (bcells m) (by rw [bcells_length, hz1, Nat.mul_one]) hcs (by omega) (by omega) (growslice_fits (by omega) (by rw [hz2]; omega))
      have hge := grownCap_ge w (l.length + m.length) l.length 5
      have hcm2 : grownCap w (l.length + m.length) l.length 5 ≤ maxLen := grownCap_le_maxLen w (l.length + m.length) l.length 5 (by simp only [maxLen]; omega)
      have own : Own base (w.drew.alloc (.cells ((bcells l).toArray ++ (bcells m).toArray ++ Builtin.zeroCells (Value.int .u8 0).cells (grownCap w (l.length + m.length) l.length 5 - (l.length + m.length))) 5))
          (.slice (some ⟨w.heap.size, 0, none⟩) (l.length + m.length) (grownCap w (l.length + m.length) l.length 5)) (l ++ m) := by
        unfold Own
        rw [List.length_append, bcells_append]
        refine ⟨by simp [bcells_length], .inr ⟨w.heap.size, _, _, rfl, hbase, heap_alloc_new w.drew _, hge, hcm2, ?_, ?_⟩⟩
        · simp only [Array.size_append, List.size_toArray, size_zeroCells, bcells_length, Nat.mul_one]
          have : (Value.int .u8 0).cells.size = 1 := rfl
          rw [this]
          omega
        · simp only [Array.toList_append, List.append_assoc]
          rw [← List.append_assoc]
          have : (l.length + m.length) * 1 = (bcells l ++ bcells m).length := by simp [bcells_length]
          rw [this]
          exact List.take_left
      exact ⟨_, _, hr, .inl own, fun _ => own, (Below.refl base w).drew.alloc hbase _⟩
end Go.Proofs.YthomhaegdlglhaaDoor
