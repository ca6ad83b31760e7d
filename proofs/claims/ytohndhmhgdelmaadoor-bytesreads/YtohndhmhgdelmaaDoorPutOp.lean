/- The contracts of the program's writers: putText, putCell, putName, putValue, putLink, putList of cells. -/
import Derived.Test.YtohndhmhgdelmaaDoorOpMem
import Derived.Lib.AppendStr
namespace Go.Proofs.YtohndhmhgdelmaaDoor
open Go.RowKit
set_option maxRecDepth 100000

theorem own_str {base : Nat} {w : World} {v : Value} {l : List UInt8} (ty : TypeId) (h : Own base w v l) (s : ByteArray) (hn : l.length + s.size ≤ 140737488355328) (hbase : base ≤ w.heap.size) :
    ∃ v' w', (Builtin.append_ #[29, 9] ty #[v, .string s]).run Tryd.prog w = .ok v' w' ∧ Own base w' v' (l ++ s.data.toList) ∧ w.grownBy w' v.ownBlock := by
  obtain ⟨i0, hi, hz0, hz1, hz2⟩ := info_parts info5
  obtain ⟨v', w', h1, h2, h3, _⟩ := Go.Lib.run_append_own_string (P := Tryd.prog) w base 29 9 ty 5 i0 Tryd.underlying29 Tryd.underlying9 hi hz0 hz1 hz2 v _ _ h s (by simp only [maxLen]; omega) hn hbase
  refine ⟨v', w', h1, ?_, h3⟩
  unfold Own
  rw [List.length_append, bcells_append]
  exact h2

/-- What is no row of bytes is not the row. -/
theorem Own.notBox {base : Nat} {w : World} {v : Value} {l : List UInt8} (h : Own base w v l) {b : Nat} {C : Array Value} {z : Nat × Nat} {t : TypeId} (ht : t ≠ 5) (hb : w.heap[b]? = some (.cells C t z)) : some b ≠ v.ownBlock := by
  rcases h.2 with ⟨rfl, _⟩ | ⟨g, cap, cur, rfl, _, hh, _⟩
  · simp [Value.ownBlock]
  · simp only [Value.ownBlock]
    intro e
    simp at e
    subst e
    rw [hb] at hh
    simp at hh
    exact ht hh.2.1

/-- An append whose run is known, as the next operation (a string's bytes). -/
theorem wpList_append_run2 {P : Program} {ops : Array Oper} {rest : List Oper} {o : Oper} {a : Act} {w : World} {Q : Exit → Act → World → Prop} (hgd : o.guard = none) (s x : Operand) (t u : TypeId)
    (ho : o.op = Op.call { callee := Callee.builtin Builtin.append, args := #[s, x], argTypes := #[t, u] }) (v bv v' : Value) (w' : World) (hs : a.eval s = v) (hx : a.eval x = bv)
    (hrun : (Builtin.append_ #[t, u] o.type #[v, bv]).run P w = .ok v' w') (h : wpList P ops Q rest (a.put o.dst v') w') : wpList P ops Q (o :: rest) a w := by
  refine wpList_plain hgd fun K hK => ?_
  unfold Oper.wp
  simp [execOp, ho, resolve, invoke, builtin, hs, hx, hrun, Result.andThen]
  exact hK _ _ h

theorem own_str2 {base : Nat} {w : World} {v : Value} {l : List UInt8} (ty : TypeId) (h : Own base w v l) (s : ByteArray) (hn : l.length + s.size ≤ 140737488355328) (hbase : base ≤ w.heap.size) :
    ∃ v' w', (Builtin.append_ #[29, 9] ty #[v, .string s]).run Tryd.prog w = .ok v' w' ∧ Own base w' v' (l ++ s.data.toList) ∧ w.grownBy w' v.ownBlock ∧ ∀ g, v'.ownBlock = some g → v.ownBlock = some g ∨ w.heap.size ≤ g := by
  obtain ⟨i0, hi, hz0, hz1, hz2⟩ := info_parts info5
  obtain ⟨v', w', h1, h2, h3⟩ := own_str ty h s hn hbase
  refine ⟨v', w', h1, h2, h3, fun g hg => ?_⟩
  rcases h.2 with ⟨rfl, hl0⟩ | ⟨g', cap, cur, rfl, hb, hh, hc1, hc2, hcs, htk⟩
  · obtain rfl := List.eq_nil_of_length_eq_zero hl0
    obtain ⟨v2, w2, k1, k2, _⟩ := own_str ty (Own.nil w w.heap.size) s hn (Nat.le_refl _)
    rw [h1] at k1
    injection k1 with e1 e2
    subst e1
    exact .inr (k2.lt hg).1
  · by_cases hroom : l.length + s.size ≤ cap
    · have hr := Lib.run_append_room_string (P := Tryd.prog) w 29 9 ty 5 i0 Tryd.underlying29 Tryd.underlying9 hi hz1 g' l.length cap cur hh s hroom (by rw [hcs]; omega)
      rw [h1] at hr
      injection hr with e1 e2
      subst e1
      exact .inl hg
    · have hr := Lib.run_append_grow_string (P := Tryd.prog) w 29 9 ty 5 i0 (.int .u8 0) Tryd.underlying29 Tryd.underlying9 hi hz0 ⟨g', 0, none⟩ l.length cap (bcells l) (by rw [bcells_length, hz1, Nat.mul_one]) (World.ownsRow.cells h (g := g') rfl) s (by omega) (by omega) (growslice_fits (by omega) (by rw [hz2]; omega))
      rw [h1] at hr
      injection hr with e1 e2
      subst e1
      simp [Value.ownBlock] at hg
      subst hg
      exact .inr (Nat.le_refl _)

theorem own_strA {base : Nat} {w : World} {v : Value} {l : List UInt8} (h : Own base w v l) (hb : base ≤ w.heap.size) (s : ByteArray) (hl : l.length + s.size ≤ 140737488355328) :
    ∃ v' w', (Builtin.append_ #[29, 9] 29 #[v, .string s]).run Tryd.prog w = .ok v' w' ∧ Apd base w v w' v' (l ++ s.data.toList) := by
  obtain ⟨v', w', h1, h2, h3, h4⟩ := own_str2 29 h s hl hb
  exact ⟨v', w', h1, h2, h3, h4⟩
theorem Apd.box {base : Nat} {w w' : World} {v v' : Value} {l m : List UInt8} (a : Apd base w v w' v' m) (h : Own base w v l) {b : Nat} {C : Array Value} {z : Nat × Nat} {t : TypeId} (ht : t ≠ 5) (hb : w.heap[b]? = some (.cells C t z)) : w'.heap[b]? = some (.cells C t z) := by
  rw [a.gr.block b ?_ (h.notBox ht hb)]
  · exact hb
  · rcases Nat.lt_or_ge b w.heap.size with h | h
    · exact h
    · rw [Array.getElem?_eq_none h] at hb; cases hb
theorem cell_heap {w : World} {b : Nat} {C : Array Value} {t : TypeId} {z : Nat × Nat} (h : w.heap[b]? = some (.cells C t z)) {j : Nat} {x : Value} (hj : C[j]? = some x) : w.cell? ⟨b, j, none⟩ = some x := by
  rw [cell_of_row w b j C t z h]; exact hj

set_option maxHeartbeats 1000000 in
theorem putText_any {base : Nat} {w : World} {v : Value} {l : List UInt8} (h : Own base w v l) (hb : base ≤ w.heap.size) (s : ByteArray) (hl : l.length + (textB s).length + 10 ≤ 140737488355328) :
    Calls Tryd.prog 66 #[v, .string s] w fun e w' => ∃ v', e = .returned v' ∧ Apd base w v w' v' (l ++ textB s) := by
  have hz := textB_length s
  have C : Calls Tryd.prog 46 #[v, .int .i64 s.size] w fun e w' => ∃ v1, e = .returned v1 ∧ ∃ v' w2, Hid ((Builtin.append_ #[29, 9] 29 #[v1, .string s]).run Tryd.prog w' = .ok v' w2) ∧ Hid (Apd base w v w2 v' (l ++ textB s)) := by
    refine (putNumber_any h hb s.size (by constructor <;> omega) (by omega)).mono ?_
    rintro e w' ⟨v1, rfl, ap⟩
    obtain ⟨v', w2, hr, ap2⟩ := own_strA ap.own (Nat.le_trans hb ap.gr.size) s (by rw [List.length_append]; omega)
    refine ⟨v1, rfl, v', w2, hr, ?_⟩
    have := ap.trans ap2
    rw [List.append_assoc] at this
    exact this
  have hs : s.size ≤ 140737488355328 := by omega
  clear h hl hz hb
  go_enter Tryd.func66, Tryd.ntmps66
  go_wp2_with (first
    | (go_at_call 46; refine C.mono ?_; rintro e w1 ⟨v1, rfl, v2, w2, R, A⟩)
    | (at_builtin; refine wpList_append_run2 rfl _ _ 29 9 rfl _ _ _ _ rfl rfl R.out ?_))
  go_ret
  exact ⟨v2, rfl, A.out⟩

set_option maxHeartbeats 1000000 in
theorem putCell_any {base : Nat} {w : World} {v : Value} {l : List UInt8} (h : Own base w v l) (hb : base ≤ w.heap.size) (c : CellT) (ok : c.Ok) (hl : l.length + (cellB c).length + 10 ≤ 140737488355328) :
    Calls Tryd.prog 68 #[v, cellV c] w fun e w' => ∃ v', e = .returned v' ∧ Apd base w v w' v' (l ++ cellB c) := by
  obtain ⟨r, k, s⟩ := c
  obtain ⟨i1, i2⟩ := ok
  simp only [cellB, List.length_append] at *
  have o0 := h.alloc (.cells #[.int .i64 r, .int .i64 k, .string s] 101)
  have b0 : Hid ((w.alloc (.cells #[.int .i64 r, .int .i64 k, .string s] 101)).heap[w.heap.size]? = some (.cells #[.int .i64 r, .int .i64 k, .string s] 101)) := heap_alloc_new w _
  have C1 := putNumber_any o0 (by simp; omega) r i1 (by omega)
  have O0 : Hid _ := o0
  have HL : Hid _ := hl
  have HB : Hid (base ≤ (w.alloc (.cells #[.int .i64 r, .int .i64 k, .string s] 101)).heap.size) := by show _ ≤ _; simp; omega
  clear h o0 hl hb
  go_enter Tryd.func68, Tryd.ntmps68
  go_wp2_with fail
  refine C1.mono ?_
  rintro e w1 ⟨v1, rfl, a1⟩
  have b1 : Hid _ := a1.box O0.out (by decide) b0.out
  have x1 := cell_heap b1.out (j := 1) rfl
  have C2 := putNumber_any a1.own (Nat.le_trans HB.out a1.gr.size) k i2 (by have := HL.out; simp only [List.length_append]; omega)
  have A1 : Hid _ := a1
  clear C1 a1 b0
  go_wp2_with fail
  refine C2.mono ?_
  rintro e w2 ⟨v2, rfl, a2⟩
  have b2 : Hid _ := a2.box A1.out.own (by decide) b1.out
  have x2 := cell_heap b2.out (j := 2) rfl
  have C3 := putText_any a2.own (Nat.le_trans HB.out (A1.out.trans a2).gr.size) s (by have := HL.out; simp only [List.length_append]; omega)
  have A2 : Hid _ := A1.out.trans a2
  clear C2 a2 b1 x1 A1
  go_wp2_with fail
  refine C3.mono ?_
  rintro e w3 ⟨v3, rfl, a3⟩
  have A3 : Hid _ := (A2.out.trans a3).of_alloc
  clear C3 a3 b2 x2 A2
  go_wp2_with fail
  go_ret
  exact ⟨v3, rfl, by have := A3.out; simp only [List.append_assoc] at this; exact this⟩
end Go.Proofs.YtohndhmhgdelmaaDoor
