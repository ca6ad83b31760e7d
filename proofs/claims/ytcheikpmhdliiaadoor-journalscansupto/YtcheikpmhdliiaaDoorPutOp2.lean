import Derived.Test.YtcheikpmhdliiaaDoorOpMem
import Derived.Lib.AppendStr
/- The contracts of the program's writers: putText, putCell, putName, putValue, putLink, putList of cells. -/
namespace Go.Proofs.YtcheikpmhdliiaaDoor
open Go.RowKit
set_option maxRecDepth 100000

theorem own_str {base : Nat} {w : World} {v : Value} {l : List UInt8} (ty : TypeId) (h : Own base w v l) (s : ByteArray) (hn : l.length + s.size ≤ 140737488355328) (hbase : base ≤ w.heap.size) :
    ∃ v' w', (Builtin.append_ #[24, 9] ty #[v, .string s]).run Tryd.prog w = .ok v' w' ∧ Own base w' v' (l ++ s.data.toList) ∧ w.grownBy w' v.ownBlock := by
  obtain ⟨i0, hi, hz0, hz1, hz2⟩ := info_parts info5
  obtain ⟨v', w', h1, h2, h3, _⟩ := Go.Lib.run_append_own_string (P := Tryd.prog) w base 24 9 ty 5 i0 Tryd.underlying24 Tryd.underlying9 hi hz0 hz1 hz2 v _ _ h s (by simp only [maxLen]; omega) hn hbase
  refine ⟨v', w', h1, ?_, h3⟩
  unfold Own
  rw [List.length_append, bcells_append]
  exact h2

/-- What is no row of bytes is not the row. -/
theorem Own.notBox {base : Nat} {w : World} {v : Value} {l : List UInt8} (h : Own base w v l) {b : Nat} {C : Array Value} {z : Nat × Nat} {t : TypeId} (ht : t ≠ 5) (hb : w.heap[b]? = some (.cells C t z)) : some b ≠ v.ownBlock := by
  rcases h.2 with ⟨rfl, _⟩ | ⟨g, cap, cur, rfl, _, hh, _⟩
  · simp [Value.ownBlock]
  · simp only [Value.ownBlock]
    intro e
    simp at e
    subst e
    rw [hb] at hh
    simp at hh
    exact ht hh.2.1

/-- An append whose run is known, as the next operation (a string's bytes). -/
theorem wpList_append_run2 {P : Program} {ops : Array Oper} {rest : List Oper} {o : Oper} {a : Act} {w : World} {Q : Exit → Act → World → Prop} (hgd : o.guard = none) (s x : Operand) (t u : TypeId)
    (ho : o.op = Op.call { callee := Callee.builtin Builtin.append, args := #[s, x], argTypes := #[t, u] }) (v bv v' : Value) (w' : World) (hs : a.eval s = v) (hx : a.eval x = bv)
    (hrun : (Builtin.append_ #[t, u] o.type #[v, bv]).run P w = .ok v' w') (h : wpList P ops Q rest (a.put o.dst v') w') : wpList P ops Q (o :: rest) a w := by
  refine wpList_plain hgd fun K hK => ?_
  unfold Oper.wp
  simp [execOp, ho, resolve, invoke, builtin, hs, hx, hrun, Result.andThen]
  exact hK _ _ h

theorem own_str2 {base : Nat} {w : World} {v : Value} {l : List UInt8} (ty : TypeId) (h : Own base w v l) (s : ByteArray) (hn : l.length + s.size ≤ 140737488355328) (hbase : base ≤ w.heap.size) :
    ∃ v' w', (Builtin.append_ #[24, 9] ty #[v, .string s]).run Tryd.prog w = .ok v' w' ∧ Own base w' v' (l ++ s.data.toList) ∧ w.grownBy w' v.ownBlock ∧ ∀ g, v'.ownBlock = some g → v.ownBlock = some g ∨ w.heap.size ≤ g := by
  obtain ⟨i0, hi, hz0, hz1, hz2⟩ := info_parts info5
  obtain ⟨v', w', h1, h2, h3⟩ := own_str ty h s hn hbase
  refine ⟨v', w', h1, h2, h3, fun g hg => ?_⟩
  rcases h.2 with ⟨rfl, hl0⟩ | ⟨g', cap, cur, rfl, hb, hh, hc1, hc2, hcs, htk⟩
  · obtain rfl := List.eq_nil_of_length_eq_zero hl0
    obtain ⟨v2, w2, k1, k2, _⟩ := own_str ty (Own.nil w w.heap.size) s hn (Nat.le_refl _)
    rw [h1] at k1
    injection k1 with e1 e2
    subst e1
    exact .inr (k2.lt hg).1
  · by_cases hroom : l.length + s.size ≤ cap
    · have hr := Lib.run_append_room_string (P := Tryd.prog) w 24 9 ty 5 i0 Tryd.underlying24 Tryd.underlying9 hi hz1 g' l.length cap cur hh s hroom (by rw [hcs]; omega)
      rw [h1] at hr
      injection hr with e1 e2
      subst e1
      exact .inl hg
    · have hr := Lib.run_append_grow_string (P := Tryd.prog) w 24 9 ty 5 i0 (.int .u8 0) Tryd.underlying24 Tryd.underlying9 hi hz0 ⟨g', 0, none⟩ l.length cap (bcells l) (by rw [bcells_length, hz1, Nat.mul_one]) (World.ownsRow.cells h (g := g') rfl) s (by omega) (by omega) (growslice_fits (by omega) (by rw [hz2]; omega))
      rw [h1] at hr
      injection hr with e1 e2
      subst e1
      simp [Value.ownBlock] at hg
      subst hg
      exact .inr (Nat.le_refl _)

theorem own_strA {base : Nat} {w : World} {v : Value} {l : List UInt8} (h : Own base w v l) (hb : base ≤ w.heap.size) (s : ByteArray) (hl : l.length + s.size ≤ 140737488355328) :
    ∃ v' w', (Builtin.append_ #[24, 9] 24 #[v, .string s]).run Tryd.prog w = .ok v' w' ∧ Apd base w v w' v' (l ++ s.data.toList) := by
  obtain ⟨v', w', h1, h2, h3, h4⟩ := own_str2 24 h s hl hb
  exact ⟨v', w', h1, h2, h3, h4⟩
theorem Apd.box {base : Nat} {w w' : World} {v v' : Value} {l m : List UInt8} (a : Apd base w v w' v' m) (h : Own base w v l) {b : Nat} {C : Array Value} {z : Nat × Nat} {t : TypeId} (ht : t ≠ 5) (hb : w.heap[b]? = some (.cells C t z)) : w'.heap[b]? = some (.cells C t z) := by
  rw [a.gr.block b ?_ (h.notBox ht hb)]
  · exact hb
  · rcases Nat.lt_or_ge b w.heap.size with h | h
    · exact h
    · rw [Array.getElem?_eq_none h] at hb; cases hb
theorem cell_heap {w : World} {b : Nat} {C : Array Value} {t : TypeId} {z : Nat × Nat} (h : w.heap[b]? = some (.cells C t z)) {j : Nat} {x : Value} (hj : C[j]? = some x) : w.cell? ⟨b, j, none⟩ = some x := by
  rw [cell_of_row w b j C t z h]; exact hj

set_option maxHeartbeats 1000000 in
theorem putText_any {base : Nat} {w : World} {v : Value} {l : List UInt8} (h : Own base w v l) (hb : base ≤ w.heap.size) (s : ByteArray) (hl : l.length + (textB s).length + 10 ≤ 140737488355328) :
    Calls Tryd.prog 55 #[v, .string s] w fun e w' => ∃ v', e = .returned v' ∧ Apd base w v w' v' (l ++ textB s) := by
  have hz := textB_length s
  have C : Calls Tryd.prog 53 #[v, .int .i64 s.size] w fun e w' => ∃ v1, e = .returned v1 ∧ ∃ v' w2, Hid ((Builtin.append_ #[24, 9] 24 #[v1, .string s]).run Tryd.prog w' = .ok v' w2) ∧ Hid (Apd base w v w2 v' (l ++ textB s)) := by
    refine (putNumber_any h hb s.size (by constructor <;> omega) (by omega)).mono ?_
    rintro e w' ⟨v1, rfl, ap⟩
    obtain ⟨v', w2, hr, ap2⟩ := own_strA ap.own (Nat.le_trans hb ap.gr.size) s (by rw [List.length_append]; omega)
    refine ⟨v1, rfl, v', w2, hr, ?_⟩
    have := ap.trans ap2
    rw [List.append_assoc] at this
    exact this
  have hs : s.size ≤ 140737488355328 := by omega
  clear h hl hz hb
  go_enter Tryd.func55, Tryd.ntmps55
  go_wp2_with (first
    | (go_at_call 53; refine C.mono ?_; rintro e w1 ⟨v1, rfl, v2, w2, R, A⟩)
    | (at_builtin; refine wpList_append_run2 rfl _ _ 24 9 rfl _ _ _ _ rfl rfl R.out ?_))
  go_ret
  exact ⟨v2, rfl, A.out⟩

set_option maxHeartbeats 1000000 in
theorem putCell_any {base : Nat} {w : World} {v : Value} {l : List UInt8} (h : Own base w v l) (hb : base ≤ w.heap.size) (c : CellT) (ok : c.Ok) (hl : l.length + (cellB c).length + 10 ≤ 140737488355328) :
    Calls Tryd.prog 59 #[v, cellV c] w fun e w' => ∃ v', e = .returned v' ∧ Apd base w v w' v' (l ++ cellB c) := by
  obtain ⟨r, k, s⟩ := c
  obtain ⟨i1, i2⟩ := ok
  simp only [cellB, List.length_append] at *
  have o0 := h.alloc (.cells #[.int .i64 r, .int .i64 k, .string s] 104)
  have b0 : Hid ((w.alloc (.cells #[.int .i64 r, .int .i64 k, .string s] 104)).heap[w.heap.size]? = some (.cells #[.int .i64 r, .int .i64 k, .string s] 104)) := heap_alloc_new w _
  have C1 := putNumber_any o0 (by simp; omega) r i1 (by omega)
  have O0 : Hid _ := o0
  have HL : Hid _ := hl
  have HB : Hid (base ≤ (w.alloc (.cells #[.int .i64 r, .int .i64 k, .string s] 104)).heap.size) := by show _ ≤ _; simp; omega
  clear h o0 hl hb
  go_enter Tryd.func59, Tryd.ntmps59
  go_wp2_with fail
  refine C1.mono ?_
  rintro e w1 ⟨v1, rfl, a1⟩
  have b1 : Hid _ := a1.box O0.out (by decide) b0.out
  have x1 := cell_heap b1.out (j := 1) rfl
  have C2 := putNumber_any a1.own (Nat.le_trans HB.out a1.gr.size) k i2 (by have := HL.out; simp only [List.length_append]; omega)
  have A1 : Hid _ := a1
  clear C1 a1 b0
  go_wp2_with fail
  refine C2.mono ?_
  rintro e w2 ⟨v2, rfl, a2⟩
  have b2 : Hid _ := a2.box A1.out.own (by decide) b1.out
  have x2 := cell_heap b2.out (j := 2) rfl
  have C3 := putText_any a2.own (Nat.le_trans HB.out (A1.out.trans a2).gr.size) s (by have := HL.out; simp only [List.length_append]; omega)
  have A2 : Hid _ := A1.out.trans a2
  clear C2 a2 b1 x1 A1
  go_wp2_with fail
  refine C3.mono ?_
  rintro e w3 ⟨v3, rfl, a3⟩
  have A3 : Hid _ := (A2.out.trans a3).of_alloc
  clear C3 a3 b2 x2 A2
  go_wp2_with fail
  go_ret
  exact ⟨v3, rfl, by have := A3.out; simp only [List.append_assoc] at this; exact this⟩
end Go.Proofs.YtcheikpmhdliiaaDoor

/- The contracts of the program's writers: putName, putValue, putLink, putList of cells. -/
namespace Go.Proofs.YtcheikpmhdliiaaDoor
open Go.RowKit
set_option maxRecDepth 100000

set_option maxHeartbeats 2000000 in
theorem putName_any {base : Nat} {w : World} {v : Value} {l : List UInt8} (h : Own base w v l) (hb : base ≤ w.heap.size) (x : NameT) (hl : l.length + (nameB x).length + 10 ≤ 140737488355328) :
    Calls Tryd.prog 56 #[v, nameV x] w fun e w' => ∃ v', e = .returned v' ∧ Apd base w v w' v' (l ++ nameB x) := by
  simp only [nameB, List.length_append] at *
  have o0 := h.alloc (.cells #[.string x.scope, .string x.name, .string x.text] 51)
  have b0 : Hid ((w.alloc (.cells #[.string x.scope, .string x.name, .string x.text] 51)).heap[w.heap.size]? = some (.cells #[.string x.scope, .string x.name, .string x.text] 51)) := heap_alloc_new w _
  have O0 : Hid _ := o0
  have HL : Hid _ := hl
  have HB : Hid (base ≤ (w.alloc (.cells #[.string x.scope, .string x.name, .string x.text] 51)).heap.size) := by show _ ≤ _; simp; omega
  have C1 := putText_any (O0.out) HB.out x.scope (by have := HL.out; (try simp only [List.length_append]); omega)
  clear h o0 hl hb
  go_enter Tryd.func56, Tryd.ntmps56
  go_wp2_with fail
  refine C1.mono ?_
  rintro e w1 ⟨v1, rfl, a1⟩
  have b1 : Hid _ := a1.box (O0.out) (by decide) b0.out
  have x1_1 := cell_heap b1.out (j := 1) rfl
  have A1 : Hid _ := a1
  have C2 := putText_any (A1.out.own) (Nat.le_trans HB.out A1.out.gr.size) x.name (by have := HL.out; (try simp only [List.length_append]); omega)
  clear C1 a1 b0
  go_wp2_with fail
  refine C2.mono ?_
  rintro e w2 ⟨v2, rfl, a2⟩
  have b2 : Hid _ := a2.box (A1.out.own) (by decide) b1.out
  have x2_2 := cell_heap b2.out (j := 2) rfl
  have A2 : Hid _ := A1.out.trans a2
  have C3 := putText_any (A2.out.own) (Nat.le_trans HB.out A2.out.gr.size) x.text (by have := HL.out; (try simp only [List.length_append]); omega)
  clear C2 a2 A1 b1 x1_1
  go_wp2_with fail
  refine C3.mono ?_
  rintro e w3 ⟨v3, rfl, a3⟩
  have A3 : Hid _ := A2.out.trans a3
  clear C3 a3 A2 b2 x2_2
  go_wp2_with fail
  go_ret
  exact ⟨v3, rfl, by have := A3.out.of_alloc; simp only [List.append_assoc] at this; exact this⟩

set_option maxHeartbeats 2000000 in
theorem putValue_any {base : Nat} {w : World} {v : Value} {l : List UInt8} (h : Own base w v l) (hb : base ≤ w.heap.size) (x : ValT) (ok : x.Ok) (hl : l.length + (valB x).length + 10 ≤ 140737488355328) :
    Calls Tryd.prog 79 #[v, valV x] w fun e w' => ∃ v', e = .returned v' ∧ Apd base w v w' v' (l ++ valB x) := by
  obtain ⟨i1, i2⟩ := ok
  simp only [valB, List.length_append] at *
  have o0 := h.alloc (.cells #[.int .i64 x.kind, .int .i64 x.n, .string x.s] 53)
  have b0 : Hid ((w.alloc (.cells #[.int .i64 x.kind, .int .i64 x.n, .string x.s] 53)).heap[w.heap.size]? = some (.cells #[.int .i64 x.kind, .int .i64 x.n, .string x.s] 53)) := heap_alloc_new w _
  have O0 : Hid _ := o0
  have HL : Hid _ := hl
  have HB : Hid (base ≤ (w.alloc (.cells #[.int .i64 x.kind, .int .i64 x.n, .string x.s] 53)).heap.size) := by show _ ≤ _; simp; omega
  have C1 := putNumber_any (O0.out) HB.out x.kind i1 (by have := HL.out; (try simp only [List.length_append]); omega)
  clear h o0 hl hb
  go_enter Tryd.func79, Tryd.ntmps79
  go_wp2_with fail
  refine C1.mono ?_
  rintro e w1 ⟨v1, rfl, a1⟩
  have b1 : Hid _ := a1.box (O0.out) (by decide) b0.out
  have x1_1 := cell_heap b1.out (j := 1) rfl
  have A1 : Hid _ := a1
  have C2 := putNumber_any (A1.out.own) (Nat.le_trans HB.out A1.out.gr.size) x.n i2 (by have := HL.out; (try simp only [List.length_append]); omega)
  clear C1 a1 b0
  go_wp2_with fail
  refine C2.mono ?_
  rintro e w2 ⟨v2, rfl, a2⟩
  have b2 : Hid _ := a2.box (A1.out.own) (by decide) b1.out
  have x2_2 := cell_heap b2.out (j := 2) rfl
  have A2 : Hid _ := A1.out.trans a2
  have C3 := putText_any (A2.out.own) (Nat.le_trans HB.out A2.out.gr.size) x.s (by have := HL.out; (try simp only [List.length_append]); omega)
  clear C2 a2 A1 b1 x1_1
  go_wp2_with fail
  refine C3.mono ?_
  rintro e w3 ⟨v3, rfl, a3⟩
  have A3 : Hid _ := A2.out.trans a3
  clear C3 a3 A2 b2 x2_2
  go_wp2_with fail
  go_ret
  exact ⟨v3, rfl, by have := A3.out.of_alloc; simp only [List.append_assoc] at this; exact this⟩

set_option maxHeartbeats 2000000 in
theorem putLink_any {base : Nat} {w : World} {v : Value} {l : List UInt8} (h : Own base w v l) (hb : base ≤ w.heap.size) (x : LinkT) (ok : x.Ok) (hl : l.length + (linkB x).length + 10 ≤ 140737488355328) :
    Calls Tryd.prog 57 #[v, linkV x] w fun e w' => ∃ v', e = .returned v' ∧ Apd base w v w' v' (l ++ linkB x) := by
  obtain ⟨i1, i2, i3⟩ := ok
  simp only [linkB, List.length_append] at *
  have o0 := h.alloc (.cells #[.string x.book, .string x.sheet, .int .i64 x.row, .int .i64 x.col, .int .i64 x.value.kind, .int .i64 x.value.n, .string x.value.s] 55)
  have b0 : Hid ((w.alloc (.cells #[.string x.book, .string x.sheet, .int .i64 x.row, .int .i64 x.col, .int .i64 x.value.kind, .int .i64 x.value.n, .string x.value.s] 55)).heap[w.heap.size]? = some (.cells #[.string x.book, .string x.sheet, .int .i64 x.row, .int .i64 x.col, .int .i64 x.value.kind, .int .i64 x.value.n, .string x.value.s] 55)) := heap_alloc_new w _
  have O0 : Hid _ := o0
  have HL : Hid _ := hl
  have HB : Hid (base ≤ (w.alloc (.cells #[.string x.book, .string x.sheet, .int .i64 x.row, .int .i64 x.col, .int .i64 x.value.kind, .int .i64 x.value.n, .string x.value.s] 55)).heap.size) := by show _ ≤ _; simp; omega
  have C1 := putText_any (O0.out) HB.out x.book (by have := HL.out; (try simp only [List.length_append]); omega)
  clear h o0 hl hb
  go_enter Tryd.func57, Tryd.ntmps57
  go_wp2_with fail
  refine C1.mono ?_
  rintro e w1 ⟨v1, rfl, a1⟩
  have b1 : Hid _ := a1.box (O0.out) (by decide) b0.out
  have x1_1 := cell_heap b1.out (j := 1) rfl
  have A1 : Hid _ := a1
  have C2 := putText_any (A1.out.own) (Nat.le_trans HB.out A1.out.gr.size) x.sheet (by have := HL.out; (try simp only [List.length_append]); omega)
  clear C1 a1 b0
  go_wp2_with fail
  refine C2.mono ?_
  rintro e w2 ⟨v2, rfl, a2⟩
  have b2 : Hid _ := a2.box (A1.out.own) (by decide) b1.out
  have x2_2 := cell_heap b2.out (j := 2) rfl
  have A2 : Hid _ := A1.out.trans a2
  have C3 := putNumber_any (A2.out.own) (Nat.le_trans HB.out A2.out.gr.size) x.row i1 (by have := HL.out; (try simp only [List.length_append]); omega)
  clear C2 a2 A1 b1 x1_1
  go_wp2_with fail
  refine C3.mono ?_
  rintro e w3 ⟨v3, rfl, a3⟩
  have b3 : Hid _ := a3.box (A2.out.own) (by decide) b2.out
  have x3_3 := cell_heap b3.out (j := 3) rfl
  have A3 : Hid _ := A2.out.trans a3
  have C4 := putNumber_any (A3.out.own) (Nat.le_trans HB.out A3.out.gr.size) x.col i2 (by have := HL.out; (try simp only [List.length_append]); omega)
  clear C3 a3 A2 b2 x2_2
  go_wp2_with fail
  refine C4.mono ?_
  rintro e w4 ⟨v4, rfl, a4⟩
  have b4 : Hid _ := a4.box (A3.out.own) (by decide) b3.out
  have x4_4 := cell_heap b4.out (j := 4) rfl
  have x4_5 := cell_heap b4.out (j := 5) rfl
  have x4_6 := cell_heap b4.out (j := 6) rfl
  have A4 : Hid _ := A3.out.trans a4
  have C5 := putValue_any (A4.out.own) (Nat.le_trans HB.out A4.out.gr.size) x.value i3 (by have := HL.out; (try simp only [List.length_append]); omega)
  clear C4 a4 A3 b3 x3_3
  go_wp2_with fail
  refine C5.mono ?_
  rintro e w5 ⟨v5, rfl, a5⟩
  have A5 : Hid _ := A4.out.trans a5
  clear C5 a5 A4 b4 x4_4 x4_5 x4_6
  go_wp2_with fail
  go_ret
  exact ⟨v5, rfl, by have := A5.out.of_alloc; simp only [List.append_assoc] at this; exact this⟩

/-- A cell of a list, as a walk reads it. -/
theorem Cls.at {lo hi : Nat} {w : World} {a : Option Addr} {c : Nat} {L : List CellT} (h : Cls lo hi w (.slice a L.length c) L) {k : Nat} (hk : k < L.length) :
    ∃ a', a = some a' ∧ w.cell? (a'.add (k * 3)) = some (.int .i64 L[k].row) ∧ w.cell? ⟨(a'.add (k * 3)).block, (a'.add (k * 3)).off + 1, none⟩ = some (.int .i64 L[k].col) ∧ w.cell? ⟨(a'.add (k * 3)).block, (a'.add (k * 3)).off + 2, none⟩ = some (.string L[k].text) := by
  obtain ⟨a', h1, h2, h3⟩ := Rws.at h hk
  refine ⟨a', h1, h2 _ ?_, h3 1 _ (by decide) ?_, h3 2 _ (by decide) ?_⟩ <;> simp [List.getElem?_eq_getElem hk, cellC]

set_option maxHeartbeats 1000000 in
theorem putCells_any {base lo hi : Nat} {w : World} {v : Value} {l : List UInt8} (h : Own base w v l) (hb : base ≤ w.heap.size) {iv : Value} {L : List CellT} (hs : Cls lo hi w iv L) (hhi : hi ≤ base) (hn : ∀ c ∈ L, c.Ok) (hl : l.length + (lstB cellB L).length + 10 ≤ 140737488355328) :
    Calls Tryd.prog 58 #[v, iv, .func (.func 59) #[] #[]] w fun e w' => ∃ v', e = .returned v' ∧ Apd base w v w' v' (l ++ lstB cellB L) := by
  have H : Hid (Own base w v l) := h
  have HS : Hid (∀ w', Below base w w' → Cls lo hi w' iv L) := fun w' hw => hs.below hhi hw
  have hg := flatMap_ge cellB_pos L
  simp only [lstB, List.length_append] at hl
  have P1 := putNumber_any h hb L.length (by constructor <;> omega) (by omega)
  obtain ⟨a, c, rfl, _, _⟩ := hs.slice
  have HL : Hid (l.length + ((numB L.length).length + (L.flatMap cellB).length) + 10 ≤ 140737488355328) := hl
  have hlen : L.length ≤ 140737488355328 := by omega
  clear h hs hl hg
  go_enter Tryd.func58, Tryd.ntmps58
  go_wp2_with (go_at_call 53; refine P1.mono ?_; rintro e w1 ⟨v1, rfl, ap1⟩)
  have HP : Hid (Apd base w v w1 v1 (l ++ numB L.length)) := ap1
  clear P1 ap1
  go_loopw [0, 15] (fun u0 u15 wr => ∃ k : Nat, u15 = .int .i64 k ∧ k ≤ L.length ∧ Hid (Apd base w v wr u0 (l ++ (numB L.length ++ (L.take k).flatMap cellB)))) (fun _ u15 _ => L.length - (intOf u15).toNat)
  case atStart => exact ⟨0, rfl, by omega, by show Apd _ _ _ _ _ _; simpa using HP.out⟩
  case round =>
    obtain ⟨k, rfl, hk, HD⟩ := hrel
    clear HP
    by_cases hlt : k < L.length
    · obtain ⟨a', rfl, c0, c1, c2⟩ := (HS.out wr (HD.out.below H.out hb)).at hlt
      have hw : base ≤ wr.heap.size := Nat.le_trans hb HD.out.gr.size
      have PN := putCell_any (HD.out.own.alloc (.cells #[.int .i64 L[k].row, .int .i64 L[k].col, .string L[k].text] 104)) (by simp; omega) L[k] (hn _ (List.getElem_mem _)) (by
        have h1 := flatMap_part cellB L k hlt
        have h2 := HL.out
        simp only [List.length_append]
        omega)
      have HF : Hid (((L.take k).flatMap cellB ++ cellB L[k]) = (L.take (k + 1)).flatMap cellB) := (flatMap_snoc cellB L k hlt).symm
      generalize L[k] = x at *
      have hk63 : k < 9223372036854775807 := by omega
      clear hw
      go_wp2_with (go_at_call 59; refine PN.mono ?_; rintro e w2 ⟨v2, rfl, ap2⟩)
      have HD2 : Hid (Apd base w v w2 v2 (l ++ (numB L.length ++ (L.take (k + 1)).flatMap cellB))) := by
        have := HD.out.trans ap2.of_alloc
        rw [List.append_assoc, List.append_assoc, HF.out] at this
        exact this
      clear ap2 PN HD HF
      go_roundw
      case rel => exact ⟨k + 1, by go_num, by omega, HD2⟩
      case measure => simp [intOf]; omega
    · have HD2 : Hid (Apd base w v wr u0 (l ++ lstB cellB L)) := by
        have := HD.out
        rw [List.take_of_length_le (by omega)] at this
        exact this
      clear HD
      go_wp2_with fail
      go_ret
      exact ⟨u0, rfl, HD2.out⟩

end Go.Proofs.YtcheikpmhdliiaaDoor
