/- The contract of putOp. -/
import Derived.Test.YtohndhmhgdelmaaDoorPutOp2
namespace Go.Proofs.YtohndhmhgdelmaaDoor
open Go.RowKit
set_option maxRecDepth 100000

set_option maxHeartbeats 2000000 in
theorem putOp_any {base : Nat} {w : World} {v : Value} {l : List UInt8} (h : Own base w v l) (hb : base ≤ w.heap.size) (x : OpT) (ok : x.Ok) {lo hi : Nat} {cv : Value} (hs : Cls lo hi w cv x.cells) (hhi : hi ≤ base) (hl : l.length + (opB x).length + 10 ≤ 140737488355328) :
    Calls Tryd.prog 40 #[v, opV x cv] w fun e w' => ∃ v', e = .returned v' ∧ Apd base w v w' v' (l ++ opB x) := by
  obtain ⟨i1, i2, i3, i4, i5, i6, i7⟩ := ok
  simp only [opB, List.length_append] at *
  have o0 := h.alloc (.cells #[.int .i64 x.kind, .string x.book, .string x.sheet, .int .i64 x.at1, .int .i64 x.n, .int .i64 x.row, .int .i64 x.col, .string x.text, .string x.name.scope, .string x.name.name, .string x.name.text, .string x.link.book, .string x.link.sheet, .int .i64 x.link.row, .int .i64 x.link.col, .int .i64 x.link.value.kind, .int .i64 x.link.value.n, .string x.link.value.s, cv] 84)
  have b0 : Hid ((w.alloc (.cells #[.int .i64 x.kind, .string x.book, .string x.sheet, .int .i64 x.at1, .int .i64 x.n, .int .i64 x.row, .int .i64 x.col, .string x.text, .string x.name.scope, .string x.name.name, .string x.name.text, .string x.link.book, .string x.link.sheet, .int .i64 x.link.row, .int .i64 x.link.col, .int .i64 x.link.value.kind, .int .i64 x.link.value.n, .string x.link.value.s, cv] 84)).heap[w.heap.size]? = some (.cells #[.int .i64 x.kind, .string x.book, .string x.sheet, .int .i64 x.at1, .int .i64 x.n, .int .i64 x.row, .int .i64 x.col, .string x.text, .string x.name.scope, .string x.name.name, .string x.name.text, .string x.link.book, .string x.link.sheet, .int .i64 x.link.row, .int .i64 x.link.col, .int .i64 x.link.value.kind, .int .i64 x.link.value.n, .string x.link.value.s, cv] 84)) := heap_alloc_new w _
  have O0 : Hid _ := o0
  have HL : Hid _ := hl
  have HB : Hid (base ≤ (w.alloc (.cells #[.int .i64 x.kind, .string x.book, .string x.sheet, .int .i64 x.at1, .int .i64 x.n, .int .i64 x.row, .int .i64 x.col, .string x.text, .string x.name.scope, .string x.name.name, .string x.name.text, .string x.link.book, .string x.link.sheet, .int .i64 x.link.row, .int .i64 x.link.col, .int .i64 x.link.value.kind, .int .i64 x.link.value.n, .string x.link.value.s, cv] 84)).heap.size) := by show _ ≤ _; simp; omega
  have HS : Hid (∀ w', Below base (w.alloc (.cells #[.int .i64 x.kind, .string x.book, .string x.sheet, .int .i64 x.at1, .int .i64 x.n, .int .i64 x.row, .int .i64 x.col, .string x.text, .string x.name.scope, .string x.name.name, .string x.name.text, .string x.link.book, .string x.link.sheet, .int .i64 x.link.row, .int .i64 x.link.col, .int .i64 x.link.value.kind, .int .i64 x.link.value.n, .string x.link.value.s, cv] 84)) w' → Cls lo hi w' cv x.cells) := fun w' hw => (hs.below hhi ((Below.refl base w).alloc hb _)).below hhi hw
  obtain ⟨ca, cc, rfl, _, _⟩ := hs.slice
  clear hs
  have C1 := putNumber_any (O0.out) HB.out x.kind i1 (by have := HL.out; (try simp only [List.length_append]); omega)
  clear h o0 hl hb
  go_enter Tryd.func40, Tryd.ntmps40
  go_wp2_with fail
  refine C1.mono ?_
  rintro e w1 ⟨v1, rfl, a1⟩
  have b1 : Hid _ := a1.box (O0.out) (by decide) b0.out
  have x1_1 := cell_heap b1.out (j := 1) rfl
  have A1 : Hid _ := a1
  have C2 := putText_any (A1.out.own) (Nat.le_trans HB.out A1.out.gr.size) x.book (by have := HL.out; (try simp only [List.length_append]); omega)
  clear C1 a1 b0
  go_wp2_with fail
  refine C2.mono ?_
  rintro e w2 ⟨v2, rfl, a2⟩
  have b2 : Hid _ := a2.box (A1.out.own) (by decide) b1.out
  have x2_2 := cell_heap b2.out (j := 2) rfl
  have A2 : Hid _ := A1.out.trans a2
  have C3 := putText_any (A2.out.own) (Nat.le_trans HB.out A2.out.gr.size) x.sheet (by have := HL.out; (try simp only [List.length_append]); omega)
  clear C2 a2 A1 b1 x1_1
  go_wp2_with fail
  refine C3.mono ?_
  rintro e w3 ⟨v3, rfl, a3⟩
  have b3 : Hid _ := a3.box (A2.out.own) (by decide) b2.out
  have x3_3 := cell_heap b3.out (j := 3) rfl
  have A3 : Hid _ := A2.out.trans a3
  have C4 := putNumber_any (A3.out.own) (Nat.le_trans HB.out A3.out.gr.size) x.at1 i2 (by have := HL.out; (try simp only [List.length_append]); omega)
  clear C3 a3 A2 b2 x2_2
  go_wp2_with fail
  refine C4.mono ?_
  rintro e w4 ⟨v4, rfl, a4⟩
  have b4 : Hid _ := a4.box (A3.out.own) (by decide) b3.out
  have x4_4 := cell_heap b4.out (j := 4) rfl
  have A4 : Hid _ := A3.out.trans a4
  have C5 := putNumber_any (A4.out.own) (Nat.le_trans HB.out A4.out.gr.size) x.n i3 (by have := HL.out; (try simp only [List.length_append]); omega)
  clear C4 a4 A3 b3 x3_3
  go_wp2_with fail
  refine C5.mono ?_
  rintro e w5 ⟨v5, rfl, a5⟩
  have b5 : Hid _ := a5.box (A4.out.own) (by decide) b4.out
  have x5_5 := cell_heap b5.out (j := 5) rfl
  have A5 : Hid _ := A4.out.trans a5
  have C6 := putNumber_any (A5.out.own) (Nat.le_trans HB.out A5.out.gr.size) x.row i4 (by have := HL.out; (try simp only [List.length_append]); omega)
  clear C5 a5 A4 b4 x4_4
  go_wp2_with fail
  refine C6.mono ?_
  rintro e w6 ⟨v6, rfl, a6⟩
  have b6 : Hid _ := a6.box (A5.out.own) (by decide) b5.out
  have x6_6 := cell_heap b6.out (j := 6) rfl
  have A6 : Hid _ := A5.out.trans a6
  have C7 := putNumber_any (A6.out.own) (Nat.le_trans HB.out A6.out.gr.size) x.col i5 (by have := HL.out; (try simp only [List.length_append]); omega)
  clear C6 a6 A5 b5 x5_5
  go_wp2_with fail
  refine C7.mono ?_
  rintro e w7 ⟨v7, rfl, a7⟩
  have b7 : Hid _ := a7.box (A6.out.own) (by decide) b6.out
  have x7_7 := cell_heap b7.out (j := 7) rfl
  have A7 : Hid _ := A6.out.trans a7
  have C8 := putText_any (A7.out.own) (Nat.le_trans HB.out A7.out.gr.size) x.text (by have := HL.out; (try simp only [List.length_append]); omega)
  clear C7 a7 A6 b6 x6_6
  go_wp2_with fail
  refine C8.mono ?_
  rintro e w8 ⟨v8, rfl, a8⟩
  have b8 : Hid _ := a8.box (A7.out.own) (by decide) b7.out
  have x8_8 := cell_heap b8.out (j := 8) rfl
  have x8_9 := cell_heap b8.out (j := 9) rfl
  have x8_10 := cell_heap b8.out (j := 10) rfl
  have A8 : Hid _ := A7.out.trans a8
  have C9 := putName_any (A8.out.own) (Nat.le_trans HB.out A8.out.gr.size) x.name (by have := HL.out; (try simp only [List.length_append]); omega)
  clear C8 a8 A7 b7 x7_7
  go_wp2_with fail
  refine C9.mono ?_
  rintro e w9 ⟨v9, rfl, a9⟩
  have b9 : Hid _ := a9.box (A8.out.own) (by decide) b8.out
  have x9_11 := cell_heap b9.out (j := 11) rfl
  have x9_12 := cell_heap b9.out (j := 12) rfl
  have x9_13 := cell_heap b9.out (j := 13) rfl
  have x9_14 := cell_heap b9.out (j := 14) rfl
  have x9_15 := cell_heap b9.out (j := 15) rfl
  have x9_16 := cell_heap b9.out (j := 16) rfl
  have x9_17 := cell_heap b9.out (j := 17) rfl
  have A9 : Hid _ := A8.out.trans a9
  have C10 := putLink_any (A9.out.own) (Nat.le_trans HB.out A9.out.gr.size) x.link i6 (by have := HL.out; (try simp only [List.length_append]); omega)
  clear C9 a9 A8 b8 x8_8 x8_9 x8_10
  go_wp2_with fail
  refine C10.mono ?_
  rintro e w10 ⟨v10, rfl, a10⟩
  have b10 : Hid _ := a10.box (A9.out.own) (by decide) b9.out
  have x10_18 := cell_heap b10.out (j := 18) rfl
  have A10 : Hid _ := A9.out.trans a10
  have C11 := putCells_any (A10.out.own) (Nat.le_trans HB.out A10.out.gr.size) (HS.out _ (A10.out.below O0.out HB.out)) hhi i7 (by have := HL.out; (try simp only [List.length_append]); omega)
  clear C10 a10 A9 b9 x9_11 x9_12 x9_13 x9_14 x9_15 x9_16 x9_17
  go_wp2_with fail
  refine C11.mono ?_
  rintro e w11 ⟨v11, rfl, a11⟩
  have A11 : Hid _ := A10.out.trans a11
  clear C11 a11 A10 b10 x10_18
  go_wp2_with fail
  go_ret
  exact ⟨v11, rfl, by have := A11.out.of_alloc; simp only [List.append_assoc] at this; exact this⟩
end Go.Proofs.YtohndhmhgdelmaaDoor
