/- The contracts of the program's writers: putName, putValue, putLink, putList of cells. -/
import Derived.Test.YtohndhmhgdelmaaDoorPutOp
namespace Go.Proofs.YtohndhmhgdelmaaDoor
open Go.RowKit
set_option maxRecDepth 100000

set_option maxHeartbeats 2000000 in
theorem putName_any {base : Nat} {w : World} {v : Value} {l : List UInt8} (h : Own base w v l) (hb : base ≤ w.heap.size) (x : NameT) (hl : l.length + (nameB x).length + 10 ≤ 140737488355328) :
    Calls Tryd.prog 51 #[v, nameV x] w fun e w' => ∃ v', e = .returned v' ∧ Apd base w v w' v' (l ++ nameB x) := by
  simp only [nameB, List.length_append] at *
  have o0 := h.alloc (.cells #[.string x.scope, .string x.name, .string x.text] 64)
  have b0 : Hid ((w.alloc (.cells #[.string x.scope, .string x.name, .string x.text] 64)).heap[w.heap.size]? = some (.cells #[.string x.scope, .string x.name, .string x.text] 64)) := heap_alloc_new w _
  have O0 : Hid _ := o0
  have HL : Hid _ := hl
  have HB : Hid (base ≤ (w.alloc (.cells #[.string x.scope, .string x.name, .string x.text] 64)).heap.size) := by show _ ≤ _; simp; omega
  have C1 := putText_any (O0.out) HB.out x.scope (by have := HL.out; (try simp only [List.length_append]); omega)
  clear h o0 hl hb
  go_enter Tryd.func51, Tryd.ntmps51
  go_wp2_with fail
  refine C1.mono ?_
  rintro e w1 ⟨v1, rfl, a1⟩
  have b1 : Hid _ := a1.box (O0.out) (by decide) b0.out
  have x1_1 := cell_heap b1.out (j := 1) rfl
  have A1 : Hid _ := a1
  have C2 := putText_any (A1.out.own) (Nat.le_trans HB.out A1.out.gr.size) x.name (by have := HL.out; (try simp only [List.length_append]); omega)
  clear C1 a1 b0
  go_wp2_with fail
  refine C2.mono ?_
  rintro e w2 ⟨v2, rfl, a2⟩
  have b2 : Hid _ := a2.box (A1.out.own) (by decide) b1.out
  have x2_2 := cell_heap b2.out (j := 2) rfl
  have A2 : Hid _ := A1.out.trans a2
  have C3 := putText_any (A2.out.own) (Nat.le_trans HB.out A2.out.gr.size) x.text (by have := HL.out; (try simp only [List.length_append]); omega)
  clear C2 a2 A1 b1 x1_1
  go_wp2_with fail
  refine C3.mono ?_
  rintro e w3 ⟨v3, rfl, a3⟩
  have A3 : Hid _ := A2.out.trans a3
  clear C3 a3 A2 b2 x2_2
  go_wp2_with fail
  go_ret
  exact ⟨v3, rfl, by have := A3.out.of_alloc; simp only [List.append_assoc] at this; exact this⟩

set_option maxHeartbeats 2000000 in
theorem putValue_any {base : Nat} {w : World} {v : Value} {l : List UInt8} (h : Own base w v l) (hb : base ≤ w.heap.size) (x : ValT) (ok : x.Ok) (hl : l.length + (valB x).length + 10 ≤ 140737488355328) :
    Calls Tryd.prog 73 #[v, valV x] w fun e w' => ∃ v', e = .returned v' ∧ Apd base w v w' v' (l ++ valB x) := by
  obtain ⟨i1, i2⟩ := ok
  simp only [valB, List.length_append] at *
  have o0 := h.alloc (.cells #[.int .i64 x.kind, .int .i64 x.n, .string x.s] 67)
  have b0 : Hid ((w.alloc (.cells #[.int .i64 x.kind, .int .i64 x.n, .string x.s] 67)).heap[w.heap.size]? = some (.cells #[.int .i64 x.kind, .int .i64 x.n, .string x.s] 67)) := heap_alloc_new w _
  have O0 : Hid _ := o0
  have HL : Hid _ := hl
  have HB : Hid (base ≤ (w.alloc (.cells #[.int .i64 x.kind, .int .i64 x.n, .string x.s] 67)).heap.size) := by show _ ≤ _; simp; omega
  have C1 := putNumber_any (O0.out) HB.out x.kind i1 (by have := HL.out; (try simp only [List.length_append]); omega)
  clear h o0 hl hb
  go_enter Tryd.func73, Tryd.ntmps73
  go_wp2_with fail
  refine C1.mono ?_
  rintro e w1 ⟨v1, rfl, a1⟩
  have b1 : Hid _ := a1.box (O0.out) (by decide) b0.out
  have x1_1 := cell_heap b1.out (j := 1) rfl
  have A1 : Hid _ := a1
  have C2 := putNumber_any (A1.out.own) (Nat.le_trans HB.out A1.out.gr.size) x.n i2 (by have := HL.out; (try simp only [List.length_append]); omega)
  clear C1 a1 b0
  go_wp2_with fail
  refine C2.mono ?_
  rintro e w2 ⟨v2, rfl, a2⟩
  have b2 : Hid _ := a2.box (A1.out.own) (by decide) b1.out
  have x2_2 := cell_heap b2.out (j := 2) rfl
  have A2 : Hid _ := A1.out.trans a2
  have C3 := putText_any (A2.out.own) (Nat.le_trans HB.out A2.out.gr.size) x.s (by have := HL.out; (try simp only [List.length_append]); omega)
  clear C2 a2 A1 b1 x1_1
  go_wp2_with fail
  refine C3.mono ?_
  rintro e w3 ⟨v3, rfl, a3⟩
  have A3 : Hid _ := A2.out.trans a3
  clear C3 a3 A2 b2 x2_2
  go_wp2_with fail
  go_ret
  exact ⟨v3, rfl, by have := A3.out.of_alloc; simp only [List.append_assoc] at this; exact this⟩

set_option maxHeartbeats 2000000 in
theorem putLink_any {base : Nat} {w : World} {v : Value} {l : List UInt8} (h : Own base w v l) (hb : base ≤ w.heap.size) (x : LinkT) (ok : x.Ok) (hl : l.length + (linkB x).length + 10 ≤ 140737488355328) :
    Calls Tryd.prog 53 #[v, linkV x] w fun e w' => ∃ v', e = .returned v' ∧ Apd base w v w' v' (l ++ linkB x) := by
  obtain ⟨i1, i2, i3⟩ := ok
  simp only [linkB, List.length_append] at *
  have o0 := h.alloc (.cells #[.string x.book, .string x.sheet, .int .i64 x.row, .int .i64 x.col, .int .i64 x.value.kind, .int .i64 x.value.n, .string x.value.s] 69)
  have b0 : Hid ((w.alloc (.cells #[.string x.book, .string x.sheet, .int .i64 x.row, .int .i64 x.col, .int .i64 x.value.kind, .int .i64 x.value.n, .string x.value.s] 69)).heap[w.heap.size]? = some (.cells #[.string x.book, .string x.sheet, .int .i64 x.row, .int .i64 x.col, .int .i64 x.value.kind, .int .i64 x.value.n, .string x.value.s] 69)) := heap_alloc_new w _
  have O0 : Hid _ := o0
  have HL : Hid _ := hl
  have HB : Hid (base ≤ (w.alloc (.cells #[.string x.book, .string x.sheet, .int .i64 x.row, .int .i64 x.col, .int .i64 x.value.kind, .int .i64 x.value.n, .string x.value.s] 69)).heap.size) := by show _ ≤ _; simp; omega
  have C1 := putText_any (O0.out) HB.out x.book (by have := HL.out; (try simp only [List.length_append]); omega)
  clear h o0 hl hb
  go_enter Tryd.func53, Tryd.ntmps53
  go_wp2_with fail
  refine C1.mono ?_
  rintro e w1 ⟨v1, rfl, a1⟩
  have b1 : Hid _ := a1.box (O0.out) (by decide) b0.out
  have x1_1 := cell_heap b1.out (j := 1) rfl
  have A1 : Hid _ := a1
  have C2 := putText_any (A1.out.own) (Nat.le_trans HB.out A1.out.gr.size) x.sheet (by have := HL.out; (try simp only [List.length_append]); omega)
  clear C1 a1 b0
  go_wp2_with fail
  refine C2.mono ?_
  rintro e w2 ⟨v2, rfl, a2⟩
  have b2 : Hid _ := a2.box (A1.out.own) (by decide) b1.out
  have x2_2 := cell_heap b2.out (j := 2) rfl
  have A2 : Hid _ := A1.out.trans a2
  have C3 := putNumber_any (A2.out.own) (Nat.le_trans HB.out A2.out.gr.size) x.row i1 (by have := HL.out; (try simp only [List.length_append]); omega)
  clear C2 a2 A1 b1 x1_1
  go_wp2_with fail
  refine C3.mono ?_
  rintro e w3 ⟨v3, rfl, a3⟩
  have b3 : Hid _ := a3.box (A2.out.own) (by decide) b2.out
  have x3_3 := cell_heap b3.out (j := 3) rfl
  have A3 : Hid _ := A2.out.trans a3
  have C4 := putNumber_any (A3.out.own) (Nat.le_trans HB.out A3.out.gr.size) x.col i2 (by have := HL.out; (try simp only [List.length_append]); omega)
  clear C3 a3 A2 b2 x2_2
  go_wp2_with fail
  refine C4.mono ?_
  rintro e w4 ⟨v4, rfl, a4⟩
  have b4 : Hid _ := a4.box (A3.out.own) (by decide) b3.out
  have x4_4 := cell_heap b4.out (j := 4) rfl
  have x4_5 := cell_heap b4.out (j := 5) rfl
  have x4_6 := cell_heap b4.out (j := 6) rfl
  have A4 : Hid _ := A3.out.trans a4
  have C5 := putValue_any (A4.out.own) (Nat.le_trans HB.out A4.out.gr.size) x.value i3 (by have := HL.out; (try simp only [List.length_append]); omega)
  clear C4 a4 A3 b3 x3_3
  go_wp2_with fail
  refine C5.mono ?_
  rintro e w5 ⟨v5, rfl, a5⟩
  have A5 : Hid _ := A4.out.trans a5
  clear C5 a5 A4 b4 x4_4 x4_5 x4_6
  go_wp2_with fail
  go_ret
  exact ⟨v5, rfl, by have := A5.out.of_alloc; simp only [List.append_assoc] at this; exact this⟩

/-- A cell of a list, as a walk reads it. -/
theorem Cls.at {lo hi : Nat} {w : World} {a : Option Addr} {c : Nat} {L : List CellT} (h : Cls lo hi w (.slice a L.length c) L) {k : Nat} (hk : k < L.length) :
    ∃ a', a = some a' ∧ w.cell? (a'.add (k * 3)) = some (.int .i64 L[k].row) ∧ w.cell? ⟨(a'.add (k * 3)).block, (a'.add (k * 3)).off + 1, none⟩ = some (.int .i64 L[k].col) ∧ w.cell? ⟨(a'.add (k * 3)).block, (a'.add (k * 3)).off + 2, none⟩ = some (.string L[k].text) := by
  obtain ⟨a', h1, h2, h3⟩ := Rws.at h hk
  refine ⟨a', h1, h2 _ ?_, h3 1 _ (by decide) ?_, h3 2 _ (by decide) ?_⟩ <;> simp [List.getElem?_eq_getElem hk, cellC]

set_option maxHeartbeats 1000000 in
theorem putCells_any {base lo hi : Nat} {w : World} {v : Value} {l : List UInt8} (h : Own base w v l) (hb : base ≤ w.heap.size) {iv : Value} {L : List CellT} (hs : Cls lo hi w iv L) (hhi : hi ≤ base) (hn : ∀ c ∈ L, c.Ok) (hl : l.length + (lstB cellB L).length + 10 ≤ 140737488355328) :
    Calls Tryd.prog 67 #[v, iv, .func (.func 68) #[] #[]] w fun e w' => ∃ v', e = .returned v' ∧ Apd base w v w' v' (l ++ lstB cellB L) := by
  have H : Hid (Own base w v l) := h
  have HS : Hid (∀ w', Below base w w' → Cls lo hi w' iv L) := fun w' hw => hs.below hhi hw
  have hg := flatMap_ge cellB_pos L
  simp only [lstB, List.length_append] at hl
  have P1 := putNumber_any h hb L.length (by constructor <;> omega) (by omega)
  obtain ⟨a, c, rfl, _, _⟩ := hs.slice
  have HL : Hid (l.length + ((numB L.length).length + (L.flatMap cellB).length) + 10 ≤ 140737488355328) := hl
  have hlen : L.length ≤ 140737488355328 := by omega
  clear h hs hl hg
  go_enter Tryd.func67, Tryd.ntmps67
  go_wp2_with (go_at_call 46; refine P1.mono ?_; rintro e w1 ⟨v1, rfl, ap1⟩)
  have HP : Hid (Apd base w v w1 v1 (l ++ numB L.length)) := ap1
  clear P1 ap1
  go_loopw [0, 15] (fun u0 u15 wr => ∃ k : Nat, u15 = .int .i64 k ∧ k ≤ L.length ∧ Hid (Apd base w v wr u0 (l ++ (numB L.length ++ (L.take k).flatMap cellB)))) (fun _ u15 _ => L.length - (intOf u15).toNat)
  case atStart => exact ⟨0, rfl, by omega, by show Apd _ _ _ _ _ _; simpa using HP.out⟩
  case round =>
    obtain ⟨k, rfl, hk, HD⟩ := hrel
    clear HP
    by_cases hlt : k < L.length
    · obtain ⟨a', rfl, c0, c1, c2⟩ := (HS.out wr (HD.out.below H.out hb)).at hlt
      have hw : base ≤ wr.heap.size := Nat.le_trans hb HD.out.gr.size
      have PN := putCell_any (HD.out.own.alloc (.cells #[.int .i64 L[k].row, .int .i64 L[k].col, .string L[k].text] 101)) (by simp; omega) L[k] (hn _ (List.getElem_mem _)) (by
        have h1 := flatMap_part cellB L k hlt
        have h2 := HL.out
        simp only [List.length_append]
        omega)
      have HF : Hid (((L.take k).flatMap cellB ++ cellB L[k]) = (L.take (k + 1)).flatMap cellB) := (flatMap_snoc cellB L k hlt).symm
      generalize L[k] = x at *
      have hk63 : k < 9223372036854775807 := by omega
      clear hw
      go_wp2_with (go_at_call 68; refine PN.mono ?_; rintro e w2 ⟨v2, rfl, ap2⟩)
      have HD2 : Hid (Apd base w v w2 v2 (l ++ (numB L.length ++ (L.take (k + 1)).flatMap cellB))) := by
        have := HD.out.trans ap2.of_alloc
        rw [List.append_assoc, List.append_assoc, HF.out] at this
        exact this
      clear ap2 PN HD HF
      go_roundw
      case rel => exact ⟨k + 1, by go_num, by omega, HD2⟩
      case measure => simp [intOf]; omega
    · have HD2 : Hid (Apd base w v wr u0 (l ++ lstB cellB L)) := by
        have := HD.out
        rw [List.take_of_length_le (by omega)] at this
        exact this
      clear HD
      go_wp2_with fail
      go_ret
      exact ⟨u0, rfl, HD2.out⟩

end Go.Proofs.YtohndhmhgdelmaaDoor
