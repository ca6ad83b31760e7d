/- The contracts of the reference's writers: text, name, value, link. -/
import Derived.Test.YtohndhmhgdelmaaDoorRefInts
import Derived.Test.YtohndhmhgdelmaaDoorPutOp2
import Derived.Deep.RegionHeldLaw
namespace Go.Proofs.YtohndhmhgdelmaaDoor
open Go.RowKit
set_option maxRecDepth 100000

theorem Own.drew {base : Nat} {w : World} {v : Value} {l : List UInt8} (h : Own base w v l) : Own base w.drew v l := h
theorem Apd.of_drew {base : Nat} {w w' : World} {v v' : Value} {l : List UInt8} (h : Apd base w.drew v w' v' l) : Apd base w v w' v' l := ⟨h.own, ⟨h.gr.os, h.gr.tape, h.gr.output, h.gr.size, h.gr.block⟩, h.loc⟩

set_option maxHeartbeats 1000000 in
theorem refText_any {base : Nat} {w : World} {v : Value} {l : List UInt8} (h : Own base w v l) (hb : base ≤ w.heap.size) (s : ByteArray) (hl : l.length + (textB s).length + 10 ≤ 140737488355328) :
    Calls Tryd.prog 26 #[v, .string s] w fun e w' => ∃ v', e = .returned v' ∧ Apd base w v w' v' (l ++ textB s) := by
  have hz := textB_length s
  have C : Calls Tryd.prog 24 #[v, .int .i64 s.size] w fun e w' => ∃ v1, e = .returned v1 ∧ ∃ v' w2, Hid ((Builtin.append_ #[29, 9] 29 #[v1, .string s]).run Tryd.prog w' = .ok v' w2) ∧ Hid (Apd base w v w2 v' (l ++ textB s)) := by
    refine (num_any h hb s.size (by constructor <;> omega) (by omega)).mono ?_
    rintro e w' ⟨v1, rfl, ap⟩
    obtain ⟨v', w2, hr, ap2⟩ := own_strA ap.own (Nat.le_trans hb ap.gr.size) s (by rw [List.length_append]; omega)
    refine ⟨v1, rfl, v', w2, hr, ?_⟩
    have := ap.trans ap2
    rw [List.append_assoc] at this
    exact this
  have hs : s.size ≤ 140737488355328 := by omega
  clear h hl hz hb
  go_enter Tryd.func26, Tryd.ntmps26
  go_wp2_with (first
    | (go_at_call 24; refine C.mono ?_; rintro e w1 ⟨v1, rfl, v2, w2, R, A⟩)
    | (at_builtin; refine wpList_append_run2 rfl _ _ 29 9 rfl _ _ _ _ rfl rfl R.out ?_))
  go_ret
  exact ⟨v2, rfl, A.out⟩

set_option maxHeartbeats 1000000 in
theorem refName_any {base : Nat} {w : World} {v : Value} {l : List UInt8} (h : Own base w v l) (hb : base ≤ w.heap.size) (x : NameT) (hl : l.length + (nameB x).length + 10 ≤ 140737488355328) :
    Calls Tryd.prog 27 #[v, nameV x] w fun e w' => ∃ v', e = .returned v' ∧ Apd base w v w' v' (l ++ nameB x) := by
  obtain ⟨sc, nm, tx⟩ := x
  simp only [nameB, List.length_append] at *
  try dsimp only at *
  have HL : Hid _ := hl
  have O0 : Hid (Own base (w.alloc (.cells #[.string sc, .string nm, .string tx] 64)) v l) := h.alloc _
  have HK : Hid ((w.alloc (.cells #[.string sc, .string nm, .string tx] 64)).heap[w.heap.size]? = some (.cells #[.string sc, .string nm, .string tx] 64)) := heap_alloc_new w _
  have HB : Hid (base ≤ (w.alloc (.cells #[.string sc, .string nm, .string tx] 64)).heap.size) := by show _ ≤ _; simp; omega
  have T1 : Hid (Calls Tryd.prog 26 #[v, .string sc] (w.alloc (.cells #[.string sc, .string nm, .string tx] 64)).drew fun e w' => ∃ v', e = .returned v' ∧ Hid (w'.heap[w.heap.size]? = some (.cells #[.string sc, .string nm, .string tx] 64)) ∧ Hid (Apd base (w.alloc (.cells #[.string sc, .string nm, .string tx] 64)) v w' v' (l ++ textB sc))) := by
    refine (refText_any (O0.out.drew) HB.out sc (by have := HL.out; (try simp only [List.length_append]); omega)).mono ?_
    rintro e w' ⟨v', rfl, ap⟩
    exact ⟨v', rfl, Apd.box (w := (w.alloc (.cells #[.string sc, .string nm, .string tx] 64)).drew) ap O0.out.drew (by decide) HK.out, ap.of_drew⟩
  have T2 : Hid (∀ w1 v1, Hid (w1.heap[w.heap.size]? = some (.cells #[.string sc, .string nm, .string tx] 64)) → Hid (Apd base (w.alloc (.cells #[.string sc, .string nm, .string tx] 64)) v w1 v1 (l ++ textB sc)) → Calls Tryd.prog 26 #[v1, .string nm] w1 fun e w' => ∃ v', e = .returned v' ∧ Hid (w'.heap[w.heap.size]? = some (.cells #[.string sc, .string nm, .string tx] 64)) ∧ Hid (Apd base (w.alloc (.cells #[.string sc, .string nm, .string tx] 64)) v w' v' (l ++ textB sc ++ textB nm))) := by
    intro w1 v1 hk ap1
    refine (refText_any (ap1.out.own) (Nat.le_trans HB.out ap1.out.gr.size) nm (by have := HL.out; (try simp only [List.length_append]); omega)).mono ?_
    rintro e w' ⟨v', rfl, ap⟩
    exact ⟨v', rfl, Apd.box ap ap1.out.own (by decide) hk.out, ap1.out.trans ap⟩
  have T3 : Hid (∀ w1 v1, Hid (w1.heap[w.heap.size]? = some (.cells #[.string sc, .string nm, .string tx] 64)) → Hid (Apd base (w.alloc (.cells #[.string sc, .string nm, .string tx] 64)) v w1 v1 (l ++ textB sc ++ textB nm)) → Calls Tryd.prog 26 #[v1, .string tx] w1 fun e w' => ∃ v', e = .returned v' ∧ Hid (w'.heap[w.heap.size]? = some (.cells #[.string sc, .string nm, .string tx] 64)) ∧ Hid (Apd base (w.alloc (.cells #[.string sc, .string nm, .string tx] 64)) v w' v' (l ++ textB sc ++ textB nm ++ textB tx))) := by
    intro w1 v1 hk ap1
    refine (refText_any (ap1.out.own) (Nat.le_trans HB.out ap1.out.gr.size) tx (by have := HL.out; (try simp only [List.length_append]); omega)).mono ?_
    rintro e w' ⟨v', rfl, ap⟩
    exact ⟨v', rfl, Apd.box ap ap1.out.own (by decide) hk.out, ap1.out.trans ap⟩
  clear h hl hb O0 HB HL
  go_enter Tryd.func27, Tryd.ntmps27
  go_wp2_with fail
  go_region_held_law (fun u => u.cell? ⟨w.heap.size, 0, none⟩ = some (.string sc) ∧ u.cell? ⟨w.heap.size, 1, none⟩ = some (.string nm) ∧ u.cell? ⟨w.heap.size, 2, none⟩ = some (.string tx)) (exact ⟨cell_heap HK.out rfl, cell_heap HK.out rfl, cell_heap HK.out rfl⟩) (first
    | (go_at_call_of 26 sc; refine T1.out.mono ?_; rintro e w1 ⟨v1, rfl, HK, HA⟩)
    | (go_at_call_of 26 nm; refine (T2.out _ _ HK HA).mono ?_; rintro e w1 ⟨v1, rfl, HK, HA⟩)
    | (go_at_call_of 26 tx; refine (T3.out _ _ HK HA).mono ?_; rintro e w1 ⟨v1, rfl, HK, HA⟩))
  go_wp2_with fail
  go_ret
  exact ⟨_, rfl, by have := HA.out.of_alloc; simp only [List.append_assoc] at this; exact this⟩

set_option maxHeartbeats 1000000 in
theorem refValue_any {base : Nat} {w : World} {v : Value} {l : List UInt8} (h : Own base w v l) (hb : base ≤ w.heap.size) (x : ValT) (ok : x.Ok) (hl : l.length + (valB x).length + 10 ≤ 140737488355328) :
    Calls Tryd.prog 54 #[v, valV x] w fun e w' => ∃ v', e = .returned v' ∧ Apd base w v w' v' (l ++ valB x) := by
  obtain ⟨kd, nn, ss⟩ := x
  obtain ⟨i1, i2⟩ := ok
  simp only [valB, List.length_append] at *
  try dsimp only at *
  have HL : Hid _ := hl
  have O0 : Hid (Own base (w.alloc (.cells #[.int .i64 kd, .int .i64 nn, .string ss] 67)) v l) := h.alloc _
  have HK : Hid ((w.alloc (.cells #[.int .i64 kd, .int .i64 nn, .string ss] 67)).heap[w.heap.size]? = some (.cells #[.int .i64 kd, .int .i64 nn, .string ss] 67)) := heap_alloc_new w _
  have HB : Hid (base ≤ (w.alloc (.cells #[.int .i64 kd, .int .i64 nn, .string ss] 67)).heap.size) := by show _ ≤ _; simp; omega
  have T1 : Hid (Calls Tryd.prog 24 #[v, .int .i64 kd] (w.alloc (.cells #[.int .i64 kd, .int .i64 nn, .string ss] 67)).drew fun e w' => ∃ v', e = .returned v' ∧ Hid (w'.heap[w.heap.size]? = some (.cells #[.int .i64 kd, .int .i64 nn, .string ss] 67)) ∧ Hid (Apd base (w.alloc (.cells #[.int .i64 kd, .int .i64 nn, .string ss] 67)) v w' v' (l ++ numB kd))) := by
    refine (num_any (O0.out.drew) HB.out kd i1 (by have := HL.out; (try simp only [List.length_append]); omega)).mono ?_
    rintro e w' ⟨v', rfl, ap⟩
    exact ⟨v', rfl, Apd.box (w := (w.alloc (.cells #[.int .i64 kd, .int .i64 nn, .string ss] 67)).drew) ap O0.out.drew (by decide) HK.out, ap.of_drew⟩
  have T2 : Hid (∀ w1 v1, Hid (w1.heap[w.heap.size]? = some (.cells #[.int .i64 kd, .int .i64 nn, .string ss] 67)) → Hid (Apd base (w.alloc (.cells #[.int .i64 kd, .int .i64 nn, .string ss] 67)) v w1 v1 (l ++ numB kd)) → Calls Tryd.prog 24 #[v1, .int .i64 nn] w1 fun e w' => ∃ v', e = .returned v' ∧ Hid (w'.heap[w.heap.size]? = some (.cells #[.int .i64 kd, .int .i64 nn, .string ss] 67)) ∧ Hid (Apd base (w.alloc (.cells #[.int .i64 kd, .int .i64 nn, .string ss] 67)) v w' v' (l ++ numB kd ++ numB nn))) := by
    intro w1 v1 hk ap1
    refine (num_any (ap1.out.own) (Nat.le_trans HB.out ap1.out.gr.size) nn i2 (by have := HL.out; (try simp only [List.length_append]); omega)).mono ?_
    rintro e w' ⟨v', rfl, ap⟩
    exact ⟨v', rfl, Apd.box ap ap1.out.own (by decide) hk.out, ap1.out.trans ap⟩
  have T3 : Hid (∀ w1 v1, Hid (w1.heap[w.heap.size]? = some (.cells #[.int .i64 kd, .int .i64 nn, .string ss] 67)) → Hid (Apd base (w.alloc (.cells #[.int .i64 kd, .int .i64 nn, .string ss] 67)) v w1 v1 (l ++ numB kd ++ numB nn)) → Calls Tryd.prog 26 #[v1, .string ss] w1 fun e w' => ∃ v', e = .returned v' ∧ Hid (w'.heap[w.heap.size]? = some (.cells #[.int .i64 kd, .int .i64 nn, .string ss] 67)) ∧ Hid (Apd base (w.alloc (.cells #[.int .i64 kd, .int .i64 nn, .string ss] 67)) v w' v' (l ++ numB kd ++ numB nn ++ textB ss))) := by
    intro w1 v1 hk ap1
    refine (refText_any (ap1.out.own) (Nat.le_trans HB.out ap1.out.gr.size) ss (by have := HL.out; (try simp only [List.length_append]); omega)).mono ?_
    rintro e w' ⟨v', rfl, ap⟩
    exact ⟨v', rfl, Apd.box ap ap1.out.own (by decide) hk.out, ap1.out.trans ap⟩
  clear h hl hb O0 HB HL
  go_enter Tryd.func54, Tryd.ntmps54
  go_wp2_with fail
  go_region_held_law (fun u => u.cell? ⟨w.heap.size, 0, none⟩ = some (.int .i64 kd) ∧ u.cell? ⟨w.heap.size, 1, none⟩ = some (.int .i64 nn) ∧ u.cell? ⟨w.heap.size, 2, none⟩ = some (.string ss)) (exact ⟨cell_heap HK.out rfl, cell_heap HK.out rfl, cell_heap HK.out rfl⟩) (first
    | (go_at_call_of 24 kd; refine T1.out.mono ?_; rintro e w1 ⟨v1, rfl, HK, HA⟩)
    | (go_at_call_of 24 nn; refine (T2.out _ _ HK HA).mono ?_; rintro e w1 ⟨v1, rfl, HK, HA⟩)
    | (go_at_call_of 26 ss; refine (T3.out _ _ HK HA).mono ?_; rintro e w1 ⟨v1, rfl, HK, HA⟩))
  go_wp2_with fail
  go_ret
  exact ⟨_, rfl, by have := HA.out.of_alloc; simp only [List.append_assoc] at this; exact this⟩

set_option maxHeartbeats 1000000 in
theorem refLink_any {base : Nat} {w : World} {v : Value} {l : List UInt8} (h : Own base w v l) (hb : base ≤ w.heap.size) (x : LinkT) (ok : x.Ok) (hl : l.length + (linkB x).length + 10 ≤ 140737488355328) :
    Calls Tryd.prog 28 #[v, linkV x] w fun e w' => ∃ v', e = .returned v' ∧ Apd base w v w' v' (l ++ linkB x) := by
  obtain ⟨bk, sh, rw, cl, va⟩ := x
  obtain ⟨i1, i2, i3⟩ := ok
  simp only [linkB, List.length_append] at *
  try dsimp only at *
  have HL : Hid _ := hl
  have O0 : Hid (Own base (w.alloc (.cells #[.string bk, .string sh, .int .i64 rw, .int .i64 cl, .int .i64 va.kind, .int .i64 va.n, .string va.s] 69)) v l) := h.alloc _
  have HK : Hid ((w.alloc (.cells #[.string bk, .string sh, .int .i64 rw, .int .i64 cl, .int .i64 va.kind, .int .i64 va.n, .string va.s] 69)).heap[w.heap.size]? = some (.cells #[.string bk, .string sh, .int .i64 rw, .int .i64 cl, .int .i64 va.kind, .int .i64 va.n, .string va.s] 69)) := heap_alloc_new w _
  have HB : Hid (base ≤ (w.alloc (.cells #[.string bk, .string sh, .int .i64 rw, .int .i64 cl, .int .i64 va.kind, .int .i64 va.n, .string va.s] 69)).heap.size) := by show _ ≤ _; simp; omega
  have T1 : Hid (Calls Tryd.prog 26 #[v, .string bk] (w.alloc (.cells #[.string bk, .string sh, .int .i64 rw, .int .i64 cl, .int .i64 va.kind, .int .i64 va.n, .string va.s] 69)).drew fun e w' => ∃ v', e = .returned v' ∧ Hid (w'.heap[w.heap.size]? = some (.cells #[.string bk, .string sh, .int .i64 rw, .int .i64 cl, .int .i64 va.kind, .int .i64 va.n, .string va.s] 69)) ∧ Hid (Apd base (w.alloc (.cells #[.string bk, .string sh, .int .i64 rw, .int .i64 cl, .int .i64 va.kind, .int .i64 va.n, .string va.s] 69)) v w' v' (l ++ textB bk))) := by
    refine (refText_any (O0.out.drew) HB.out bk (by have := HL.out; (try simp only [List.length_append]); omega)).mono ?_
    rintro e w' ⟨v', rfl, ap⟩
    exact ⟨v', rfl, Apd.box (w := (w.alloc (.cells #[.string bk, .string sh, .int .i64 rw, .int .i64 cl, .int .i64 va.kind, .int .i64 va.n, .string va.s] 69)).drew) ap O0.out.drew (by decide) HK.out, ap.of_drew⟩
  have T2 : Hid (∀ w1 v1, Hid (w1.heap[w.heap.size]? = some (.cells #[.string bk, .string sh, .int .i64 rw, .int .i64 cl, .int .i64 va.kind, .int .i64 va.n, .string va.s] 69)) → Hid (Apd base (w.alloc (.cells #[.string bk, .string sh, .int .i64 rw, .int .i64 cl, .int .i64 va.kind, .int .i64 va.n, .string va.s] 69)) v w1 v1 (l ++ textB bk)) → Calls Tryd.prog 26 #[v1, .string sh] w1 fun e w' => ∃ v', e = .returned v' ∧ Hid (w'.heap[w.heap.size]? = some (.cells #[.string bk, .string sh, .int .i64 rw, .int .i64 cl, .int .i64 va.kind, .int .i64 va.n, .string va.s] 69)) ∧ Hid (Apd base (w.alloc (.cells #[.string bk, .string sh, .int .i64 rw, .int .i64 cl, .int .i64 va.kind, .int .i64 va.n, .string va.s] 69)) v w' v' (l ++ textB bk ++ textB sh))) := by
    intro w1 v1 hk ap1
    refine (refText_any (ap1.out.own) (Nat.le_trans HB.out ap1.out.gr.size) sh (by have := HL.out; (try simp only [List.length_append]); omega)).mono ?_
    rintro e w' ⟨v', rfl, ap⟩
    exact ⟨v', rfl, Apd.box ap ap1.out.own (by decide) hk.out, ap1.out.trans ap⟩
  have T3 : Hid (∀ w1 v1, Hid (w1.heap[w.heap.size]? = some (.cells #[.string bk, .string sh, .int .i64 rw, .int .i64 cl, .int .i64 va.kind, .int .i64 va.n, .string va.s] 69)) → Hid (Apd base (w.alloc (.cells #[.string bk, .string sh, .int .i64 rw, .int .i64 cl, .int .i64 va.kind, .int .i64 va.n, .string va.s] 69)) v w1 v1 (l ++ textB bk ++ textB sh)) → Calls Tryd.prog 24 #[v1, .int .i64 rw] w1 fun e w' => ∃ v', e = .returned v' ∧ Hid (w'.heap[w.heap.size]? = some (.cells #[.string bk, .string sh, .int .i64 rw, .int .i64 cl, .int .i64 va.kind, .int .i64 va.n, .string va.s] 69)) ∧ Hid (Apd base (w.alloc (.cells #[.string bk, .string sh, .int .i64 rw, .int .i64 cl, .int .i64 va.kind, .int .i64 va.n, .string va.s] 69)) v w' v' (l ++ textB bk ++ textB sh ++ numB rw))) := by
    intro w1 v1 hk ap1
    refine (num_any (ap1.out.own) (Nat.le_trans HB.out ap1.out.gr.size) rw i1 (by have := HL.out; (try simp only [List.length_append]); omega)).mono ?_
    rintro e w' ⟨v', rfl, ap⟩
    exact ⟨v', rfl, Apd.box ap ap1.out.own (by decide) hk.out, ap1.out.trans ap⟩
  have T4 : Hid (∀ w1 v1, Hid (w1.heap[w.heap.size]? = some (.cells #[.string bk, .string sh, .int .i64 rw, .int .i64 cl, .int .i64 va.kind, .int .i64 va.n, .string va.s] 69)) → Hid (Apd base (w.alloc (.cells #[.string bk, .string sh, .int .i64 rw, .int .i64 cl, .int .i64 va.kind, .int .i64 va.n, .string va.s] 69)) v w1 v1 (l ++ textB bk ++ textB sh ++ numB rw)) → Calls Tryd.prog 24 #[v1, .int .i64 cl] w1 fun e w' => ∃ v', e = .returned v' ∧ Hid (w'.heap[w.heap.size]? = some (.cells #[.string bk, .string sh, .int .i64 rw, .int .i64 cl, .int .i64 va.kind, .int .i64 va.n, .string va.s] 69)) ∧ Hid (Apd base (w.alloc (.cells #[.string bk, .string sh, .int .i64 rw, .int .i64 cl, .int .i64 va.kind, .int .i64 va.n, .string va.s] 69)) v w' v' (l ++ textB bk ++ textB sh ++ numB rw ++ numB cl))) := by
    intro w1 v1 hk ap1
    refine (num_any (ap1.out.own) (Nat.le_trans HB.out ap1.out.gr.size) cl i2 (by have := HL.out; (try simp only [List.length_append]); omega)).mono ?_
    rintro e w' ⟨v', rfl, ap⟩
    exact ⟨v', rfl, Apd.box ap ap1.out.own (by decide) hk.out, ap1.out.trans ap⟩
  have T5 : Hid (∀ w1 v1, Hid (w1.heap[w.heap.size]? = some (.cells #[.string bk, .string sh, .int .i64 rw, .int .i64 cl, .int .i64 va.kind, .int .i64 va.n, .string va.s] 69)) → Hid (Apd base (w.alloc (.cells #[.string bk, .string sh, .int .i64 rw, .int .i64 cl, .int .i64 va.kind, .int .i64 va.n, .string va.s] 69)) v w1 v1 (l ++ textB bk ++ textB sh ++ numB rw ++ numB cl)) → Calls Tryd.prog 54 #[v1, valV va] w1 fun e w' => ∃ v', e = .returned v' ∧ Hid (w'.heap[w.heap.size]? = some (.cells #[.string bk, .string sh, .int .i64 rw, .int .i64 cl, .int .i64 va.kind, .int .i64 va.n, .string va.s] 69)) ∧ Hid (Apd base (w.alloc (.cells #[.string bk, .string sh, .int .i64 rw, .int .i64 cl, .int .i64 va.kind, .int .i64 va.n, .string va.s] 69)) v w' v' (l ++ textB bk ++ textB sh ++ numB rw ++ numB cl ++ valB va))) := by
    intro w1 v1 hk ap1
    refine (refValue_any (ap1.out.own) (Nat.le_trans HB.out ap1.out.gr.size) va i3 (by have := HL.out; (try simp only [List.length_append]); omega)).mono ?_
    rintro e w' ⟨v', rfl, ap⟩
    exact ⟨v', rfl, Apd.box ap ap1.out.own (by decide) hk.out, ap1.out.trans ap⟩
  clear h hl hb O0 HB HL
  go_enter Tryd.func28, Tryd.ntmps28
  go_wp2_with fail
  go_region_held_law (fun u => u.cell? ⟨w.heap.size, 0, none⟩ = some (.string bk) ∧ u.cell? ⟨w.heap.size, 1, none⟩ = some (.string sh) ∧ u.cell? ⟨w.heap.size, 2, none⟩ = some (.int .i64 rw) ∧ u.cell? ⟨w.heap.size, 3, none⟩ = some (.int .i64 cl) ∧ u.cell? ⟨w.heap.size, 4, none⟩ = some (.int .i64 va.kind) ∧ u.cell? ⟨w.heap.size, 5, none⟩ = some (.int .i64 va.n) ∧ u.cell? ⟨w.heap.size, 6, none⟩ = some (.string va.s)) (exact ⟨cell_heap HK.out rfl, cell_heap HK.out rfl, cell_heap HK.out rfl, cell_heap HK.out rfl, cell_heap HK.out rfl, cell_heap HK.out rfl, cell_heap HK.out rfl⟩) (first
    | (go_at_call_of 26 bk; refine T1.out.mono ?_; rintro e w1 ⟨v1, rfl, HK, HA⟩)
    | (go_at_call_of 26 sh; refine (T2.out _ _ HK HA).mono ?_; rintro e w1 ⟨v1, rfl, HK, HA⟩)
    | (go_at_call_of 24 rw; refine (T3.out _ _ HK HA).mono ?_; rintro e w1 ⟨v1, rfl, HK, HA⟩)
    | (go_at_call_of 24 cl; refine (T4.out _ _ HK HA).mono ?_; rintro e w1 ⟨v1, rfl, HK, HA⟩)
    | (go_at_call 54; refine (T5.out _ _ HK HA).mono ?_; rintro e w1 ⟨v1, rfl, HK, HA⟩))
  go_wp2_with fail
  go_ret
  exact ⟨_, rfl, by have := HA.out.of_alloc; simp only [List.append_assoc] at this; exact this⟩

end Go.Proofs.YtohndhmhgdelmaaDoor
