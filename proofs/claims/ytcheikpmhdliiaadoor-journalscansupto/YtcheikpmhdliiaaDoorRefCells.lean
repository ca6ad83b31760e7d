import Derived.Test.YtcheikpmhdliiaaDoorRefInts
import Derived.Test.YtcheikpmhdliiaaDoorPutOp2
import Derived.Deep.RegionHeldLaw
/- The contracts of the reference's writers: text, name, value, link. -/
namespace Go.Proofs.YtcheikpmhdliiaaDoor
open Go.RowKit
set_option maxRecDepth 100000

theorem Own.drew {base : Nat} {w : World} {v : Value} {l : List UInt8} (h : Own base w v l) : Own base w.drew v l := h
theorem Apd.of_drew {base : Nat} {w w' : World} {v v' : Value} {l : List UInt8} (h : Apd base w.drew v w' v' l) : Apd base w v w' v' l := ⟨h.own, ⟨h.gr.os, h.gr.tape, h.gr.output, h.gr.size, h.gr.block⟩, h.loc⟩

set_option maxHeartbeats 1000000 in
theorem refText_any {base : Nat} {w : World} {v : Value} {l : List UInt8} (h : Own base w v l) (hb : base ≤ w.heap.size) (s : ByteArray) (hl : l.length + (textB s).length + 10 ≤ 140737488355328) :
    Calls Tryd.prog 33 #[v, .string s] w fun e w' => ∃ v', e = .returned v' ∧ Apd base w v w' v' (l ++ textB s) := by
  have hz := textB_length s
  have C : Calls Tryd.prog 32 #[v, .int .i64 s.size] w fun e w' => ∃ v1, e = .returned v1 ∧ ∃ v' w2, Hid ((Builtin.append_ #[24, 9] 24 #[v1, .string s]).run Tryd.prog w' = .ok v' w2) ∧ Hid (Apd base w v w2 v' (l ++ textB s)) := by
    refine (num_any h hb s.size (by constructor <;> omega) (by omega)).mono ?_
    rintro e w' ⟨v1, rfl, ap⟩
    obtain ⟨v', w2, hr, ap2⟩ := own_strA ap.own (Nat.le_trans hb ap.gr.size) s (by rw [List.length_append]; omega)
    refine ⟨v1, rfl, v', w2, hr, ?_⟩
    have := ap.trans ap2
    rw [List.append_assoc] at this
    exact this
  have hs : s.size ≤ 140737488355328 := by omega
  clear h hl hz hb
  go_enter Tryd.func33, Tryd.ntmps33
  go_wp2_with (first
    | (go_at_call 32; refine C.mono ?_; rintro e w1 ⟨v1, rfl, v2, w2, R, A⟩)
    | (at_builtin; refine wpList_append_run2 rfl _ _ 24 9 rfl _ _ _ _ rfl rfl R.out ?_))
  go_ret
  exact ⟨v2, rfl, A.out⟩

set_option maxHeartbeats 1000000 in
theorem refName_any {base : Nat} {w : World} {v : Value} {l : List UInt8} (h : Own base w v l) (hb : base ≤ w.heap.size) (x : NameT) (hl : l.length + (nameB x).length + 10 ≤ 140737488355328) :
    Calls Tryd.prog 36 #[v, nameV x] w fun e w' => ∃ v', e = .returned v' ∧ Apd base w v w' v' (l ++ nameB x) := by
  obtain ⟨sc, nm, tx⟩ := x
  simp only [nameB, List.length_append] at *
  try dsimp only at *
  have HL : Hid _ := hl
  have O0 : Hid (Own base (w.alloc (.cells #[.string sc, .string nm, .string tx] 51)) v l) := h.alloc _
  have HK : Hid ((w.alloc (.cells #[.string sc, .string nm, .string tx] 51)).heap[w.heap.size]? = some (.cells #[.string sc, .string nm, .string tx] 51)) := heap_alloc_new w _
  have HB : Hid (base ≤ (w.alloc (.cells #[.string sc, .string nm, .string tx] 51)).heap.size) := by show _ ≤ _; simp; omega
  have T1 : Hid (Calls Tryd.prog 33 #[v, .string sc] (w.alloc (.cells #[.string sc, .string nm, .string tx] 51)).drew fun e w' => ∃ v', e = .returned v' ∧ Hid (w'.heap[w.heap.size]? = some (.cells #[.string sc, .string nm, .string tx] 51)) ∧ Hid (Apd base (w.alloc (.cells #[.string sc, .string nm, .string tx] 51)) v w' v' (l ++ textB sc))) := by
    refine (refText_any (O0.out.drew) HB.out sc (by have := HL.out; (try simp only [List.length_append]); omega)).mono ?_
    rintro e w' ⟨v', rfl, ap⟩
    exact ⟨v', rfl, Apd.box (w := (w.alloc (.cells #[.string sc, .string nm, .string tx] 51)).drew) ap O0.out.drew (by decide) HK.out, ap.of_drew⟩
  have T2 : Hid (∀ w1 v1, Hid (w1.heap[w.heap.size]? = some (.cells #[.string sc, .string nm, .string tx] 51)) → Hid (Apd base (w.alloc (.cells #[.string sc, .string nm, .string tx] 51)) v w1 v1 (l ++ textB sc)) → Calls Tryd.prog 33 #[v1, .string nm] w1 fun e w' => ∃ v', e = .returned v' ∧ Hid (w'.heap[w.heap.size]? = some (.cells #[.string sc, .string nm, .string tx] 51)) ∧ Hid (Apd base (w.alloc (.cells #[.string sc, .string nm, .string tx] 51)) v w' v' (l ++ textB sc ++ textB nm))) := by
    intro w1 v1 hk ap1
    refine (refText_any (ap1.out.own) (Nat.le_trans HB.out ap1.out.gr.size) nm (by have := HL.out; (try simp only [List.length_append]); omega)).mono ?_
    rintro e w' ⟨v', rfl, ap⟩
    exact ⟨v', rfl, Apd.box ap ap1.out.own (by decide) hk.out, ap1.out.trans ap⟩
  have T3 : Hid (∀ w1 v1, Hid (w1.heap[w.heap.size]? = some (.cells #[.string sc, .string nm, .string tx] 51)) → Hid (Apd base (w.alloc (.cells #[.string sc, .string nm, .string tx] 51)) v w1 v1 (l ++ textB sc ++ textB nm)) → Calls Tryd.prog 33 #[v1, .string tx] w1 fun e w' => ∃ v', e = .returned v' ∧ Hid (w'.heap[w.heap.size]? = some (.cells #[.string sc, .string nm, .string tx] 51)) ∧ Hid (Apd base (w.alloc (.cells #[.string sc, .string nm, .string tx] 51)) v w' v' (l ++ textB sc ++ textB nm ++ textB tx))) := by
    intro w1 v1 hk ap1
    refine (refText_any (ap1.out.own) (Nat.le_trans HB.out ap1.out.gr.size) tx (by have := HL.out; (try simp only [List.length_append]); omega)).mono ?_
    rintro e w' ⟨v', rfl, ap⟩
    exact ⟨v', rfl, Apd.box ap ap1.out.own (by decide) hk.out, ap1.out.trans ap⟩
  clear h hl hb O0 HB HL
  go_enter Tryd.func36, Tryd.ntmps36
  go_wp2_with fail
  go_region_held_law (fun u => u.cell? ⟨w.heap.size, 0, none⟩ = some (.string sc) ∧ u.cell? ⟨w.heap.size, 1, none⟩ = some (.string nm) ∧ u.cell? ⟨w.heap.size, 2, none⟩ = some (.string tx)) (exact ⟨cell_heap HK.out rfl, cell_heap HK.out rfl, cell_heap HK.out rfl⟩) (first
    | (go_at_call_of 33 sc; refine T1.out.mono ?_; rintro e w1 ⟨v1, rfl, HK, HA⟩)
    | (go_at_call_of 33 nm; refine (T2.out _ _ HK HA).mono ?_; rintro e w1 ⟨v1, rfl, HK, HA⟩)
    | (go_at_call_of 33 tx; refine (T3.out _ _ HK HA).mono ?_; rintro e w1 ⟨v1, rfl, HK, HA⟩))
  go_wp2_with fail
  go_ret
  exact ⟨_, rfl, by have := HA.out.of_alloc; simp only [List.append_assoc] at this; exact this⟩

set_option maxHeartbeats 1000000 in
theorem refValue_any {base : Nat} {w : World} {v : Value} {l : List UInt8} (h : Own base w v l) (hb : base ≤ w.heap.size) (x : ValT) (ok : x.Ok) (hl : l.length + (valB x).length + 10 ≤ 140737488355328) :
    Calls Tryd.prog 60 #[v, valV x] w fun e w' => ∃ v', e = .returned v' ∧ Apd base w v w' v' (l ++ valB x) := by
  obtain ⟨kd, nn, ss⟩ := x
  obtain ⟨i1, i2⟩ := ok
  simp only [valB, List.length_append] at *
  try dsimp only at *
  have HL : Hid _ := hl
  have O0 : Hid (Own base (w.alloc (.cells #[.int .i64 kd, .int .i64 nn, .string ss] 53)) v l) := h.alloc _
  have HK : Hid ((w.alloc (.cells #[.int .i64 kd, .int .i64 nn, .string ss] 53)).heap[w.heap.size]? = some (.cells #[.int .i64 kd, .int .i64 nn, .string ss] 53)) := heap_alloc_new w _
  have HB : Hid (base ≤ (w.alloc (.cells #[.int .i64 kd, .int .i64 nn, .string ss] 53)).heap.size) := by show _ ≤ _; simp; omega
  have T1 : Hid (Calls Tryd.prog 32 #[v, .int .i64 kd] (w.alloc (.cells #[.int .i64 kd, .int .i64 nn, .string ss] 53)).drew fun e w' => ∃ v', e = .returned v' ∧ Hid (w'.heap[w.heap.size]? = some (.cells #[.int .i64 kd, .int .i64 nn, .string ss] 53)) ∧ Hid (Apd base (w.alloc (.cells #[.int .i64 kd, .int .i64 nn, .string ss] 53)) v w' v' (l ++ numB kd))) := by
    refine (num_any (O0.out.drew) HB.out kd i1 (by have := HL.out; (try simp only [List.length_append]); omega)).mono ?_
    rintro e w' ⟨v', rfl, ap⟩
    exact ⟨v', rfl, Apd.box (w := (w.alloc (.cells #[.int .i64 kd, .int .i64 nn, .string ss] 53)).drew) ap O0.out.drew (by decide) HK.out, ap.of_drew⟩
  have T2 : Hid (∀ w1 v1, Hid (w1.heap[w.heap.size]? = some (.cells #[.int .i64 kd, .int .i64 nn, .string ss] 53)) → Hid (Apd base (w.alloc (.cells #[.int .i64 kd, .int .i64 nn, .string ss] 53)) v w1 v1 (l ++ numB kd)) → Calls Tryd.prog 32 #[v1, .int .i64 nn] w1 fun e w' => ∃ v', e = .returned v' ∧ Hid (w'.heap[w.heap.size]? = some (.cells #[.int .i64 kd, .int .i64 nn, .string ss] 53)) ∧ Hid (Apd base (w.alloc (.cells #[.int .i64 kd, .int .i64 nn, .string ss] 53)) v w' v' (l ++ numB kd ++ numB nn))) := by
    intro w1 v1 hk ap1
    refine (num_any (ap1.out.own) (Nat.le_trans HB.out ap1.out.gr.size) nn i2 (by have := HL.out; (try simp only [List.length_append]); omega)).mono ?_
    rintro e w' ⟨v', rfl, ap⟩
    exact ⟨v', rfl, Apd.box ap ap1.out.own (by decide) hk.out, ap1.out.trans ap⟩
  have T3 : Hid (∀ w1 v1, Hid (w1.heap[w.heap.size]? = some (.cells #[.int .i64 kd, .int .i64 nn, .string ss] 53)) → Hid (Apd base (w.alloc (.cells #[.int .i64 kd, .int .i64 nn, .string ss] 53)) v w1 v1 (l ++ numB kd ++ numB nn)) → Calls Tryd.prog 33 #[v1, .string ss] w1 fun e w' => ∃ v', e = .returned v' ∧ Hid (w'.heap[w.heap.size]? = some (.cells #[.int .i64 kd, .int .i64 nn, .string ss] 53)) ∧ Hid (Apd base (w.alloc (.cells #[.int .i64 kd, .int .i64 nn, .string ss] 53)) v w' v' (l ++ numB kd ++ numB nn ++ textB ss))) := by
    intro w1 v1 hk ap1
    refine (refText_any (ap1.out.own) (Nat.le_trans HB.out ap1.out.gr.size) ss (by have := HL.out; (try simp only [List.length_append]); omega)).mono ?_
    rintro e w' ⟨v', rfl, ap⟩
    exact ⟨v', rfl, Apd.box ap ap1.out.own (by decide) hk.out, ap1.out.trans ap⟩
  clear h hl hb O0 HB HL
  go_enter Tryd.func60, Tryd.ntmps60
  go_wp2_with fail
  go_region_held_law (fun u => u.cell? ⟨w.heap.size, 0, none⟩ = some (.int .i64 kd) ∧ u.cell? ⟨w.heap.size, 1, none⟩ = some (.int .i64 nn) ∧ u.cell? ⟨w.heap.size, 2, none⟩ = some (.string ss)) (exact ⟨cell_heap HK.out rfl, cell_heap HK.out rfl, cell_heap HK.out rfl⟩) (first
    | (go_at_call_of 32 kd; refine T1.out.mono ?_; rintro e w1 ⟨v1, rfl, HK, HA⟩)
    | (go_at_call_of 32 nn; refine (T2.out _ _ HK HA).mono ?_; rintro e w1 ⟨v1, rfl, HK, HA⟩)
    | (go_at_call_of 33 ss; refine (T3.out _ _ HK HA).mono ?_; rintro e w1 ⟨v1, rfl, HK, HA⟩))
  go_wp2_with fail
  go_ret
  exact ⟨_, rfl, by have := HA.out.of_alloc; simp only [List.append_assoc] at this; exact this⟩

set_option maxHeartbeats 1000000 in
theorem refLink_any {base : Nat} {w : World} {v : Value} {l : List UInt8} (h : Own base w v l) (hb : base ≤ w.heap.size) (x : LinkT) (ok : x.Ok) (hl : l.length + (linkB x).length + 10 ≤ 140737488355328) :
    Calls Tryd.prog 35 #[v, linkV x] w fun e w' => ∃ v', e = .returned v' ∧ Apd base w v w' v' (l ++ linkB x) := by
  obtain ⟨bk, sh, rw, cl, va⟩ := x
  obtain ⟨i1, i2, i3⟩ := ok
  simp only [linkB, List.length_append] at *
  try dsimp only at *
  have HL : Hid _ := hl
  have O0 : Hid (Own base (w.alloc (.cells #[.string bk, .string sh, .int .i64 rw, .int .i64 cl, .int .i64 va.kind, .int .i64 va.n, .string va.s] 55)) v l) := h.alloc _
  have HK : Hid ((w.alloc (.cells #[.string bk, .string sh, .int .i64 rw, .int .i64 cl, .int .i64 va.kind, .int .i64 va.n, .string va.s] 55)).heap[w.heap.size]? = some (.cells #[.string bk, .string sh, .int .i64 rw, .int .i64 cl, .int .i64 va.kind, .int .i64 va.n, .string va.s] 55)) := heap_alloc_new w _
  have HB : Hid (base ≤ (w.alloc (.cells #[.string bk, .string sh, .int .i64 rw, .int .i64 cl, .int .i64 va.kind, .int .i64 va.n, .string va.s] 55)).heap.size) := by show _ ≤ _; simp; omega
  have T1 : Hid (Calls Tryd.prog 33 #[v, .string bk] (w.alloc (.cells #[.string bk, .string sh, .int .i64 rw, .int .i64 cl, .int .i64 va.kind, .int .i64 va.n, .string va.s] 55)).drew fun e w' => ∃ v', e = .returned v' ∧ Hid (w'.heap[w.heap.size]? = some (.cells #[.string bk, .string sh, .int .i64 rw, .int .i64 cl, .int .i64 va.kind, .int .i64 va.n, .string va.s] 55)) ∧ Hid (Apd base (w.alloc (.cells #[.string bk, .string sh, .int .i64 rw, .int .i64 cl, .int .i64 va.kind, .int .i64 va.n, .string va.s] 55)) v w' v' (l ++ textB bk))) := by
    refine (refText_any (O0.out.drew) HB.out bk (by have := HL.out; (try simp only [List.length_append]); omega)).mono ?_
    rintro e w' ⟨v', rfl, ap⟩
    exact ⟨v', rfl, Apd.box (w := (w.alloc (.cells #[.string bk, .string sh, .int .i64 rw, .int .i64 cl, .int .i64 va.kind, .int .i64 va.n, .string va.s] 55)).drew) ap O0.out.drew (by decide) HK.out, ap.of_drew⟩
  have T2 : Hid (∀ w1 v1, Hid (w1.heap[w.heap.size]? = some (.cells #[.string bk, .string sh, .int .i64 rw, .int .i64 cl, .int .i64 va.kind, .int .i64 va.n, .string va.s] 55)) → Hid (Apd base (w.alloc (.cells #[.string bk, .string sh, .int .i64 rw, .int .i64 cl, .int .i64 va.kind, .int .i64 va.n, .string va.s] 55)) v w1 v1 (l ++ textB bk)) → Calls Tryd.prog 33 #[v1, .string sh] w1 fun e w' => ∃ v', e = .returned v' ∧ Hid (w'.heap[w.heap.size]? = some (.cells #[.string bk, .string sh, .int .i64 rw, .int .i64 cl, .int .i64 va.kind, .int .i64 va.n, .string va.s] 55)) ∧ Hid (Apd base (w.alloc (.cells #[.string bk, .string sh, .int .i64 rw, .int .i64 cl, .int .i64 va.kind, .int .i64 va.n, .string va.s] 55)) v w' v' (l ++ textB bk ++ textB sh))) := by
    intro w1 v1 hk ap1
    refine (refText_any (ap1.out.own) (Nat.le_trans HB.out ap1.out.gr.size) sh (by have := HL.out; (try simp only [List.length_append]); omega)).mono ?_
    rintro e w' ⟨v', rfl, ap⟩
    exact ⟨v', rfl, Apd.box ap ap1.out.own (by decide) hk.out, ap1.out.trans ap⟩
  have T3 : Hid (∀ w1 v1, Hid (w1.heap[w.heap.size]? = some (.cells #[.string bk, .string sh, .int .i64 rw, .int .i64 cl, .int .i64 va.kind, .int .i64 va.n, .string va.s] 55)) → Hid (Apd base (w.alloc (.cells #[.string bk, .string sh, .int .i64 rw, .int .i64 cl, .int .i64 va.kind, .int .i64 va.n, .string va.s] 55)) v w1 v1 (l ++ textB bk ++ textB sh)) → Calls Tryd.prog 32 #[v1, .int .i64 rw] w1 fun e w' => ∃ v', e = .returned v' ∧ Hid (w'.heap[w.heap.size]? = some (.cells #[.string bk, .string sh, .int .i64 rw, .int .i64 cl, .int .i64 va.kind, .int .i64 va.n, .string va.s] 55)) ∧ Hid (Apd base (w.alloc (.cells #[.string bk, .string sh, .int .i64 rw, .int .i64 cl, .int .i64 va.kind, .int .i64 va.n, .string va.s] 55)) v w' v' (l ++ textB bk ++ textB sh ++ numB rw))) := by
    intro w1 v1 hk ap1
    refine (num_any (ap1.out.own) (Nat.le_trans HB.out ap1.out.gr.size) rw i1 (by have := HL.out; (try simp only [List.length_append]); omega)).mono ?_
    rintro e w' ⟨v', rfl, ap⟩
    exact ⟨v', rfl, Apd.box ap ap1.out.own (by decide) hk.out, ap1.out.trans ap⟩
  have T4 : Hid (∀ w1 v1, Hid (w1.heap[w.heap.size]? = some (.cells #[.string bk, .string sh, .int .i64 rw, .int .i64 cl, .int .i64 va.kind, .int .i64 va.n, .string va.s] 55)) → Hid (Apd base (w.alloc (.cells #[.string bk, .string sh, .int .i64 rw, .int .i64 cl, .int .i64 va.kind, .int .i64 va.n, .string va.s] 55)) v w1 v1 (l ++ textB bk ++ textB sh ++ numB rw)) → Calls Tryd.prog 32 #[v1, .int .i64 cl] w1 fun e w' => ∃ v', e = .returned v' ∧ Hid (w'.heap[w.heap.size]? = some (.cells #[.string bk, .string sh, .int .i64 rw, .int .i64 cl, .int .i64 va.kind, .int .i64 va.n, .string va.s] 55)) ∧ Hid (Apd base (w.alloc (.cells #[.string bk, .string sh, .int .i64 rw, .int .i64 cl, .int .i64 va.kind, .int .i64 va.n, .string va.s] 55)) v w' v' (l ++ textB bk ++ textB sh ++ numB rw ++ numB cl))) := by
    intro w1 v1 hk ap1
    refine (num_any (ap1.out.own) (Nat.le_trans HB.out ap1.out.gr.size) cl i2 (by have := HL.out; (try simp only [List.length_append]); omega)).mono ?_
    rintro e w' ⟨v', rfl, ap⟩
    exact ⟨v', rfl, Apd.box ap ap1.out.own (by decide) hk.out, ap1.out.trans ap⟩
  have T5 : Hid (∀ w1 v1, Hid (w1.heap[w.heap.size]? = some (.cells #[.string bk, .string sh, .int .i64 rw, .int .i64 cl, .int .i64 va.kind, .int .i64 va.n, .string va.s] 55)) → Hid (Apd base (w.alloc (.cells #[.string bk, .string sh, .int .i64 rw, .int .i64 cl, .int .i64 va.kind, .int .i64 va.n, .string va.s] 55)) v w1 v1 (l ++ textB bk ++ textB sh ++ numB rw ++ numB cl)) → Calls Tryd.prog 60 #[v1, valV va] w1 fun e w' => ∃ v', e = .returned v' ∧ Hid (w'.heap[w.heap.size]? = some (.cells #[.string bk, .string sh, .int .i64 rw, .int .i64 cl, .int .i64 va.kind, .int .i64 va.n, .string va.s] 55)) ∧ Hid (Apd base (w.alloc (.cells #[.string bk, .string sh, .int .i64 rw, .int .i64 cl, .int .i64 va.kind, .int .i64 va.n, .string va.s] 55)) v w' v' (l ++ textB bk ++ textB sh ++ numB rw ++ numB cl ++ valB va))) := by
    intro w1 v1 hk ap1
    refine (refValue_any (ap1.out.own) (Nat.le_trans HB.out ap1.out.gr.size) va i3 (by have := HL.out; (try simp only [List.length_append]); omega)).mono ?_
    rintro e w' ⟨v', rfl, ap⟩
    exact ⟨v', rfl, Apd.box ap ap1.out.own (by decide) hk.out, ap1.out.trans ap⟩
  clear h hl hb O0 HB HL
  go_enter Tryd.func35, Tryd.ntmps35
  go_wp2_with fail
  go_region_held_law (fun u => u.cell? ⟨w.heap.size, 0, none⟩ = some (.string bk) ∧ u.cell? ⟨w.heap.size, 1, none⟩ = some (.string sh) ∧ u.cell? ⟨w.heap.size, 2, none⟩ = some (.int .i64 rw) ∧ u.cell? ⟨w.heap.size, 3, none⟩ = some (.int .i64 cl) ∧ u.cell? ⟨w.heap.size, 4, none⟩ = some (.int .i64 va.kind) ∧ u.cell? ⟨w.heap.size, 5, none⟩ = some (.int .i64 va.n) ∧ u.cell? ⟨w.heap.size, 6, none⟩ = some (.string va.s)) (exact ⟨cell_heap HK.out rfl, cell_heap HK.out rfl, cell_heap HK.out rfl, cell_heap HK.out rfl, cell_heap HK.out rfl, cell_heap HK.out rfl, cell_heap HK.out rfl⟩) (first
    | (go_at_call_of 33 bk; refine T1.out.mono ?_; rintro e w1 ⟨v1, rfl, HK, HA⟩)
    | (go_at_call_of 33 sh; refine (T2.out _ _ HK HA).mono ?_; rintro e w1 ⟨v1, rfl, HK, HA⟩)
    | (go_at_call_of 32 rw; refine (T3.out _ _ HK HA).mono ?_; rintro e w1 ⟨v1, rfl, HK, HA⟩)
    | (go_at_call_of 32 cl; refine (T4.out _ _ HK HA).mono ?_; rintro e w1 ⟨v1, rfl, HK, HA⟩)
    | (go_at_call 60; refine (T5.out _ _ HK HA).mono ?_; rintro e w1 ⟨v1, rfl, HK, HA⟩))
  go_wp2_with fail
  go_ret
  exact ⟨_, rfl, by have := HA.out.of_alloc; simp only [List.append_assoc] at this; exact this⟩

end Go.Proofs.YtcheikpmhdliiaaDoor

/- The contract of the reference's cells. -/
namespace Go.Proofs.YtcheikpmhdliiaaDoor
open Go.RowKit
set_option maxRecDepth 100000

set_option maxHeartbeats 2000000 in
theorem refCells_any {base lo hi : Nat} {w : World} {v : Value} {l : List UInt8} (h : Own base w v l) (hb : base ≤ w.heap.size) {iv : Value} {L : List CellT} (hs : Cls lo hi w iv L) (hhi : hi ≤ base) (hn : ∀ c ∈ L, c.Ok) (hl : l.length + (lstB cellB L).length + 10 ≤ 140737488355328) :
    Calls Tryd.prog 34 #[v, iv] w fun e w' => ∃ v', e = .returned v' ∧ Apd base w v w' v' (l ++ lstB cellB L) := by
  have H : Hid (Own base w v l) := h
  have HS : Hid (∀ w', Below base w w' → Cls lo hi w' iv L) := fun w' hw => hs.below hhi hw
  have hg := flatMap_ge cellB_pos L
  simp only [lstB, List.length_append] at hl
  have P1 := num_any h hb L.length (by constructor <;> omega) (by omega)
  obtain ⟨a, c, rfl, _, _⟩ := hs.slice
  have HL0 : Hid (l.length + ((numB L.length).length + (L.flatMap cellB).length) + 10 ≤ 140737488355328) := hl
  have hlen : L.length ≤ 140737488355328 := by omega
  clear h hs hl hg
  go_enter Tryd.func34, Tryd.ntmps34
  go_wp2_with (go_at_call 32; refine P1.mono ?_; rintro e w1 ⟨v1, rfl, ap1⟩)
  have HP : Hid (Apd base w v w1 v1 (l ++ numB L.length)) := ap1
  clear P1 ap1
  go_loopw [0, 13] (fun u0 u13 wr => ∃ k : Nat, u13 = .int .i64 k ∧ k ≤ L.length ∧ Hid (Apd base w v wr u0 (l ++ (numB L.length ++ (L.take k).flatMap cellB)))) (fun _ u13 _ => L.length - (intOf u13).toNat)
  case atStart => exact ⟨0, rfl, by omega, by show Apd _ _ _ _ _ _; simpa using HP.out⟩
  case round =>
    obtain ⟨k, rfl, hk, HD⟩ := hrel
    clear HP
    by_cases hlt : k < L.length
    · obtain ⟨a', rfl, c0, c1, c2⟩ := (HS.out wr (HD.out.below H.out hb)).at hlt
      have hw : base ≤ wr.heap.size := Nat.le_trans hb HD.out.gr.size
      have ok := hn _ (List.getElem_mem hlt)
      have HL1 : ((L.take k).flatMap cellB).length + (cellB L[k]).length ≤ (L.flatMap cellB).length := flatMap_part cellB L k hlt
      have HF : Hid (((L.take k).flatMap cellB ++ cellB L[k]) = (L.take (k + 1)).flatMap cellB) := (flatMap_snoc cellB L k hlt).symm
      generalize L[k] = x at *
      obtain ⟨rw, cl, tx⟩ := x
      obtain ⟨i1, i2⟩ := ok
      dsimp only at *
      simp only [cellB, List.length_append] at HL1
      have HL : Hid (l.length + ((numB L.length).length + (((L.take k).flatMap cellB).length + ((numB rw).length + ((numB cl).length + (textB tx).length)))) + 10 ≤ 140737488355328) := by
        have := HL0.out
        show _ ≤ _
        omega
      have O0 : Hid (Own base (wr.alloc (.cells #[.int .i64 rw, .int .i64 cl, .string tx] 104)) u0 (l ++ (numB L.length ++ (L.take k).flatMap cellB))) := HD.out.own.alloc _
      have HK : Hid ((wr.alloc (.cells #[.int .i64 rw, .int .i64 cl, .string tx] 104)).heap[wr.heap.size]? = some (.cells #[.int .i64 rw, .int .i64 cl, .string tx] 104)) := heap_alloc_new wr _
      have HB : Hid (base ≤ (wr.alloc (.cells #[.int .i64 rw, .int .i64 cl, .string tx] 104)).heap.size) := by show _ ≤ _; simp; omega
      have T1 : Hid (Calls Tryd.prog 32 #[u0, .int .i64 rw] (wr.alloc (.cells #[.int .i64 rw, .int .i64 cl, .string tx] 104)).drew fun e w' => ∃ v', e = .returned v' ∧ Hid (w'.heap[wr.heap.size]? = some (.cells #[.int .i64 rw, .int .i64 cl, .string tx] 104)) ∧ Hid (Apd base (wr.alloc (.cells #[.int .i64 rw, .int .i64 cl, .string tx] 104)) u0 w' v' (l ++ (numB L.length ++ (L.take k).flatMap cellB) ++ numB rw))) := by
        refine (num_any (O0.out.drew) HB.out rw i1 (by have := HL.out; (try simp only [List.length_append]); omega)).mono ?_
        rintro e w' ⟨v', rfl, ap⟩
        exact ⟨v', rfl, Apd.box (w := (wr.alloc (.cells #[.int .i64 rw, .int .i64 cl, .string tx] 104)).drew) ap O0.out.drew (by decide) HK.out, ap.of_drew⟩
      have T2 : Hid (∀ w1 v1, Hid (w1.heap[wr.heap.size]? = some (.cells #[.int .i64 rw, .int .i64 cl, .string tx] 104)) → Hid (Apd base (wr.alloc (.cells #[.int .i64 rw, .int .i64 cl, .string tx] 104)) u0 w1 v1 (l ++ (numB L.length ++ (L.take k).flatMap cellB) ++ numB rw)) → Calls Tryd.prog 32 #[v1, .int .i64 cl] w1 fun e w' => ∃ v', e = .returned v' ∧ Hid (w'.heap[wr.heap.size]? = some (.cells #[.int .i64 rw, .int .i64 cl, .string tx] 104)) ∧ Hid (Apd base (wr.alloc (.cells #[.int .i64 rw, .int .i64 cl, .string tx] 104)) u0 w' v' (l ++ (numB L.length ++ (L.take k).flatMap cellB) ++ numB rw ++ numB cl))) := by
        intro w1 v1 hk ap1
        refine (num_any (ap1.out.own) (Nat.le_trans HB.out ap1.out.gr.size) cl i2 (by have := HL.out; (try simp only [List.length_append]); omega)).mono ?_
        rintro e w' ⟨v', rfl, ap⟩
        exact ⟨v', rfl, Apd.box ap ap1.out.own (by decide) hk.out, ap1.out.trans ap⟩
      have T3 : Hid (∀ w1 v1, Hid (w1.heap[wr.heap.size]? = some (.cells #[.int .i64 rw, .int .i64 cl, .string tx] 104)) → Hid (Apd base (wr.alloc (.cells #[.int .i64 rw, .int .i64 cl, .string tx] 104)) u0 w1 v1 (l ++ (numB L.length ++ (L.take k).flatMap cellB) ++ numB rw ++ numB cl)) → Calls Tryd.prog 33 #[v1, .string tx] w1 fun e w' => ∃ v', e = .returned v' ∧ Hid (w'.heap[wr.heap.size]? = some (.cells #[.int .i64 rw, .int .i64 cl, .string tx] 104)) ∧ Hid (Apd base (wr.alloc (.cells #[.int .i64 rw, .int .i64 cl, .string tx] 104)) u0 w' v' (l ++ (numB L.length ++ (L.take k).flatMap cellB) ++ numB rw ++ numB cl ++ textB tx))) := by
        intro w1 v1 hk ap1
        refine (refText_any (ap1.out.own) (Nat.le_trans HB.out ap1.out.gr.size) tx (by have := HL.out; (try simp only [List.length_append]); omega)).mono ?_
        rintro e w' ⟨v', rfl, ap⟩
        exact ⟨v', rfl, Apd.box ap ap1.out.own (by decide) hk.out, ap1.out.trans ap⟩
      have hk63 : k < 9223372036854775807 := by omega
      clear hw O0 HB HL HL1 i1 i2
      go_wp2_with fail
      go_region_held_law (fun u => u.cell? ⟨wr.heap.size, 0, none⟩ = some (.int .i64 rw) ∧ u.cell? ⟨wr.heap.size, 1, none⟩ = some (.int .i64 cl) ∧ u.cell? ⟨wr.heap.size, 2, none⟩ = some (.string tx)) (exact ⟨cell_heap HK.out rfl, cell_heap HK.out rfl, cell_heap HK.out rfl⟩) (first
        | (go_at_call_of 32 rw; refine T1.out.mono ?_; rintro e w1 ⟨v1, rfl, HK, HA⟩)
        | (go_at_call_of 32 cl; refine (T2.out _ _ HK HA).mono ?_; rintro e w1 ⟨v1, rfl, HK, HA⟩)
        | (go_at_call_of 33 tx; refine (T3.out _ _ HK HA).mono ?_; rintro e w1 ⟨v1, rfl, HK, HA⟩))
      have HD2 : Hid (Apd base w v w1 v1 (l ++ (numB L.length ++ (L.take (k + 1)).flatMap cellB))) := by
        have := HD.out.trans HA.out.of_alloc
        rw [← HF.out]
        simp only [cellB, List.append_assoc] at this ⊢
        exact this
      clear HA HK HD HF T1 T2 T3
      go_wp2_with fail
      go_roundw
      case rel => exact ⟨k + 1, by go_num, by omega, HD2⟩
      case measure => simp [intOf]; omega
    · have HD2 : Hid (Apd base w v wr u0 (l ++ lstB cellB L)) := by
        have := HD.out
        rw [List.take_of_length_le (by omega)] at this
        exact this
      clear HD
      go_wp2_with fail
      go_ret
      exact ⟨u0, rfl, HD2.out⟩

end Go.Proofs.YtcheikpmhdliiaaDoor
