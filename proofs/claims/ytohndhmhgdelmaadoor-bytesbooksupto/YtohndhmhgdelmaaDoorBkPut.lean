/- The contracts of putBook and of bytes.Book. -/
import Derived.Test.YtohndhmhgdelmaaDoorBkPutN
import Derived.Test.YtohndhmhgdelmaaDoorBkPutL
import Derived.Test.YtohndhmhgdelmaaDoorBkPutS
namespace Go.Proofs.YtohndhmhgdelmaaDoor
open Go.RowKit
set_option maxRecDepth 100000
set_option linter.unusedVariables false

set_option maxHeartbeats 2000000 in
theorem putBook_any {base : Nat} {w : World} {v : Value} {l : List UInt8} (h : Own base w v l) (hb : base ≤ w.heap.size) (x : BookT) (ok : x.Ok) {lo hi : Nat} {sv nv lv : Value} (hs : BkM lo hi w sv nv lv x) (hhi : hi ≤ base) (hl : l.length + (bookB x).length + 10 ≤ 140737488355328) :
    Calls Tryd.prog 23 #[v, .agg #[sv, nv, lv]] w fun e w' => ∃ v', e = .returned v' ∧ Apd base w v w' v' (l ++ bookB x) := by
  simp only [bookB, List.length_append] at *
  have o0 := h.alloc (.cells #[sv, nv, lv] 26)
  have b0 : Hid ((w.alloc (.cells #[sv, nv, lv] 26)).heap[w.heap.size]? = some (.cells #[sv, nv, lv] 26)) := heap_alloc_new w _
  have O0 : Hid _ := o0
  have HL : Hid _ := hl
  have HB : Hid (base ≤ (w.alloc (.cells #[sv, nv, lv] 26)).heap.size) := by show _ ≤ _; simp; omega
  have HS : Hid (∀ w', Below base (w.alloc (.cells #[sv, nv, lv] 26)) w' → BkM lo hi w' sv nv lv x) := fun w' hw => (hs.below hhi ((Below.refl base w).alloc hb _)).below hhi hw
  obtain ⟨sa, sc, rfl, _, _⟩ := hs.sh.slice
  obtain ⟨na, nc, rfl, _, _⟩ := hs.nm.slice
  obtain ⟨la, lc, rfl, _, _⟩ := hs.lk.slice
  clear hs
  have C1 := putSheets_any (O0.out) HB.out (HS.out _ (Below.refl _ _)).sh hhi ok.1 (by have := HL.out; (try simp only [List.length_append]); omega)
  clear h o0 hl hb
  go_enter Tryd.func23, Tryd.ntmps23
  go_wp2_with fail
  refine C1.mono ?_
  rintro e w1 ⟨v1, rfl, a1⟩
  have b1 : Hid _ := a1.box (O0.out) (by decide) b0.out
  have x1_1 := cell_heap b1.out (j := 1) rfl
  have A1 : Hid _ := a1
  have C2 := putNames_any (A1.out.own) (Nat.le_trans HB.out A1.out.gr.size) (HS.out _ (A1.out.below O0.out HB.out)).nm hhi (by have := HL.out; (try simp only [List.length_append]); omega)
  clear C1 a1 b0
  go_wp2_with fail
  refine C2.mono ?_
  rintro e w2 ⟨v2, rfl, a2⟩
  have b2 : Hid _ := a2.box (A1.out.own) (by decide) b1.out
  have x2_2 := cell_heap b2.out (j := 2) rfl
  have A2 : Hid _ := A1.out.trans a2
  have C3 := putLinks_any (A2.out.own) (Nat.le_trans HB.out A2.out.gr.size) (HS.out _ (A2.out.below O0.out HB.out)).lk hhi ok.2 (by have := HL.out; (try simp only [List.length_append]); omega)
  clear C2 a2 A1 b1 x1_1
  go_wp2_with fail
  refine C3.mono ?_
  rintro e w3 ⟨v3, rfl, a3⟩
  have A3 : Hid _ := A2.out.trans a3
  clear C3 a3 A2 b2 x2_2
  go_wp2_with fail
  go_ret
  exact ⟨v3, rfl, by have := A3.out.of_alloc; simp only [List.append_assoc] at this; exact this⟩

set_option maxHeartbeats 1000000 in
theorem book_any {lo hi : Nat} {w : World} {sv nv lv : Value} {x : BookT} (hs : BkM lo hi w sv nv lv x) (hhi : hi ≤ w.heap.size) (ok : x.Ok) (hl : (bookB x).length + 10 ≤ 140737488355328) :
    Calls Tryd.prog 7 #[.agg #[sv, nv, lv]] w fun e w' => ∃ v', e = .returned v' ∧ Own w.heap.size w' v' (bookB x) ∧ Below w.heap.size w w' := by
  obtain ⟨sa, sc, rfl, _, _⟩ := hs.sh.slice
  obtain ⟨na, nc, rfl, _, _⟩ := hs.nm.slice
  obtain ⟨la, lc, rfl, _, _⟩ := hs.lk.slice
  have hB : Below w.heap.size w (w.alloc (.cells #[.slice sa x.sheets.length sc, .slice na x.names.length nc, .slice la x.links.length lc] 26)) := (Below.refl _ _).alloc (Nat.le_refl _) _
  have P := putBook_any (Own.nil (w.alloc (.cells #[.slice sa x.sheets.length sc, .slice na x.names.length nc, .slice la x.links.length lc] 26)) w.heap.size) (by simp) x ok (hs.below hhi hB) hhi (by simpa using hl)
  have b0 : Hid ((w.alloc (.cells #[.slice sa x.sheets.length sc, .slice na x.names.length nc, .slice la x.links.length lc] 26)).heap[w.heap.size]? = some (.cells #[.slice sa x.sheets.length sc, .slice na x.names.length nc, .slice la x.links.length lc] 26)) := heap_alloc_new w _
  have HB : Hid _ := hB
  clear hs hl hB
  go_enter Tryd.func7, Tryd.ntmps7
  go_wp2_with (go_at_call 23; refine P.mono ?_; rintro e w2 ⟨v2, rfl, ap2⟩)
  go_ret
  exact ⟨v2, rfl, by simpa using ap2.own, HB.out.trans (ap2.below (Own.nil _ _) (by simp))⟩

end Go.Proofs.YtohndhmhgdelmaaDoor
