/- A book that is handed in, opened; how many bytes it has at the most; no walk. -/
import Derived.Test.YtohndhmhgdelmaaDoorOpOpens
import Derived.Test.YtohndhmhgdelmaaDoorBkMem
namespace Go.Proofs.YtohndhmhgdelmaaDoor
open Go.ChangeShapes Go.WideShapes Go.ChangeAt Go.WideElems Go.RowKit Go.Deep
set_option maxRecDepth 100000
set_option linter.unusedVariables false

section
variable {H : Type} {enc : TypeId × Value → H} {W : World} {sp : Nat → Bool} {held : Bool}
theorem sheet_open {fuel : Nat} {cs : List Value} {y : DataW H × List MemPlace} (h : DataW.trod enc Tryd.prog W 0 sp held fuel 52 cs = some y) : ∃ c : SheetT × Value, cs = sheetC c.1 c.2 ∧ (c.1.Ok ∧ Cls 0 W.heap.size W c.2 c.1.cells) ∧ (sheetB c.1).length ≤ 10 * Rows.uptoBulk y.1 := by
  obtain ⟨xs, n, _, rfl, hl, hxl, hf⟩ := DataW.trod_struct Tryd.underlying52 h
  have hl3 : cs.length = 2 := hl.trans (by kernel_rfl)
  match xs, hxl, cs, hl3 with
  | [y0, y1], _, [v0, v1], _ =>
    obtain ⟨s0, e0, q0, w0⟩ := DataW.trod_string Tryd.underlying9 (hf 0 _ rfl)
    obtain ⟨L, hc, k1, b1⟩ := cls_open (v := v1) (x := y1) (hf 1 _ rfl)
    cases e0
    refine ⟨(⟨s0, L⟩, v1), rfl, ⟨k1, hc⟩, ?_⟩
    subst q0
    have b0 := text_bulk (H := H) s0 w0
    simp only [sheetB, List.length_append, List.map_cons, List.map_nil, Rows.uptoBulk, Rows.uptoBulkAll] at *
    omega
theorem nms_open {fuel : Nat} {v : Value} {x : DataW H × List MemPlace} (h : DataW.trod enc Tryd.prog W 0 sp held fuel 23 [v] = some x) : ∃ L, Nms 0 W.heap.size W v L ∧ (lstB nameB L).length ≤ 10 * Rows.uptoBulk x.1 := by
  obtain ⟨L, h1, h2, _, h3, _⟩ := rws_open (C := nameC) (B := nameB) (Q := fun _ => True) Tryd.underlying23 (sz := 3) (by kernel_rfl) (by decide) (fun h => by obtain ⟨c, e, b⟩ := name_open h; exact ⟨c, e, trivial, b⟩) h
  exact ⟨L, h1, h3⟩
theorem lks_open {fuel : Nat} {v : Value} {x : DataW H × List MemPlace} (h : DataW.trod enc Tryd.prog W 0 sp held fuel 24 [v] = some x) : ∃ L, Lks 0 W.heap.size W v L ∧ (∀ c ∈ L, c.Ok) ∧ (lstB linkB L).length ≤ 10 * Rows.uptoBulk x.1 := by
  obtain ⟨L, h1, h2, _, h3, _⟩ := rws_open (C := linkC) (B := linkB) (Q := LinkT.Ok) Tryd.underlying24 (sz := 7) (by kernel_rfl) (by decide) link_open h
  refine ⟨L, h1, fun c hc => ?_, h3⟩
  obtain ⟨j, hj⟩ := List.getElem?_of_mem hc
  exact (h2 j c hj).2
theorem shs_open {fuel : Nat} {v : Value} {x : DataW H × List MemPlace} (h : DataW.trod enc Tryd.prog W 0 sp held fuel 22 [v] = some x) : ∃ L, Shs 0 W.heap.size W v L ∧ (∀ c ∈ L, c.Ok) ∧ (lstB sheetB L).length ≤ 10 * Rows.uptoBulk x.1 := by
  obtain ⟨L, h1, h2, _, h3, _⟩ := rws_open (C := fun c : SheetT × Value => sheetC c.1 c.2) (B := fun c => sheetB c.1) (Q := fun c => c.1.Ok ∧ Cls 0 W.heap.size W c.2 c.1.cells) Tryd.underlying22 (sz := 2) (by kernel_rfl) (by decide) sheet_open h
  refine ⟨L.map (·.1), ⟨fun j => ((L[j]?).map (·.2)).getD (.slice none 0 0), ?_, fun j o hj => ?_⟩, fun c hc => ?_, ?_⟩
  · rw [List.length_map]
    refine Rws.congr h1 fun j hj => ?_
    simp [sheetsC, List.getElem?_eq_getElem hj]
  · rw [List.getElem?_map] at hj
    rcases hq : L[j]? with _ | c
    · rw [hq] at hj; cases hj
    · rw [hq] at hj
      cases hj
      dsimp only
      rw [hq]
      exact (h2 j c hq).2.2
  · obtain ⟨y, hy, rfl⟩ := List.mem_map.1 hc
    obtain ⟨j, hj⟩ := List.getElem?_of_mem hy
    exact (h2 j y hj).2.1
  · simpa [lstB, List.flatMap_map] using h3
theorem book_open {fuel : Nat} {cs : List Value} {y : DataW H × List MemPlace} (h : DataW.trod enc Tryd.prog W 0 sp held fuel 26 cs = some y) : ∃ sv nv lv x, cs = [sv, nv, lv] ∧ BkM 0 W.heap.size W sv nv lv x ∧ x.Ok ∧ (bookB x).length ≤ 10 * Rows.uptoBulk y.1 := by
  obtain ⟨xs, n, _, rfl, hl, hxl, hf⟩ := DataW.trod_struct Tryd.underlying26 h
  have hl3 : cs.length = 3 := hl.trans (by kernel_rfl)
  match xs, hxl, cs, hl3 with
  | [y0, y1, y2], _, [v0, v1, v2], _ =>
    obtain ⟨L0, h0, k0, b0⟩ := shs_open (v := v0) (x := y0) (hf 0 _ rfl)
    obtain ⟨L1, h1, b1⟩ := nms_open (v := v1) (x := y1) (hf 1 _ rfl)
    obtain ⟨L2, h2, k2, b2⟩ := lks_open (v := v2) (x := y2) (hf 2 _ rfl)
    refine ⟨v0, v1, v2, ⟨L0, L1, L2⟩, rfl, ⟨h0, h1, h2⟩, ⟨k0, k2⟩, ?_⟩
    simp only [bookB, List.length_append, List.map_cons, List.map_nil, Rows.uptoBulk, Rows.uptoBulkAll] at *
    omega
end
end Go.Proofs.YtohndhmhgdelmaaDoor
