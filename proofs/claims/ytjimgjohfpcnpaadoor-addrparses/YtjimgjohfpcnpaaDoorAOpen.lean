/- A ref and a place that are handed in. -/
import Derived.Test.YtjimgjohfpcnpaaDoorALaid
namespace Go.Proofs.YtjimgjohfpcnpaaDoor
open Go.ChangeShapes Go.WideShapes Go.ChangeAt Go.WideElems Go.RowKit
set_option linter.unusedSimpArgs false
set_option maxRecDepth 100000
set_option linter.unusedVariables false
theorem cells3 : Tryd.prog.cellsOf 3 = 1 := by kernel_rfl
theorem cells4 : Tryd.prog.cellsOf 4 = 1 := by kernel_rfl
theorem cells23 : Tryd.prog.cellsOf 23 = 6 := by kernel_rfl
theorem cells36 : Tryd.prog.cellsOf 36 = 4 := by kernel_rfl
theorem arr6 {α : Type} {cs : Array α} (h : cs.size = 6) : ∃ c0 c1 c2 c3 c4 c5, cs = #[c0, c1, c2, c3, c4, c5] := by
  obtain ⟨l⟩ := cs
  match l, h with
  | [c0, c1, c2, c3, c4, c5], _ => exact ⟨c0, c1, c2, c3, c4, c5, rfl⟩
theorem arr4 {α : Type} {cs : Array α} (h : cs.size = 4) : ∃ c0 c1 c2 c3, cs = #[c0, c1, c2, c3] := by
  obtain ⟨l⟩ := cs
  match l, h with
  | [c0, c1, c2, c3], _ => exact ⟨c0, c1, c2, c3, rfl⟩
section
variable {H : Type} {enc : TypeId × Value → H} {w : World} {base : Nat} {spare : Nat → Bool} {held : Bool}
theorem open_ref {r : Reach} {b0 : Nat} {v : Value} {d : DataW H} {p : List MemPlace} (hv : Value.okWide Tryd.prog w r b0 23 v) (h : DataW.Trod enc Tryd.prog w base spare held 23 v d p) :
    ∃ (b s : ByteArray) (r c : Int) (fr fc : Bool), v = refV b s r c fr fc ∧ b.size ≤ maxLen ∧ s.size ≤ maxLen := by
  obtain ⟨cs, rfl, hsz⟩ := okWide_struct Tryd.underlying23 hv
  obtain ⟨c0, c1, c2, c3, c4, c5, rfl⟩ := arr6 (hsz.trans cells23)
  obtain ⟨fuel, hf⟩ := h
  obtain ⟨xs, n, _, _, hl, hlen, hfld⟩ := DataW.trod_struct Tryd.underlying23 hf
  have get : ∀ (i : Nat) (f : Field), _ → i < 6 → ∃ y, DataW.trod enc Tryd.prog w base spare held n f.type (((Value.agg #[c0, c1, c2, c3, c4, c5]).cells.toList.drop f.offset).take (Tryd.prog.cellsOf f.type)) = some y :=
    fun i f hf hi => ⟨_, (hfld i f hf).trans (List.getElem?_eq_getElem (by rw [hlen]; exact hi))⟩
  obtain ⟨y0, h0⟩ := get 0 _ rfl (by decide)
  obtain ⟨y1, h1⟩ := get 1 _ rfl (by decide)
  obtain ⟨y2, h2⟩ := get 2 _ rfl (by decide)
  obtain ⟨y3, h3⟩ := get 3 _ rfl (by decide)
  obtain ⟨y4, h4⟩ := get 4 _ rfl (by decide)
  obtain ⟨y5, h5⟩ := get 5 _ rfl (by decide)
  obtain ⟨b, e0, _, w0⟩ := DataW.trod_string Tryd.underlying9 h0
  obtain ⟨s, e1, _, w1⟩ := DataW.trod_string Tryd.underlying9 h1
  obtain ⟨r', e2, _⟩ := DataW.trod_int Tryd.underlying3 h2
  obtain ⟨c', e3, _⟩ := DataW.trod_int Tryd.underlying3 h3
  obtain ⟨fr, e4, _⟩ := DataW.trod_bool Tryd.underlying4 h4
  obtain ⟨fc, e5, _⟩ := DataW.trod_bool Tryd.underlying4 h5
  simp [Value.cells, cells9] at e0 e1
  simp [Value.cells, cells3] at e2 e3
  simp [Value.cells, cells4] at e4 e5
  subst e0 e1 e2 e3 e4 e5
  exact ⟨b, s, r', c', fr, fc, rfl, w0, w1⟩
theorem open_plc {r : Reach} {b0 : Nat} {v : Value} {d : DataW H} {p : List MemPlace} (hv : Value.okWide Tryd.prog w r b0 36 v) (h : DataW.Trod enc Tryd.prog w base spare held 36 v d p) :
    ∃ (b s : ByteArray) (r c : Int), v = plcV b s r c := by
  obtain ⟨cs, rfl, hsz⟩ := okWide_struct Tryd.underlying36 hv
  obtain ⟨c0, c1, c2, c3, rfl⟩ := arr4 (hsz.trans cells36)
  obtain ⟨fuel, hf⟩ := h
  obtain ⟨xs, n, _, _, hl, hlen, hfld⟩ := DataW.trod_struct Tryd.underlying36 hf
  have get : ∀ (i : Nat) (f : Field), _ → i < 4 → ∃ y, DataW.trod enc Tryd.prog w base spare held n f.type (((Value.agg #[c0, c1, c2, c3]).cells.toList.drop f.offset).take (Tryd.prog.cellsOf f.type)) = some y :=
    fun i f hf hi => ⟨_, (hfld i f hf).trans (List.getElem?_eq_getElem (by rw [hlen]; exact hi))⟩
  obtain ⟨y0, h0⟩ := get 0 _ rfl (by decide)
  obtain ⟨y1, h1⟩ := get 1 _ rfl (by decide)
  obtain ⟨y2, h2⟩ := get 2 _ rfl (by decide)
  obtain ⟨y3, h3⟩ := get 3 _ rfl (by decide)
  obtain ⟨b, e0, _, w0⟩ := DataW.trod_string Tryd.underlying9 h0
  obtain ⟨s, e1, _, w1⟩ := DataW.trod_string Tryd.underlying9 h1
  obtain ⟨r', e2, _⟩ := DataW.trod_int Tryd.underlying3 h2
  obtain ⟨c', e3, _⟩ := DataW.trod_int Tryd.underlying3 h3
  simp [Value.cells, cells9] at e0 e1
  simp [Value.cells, cells3] at e2 e3
  subst e0 e1 e2 e3
  exact ⟨b, s, r', c', rfl⟩
end
end Go.Proofs.YtjimgjohfpcnpaaDoor
