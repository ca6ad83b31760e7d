/- A shift and two numbers that are handed in, opened; no walk. -/
import Derived.Test.YteafldbmeekpbaaHPure
import Derived.ProofKit
import Derived.SizedLaws
import Derived.OpenShut
import Derived.ChangeSame
namespace Go.Proofs.Yteafldbmeekpbaa
open Go.ChangeShapes Go.WideShapes Go.ChangeAt Go.WideElems Go.RowKit
set_option maxRecDepth 100000
set_option linter.unusedVariables false
theorem wf_u64 {n : Int} (h : (Lit.int .u64 n).wf = true) : 0 ≤ n ∧ n < 18446744073709551616 := by
  have h1 : IntKind.u64.min = 0 := rfl
  have h2 : IntKind.u64.max = 18446744073709551615 := rfl
  simp [Lit.wf] at h
  omega
theorem arr2 {xs : Array Value} (h : xs.size = 2) : ∃ a b, xs = #[a, b] := by
  match xs, h with
  | ⟨[a, b]⟩, _ => exact ⟨a, b, rfl⟩
theorem arr3 {xs : Array Value} (h : xs.size = 3) : ∃ a b c, xs = #[a, b, c] := by
  match xs, h with
  | ⟨[a, b, c]⟩, _ => exact ⟨a, b, c, rfl⟩
theorem cells23 : Try.prog.cellsOf 23 = 3 := by kernel_rfl
theorem cells24 : Try.prog.cellsOf 24 = 2 := by kernel_rfl
theorem cells49 : Try.prog.cellsOf 49 = 2 := by kernel_rfl
theorem cells3 : Try.prog.cellsOf 3 = 1 := by kernel_rfl
theorem cells47 : Try.prog.cellsOf 47 = 1 := by kernel_rfl
section
variable {H : Type} {enc : TypeId × Value → H} {w : World} {base : Nat} {spare : Nat → Bool} {held : Bool}
theorem open_sh {r : Reach} {b0 : Nat} {v : Value} {d : DataW H} {p : List MemPlace} (hv : Value.okWide Try.prog w r b0 23 v) (h : DataW.Trod enc Try.prog w base spare held 23 v d p) :
    ∃ (a n m : Int), v = shV a n m := by
  obtain ⟨cs, rfl, hsz⟩ := okWide_struct Try.underlying23 hv
  obtain ⟨c0, c1, c2, rfl⟩ := arr3 (hsz.trans cells23)
  obtain ⟨fuel, hf⟩ := h
  obtain ⟨xs, n, _, _, hl, hlen, hfld⟩ := DataW.trod_struct Try.underlying23 hf
  have get : ∀ (i : Nat) (f : Field), _ → i < 3 → ∃ y, DataW.trod enc Try.prog w base spare held n f.type (((Value.agg #[c0, c1, c2]).cells.toList.drop f.offset).take (Try.prog.cellsOf f.type)) = some y :=
    fun i f hf hi => ⟨_, (hfld i f hf).trans (List.getElem?_eq_getElem (by rw [hlen]; exact hi))⟩
  obtain ⟨y0, h0⟩ := get 0 _ rfl (by decide)
  obtain ⟨y1, h1⟩ := get 1 _ rfl (by decide)
  obtain ⟨y2, h2⟩ := get 2 _ rfl (by decide)
  obtain ⟨r0, e0, _⟩ := DataW.trod_int Try.underlying3 h0
  obtain ⟨r1, e1, _⟩ := DataW.trod_int Try.underlying3 h1
  obtain ⟨r2, e2, _⟩ := DataW.trod_int Try.underlying3 h2
  simp [Value.cells, cells3] at e0 e1 e2
  subst e0 e1 e2
  exact ⟨r0, r1, r2, rfl⟩
theorem okWide_two {e : TypeId} {t : TypeId} (ht : Try.prog.underlying t = some (.array 2 e)) (hc : Try.prog.cellsOf t = 2) {r : Reach} {b0 : Nat} {v : Value} (h : Value.okWide Try.prog w r b0 t v) : ∃ a b, v = .agg #[a, b] := by
  simp only [Value.okWide, ht] at h
  obtain ⟨cs, rfl, h2, _⟩ := h
  obtain ⟨a, b, rfl⟩ := arr2 (h2.trans hc)
  exact ⟨a, b, rfl⟩
theorem open_two {e t : TypeId} {k : IntKind} (ht : Try.prog.underlying t = some (.array 2 e)) (he : Try.prog.underlying e = some (.int k)) (hc : Try.prog.cellsOf t = 2) (hce : Try.prog.cellsOf e = 1) {r : Reach} {b0 : Nat} {v : Value} {d : DataW H} {p : List MemPlace} (hv : Value.okWide Try.prog w r b0 t v) (h : DataW.Trod enc Try.prog w base spare held t v d p) :
    ∃ (x y : Int), v = .agg #[.int k x, .int k y] ∧ (Lit.int k x).wf = true ∧ (Lit.int k y).wf = true := by
  obtain ⟨c0, c1, rfl⟩ := okWide_two ht hc hv
  obtain ⟨fuel, hf⟩ := h
  obtain ⟨xs, n, _, _, hl, hlen, hel⟩ := DataW.trod_array ht hf
  have get : ∀ i, i < 2 → ∃ y, DataW.trod enc Try.prog w base spare held n e (((Value.agg #[c0, c1]).cells.toList.drop (i * Try.prog.cellsOf e)).take (Try.prog.cellsOf e)) = some y :=
    fun i hi => ⟨_, (hel i hi).trans (List.getElem?_eq_getElem (by rw [hlen]; exact hi))⟩
  obtain ⟨y0, h0⟩ := get 0 (by decide)
  obtain ⟨y1, h1⟩ := get 1 (by decide)
  obtain ⟨r0, e0, _, w0⟩ := DataW.trod_int he h0
  obtain ⟨r1, e1, _, w1⟩ := DataW.trod_int he h1
  simp [Value.cells, hce] at e0 e1
  subst e0 e1
  exact ⟨r0, r1, rfl, w0, w1⟩
end
end Go.Proofs.Yteafldbmeekpbaa
