/- SOpen2. -/
import Derived.Test.YtpafokmkcblcnaaGreatDoorSRw2Cr
import Derived.Test.YtpafokmkcblcnaaGreatDoorSRwCr
import Derived.ChangeArms
import Derived.ChangeOld
import Derived.WideShapes
set_option linter.unusedVariables false
set_option linter.unusedSimpArgs false
namespace Go.Proofs.YtpafokmkcblcnaaGreatDoor.Sh
open Go.ChangeShapes Go.WideShapes Go.ChangeAt Go.WideElems Go.RowKit Go.Deep
set_option maxRecDepth 100000
section
variable {H : Type} {enc : TypeId × Value → H} {W : World} {sp : Nat → Bool} {held : Bool}
theorem open_book {r : Reach} {b0 : Nat} {v : Value} {d : DataW H} {p : List MemPlace} (hw : Lgt 26 d) (hv : Value.okWide Tryz.prog W r b0 26 v) (h : DataW.Trod enc Tryz.prog W 0 sp held 26 v d p) : ∃ sv nv lv x, v = .agg #[sv, nv, lv] ∧ BkM 0 W.heap.size W sv nv lv x ∧ (∀ c ∈ x.sheets, c.name.size ≤ maxLen ∧ c.cells.length ≤ reachBytes) ∧ x.sheets.length ≤ reachBytes ∧ x.names.length ≤ reachBytes ∧ x.links.length ≤ reachBytes := by
  obtain ⟨cs, rfl, hsz⟩ := okWide_struct Tryz.underlying26 hv
  obtain ⟨fuel, hf⟩ := h
  obtain ⟨sv, nv, lv, x, e, h1⟩ := book_open hw hf
  refine ⟨sv, nv, lv, x, ?_, h1⟩
  have : cs.toList = [sv, nv, lv] := by simpa [Value.cells] using e
  have h2 : cs = [sv, nv, lv].toArray := by rw [← this, Array.toArray_toList]
  rw [h2]
theorem open_puts {r : Reach} {b0 : Nat} {v : Value} {d : DataW H} {p : List MemPlace} (hw : Lgt 59 d) (hv : Value.okWide Tryz.prog W r b0 59 v) (h : DataW.Trod enc Tryz.prog W 0 sp held 59 v d p) : ∃ a c L, v = .slice a (L : List PutT).length c ∧ Pts 0 W.heap.size W v L ∧ (∀ p ∈ L, p.sh.size ≤ maxLen) ∧ L.length ≤ reachBytes := by
  have hcell : v.cells.toList = [v] := by
    obtain ⟨q, n, c, rfl, _⟩ := okWide_slice Tryz.underlying59 hv
    rfl
  obtain ⟨fuel, hf⟩ := h
  rw [hcell] at hf
  obtain ⟨L, h1, h2, h3⟩ := puts_open hw hf
  obtain ⟨a, c, e, _, _⟩ := h1.slice
  exact ⟨a, c, L, e, h1, h2, h3⟩
end
theorem right_walk {w : World} (T : Tab9 w) {sv nv lv : Value} {x : BookT} (h : BkM 0 w.heap.size w sv nv lv x) (hc : ∀ c ∈ x.sheets, c.name.size ≤ maxLen ∧ c.cells.length ≤ reachBytes) (hn : x.names.length ≤ reachBytes) (hk : x.links.length ≤ reachBytes)
    {a : Option Addr} {c : Nat} {L : List PutT} (hP : Pts 0 w.heap.size w (.slice a L.length c) L) (hS : ∀ p ∈ L, p.sh.size ≤ maxLen) :
    Calls Tryz.prog 6 #[.agg #[sv, nv, lv], .slice a L.length c] w fun e w' => e = .returned (.bool true) ∧ Below w.heap.size w w' := by
  unfold maxLen at *
  have hr := reachBytes_lt
  exact right_any h (Nat.le_refl _) (fun s hs => by have := (hc s hs).1; omega) (fun s hs => by have := (hc s hs).2; omega) (by omega) (by omega) hP (Nat.le_refl _) (fun p hp => by have := hS p hp; omega) T
end Go.Proofs.YtpafokmkcblcnaaGreatDoor.Sh
