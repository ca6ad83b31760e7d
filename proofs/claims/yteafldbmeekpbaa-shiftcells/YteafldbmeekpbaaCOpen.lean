/- Cells that are handed in, opened; no walk. -/
import Derived.Test.YteafldbmeekpbaaCMem
import Derived.Test.YteafldbmeekpbaaHOpen
import Derived.Deep.Slices
namespace Go.Proofs.Yteafldbmeekpbaa
open Go.ChangeShapes Go.WideShapes Go.ChangeAt Go.WideElems Go.RowKit Go.Deep
set_option maxRecDepth 100000
set_option linter.unusedVariables false
theorem list_of {α : Type} {P : Nat → α → Prop} : ∀ (n : Nat), (∀ i, i < n → ∃ c, P i c) → ∃ L : List α, L.length = n ∧ ∀ i c, L[i]? = some c → P i c
  | 0, _ => ⟨[], rfl, fun i c h => by simp at h⟩
  | n + 1, h => by
    obtain ⟨L, h1, h2⟩ := list_of n fun i hi => h i (by omega)
    obtain ⟨c, hc⟩ := h n (by omega)
    refine ⟨L ++ [c], by simp [h1], fun i x hi => ?_⟩
    by_cases hlt : i < L.length
    · rw [List.getElem?_append_left hlt] at hi; exact h2 i x hi
    · rw [List.getElem?_append_right (by omega)] at hi
      have hi0 : i = n := by
        rcases Nat.lt_or_ge (i - L.length) 1 with h | h
        · omega
        · rw [List.getElem?_eq_none (by simpa using h)] at hi; cases hi
      subst hi0
      rw [h1] at hi
      simp at hi
      subst hi
      exact hc
theorem bytes45 : Try.prog.bytesOf 45 = 32 := by kernel_rfl
theorem cellsOf45 : Try.prog.cellsOf 45 = 3 := by kernel_rfl
theorem nfl_of : ∀ (L : List CT) (j : Nat) (u : Value), (L.flatMap ncl)[j]? = some u → ∃ k i, ∃ h : k < L.length, j = k * 3 + i ∧ i < 3 ∧ (ncl L[k])[i]? = some u
  | [], j, u, h => by simp at h
  | t :: L, j, u, h => by
    rw [List.flatMap_cons] at h
    by_cases hj : j < 3
    · rw [List.getElem?_append_left (by simpa using hj)] at h
      exact ⟨0, j, by simp, by omega, hj, h⟩
    · rw [List.getElem?_append_right (by simp; omega)] at h
      obtain ⟨k, i, hk, e, hi, hu⟩ := nfl_of L _ u h
      refine ⟨k + 1, i, by simp; omega, ?_, hi, by simpa using hu⟩
      simp at e; omega
section
variable {H : Type} {enc : TypeId × Value → H} {W : World} {sp : Nat → Bool} {held : Bool}
theorem cell_open {fuel : Nat} {cs : List Value} {y : DataW H × List MemPlace} (h : DataW.trod enc Try.prog W 0 sp held fuel 45 cs = some y) : ∃ c : CT, cs = ncl c := by
  obtain ⟨xs, n, _, rfl, hl, hxl, hf⟩ := DataW.trod_struct Try.underlying45 h
  have hl3 : cs.length = 3 := hl.trans cellsOf45
  match xs, hxl, cs, hl3 with
  | [y0, y1, y2], _, [v0, v1, v2], _ =>
    obtain ⟨n0, e0, q0, w0⟩ := DataW.trod_int Try.underlying3 (hf 0 _ rfl)
    obtain ⟨n1, e1, q1, w1⟩ := DataW.trod_int Try.underlying3 (hf 1 _ rfl)
    obtain ⟨s2, e2, q2, w2⟩ := DataW.trod_string Try.underlying9 (hf 2 _ rfl)
    cases e0; cases e1; cases e2
    exact ⟨⟨n0, n1, s2⟩, rfl⟩
theorem cells_open {fuel : Nat} {v : Value} {x : DataW H × List MemPlace} (hw : ∀ n ∈ x.1.weights Try.prog 39, n ≤ reachBytes) (h : DataW.trod enc Try.prog W 0 sp held fuel 39 [v] = some x) :
    ∃ p len c L, v = .slice p len c ∧ Rds W p len L ∧ (p = none → c = 0) ∧ len * 32 ≤ 140737488355328 := by
  rcases open_slice Try.underlying39 h with ⟨hcs, hx⟩ | ⟨a, len, cap, m, n, D, Pl, hcs, hb, hl, hm, hmm, hx, hel⟩
  · simp at hcs
    exact ⟨none, 0, 0, [], hcs, Rds.nil _ _, fun _ => rfl, by omega⟩
  · simp at hcs
    subst hx
    have hwt : ∀ n ∈ ((((List.range len).map D).length + ((List.range (m - len)).map fun j => D (len + j)).length) * Try.prog.bytesOf 45 :: (DataW.weightsAll Try.prog 45 ((List.range len).map D) ++ DataW.weightsAll Try.prog 45 ((List.range (m - len)).map fun j => D (len + j)))), n ≤ reachBytes := fun n hn => hw n (by simp only [DataW.weights, Try.underlying39]; exact hn)
    have hlr : len * 32 ≤ 140737488355328 := by
      have h1 := hwt _ List.mem_cons_self
      rw [bytes45] at h1
      simp only [List.length_map, List.length_range] at h1
      have h2 : reachBytes ≤ 140737488355328 := by decide
      have h3 : len * 32 ≤ (len + (m - len)) * 32 := Nat.mul_le_mul_right _ (by omega)
      omega
    have hlm : len ≤ m := by rw [hmm]; split <;> omega
    obtain ⟨L, hL, hP⟩ := list_of (α := CT) (P := fun i c => W.cells? 0 (a.add (i * 3)) 3 = some (ncl c)) len fun i hi => by
      obtain ⟨cs', k1, k2⟩ := hel i (by omega)
      rw [cellsOf45] at k1
      obtain ⟨c, rfl⟩ := cell_open k2
      exact ⟨c, k1⟩
    refine ⟨some a, len, cap, L, hcs, ⟨hL.symm, .inr ⟨a, rfl, fun j u hj => ?_⟩⟩, (fun e => by cases e), hlr⟩
    obtain ⟨k, i, hk, rfl, hi, hu⟩ := nfl_of L j u hj
    have h1 := (World.cells?_some (hP k _ (List.getElem?_eq_getElem hk))).2.2 i hi
    rw [Go.Deep.add_add] at h1
    rw [h1, hu]
end
end Go.Proofs.Yteafldbmeekpbaa
