/- Edges that are handed in, opened; no walk. -/
import Derived.Test.YtbbcnjagndfmbaaDPair
import Derived.ProofKit
import Derived.SizedLaws
import Derived.OpenShut
import Derived.ChangeSame
namespace Go.Proofs.Ytbbcnjagndfmbaa
open Go.ChangeShapes Go.WideShapes Go.ChangeAt Go.WideElems Go.RowKit Go.Deep
set_option maxRecDepth 100000
set_option linter.unusedVariables false
theorem list_of {α : Type} {P : Nat → α → Prop} : ∀ (n : Nat), (∀ i, i < n → ∃ c, P i c) → ∃ L : List α, L.length = n ∧ ∀ i c, L[i]? = some c → P i c
  | 0, _ => ⟨[], rfl, fun i c h => by simp at h⟩
  | n + 1, h => by
    obtain ⟨L, h1, h2⟩ := list_of n fun i hi => h i (by omega)
    obtain ⟨c, hc⟩ := h n (by omega)
    refine ⟨L ++ [c], by simp [h1], fun i x hi => ?_⟩
    by_cases hlt : i < L.length
    · rw [List.getElem?_append_left hlt] at hi; exact h2 i x hi
    · rw [List.getElem?_append_right (by omega)] at hi
      have hi0 : i = n := by
        rcases Nat.lt_or_ge (i - L.length) 1 with h | h
        · omega
        · rw [List.getElem?_eq_none (by simpa using h)] at hi; cases hi
      subst hi0
      rw [h1] at hi
      simp at hi
      subst hi
      exact hc
theorem bytes33 : Try.prog.bytesOf 33 = 16 := by kernel_rfl
theorem cellsOf33 : Try.prog.cellsOf 33 = 2 := by kernel_rfl
theorem cellsOf3 : Try.prog.cellsOf 3 = 1 := by kernel_rfl
theorem arr2 {xs : Array Value} (h : xs.size = 2) : ∃ a b, xs = #[a, b] := by
  match xs, h with
  | ⟨[a, b]⟩, _ => exact ⟨a, b, rfl⟩
theorem wf_u64 {n : Int} (h : (Lit.int .u64 n).wf = true) : 0 ≤ n ∧ n < 18446744073709551616 := by
  have h1 : IntKind.u64.min = 0 := rfl
  have h2 : IntKind.u64.max = 18446744073709551615 := rfl
  simp [Lit.wf] at h
  omega
section
variable {H : Type} {enc : TypeId × Value → H} {W : World} {sp : Nat → Bool} {held : Bool}
theorem okWide_two {r : Reach} {b0 : Nat} {v : Value} (h : Value.okWide Try.prog W r b0 33 v) : ∃ a b, v = .agg #[a, b] := by
  simp only [Value.okWide, Try.underlying33] at h
  obtain ⟨cs, rfl, h2, _⟩ := h
  obtain ⟨a, b, rfl⟩ := arr2 (h2.trans cellsOf33)
  exact ⟨a, b, rfl⟩
theorem pair_open {fuel : Nat} {c0 c1 : Value} {y : DataW H × List MemPlace} (h : DataW.trod enc Try.prog W 0 sp held fuel 33 [c0, c1] = some y) : ∃ x : Int × Int, [c0, c1] = pcl x := by
  obtain ⟨xs, n, _, _, hl, hlen, hel⟩ := DataW.trod_array Try.underlying33 h
  have get : ∀ i, i < 2 → ∃ y, DataW.trod enc Try.prog W 0 sp held n 3 (([c0, c1].drop (i * Try.prog.cellsOf 3)).take (Try.prog.cellsOf 3)) = some y :=
    fun i hi => ⟨_, (hel i hi).trans (List.getElem?_eq_getElem (by rw [hlen]; exact hi))⟩
  obtain ⟨y0, h0⟩ := get 0 (by decide)
  obtain ⟨y1, h1⟩ := get 1 (by decide)
  obtain ⟨r0, e0, _, w0⟩ := DataW.trod_int Try.underlying3 h0
  obtain ⟨r1, e1, _, w1⟩ := DataW.trod_int Try.underlying3 h1
  simp [cellsOf3] at e0 e1
  subst e0 e1
  exact ⟨(r0, r1), rfl⟩
theorem open_pair {r : Reach} {b0 : Nat} {v : Value} {d : DataW H} {p : List MemPlace} (hv : Value.okWide Try.prog W r b0 33 v) (h : DataW.Trod enc Try.prog W 0 sp held 33 v d p) : ∃ x : Int × Int, v = pV x := by
  obtain ⟨c0, c1, rfl⟩ := okWide_two hv
  obtain ⟨fuel, hf⟩ := h
  obtain ⟨x, e⟩ := pair_open (c0 := c0) (c1 := c1) hf
  simp only [pcl, List.cons.injEq] at e
  obtain ⟨rfl, rfl, _⟩ := e
  exact ⟨x, rfl⟩
theorem edges_open {fuel : Nat} {v : Value} {x : DataW H × List MemPlace} (hw : ∀ n ∈ x.1.weights Try.prog 22, n ≤ reachBytes) (h : DataW.trod enc Try.prog W 0 sp held fuel 22 [v] = some x) :
    ∃ L : List (Int × Int), Pr W v L ∧ L.length ≤ 8796093022208 := by
  rcases open_slice Try.underlying22 h with ⟨hcs, hx⟩ | ⟨a, len, cap, m, n, D, Pl, hcs, hb, hl, hm, hmm, hx, hel⟩
  · simp at hcs
    subst hcs
    exact ⟨[], Rd.nil W, by simp⟩
  · simp at hcs
    subst hx
    have hwt : ∀ n ∈ ((((List.range len).map D).length + ((List.range (m - len)).map fun j => D (len + j)).length) * Try.prog.bytesOf 33 :: (DataW.weightsAll Try.prog 33 ((List.range len).map D) ++ DataW.weightsAll Try.prog 33 ((List.range (m - len)).map fun j => D (len + j)))), n ≤ reachBytes := by
      intro n hn
      refine hw n ?_
      simp only [DataW.weights, Try.underlying22]
      exact hn
    have hlr : len * 16 ≤ 140737488355328 := by
      have h1 := hwt _ List.mem_cons_self
      rw [bytes33] at h1
      simp only [List.length_map, List.length_range] at h1
      have h2 : reachBytes ≤ 140737488355328 := by decide
      have h3 : len * 16 ≤ (len + (m - len)) * 16 := Nat.mul_le_mul_right _ (by omega)
      omega
    have hlm : len ≤ m := by rw [hmm]; split <;> omega
    obtain ⟨L, hL, hP⟩ := list_of (α := Int × Int) (P := fun i c => W.cells? 0 (a.add (i * 2)) 2 = some (pcl c)) len fun i hi => by
      obtain ⟨cs', k1, k2⟩ := hel i (by omega)
      rw [cellsOf33] at k1
      have hl2 := (World.cells?_some k1).2.1
      match cs', hl2 with
      | [v0, v1], _ =>
        obtain ⟨c, e⟩ := pair_open k2
        exact ⟨c, by rw [k1, e]⟩
    refine ⟨L, ?_, by omega⟩
    subst hcs
    refine ⟨some a, cap, by rw [hL], by omega, hm, .inr ⟨a, rfl, fun j u hj => ?_⟩⟩
    obtain ⟨k, i, hk, rfl, hi, hu⟩ := pfl_of L j u hj
    have h1 := (World.cells?_some (hP k _ (List.getElem?_eq_getElem hk))).2.2 i hi
    rw [Go.Deep.add_add] at h1
    rw [h1, hu]
end
end Go.Proofs.Ytbbcnjagndfmbaa
