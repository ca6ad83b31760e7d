/- Groups of changes that are handed in, opened; no walk. -/
import Derived.Test.YtcheikpmhdliiaaDoorOpOpens
namespace Go.Proofs.YtcheikpmhdliiaaDoor
open Go.ChangeShapes Go.WideShapes Go.ChangeAt Go.WideElems Go.RowKit Go.Deep
set_option maxRecDepth 100000

section
variable {H : Type} {enc : TypeId × Value → H} {W : World} {sp : Nat → Bool} {held : Bool}
theorem one_open {fuel : Nat} {cs : List Value} {y : DataW H × List MemPlace} (h : DataW.trod enc Tryd.prog W 0 sp held fuel 22 cs = some y) :
    ∃ c : List OpT × Value, cs = [c.2] ∧ (Opl 0 W.heap.size W c.2 c.1 ∧ (∀ o ∈ c.1, o.Ok)) ∧ (opsB c.1).length ≤ 10 * Rows.uptoBulk y.1 := by
  obtain ⟨v, rfl⟩ : ∃ v, cs = [v] := by
    rcases open_slice Tryd.underlying22 h with ⟨e, _⟩ | ⟨a, len, cap, m, n, D, Pl, e, _⟩
    · exact ⟨_, e⟩
    · exact ⟨_, e⟩
  obtain ⟨L, h1, h2, h3⟩ := opl_open h
  exact ⟨(L, v), rfl, ⟨h1, h2⟩, h3⟩
theorem gps_open {fuel : Nat} {v : Value} {x : DataW H × List MemPlace} (h : DataW.trod enc Tryd.prog W 0 sp held fuel 36 [v] = some x) :
    ∃ L, Gps 0 W.heap.size W v L ∧ (∀ g ∈ L, ∀ o ∈ g, o.Ok) ∧ (∀ g ∈ L, (opsB g).length ≤ 10 * Rows.uptoBulk x.1) := by
  obtain ⟨L, h1, h2, _, h3, _⟩ := rws_open (C := fun c : List OpT × Value => [c.2]) (B := fun c => opsB c.1) (Q := fun c => Opl 0 W.heap.size W c.2 c.1 ∧ (∀ o ∈ c.1, o.Ok)) Tryd.underlying36 (sz := 1) (by kernel_rfl) (by decide) one_open h
  refine ⟨L.map (·.1), ⟨fun j => ((L[j]?).map (·.2)).getD (.slice none 0 0), ?_, fun j o hj => ?_⟩, fun g hg => ?_, fun g hg => ?_⟩
  · rw [List.length_map]
    refine Rws.congr h1 fun j hj => ?_
    simp [List.getElem?_eq_getElem hj]
  · rw [List.getElem?_map] at hj
    rcases hq : L[j]? with _ | c
    · rw [hq] at hj; cases hj
    · rw [hq] at hj
      cases hj
      dsimp only
      rw [hq]
      exact (h2 j c hq).2.1
  · obtain ⟨y, hy, rfl⟩ := List.mem_map.1 hg
    obtain ⟨j, hj⟩ := List.getElem?_of_mem hy
    exact (h2 j y hj).2.2
  · obtain ⟨y, hy, rfl⟩ := List.mem_map.1 hg
    have := part_le (B := fun c : List OpT × Value => opsB c.1) hy
    simp only [lstB, List.length_append] at h3
    omega
end
end Go.Proofs.YtcheikpmhdliiaaDoor
