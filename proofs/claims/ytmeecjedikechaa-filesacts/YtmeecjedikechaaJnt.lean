/- Both worlds, side by side. -/
import Derived.Test.YtmeecjedikechaaRelN
import Derived.Test.YtmeecjedikechaaPOff
namespace Go.Proofs.Ytmeecjedikechaa
open Go.RowKit Go.Maps Go.Sort
set_option linter.unusedVariables false
set_option linter.unusedSimpArgs false
variable {K : Nat → Prop} {base : Nat} {w : World} {b bm : Nat} {s : WS} {D : DataW Value} {F : List UInt8 → Option FileS} {r : RS} {P : List PF} {rb : Nat}
/-- A call of the reference's leaves the program's world, with more blocks to be kept. -/
theorem S.refd {w' : World} (h : S K base w b bm s D F) (hr : K rb) (hg : w.grownBy w' (some rb)) : S (Nw K w w') base w' b bm s D F := by
  have g := h.other hr (fun i hi hne => hg.block i hi (by simpa using hne)) hg.size
  have lt : ∀ {i : Nat} {o : Obj}, w.heap[i]? = some o → ¬ K i → ¬ Nw K w w' i := fun {i o} h1 h2 h3 => by
    rcases h3 with e | e
    · exact h2 e
    · have := lt_of_some h1; omega
  refine ⟨fun i hi => ?_, ⟨h.hb.1, lt h.hB h.hb.2⟩, ⟨h.hbm.1, ?_⟩, g.hB, g.own, g.at_, fun l f hf => ?_, g.apart⟩
  · rcases hi with e | e
    · exact Nat.lt_of_lt_of_le (h.kb i e) hg.size
    · exact e.2
  · obtain ⟨es, c, hm, _⟩ := h.own
    exact lt hm h.hbm.2
  · obtain ⟨h1, h2, h3, h4⟩ := h.files l f hf
    obtain ⟨-, g2, g3, g4⟩ := g.files l f hf
    refine ⟨⟨⟨h1.1.1, lt h2 h1.1.2⟩, fun x hx => ?_⟩, g2, g3, g4⟩
    obtain ⟨_, cur, hc⟩ := ownsRow_type h3 hx
    exact lt hc (h1.2 x hx)
/-- Both worlds: the program's at b, the reference's at rb, alike. -/
structure J (base : Nat) (w : World) (b bm rb : Nat) (s : WS) (r : RS) (P : List PF) : Prop where
  ex : ∃ K D F, S K base w b bm s D F ∧ RefP K w rb r P ∧ Rel s F r P ∧ K rb ∧ base ≤ w.heap.size ∧ base ≤ rb
theorem J.le (h : J base w b bm rb s r P) : P.length ≤ 16 := by
  obtain ⟨K, D, F, hS, hR, hL, _⟩ := h
  rw [← hL.size hS]
  exact hS.own.size_le
end Go.Proofs.Ytmeecjedikechaa
