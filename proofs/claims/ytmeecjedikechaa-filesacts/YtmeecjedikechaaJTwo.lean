/- A call of the program and the same of the reference, one behind the other. -/
import Derived.Test.YtmeecjedikechaaJRead
namespace Go.Proofs.Ytmeecjedikechaa
open Go.RowKit Go.Maps Go.Sort
set_option linter.unusedVariables false
variable {K : Nat → Prop} {base : Nat} {w w1 w2 : World} {b bm : Nat} {s s1 : WS} {D D1 : DataW Value} {F F1 : List UInt8 → Option FileS} {r r1 : RS} {P P1 : List PF} {rb : Nat}
theorem RefP.bel (h : RefP K w rb r P) (hK : K rb) (hb : Bel K base w w1) : RefP K w1 rb r P := RefP.keep h hK hb.keep
theorem J.of (hS : S K base w1 b bm s1 D1 F1) (hL : Rel s1 F1 r1 P1) (hR : RefP (Nw K w1 w2) w2 rb r1 P1) (hg : w1.grownBy w2 (some rb)) (hK : K rb) (hbase : base ≤ w1.heap.size) (hrb : base ≤ rb) : J base w2 b bm rb s1 r1 P1 :=
  ⟨Nw K w1 w2, D1, F1, hS.refd hK hg, hR, hL, .inl hK, Nat.le_trans hbase hg.size, hrb⟩
/-- The program's call ended as the reference's plain answer says, and then the reference's call does too. -/
theorem J.two {t : Int × RS × List PF} {e1 e2 : Ending} (h1 : EndJ K base b bm w t e1 w1) (h2 : Ends K w1 rb t e2 w2) (hK : K rb) (hbase : base ≤ w.heap.size) (hrb : base ≤ rb) :
    e1 = .returned (.int .i64 t.1) ∧ e2 = .returned (.int .i64 t.1) ∧ (∃ s1, J base w2 b bm rb s1 t.2.1 t.2.2) ∧ Below base w w2 := by
  obtain ⟨a1, s1, D1, F1, hS, hB, hL⟩ := h1
  obtain ⟨a2, hR, hg⟩ := h2
  refine ⟨a1, a2, ⟨s1, J.of hS hL hR hg hK (Nat.le_trans hbase hB.size) hrb⟩, hB.below.trans ?_⟩
  exact (Below.refl base w1).grown hg (Nat.le_trans hbase hB.size) (fun k e => by cases e; exact hrb)
end Go.Proofs.Ytmeecjedikechaa
