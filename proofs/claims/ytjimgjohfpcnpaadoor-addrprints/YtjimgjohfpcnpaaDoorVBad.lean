/- The reference's functions at errors: regions that draw their order. -/
import Derived.Test.YtjimgjohfpcnpaaDoorVName
namespace Go.Proofs.YtjimgjohfpcnpaaDoor
open Go.RowKit
set_option maxRecDepth 100000
set_option linter.unusedVariables false
set_option linter.unusedSimpArgs false
theorem box_below (w : World) (o : Obj) : Below w.heap.size w (w.alloc o) := (Below.refl _ _).alloc (Nat.le_refl _) _
theorem bel_drewN {w w1 : World} (h : Below w.heap.size w w1) (n : Nat) : Below w.heap.size w (w1.drewN n) := h.trans ((drewN_below w1 n).mono h.size)
end Go.Proofs.YtjimgjohfpcnpaaDoor
