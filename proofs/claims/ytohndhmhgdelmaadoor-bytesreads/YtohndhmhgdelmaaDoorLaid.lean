/- What the package's variable holds when a call begins. -/
import Derived.Test.YtohndhmhgdelmaaDoorBase
import Derived.ProofKit
import Derived.LaidMore
import Derived.OpenShut
import Derived.Stop.Joined
namespace Go.Proofs.YtohndhmhgdelmaaDoor
open Go.ChangeShapes Go.WideShapes Go.ChangeAt Go.WideElems Go.RowKit

abbrev laidS : List (String × DataW Unit) := [("octavo/bytes.sums", Rows.laid_octavo_bytes_sums)]
theorem own : ownKnob Tryd.prog.godebug = none := by kernel_rfl
theorem gSums : Tryd.prog.globalNamed "octavo/bytes.sums" = some 0 := by kernel_rfl
theorem tSums : (Tryd.prog.globals[0]?).map (·.type) = some 94 := by kernel_rfl

theorem door_met (os : Os) (args : Array Value) : laidMetH Tryd.prog laidS ((World.doorLaid Tryd.prog 400 os).forCall (fun _ _ => 0) ⟨#[], args, []⟩).memory :=
  laidMetH_of_parts3 (fuel := 8) (laidMet_of_run' 8 (by kernel_rfl) (by kernel_rfl)) (by kernel_rfl) (by kernel_rfl)

theorem of_laid {W : World} (h : laidMetH Tryd.prog laidS W) : Tab W := by
  rw [MakeChecks.laidMetH_plain _ _ _ (by kernel_rfl)] at h
  obtain ⟨ps, ⟨g0, t0, cs0, f0, p0, q0, hg0, ht0, hv0, hd0, _, _⟩, _, _⟩ := h
  obtain rfl := Option.some.inj (gSums.symm.trans hg0)
  obtain rfl := Option.some.inj (tSums.symm.trans ht0)
  obtain ⟨xs, m1, rfl, hx1, hlen, hn3, hel⟩ := DataW.trod_array Tryd.underlying94 hd0
  have c26 : Tryd.prog.cellsOf 57 = 1 := by kernel_rfl
  simp only [Prod.mk.injEq] at hx1
  intro i hi
  have h1 := hel i hi
  have hxi : xs[i]? = some xs[i] := List.getElem?_eq_getElem (by omega)
  rw [hxi] at h1
  obtain ⟨k, e1, e2, _⟩ := DataW.trod_int Tryd.underlying57 h1
  rw [c26, Nat.mul_one] at e1
  have hk : k = (tab.getD i 0 : Nat) := by
    have hy : (Rows.laid_octavo_bytes_sums : DataW Unit) = .agg (tab.map fun n : Nat => .lit (.int .u32 (n : Int))) := rfl
    have hz := hx1.1
    rw [hy] at hz
    have hz2 : (tab.map fun n : Nat => (DataW.lit (.int .u32 (n : Int)) : DataW Unit)) = xs.map (·.1) := by injection hz
    have hz3 := congrArg (fun l => l[i]?) hz2
    simp only [List.getElem?_map, hxi, Option.map_some, e2] at hz3
    have ht : tab[i]? = some (tab.getD i 0) := by
      rw [List.getD_eq_getElem?_getD, List.getElem?_eq_getElem (by simpa [tab] using hi)]
      rfl
    rw [ht] at hz3
    simp at hz3
    exact hz3.symm
  have hc := World.var?_cell hg0 hv0 i
  rw [hc, ← hk]
  have : (cs0.toList.drop i)[0]? = some (.int .u32 k) := by
    have := congrArg (fun l => l[0]?) e1
    simpa using this
  simpa using this
end Go.Proofs.YtohndhmhgdelmaaDoor
