/- What the listed variables hold when a call begins; a ref and a place that are handed in. -/
import Derived.Test.YtjimgjohfpcnpaaDoorARow
import Derived.ProofKit
import Derived.LaidMore
import Derived.LaidSub
import Derived.Lay
import Derived.OpenShut
import Derived.Stop.Joined
import Derived.Stop.LaidErr
import Derived.Lib.SmallJoins
namespace Go.Proofs.YtjimgjohfpcnpaaDoor
open Go.ChangeShapes Go.WideShapes Go.ChangeAt Go.WideElems Go.RowKit
set_option linter.unusedSimpArgs false
set_option linter.unusedVariables false
set_option maxRecDepth 100000

abbrev laidS : List (String × DataW Unit) := [("math/bits.deBruijn32tab", Rows.laid_math_bits_deBruijn32tab), ("math/bits.deBruijn64tab", Rows.laid_math_bits_deBruijn64tab), ("internal/strconv.uint64pow10", Rows.laid_internal_strconv_uint64pow10), ("strconv.ErrRange", Rows.laid_strconv_ErrRange), ("strconv.ErrSyntax", Rows.laid_strconv_ErrSyntax), ("octavo/value.faults", Rows.laid_octavo_value_faults)]
theorem own : ownKnob Tryd.prog.godebug = none := by kernel_rfl
theorem all_met (os : Os) (args : Array Value) : laidMetH Tryd.prog laidS ((World.laidAll Tryd.prog os laidS).forCall (fun _ _ => 0) ⟨#[], args, []⟩).memory := by
  rw [MakeChecks.laidMetH_plain _ _ _ (by kernel_rfl)]
  exact laidMet_laidAll _ (by kernel_rfl) (by kernel_rfl)
theorem pow_data : (Rows.laid_internal_strconv_uint64pow10 : DataW Unit) = Lib.tabData .u64 Lib.pow10Tab := by kernel_rfl
theorem ptab_laid {W : World} (h : laidMetH Tryd.prog laidS W) : PTab W := by
  have h1 := laidMetH.filter (fun x => x.1 == "internal/strconv.uint64pow10") h
  have e : laidS.filter (fun x => x.1 == "internal/strconv.uint64pow10") = [("internal/strconv.uint64pow10", Lib.tabData .u64 Lib.pow10Tab)] := by
    rw [← pow_data]
    kernel_rfl
  rw [e, MakeChecks.laidMetH_plain _ _ _ (by kernel_rfl)] at h1
  exact Lib.tabIs_of_head (g := 4) (t := 119) (e := 69) (n := 20) (by kernel_rfl) (by kernel_rfl) Tryd.underlying119 Tryd.underlying69 (by kernel_rfl) (by kernel_rfl) h1
theorem gFaults : Tryd.prog.globalNamed "octavo/value.faults" = some 3 := by kernel_rfl
theorem tFaults : (Tryd.prog.globals[3]?).map (·.type) = some 113 := by kernel_rfl
theorem ftab_laid {W : World} (h0 : laidMetH Tryd.prog laidS W) : FTab W := by
  have h := laidMetH.filter (fun x => x.1 == "octavo/value.faults") h0
  have e : laidS.filter (fun x => x.1 == "octavo/value.faults") = [("octavo/value.faults", Rows.laid_octavo_value_faults)] := by kernel_rfl
  rw [e, MakeChecks.laidMetH_plain _ _ _ (by kernel_rfl)] at h
  obtain ⟨ps, ⟨g0, t0, cs0, f0, p0, q0, hg0, ht0, hv0, hd0, _, _⟩, _, _⟩ := h
  obtain rfl := Option.some.inj (gFaults.symm.trans hg0)
  obtain rfl := Option.some.inj (tFaults.symm.trans ht0)
  obtain ⟨xs, m1, rfl, hx1, hlen, hn3, hel⟩ := DataW.trod_array Tryd.underlying113 hd0
  have c9 : Tryd.prog.cellsOf 9 = 1 := by kernel_rfl
  simp only [Prod.mk.injEq] at hx1
  intro i hi
  have h1 := hel i hi
  have hxi : xs[i]? = some xs[i] := List.getElem?_eq_getElem (by omega)
  rw [hxi] at h1
  obtain ⟨b, e1, e2, _⟩ := DataW.trod_string Tryd.underlying9 h1
  rw [c9, Nat.mul_one] at e1
  have hk : b = fnm i := by
    have hy : (Rows.laid_octavo_value_faults : DataW Unit) = .agg ((List.range 9).map fun n => .lit (.string (fnm n).data.toList)) := by kernel_rfl
    have hz := hx1.1
    rw [hy] at hz
    have hz2 : ((List.range 9).map fun n => (DataW.lit (.string (fnm n).data.toList) : DataW Unit)) = xs.map (·.1) := by injection hz
    have hz3 := congrArg (fun l => l[i]?) hz2
    simp only [List.getElem?_map, hxi, Option.map_some, e2] at hz3
    rw [List.getElem?_range hi] at hz3
    simp at hz3
    exact (bytes_inj (congrArg Array.toList hz3)).symm
  have hc := World.var?_cell hg0 hv0 i
  rw [hc, ← hk]
  have : (cs0.toList.drop i)[0]? = some (.string b) := by
    have := congrArg (fun l => l[0]?) e1
    simpa using this
  simpa using this
theorem gES : Tryd.prog.globalNamed "strconv.ErrSyntax" = some 1 := by kernel_rfl
theorem gESType : (Tryd.prog.globals[1]?).map (·.type) = some 61 := by kernel_rfl
theorem gER : Tryd.prog.globalNamed "strconv.ErrRange" = some 2 := by kernel_rfl
theorem gERType : (Tryd.prog.globals[2]?).map (·.type) = some 61 := by kernel_rfl
theorem cells118 : Tryd.prog.cellsOf 118 = 1 := by kernel_rfl
theorem cells9 : Tryd.prog.cellsOf 9 = 1 := by kernel_rfl
theorem star : "*" ++ "errors.errorString" = "*errors.errorString" := by decide
theorem row116 (u : TypeId) (h : Tryd.prog.typeName? 3 u = some "*errors.errorString") : u = 116 :=
  typeName_ptr_named (nm := "errors.errorString") (by rw [star]; kernel_rfl) (by kernel_rfl) (by decide) u (by rw [star]; exact h)
theorem errs_laid {W : World} (h0 : laidMetH Tryd.prog laidS W) : Errs W := by
  have h1 := laidMetH.filter (fun x => x.1 == "strconv.ErrSyntax") h0
  have e1 : laidS.filter (fun x => x.1 == "strconv.ErrSyntax") = [("strconv.ErrSyntax", Rows.laid_strconv_ErrSyntax)] := by kernel_rfl
  rw [e1, MakeChecks.laidMetH_plain _ _ _ (by kernel_rfl)] at h1
  have h2 := laidMetH.filter (fun x => x.1 == "strconv.ErrRange") h0
  have e2 : laidS.filter (fun x => x.1 == "strconv.ErrRange") = [("strconv.ErrRange", Rows.laid_strconv_ErrRange)] := by kernel_rfl
  rw [e2, MakeChecks.laidMetH_plain _ _ _ (by kernel_rfl)] at h2
  obtain ⟨a1, _, v1, -, -, -⟩ := laid_sentinel h1 gES gESType Tryd.underlying61 row116 Tryd.underlying116 Tryd.underlying118 rfl rfl Tryd.underlying9 cells118 cells9
  obtain ⟨a2, _, v2, -, -, -⟩ := laid_sentinel h2 gER gERType Tryd.underlying61 row116 Tryd.underlying116 Tryd.underlying118 rfl rfl Tryd.underlying9 cells118 cells9
  exact ⟨_, _, _, _, by have h0 := World.var?_cell gES v1 0; simpa using h0, by have h0 := World.var?_cell gER v2 0; simpa using h0⟩
theorem of_laid {W : World} (h : laidMetH Tryd.prog laidS W) : Tab8 W := ⟨⟨ptab_laid h, ftab_laid h⟩, errs_laid h⟩
end Go.Proofs.YtjimgjohfpcnpaaDoor
