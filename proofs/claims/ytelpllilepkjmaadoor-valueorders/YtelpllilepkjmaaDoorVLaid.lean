/- What the listed variables hold when a call begins; a value that is handed in. -/
import Derived.Test.YtelpllilepkjmaaDoorVLives
import Derived.ProofKit
import Derived.LaidMore
import Derived.LaidSub
import Derived.Lay
import Derived.OpenShut
import Derived.Stop.Joined
import Derived.Lib.SmallJoins
namespace Go.Proofs.YtelpllilepkjmaaDoor
open Go.ChangeShapes Go.WideShapes Go.ChangeAt Go.WideElems Go.RowKit
set_option maxRecDepth 100000

abbrev laidS : List (String × DataW Unit) := [("math/bits.deBruijn32tab", Rows.laid_math_bits_deBruijn32tab), ("math/bits.deBruijn64tab", Rows.laid_math_bits_deBruijn64tab), ("internal/strconv.uint64pow10", Rows.laid_internal_strconv_uint64pow10), ("unicode/utf8.acceptRanges", Rows.laid_unicode_utf8_acceptRanges), ("octavo/value.faults", Rows.laid_octavo_value_faults), ("unicode/utf8.first", Rows.laid_unicode_utf8_first)]
theorem own : ownKnob Tryd.prog.godebug = none := by kernel_rfl
theorem all_met (os : Os) (args : Array Value) : laidMetH Tryd.prog laidS ((World.laidAll Tryd.prog os laidS).forCall (fun _ _ => 0) ⟨#[], args, []⟩).memory := by
  rw [MakeChecks.laidMetH_plain _ _ _ (by kernel_rfl)]
  exact laidMet_laidAll _ (by kernel_rfl) (by kernel_rfl)
theorem pow_data : (Rows.laid_internal_strconv_uint64pow10 : DataW Unit) = Lib.tabData .u64 Lib.pow10Tab := by kernel_rfl
theorem ptab_laid {W : World} (h : laidMetH Tryd.prog laidS W) : PTab W := by
  have h1 := laidMetH.filter (fun x => x.1 == "internal/strconv.uint64pow10") h
  have e : laidS.filter (fun x => x.1 == "internal/strconv.uint64pow10") = [("internal/strconv.uint64pow10", Lib.tabData .u64 Lib.pow10Tab)] := by
    rw [← pow_data]
    kernel_rfl
  rw [e, MakeChecks.laidMetH_plain _ _ _ (by kernel_rfl)] at h1
  exact Lib.tabIs_of_head (g := 2) (t := 114) (e := 85) (n := 20) (by kernel_rfl) (by kernel_rfl) Tryd.underlying114 Tryd.underlying85 (by kernel_rfl) (by kernel_rfl) h1
theorem gFaults : Tryd.prog.globalNamed "octavo/value.faults" = some 0 := by kernel_rfl
theorem tFaults : (Tryd.prog.globals[0]?).map (·.type) = some 61 := by kernel_rfl
theorem ftab_laid {W : World} (h0 : laidMetH Tryd.prog laidS W) : FTab W := by
  have h := laidMetH.filter (fun x => x.1 == "octavo/value.faults") h0
  have e : laidS.filter (fun x => x.1 == "octavo/value.faults") = [("octavo/value.faults", Rows.laid_octavo_value_faults)] := by kernel_rfl
  rw [e, MakeChecks.laidMetH_plain _ _ _ (by kernel_rfl)] at h
  obtain ⟨ps, ⟨g0, t0, cs0, f0, p0, q0, hg0, ht0, hv0, hd0, _, _⟩, _, _⟩ := h
  obtain rfl := Option.some.inj (gFaults.symm.trans hg0)
  obtain rfl := Option.some.inj (tFaults.symm.trans ht0)
  obtain ⟨xs, m1, rfl, hx1, hlen, hn3, hel⟩ := DataW.trod_array Tryd.underlying61 hd0
  have c9 : Tryd.prog.cellsOf 9 = 1 := by kernel_rfl
  simp only [Prod.mk.injEq] at hx1
  intro i hi
  have h1 := hel i hi
  have hxi : xs[i]? = some xs[i] := List.getElem?_eq_getElem (by omega)
  rw [hxi] at h1
  obtain ⟨b, e1, e2, _⟩ := DataW.trod_string Tryd.underlying9 h1
  rw [c9, Nat.mul_one] at e1
  have hk : b = fnm i := by
    have hy : (Rows.laid_octavo_value_faults : DataW Unit) = .agg ((List.range 9).map fun n => .lit (.string (fnm n).data.toList)) := by kernel_rfl
    have hz := hx1.1
    rw [hy] at hz
    have hz2 : ((List.range 9).map fun n => (DataW.lit (.string (fnm n).data.toList) : DataW Unit)) = xs.map (·.1) := by injection hz
    have hz3 := congrArg (fun l => l[i]?) hz2
    simp only [List.getElem?_map, hxi, Option.map_some, e2] at hz3
    rw [List.getElem?_range hi] at hz3
    simp at hz3
    exact (bytes_inj (congrArg Array.toList hz3)).symm
  have hc := World.var?_cell hg0 hv0 i
  rw [hc, ← hk]
  have : (cs0.toList.drop i)[0]? = some (.string b) := by
    have := congrArg (fun l => l[0]?) e1
    simpa using this
  simpa using this
theorem of_laid {W : World} (h : laidMetH Tryd.prog laidS W) : Tabs W := ⟨ptab_laid h, ftab_laid h⟩

theorem wf_i64 {n : Int} : (Lit.int .i64 n).wf = true ↔ In64 n := by
  have h1 : IntKind.i64.min = -9223372036854775808 := rfl
  have h2 : IntKind.i64.max = 9223372036854775807 := rfl
  unfold In64
  simp [Lit.wf]
  omega
abbrev fld0 : Field := { name := "Kind", type := 3, offset := 0, embedded := false, tag := "", pkgPath := "", byteOffset := 0 }
abbrev fld1 : Field := { name := "N", type := 3, offset := 1, embedded := false, tag := "", pkgPath := "", byteOffset := 8 }
abbrev fld2 : Field := { name := "S", type := 9, offset := 2, embedded := false, tag := "", pkgPath := "", byteOffset := 16 }
theorem one3 : Deep.oneCellFields Tryd.prog #[fld0, fld1, fld2] = true := by kernel_rfl
theorem cells23 : Tryd.prog.cellsOf 23 = 3 := by kernel_rfl
section
variable {H : Type} {enc : TypeId × Value → H} {w : World} {base : Nat} {spare : Nat → Bool} {held : Bool}
/-- A value that is handed in. -/
theorem open_val {r : Reach} {b0 : Nat} {v : Value} {d : DataW H} {p : List MemPlace} (hv : Value.okWide Tryd.prog w r b0 23 v) (h : DataW.Trod enc Tryd.prog w base spare held 23 v d p) :
    ∃ (k n : Int) (s : ByteArray), v = val k n s ∧ d = .agg [.lit (.int .i64 k), .lit (.int .i64 n), .lit (.string s.data.toList)] ∧ p = [] ∧ In64 k ∧ In64 n ∧ s.size ≤ maxLen := by
  obtain ⟨v0, v1, v2, y0, y1, y2, m, rfl, rfl, rfl, t0, t1, t2⟩ := Joins.open_agg3 Tryd.underlying23 one3 cells23 hv h
  obtain ⟨k, e1, rfl, w1⟩ := DataW.trod_int Tryd.underlying3 t0
  obtain ⟨n, e2, rfl, w2⟩ := DataW.trod_int Tryd.underlying3 t1
  obtain ⟨s, e3, rfl, w3⟩ := DataW.trod_string Tryd.underlying9 t2
  simp at e1 e2 e3
  subst e1; subst e2; subst e3
  exact ⟨k, n, s, rfl, rfl, rfl, wf_i64.1 w1, wf_i64.1 w2, w3⟩
theorem shut_val {k n : Int} {s : ByteArray} (h1 : In64 k) (h2 : In64 n) (h3 : s.size ≤ maxLen) :
    DataW.Trod enc Tryd.prog w base spare held 23 (val k n s) (.agg [.lit (.int .i64 k), .lit (.int .i64 n), .lit (.string s.data.toList)]) [] :=
  Joins.shut_agg3 (y0 := (.lit (.int .i64 k), [])) (y1 := (.lit (.int .i64 n), [])) (y2 := (.lit (.string s.data.toList), [])) Tryd.underlying23 one3 cells23
    ⟨1, by have := wf_i64.2 h1; simp [DataW.trod, Tryd.underlying3, this]⟩ ⟨1, by have := wf_i64.2 h2; simp [DataW.trod, Tryd.underlying3, this]⟩ ⟨1, by simp [DataW.trod, Tryd.underlying9, h3]⟩
end
end Go.Proofs.YtelpllilepkjmaaDoor
