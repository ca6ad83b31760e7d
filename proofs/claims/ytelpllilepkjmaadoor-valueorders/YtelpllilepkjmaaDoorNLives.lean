/- The contracts of Print and of lives. -/
import Derived.Test.YtelpllilepkjmaaDoorNPrint
namespace Go.Proofs.YtelpllilepkjmaaDoor
open Go.RowKit
set_option linter.unusedSimpArgs false
set_option linter.unusedVariables false
set_option maxRecDepth 100000

theorem tail_len (r : Nat) (h : r < 10000) : (tailP r).length ≤ 4 := by
  by_cases h0 : r = 0
  · rw [h0, tail_zero]; simp
  · exact ((digs_iff _ _ _).1 (tail_facts r h h0).1).2.2
theorem print_any (n : Int) (hn : -9223372036854775808 ≤ n ∧ n ≤ 9223372036854775807) (w : World) (T : PTab w) :
    Calls Tryd.prog 44 #[.int .i64 n] w fun e w' => e = .returned (.string ⟨(printF n).toArray⟩) ∧ Below w.heap.size w w' := by
  have hQ : n.natAbs / 10000 ≤ 922337203685477 := by omega
  have hR : n.natAbs % 10000 < 10000 := by omega
  have aq := abs_tdiv n
  have ar := abs_tmod n
  have bq : -922337203685477 ≤ n.tdiv 10000 ∧ n.tdiv 10000 ≤ 922337203685477 := by unfold absI at aq; split at aq <;> omega
  have br : -10000 ≤ n.tmod 10000 ∧ n.tmod 10000 ≤ 10000 := by unfold absI at ar; split at ar <;> omega
  have S1 := fun u => size_any (n.tdiv 10000) (by omega) (by omega) u
  have S2 := fun u => size_any (n.tmod 10000) (by omega) (by omega) u
  rw [aq] at S1
  rw [ar] at S2
  have l1 := (dec_len 15 (n.natAbs / 10000) (by decide) (by omega)).2
  have d5 := dec_five (n.natAbs % 10000) hR
  have l5 : (Lib.decDigits (10000 + n.natAbs % 10000)).length = 5 := by rw [d5]; rfl
  have tl := tail_len (n.natAbs % 10000) hR
  have hX : ∀ X, X = (if n.natAbs % 10000 = 0 then (if n < 0 then (⟨#[45]⟩ : ByteArray) ++ ⟨(Lib.decDigits (n.natAbs / 10000)).toArray⟩ else ⟨(Lib.decDigits (n.natAbs / 10000)).toArray⟩)
      else ((if n < 0 then (⟨#[45]⟩ : ByteArray) ++ ⟨(Lib.decDigits (n.natAbs / 10000)).toArray⟩ else ⟨(Lib.decDigits (n.natAbs / 10000)).toArray⟩) ++ (⟨#[46]⟩ ++ ⟨(tailP (n.natAbs % 10000)).toArray⟩))) → X = ⟨(printF n).toArray⟩ := by
    rintro X rfl
    unfold printF
    have e45 : (⟨#[45]⟩ : ByteArray) = ⟨([45] : List UInt8).toArray⟩ := rfl
    have e46 : (⟨#[46]⟩ : ByteArray) = ⟨([46] : List UInt8).toArray⟩ := rfl
    rw [e45, e46]
    by_cases h0 : n.natAbs % 10000 = 0 <;> by_cases hneg : n < 0 <;> simp only [h0, hneg, if_true, if_false, app_mk] <;> simp
  have hX' := hX _ rfl
  rw [← hX']
  refine print_core (q := n.tdiv 10000) (r := n.tmod 10000) (A2 := ⟨(Lib.decDigits (10000 + n.natAbs % 10000)).toArray⟩) (A3 := ⟨((Lib.decDigits (10000 + n.natAbs % 10000)).drop 1).toArray⟩) hn rfl rfl bq hR hQ T S1 S2 (fun u hu => itoa_any _ (by omega) u hu) (fun u hu => ?_) ?_ ?_ ?_ ?_ (fun _ => rfl) ?_ ?_ (fun u => ?_)
  · have := itoa_any (10000 + n.natAbs % 10000) (by omega) u hu
    rw [Int.natCast_add] at this
    exact this
  · rw [size_mk]; omega
  · rw [size_mk]; exact tl
  · rw [show (⟨#[45]⟩ : ByteArray) = ⟨([45] : List UInt8).toArray⟩ from rfl, app_mk, size_mk]; simp; omega
  · rw [show (⟨#[46]⟩ : ByteArray) = ⟨([46] : List UInt8).toArray⟩ from rfl, app_mk, size_mk]; simp; omega
  · rw [size_mk]; exact l5
  · have := drop_mk (Lib.decDigits (10000 + n.natAbs % 10000))
    rw [size_mk, l5] at this
    exact this
  · exact Tryd.strings_TrimRight_one ⟨((Lib.decDigits (10000 + n.natAbs % 10000)).drop 1).toArray⟩ 48 (by decide) u (by rw [size_mk]; simp; omega)

theorem ex_parse : parseF [45, 49, 46, 50, 53] = (-12500, true) := by decide
theorem ex_print : printF (-12500) = [45, 49, 46, 50, 53] := by
  unfold printF tailP
  rw [show ((-12500 : Int).natAbs) = 12500 from rfl, show 12500 / 10000 = 1 from rfl, show 12500 % 10000 = 2500 from rfl, Lib.decDigits_one (by decide), dec_five 2500 (by decide)]
  simp only [List.drop_succ_cons, List.drop_zero, trim_four]
  decide

end Go.Proofs.YtelpllilepkjmaaDoor
