/- The contract of the reference's Print, whole. -/
import Derived.Test.YtelpllilepkjmaaDoorNRPrint
namespace Go.Proofs.YtelpllilepkjmaaDoor
open Go.RowKit
set_option linter.unusedSimpArgs false
set_option linter.unusedVariables false
set_option maxRecDepth 100000

theorem tail_empty (r : Nat) (h : r < 10000) : (tailP r = []) ↔ r = 0 := by
  constructor
  · intro e
    by_cases h0 : r = 0
    · exact h0
    · have := ((digs_iff _ _ _).1 (tail_facts r h h0).1).2.1
      rw [e] at this
      simp at this
  · rintro rfl
    exact tail_zero
theorem rprint_any (n : Int) (hn : -9223372036854775808 ≤ n ∧ n ≤ 9223372036854775807) (w : World) :
    Calls Tryd.prog 47 #[.int .i64 n] w fun e w' => e = .returned (.string ⟨(printF n).toArray⟩) ∧ Below w.heap.size w w' := by
  have hQ : n.natAbs / 10000 ≤ 922337203685477 := by omega
  have hR : n.natAbs % 10000 < 10000 := by omega
  have D1 := fun u => rDigits_any (n.natAbs / 10000) (by omega) u
  have D2 := fun u => rDigits_any (10000 + n.natAbs % 10000) (by omega) u
  rw [show ((n.natAbs / 10000 : Nat) : Int) = (n.natAbs : Int) / 10000 by omega] at D1
  rw [show ((10000 + n.natAbs % 10000 : Nat) : Int) = (n.natAbs : Int) % 10000 + 10000 by omega] at D2
  have l1 := (dec_len 15 (n.natAbs / 10000) (by decide) (by omega)).2
  have d5 := dec_five (n.natAbs % 10000) hR
  have l5 : (Lib.decDigits (10000 + n.natAbs % 10000)).length = 5 := by rw [d5]; rfl
  have te := tail_empty (n.natAbs % 10000) hR
  have h3 : (⟨((Lib.decDigits (10000 + n.natAbs % 10000)).drop 1).toArray⟩ : ByteArray).size = 4 := by rw [size_mk, List.length_drop, l5]
  have hA : (⟨(Lib.decDigits (10000 + n.natAbs % 10000)).toArray⟩ : ByteArray).extract 1 5 = ⟨((Lib.decDigits (10000 + n.natAbs % 10000)).drop 1).toArray⟩ := by
    have := drop_mk (Lib.decDigits (10000 + n.natAbs % 10000))
    rw [size_mk, l5] at this
    exact this
  have hs2 : ((⟨#[45]⟩ : ByteArray) ++ ⟨(Lib.decDigits (n.natAbs / 10000)).toArray⟩).size ≤ 21 := by
    rw [show (⟨#[45]⟩ : ByteArray) = ⟨([45] : List UInt8).toArray⟩ from rfl, app_mk, size_mk]; simp; omega
  have ht : Lib.trimRightB ((Lib.decDigits (10000 + n.natAbs % 10000)).drop 1) 48 = tailP (n.natAbs % 10000) := rfl
  by_cases hneg : n < 0
  · have h := rprint_neg (w := w) (U := n.natAbs) (L0 := (Lib.decDigits (10000 + n.natAbs % 10000)).drop 1) hn hneg (by omega) (by omega) D1 D2 (by rw [size_mk]; omega) (by rw [size_mk]; exact l5) hA h3 rfl hs2
    rw [ht] at h
    refine h.mono ?_
    rintro e w' ⟨rfl, hb⟩
    refine ⟨?_, hb⟩
    congr 2
    rw [show (⟨#[45]⟩ : ByteArray) = ⟨([45] : List UInt8).toArray⟩ from rfl, app_mk, app_mk]
    unfold printF
    rw [if_pos hneg]
    by_cases h0 : n.natAbs % 10000 = 0
    · rw [if_pos (te.2 h0), if_pos h0]
    · rw [if_neg (fun h => h0 (te.1 h)), if_neg h0]
  · have h := rprint_pos (w := w) (U := n.natAbs) (L0 := (Lib.decDigits (10000 + n.natAbs % 10000)).drop 1) hn hneg (by omega) (by omega) D1 D2 (by rw [size_mk]; omega) (by rw [size_mk]; exact l5) hA h3 rfl hs2
    rw [ht] at h
    refine h.mono ?_
    rintro e w' ⟨rfl, hb⟩
    refine ⟨?_, hb⟩
    congr 2
    rw [app_mk]
    unfold printF
    rw [if_neg hneg]
    by_cases h0 : n.natAbs % 10000 = 0
    · rw [if_pos (te.2 h0), if_pos h0]; rfl
    · rw [if_neg (fun h => h0 (te.1 h)), if_neg h0]; rfl
end Go.Proofs.YtelpllilepkjmaaDoor
