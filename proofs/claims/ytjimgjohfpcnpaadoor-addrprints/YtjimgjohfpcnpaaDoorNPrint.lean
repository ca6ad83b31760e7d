/- The contract of Print. -/
import Derived.Test.YtjimgjohfpcnpaaDoorNParse
import Derived.Lib.AppendIntMem
import Derived.Lib.LaidTab
namespace Go.Proofs.YtjimgjohfpcnpaaDoor
open Go.RowKit
set_option linter.unusedSimpArgs false
set_option linter.unusedVariables false
set_option maxRecDepth 100000

/-- The table of the powers of ten lies in the library's variable. -/
def PTab (w : World) : Prop := Lib.TabIs Tryd.prog w "internal/strconv.uint64pow10" .u64 Lib.pow10Tab
theorem PTab.below {w w' : World} (h : PTab w) (hb : Below w.heap.size w w') : PTab w' := Lib.tabBelow_of_tabIs h w' hb
theorem PTab.below2 {w w' : World} {B : Nat} (h : PTab w) (hb : Below B w w') (hB : w.heap.size ≤ B) : PTab w' := h.below (hb.mono hB)
theorem grow_below (w : World) (k : Nat) (os : Array Obj) : Below w.heap.size w (Sort.grow (w.drewN k) os) := by
  have h := drewN_below w k
  have hk : (w.drewN k).heap.size = w.heap.size ∧ ∀ i, i < w.heap.size → (w.drewN k).heap[i]? = w.heap[i]? := by
    refine ⟨?_, h.block⟩
    clear h
    induction k with
    | zero => rw [World.drewN_zero]
    | succ n ih => exact ih
  refine ⟨h.os, h.tape, h.output, ?_, fun i hi => ?_⟩
  · show w.heap.size ≤ ((w.drewN k).heap ++ os).size
    simp only [Array.size_append]; omega
  · show ((w.drewN k).heap ++ os)[i]? = _
    rw [Array.getElem?_append_left (by omega)]
    exact hk.2 i hi
theorem itoa_any (n : Nat) (hn : n ≤ 9223372036854775807) (w : World) (T : PTab w) :
    Calls Tryd.prog 56 #[.int .i64 n] w fun e w' => e = .returned (.string ⟨(Lib.decDigits n).toArray⟩) ∧ Below w.heap.size w w' := by
  have h := Tryd.strconv_Itoa n (by omega) (by omega) w T
  refine h.mono ?_
  rintro e w' ⟨rfl, k, os, rfl⟩
  refine ⟨?_, grow_below w k os⟩
  unfold Lib.itoa
  rw [if_neg (by omega), Int.toNat_natCast]
theorem app_mk (a b : List UInt8) : (⟨a.toArray⟩ : ByteArray) ++ ⟨b.toArray⟩ = ⟨(a ++ b).toArray⟩ := by
  apply ByteArray.ext
  simp
theorem drop_mk (a : List UInt8) : (⟨a.toArray⟩ : ByteArray).extract 1 (⟨a.toArray⟩ : ByteArray).size = ⟨(a.drop 1).toArray⟩ := by
  apply ByteArray.ext
  simp only [size_mk]
  simp
  exact List.take_of_length_le (by simp)
theorem abs_tdiv (n : Int) : absI (n.tdiv 10000) = ((n.natAbs / 10000 : Nat) : Int) := by
  have h : (n.tdiv 10000).natAbs = n.natAbs / 10000 := Int.natAbs_tdiv n 10000
  unfold absI
  split <;> omega
theorem abs_tmod (n : Int) : absI (n.tmod 10000) = ((n.natAbs % 10000 : Nat) : Int) := by
  have h := Int.natAbs_tmod n 10000
  unfold absI
  have : ((10000 : Int).natAbs) = 10000 := rfl
  rw [this] at h
  split <;> omega

end Go.Proofs.YtjimgjohfpcnpaaDoor
