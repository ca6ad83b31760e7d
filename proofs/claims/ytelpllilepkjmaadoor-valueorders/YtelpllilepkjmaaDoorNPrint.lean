/- The contract of Print. -/
import Derived.Test.YtelpllilepkjmaaDoorNParse
import Derived.Lib.AppendIntMem
import Derived.Lib.LaidTab
namespace Go.Proofs.YtelpllilepkjmaaDoor
open Go.RowKit
set_option linter.unusedSimpArgs false
set_option linter.unusedVariables false
set_option maxRecDepth 100000

/-- The table of the powers of ten lies in the library's variable. -/
def PTab (w : World) : Prop := Lib.TabIs Tryd.prog w "internal/strconv.uint64pow10" .u64 Lib.pow10Tab
theorem PTab.below {w w' : World} (h : PTab w) (hb : Below w.heap.size w w') : PTab w' := Lib.tabBelow_of_tabIs h w' hb
theorem PTab.below2 {w w' : World} {B : Nat} (h : PTab w) (hb : Below B w w') (hB : w.heap.size ≤ B) : PTab w' := h.below (hb.mono hB)
theorem grow_below (w : World) (k : Nat) (os : Array Obj) : Below w.heap.size w (Sort.grow (w.drewN k) os) := by
  have h := drewN_below w k
  have hk : (w.drewN k).heap.size = w.heap.size ∧ ∀ i, i < w.heap.size → (w.drewN k).heap[i]? = w.heap[i]? := by
    refine ⟨?_, h.block⟩
    clear h
    induction k with
    | zero => rw [World.drewN_zero]
    | succ n ih => exact ih
  refine ⟨h.os, h.tape, h.output, ?_, fun i hi => ?_⟩
  · show w.heap.size ≤ ((w.drewN k).heap ++ os).size
    simp only [Array.size_append]; omega
  · show ((w.drewN k).heap ++ os)[i]? = _
    rw [Array.getElem?_append_left (by omega)]
    exact hk.2 i hi
theorem itoa_any (n : Nat) (hn : n ≤ 9223372036854775807) (w : World) (T : PTab w) :
    Calls Tryd.prog 67 #[.int .i64 n] w fun e w' => e = .returned (.string ⟨(Lib.decDigits n).toArray⟩) ∧ Below w.heap.size w w' := by
  have h := Tryd.strconv_Itoa n (by omega) (by omega) w T
  refine h.mono ?_
  rintro e w' ⟨rfl, k, os, rfl⟩
  refine ⟨?_, grow_below w k os⟩
  unfold Lib.itoa
  rw [if_neg (by omega), Int.toNat_natCast]
theorem app_mk (a b : List UInt8) : (⟨a.toArray⟩ : ByteArray) ++ ⟨b.toArray⟩ = ⟨(a ++ b).toArray⟩ := by
  apply ByteArray.ext
  simp
theorem drop_mk (a : List UInt8) : (⟨a.toArray⟩ : ByteArray).extract 1 (⟨a.toArray⟩ : ByteArray).size = ⟨(a.drop 1).toArray⟩ := by
  apply ByteArray.ext
  simp only [size_mk]
  simp
  exact List.take_of_length_le (by simp)
theorem abs_tdiv (n : Int) : absI (n.tdiv 10000) = ((n.natAbs / 10000 : Nat) : Int) := by
  have h : (n.tdiv 10000).natAbs = n.natAbs / 10000 := Int.natAbs_tdiv n 10000
  unfold absI
  split <;> omega
theorem abs_tmod (n : Int) : absI (n.tmod 10000) = ((n.natAbs % 10000 : Nat) : Int) := by
  have h := Int.natAbs_tmod n 10000
  unfold absI
  have : ((10000 : Int).natAbs) = 10000 := rfl
  rw [this] at h
  split <;> omega

set_option maxHeartbeats 1000000 in
theorem print_core {n q r : Int} {Q R : Nat} {w : World} (hn : -9223372036854775808 ≤ n ∧ n ≤ 9223372036854775807) (hq : n.tdiv 10000 = q) (hr : n.tmod 10000 = r) (hq1 : -922337203685477 ≤ q ∧ q ≤ 922337203685477) (hR : R < 10000) (hQ : Q ≤ 922337203685477) (T : PTab w)
    (S1 : ∀ u : World, Calls Tryd.prog 68 #[.int .i64 q] u fun e w' => e = .returned (.int .i64 Q) ∧ w' = u)
    (S2 : ∀ u : World, Calls Tryd.prog 68 #[.int .i64 r] u fun e w' => e = .returned (.int .i64 R) ∧ w' = u) {A1 A2 A3 A4 : ByteArray}
    (I1 : ∀ u : World, PTab u → Calls Tryd.prog 67 #[.int .i64 Q] u fun e w' => e = .returned (.string A1) ∧ Below u.heap.size u w')
    (I2 : ∀ u : World, PTab u → Calls Tryd.prog 67 #[.int .i64 (10000 + (R : Int))] u fun e w' => e = .returned (.string A2) ∧ Below u.heap.size u w')
    (hs1 : A1.size ≤ 20) (hs4 : A4.size ≤ 4) (hs2 : ((⟨#[45]⟩ : ByteArray) ++ A1).size ≤ 21) (hs3 : ((⟨#[46]⟩ : ByteArray) ++ A4).size ≤ 5) (hone : ∀ b : UInt8, (⟨#[b]⟩ : ByteArray).size = 1) (h5 : A2.size = 5) (hA3 : A2.extract 1 5 = A3)
    (TR : ∀ u : World, Calls Tryd.prog 69 #[.string A3, .string ⟨#[48]⟩] u fun e w' => e = .returned (.string A4) ∧ w' = u) :
    Calls Tryd.prog 44 #[.int .i64 n] w fun e w' => e = .returned (.string (if R = 0 then (if n < 0 then (⟨#[45]⟩ : ByteArray) ++ A1 else A1) else ((if n < 0 then (⟨#[45]⟩ : ByteArray) ++ A1 else A1) ++ (⟨#[46]⟩ ++ A4)))) ∧ Below w.heap.size w w' := by
  have HT : Hid (PTab w) := T
  clear T
  generalize hX : (if R = 0 then (if n < 0 then (⟨#[45]⟩ : ByteArray) ++ A1 else A1) else ((if n < 0 then (⟨#[45]⟩ : ByteArray) ++ A1 else A1) ++ (⟨#[46]⟩ ++ A4))) = X
  by_cases hneg : n < 0
  · rw [if_pos hneg] at hX
    by_cases h0 : R = 0
    · rw [if_pos h0] at hX
      have HX : Hid _ := hX
      clear hX
      subst h0
      go_enter Tryd.func44, Tryd.ntmps44
      go_wp2_with fail
      refine (S1 _).mono ?_
      rintro e w' ⟨rfl, hw⟩
      obtain rfl := hw.symm
      clear hw
      go_wp2_with fail
      refine (I1 _ HT.out).mono ?_
      rintro e w1 ⟨rfl, hb1⟩
      have HB1 : Hid _ := hb1
      have HT1 : Hid (PTab w1) := HT.out.below hb1
      clear hb1
      go_wp2_with fail
      refine (S2 _).mono ?_
      rintro e w' ⟨rfl, hw⟩
      obtain rfl := hw.symm
      clear hw
      go_wp2
      go_ret
      exact ⟨by rw [← HX.out]; rfl, HB1.out⟩
    · rw [if_neg h0] at hX
      have HX : Hid _ := hX
      clear hX
      have h1 : (0 : Int) < (R : Int) := by omega
      go_enter Tryd.func44, Tryd.ntmps44
      go_wp2_with fail
      refine (S1 _).mono ?_
      rintro e w' ⟨rfl, hw⟩
      obtain rfl := hw.symm
      clear hw
      go_wp2_with fail
      refine (I1 _ HT.out).mono ?_
      rintro e w1 ⟨rfl, hb1⟩
      have HB1 : Hid _ := hb1
      have HT1 : Hid (PTab w1) := HT.out.below hb1
      clear hb1
      go_wp2_with fail
      refine (S2 _).mono ?_
      rintro e w' ⟨rfl, hw⟩
      obtain rfl := hw.symm
      clear hw
      go_wp2_with fail
      refine (I2 _ HT1.out).mono ?_
      rintro e w2 ⟨rfl, hb2⟩
      have HB2 : Hid _ := hb2
      clear hb2
      go_wp2_with fail
      refine (TR _).mono ?_
      rintro e w' ⟨rfl, hw⟩
      obtain rfl := hw.symm
      clear hw
      go_wp2
      go_ret
      exact ⟨by rw [← HX.out]; rfl, HB1.out.trans (HB2.out.mono HB1.out.size)⟩
  · rw [if_neg hneg] at hX
    by_cases h0 : R = 0
    · rw [if_pos h0] at hX
      have HX : Hid _ := hX
      clear hX
      subst h0
      go_enter Tryd.func44, Tryd.ntmps44
      go_wp2_with fail
      refine (S1 _).mono ?_
      rintro e w' ⟨rfl, hw⟩
      obtain rfl := hw.symm
      clear hw
      go_wp2_with fail
      refine (I1 _ HT.out).mono ?_
      rintro e w1 ⟨rfl, hb1⟩
      have HB1 : Hid _ := hb1
      have HT1 : Hid (PTab w1) := HT.out.below hb1
      clear hb1
      go_wp2_with fail
      refine (S2 _).mono ?_
      rintro e w' ⟨rfl, hw⟩
      obtain rfl := hw.symm
      clear hw
      go_wp2
      go_ret
      exact ⟨by rw [← HX.out]; rfl, HB1.out⟩
    · rw [if_neg h0] at hX
      have HX : Hid _ := hX
      clear hX
      have h1 : (0 : Int) < (R : Int) := by omega
      go_enter Tryd.func44, Tryd.ntmps44
      go_wp2_with fail
      refine (S1 _).mono ?_
      rintro e w' ⟨rfl, hw⟩
      obtain rfl := hw.symm
      clear hw
      go_wp2_with fail
      refine (I1 _ HT.out).mono ?_
      rintro e w1 ⟨rfl, hb1⟩
      have HB1 : Hid _ := hb1
      have HT1 : Hid (PTab w1) := HT.out.below hb1
      clear hb1
      go_wp2_with fail
      refine (S2 _).mono ?_
      rintro e w' ⟨rfl, hw⟩
      obtain rfl := hw.symm
      clear hw
      go_wp2_with fail
      refine (I2 _ HT1.out).mono ?_
      rintro e w2 ⟨rfl, hb2⟩
      have HB2 : Hid _ := hb2
      clear hb2
      go_wp2_with fail
      refine (TR _).mono ?_
      rintro e w' ⟨rfl, hw⟩
      obtain rfl := hw.symm
      clear hw
      go_wp2
      go_ret
      exact ⟨by rw [← HX.out]; rfl, HB1.out.trans (HB2.out.mono HB1.out.size)⟩
end Go.Proofs.YtelpllilepkjmaaDoor
