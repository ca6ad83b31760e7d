/- The contract of lives; what the library's tables hold when a call begins. -/
import Derived.Test.YtnjkckkcepkaoaaDoorDParse2
import Derived.Test.YtnjkckkcepkaoaaDoorDPrint
import Derived.ProofKit
import Derived.LaidMore
import Derived.LaidSub
import Derived.Lay
import Derived.OpenShut
import Derived.Stop.Joined
namespace Go.Proofs.YtnjkckkcepkaoaaDoor
open Go.RowKit
set_option linter.unusedVariables false
set_option maxRecDepth 100000

theorem ex_a : dayF 1900 1 1 = (1, true) := by decide
theorem ex_b : dayF 1900 2 29 = (0, false) := by decide
theorem ex_date : Cal.IsDate (2021 : Nat) (1 : Nat) (3 : Nat) 44198 := ⟨by decide, by decide, by decide, by decide, by decide, by decide, by decide⟩
theorem ex_thu : Cal.IsDate 2020 12 31 (Cal.thu 44198) := ⟨by decide, by decide, by decide, by decide, by decide, by decide, by decide⟩
theorem ex_wk : Cal.wk 2020 (Cal.thu 44198) = 53 := by decide
theorem ex_wd : wdayF 1 = 2 := by decide
theorem ex_print : (⟨(printD 2021 1 3).toArray⟩ : ByteArray) = ⟨#[50, 48, 50, 49, 45, 48, 49, 45, 48, 51]⟩ := by
  have h1 : Lib.decDigits 1 = [49] := Lib.decDigits_one (by decide)
  have h3 : Lib.decDigits 3 = [51] := Lib.decDigits_one (by decide)
  have hy : Lib.decDigits 2021 = [50, 48, 50, 49] := by
    rw [Lib.decDigits, dif_neg (by decide), Lib.decDigits, dif_neg (by decide), Lib.decDigits, dif_neg (by decide), Lib.decDigits_one (by decide)]
    rfl
  unfold printD pad2
  rw [if_pos (by decide), if_pos (by decide), h1, h3, hy]
  rfl
theorem ex_list : (⟨#[50, 48, 50, 49, 45, 48, 49, 45, 48, 51]⟩ : ByteArray).data.toList = printD 2021 1 3 := by
  rw [← ex_print]
theorem ex_parse : parseF (⟨#[50, 48, 50, 49, 45, 48, 49, 45, 48, 51]⟩ : ByteArray).data.toList = (44198, true) := by
  rw [ex_list]
  exact parse_print ex_date
set_option maxHeartbeats 2000000 in
theorem lives_any (w : World) (T : PTab w) : Calls Tryd.prog 16 #[] w fun e w' => e = .returned (.bool true) ∧ Below w.heap.size w w' := by
  have A := fun u => day_any 1900 1 1 u
  have B := fun u => day_any 1900 2 29 u
  have PA := fun u => parse_any ⟨#[50, 48, 50, 49, 45, 48, 49, 45, 48, 51]⟩ (by decide) u
  have WK := fun u => week_yes (day := 44198) (by decide) ex_thu u
  have WD := fun u => weekday_any 1 u
  have PR := fun u hu => print_yes (day := 44198) ex_date u hu
  rw [ex_a] at A
  rw [ex_b] at B
  rw [ex_parse] at PA
  rw [ex_wk] at WK
  rw [ex_wd] at WD
  rw [ex_print] at PR
  unfold two at *
  have HT : Hid (PTab w) := T
  clear T
  go_enter Tryd.func16, Tryd.ntmps16
  go_wp2_with fail
  refine (A _).mono ?_
  rintro e w' ⟨rfl, hw⟩
  obtain rfl := hw.symm
  clear hw
  go_wp2_with fail
  refine (B _).mono ?_
  rintro e w' ⟨rfl, hw⟩
  obtain rfl := hw.symm
  clear hw
  go_wp2_with fail
  refine (PA _).mono ?_
  rintro e w1 ⟨rfl, hb1⟩
  have HB1 : Hid _ := hb1
  have HT1 : Hid (PTab w1) := HT.out.below hb1
  clear hb1
  go_wp2_with fail
  refine (WK _).mono ?_
  rintro e w' ⟨rfl, hw⟩
  obtain rfl := hw.symm
  clear hw
  go_wp2_with fail
  refine (WD _).mono ?_
  rintro e w' ⟨rfl, hw⟩
  obtain rfl := hw.symm
  clear hw
  go_wp2_with fail
  refine (PR _ HT1.out).mono ?_
  rintro e w2 ⟨rfl, hb2⟩
  have HB2 : Hid _ := hb2
  clear hb2
  go_wp2
  go_ret
  exact ⟨rfl, HB1.out.trans (HB2.out.mono HB1.out.size)⟩
end Go.Proofs.YtnjkckkcepkaoaaDoor
