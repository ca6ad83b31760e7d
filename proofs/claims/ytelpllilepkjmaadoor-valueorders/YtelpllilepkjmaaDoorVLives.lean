/- The document's examples: lives. -/
import Derived.Test.YtelpllilepkjmaaDoorVJoin
namespace Go.Proofs.YtelpllilepkjmaaDoor
open Go.RowKit
set_option maxRecDepth 100000
set_option linter.unusedVariables false
set_option linter.unusedSimpArgs false
theorem ex_x : tonumF 2 0 ⟨#[120]⟩ = (0, 2) := by
  have h : parseF [120] = (0, false) := by decide
  show (if (parseF [120]).2 = true then (parseF [120]).1 else 0, if (parseF [120]).2 = true then (0 : Int) else 2) = _
  rw [h]
  rfl
theorem ex_15 : typedF ⟨#[49, 46, 53]⟩ = (1, 15000, ⟨#[]⟩) := by
  have h : parseF [49, 46, 53] = (15000, true) := by decide
  have e : (⟨#[49, 46, 53]⟩ : ByteArray).toList = [49, 46, 53] := ByteArray.toList_mk [49, 46, 53]
  unfold typedF
  rw [e, if_neg (by decide), if_neg (by decide)]
  show (if (parseF [49, 46, 53]).2 = true then _ else _) = _
  rw [h]
  rfl
theorem ex_q1 : typedF ⟨#[39, 49]⟩ = (2, 0, ⟨#[49]⟩) := by
  have e : (⟨#[39, 49]⟩ : ByteArray).toList = [39, 49] := ByteArray.toList_mk [39, 49]
  unfold typedF
  rw [e, if_neg (by decide), if_pos (by decide)]
  rfl
theorem ex_bad : badN 6 = 6 := by decide
theorem ex_na : textF 4 6 ⟨#[]⟩ = ⟨#[35, 78, 47, 65]⟩ := by decide
set_option maxHeartbeats 2000000 in
theorem lives_any (w : World) (T : Tabs w) : Calls Tryd.prog 18 #[] w fun e w' => e = .returned (.bool true) ∧ Below w.heap.size w w' := by
  have P1 := fun u => tonum_any 2 0 ⟨#[120]⟩ (by decide) u
  have P2 := fun u hu => typed_any ⟨#[49, 46, 53]⟩ (by decide) u hu
  have P3 := fun u hu => typed_any ⟨#[39, 49]⟩ (by decide) u hu
  have P4 := fun u => bad_any 6 u
  have P5 := fun u hu => vtext_any 4 6 ⟨#[]⟩ (by unfold In64; decide) u hu
  rw [ex_x] at P1
  rw [ex_15] at P2
  rw [ex_q1] at P3
  rw [ex_bad] at P4
  rw [ex_na] at P5
  unfold val at *
  dsimp only at P1 P2 P3
  have HT : Hid (Tabs w) := T
  clear T
  go_enter Tryd.func18, Tryd.ntmps18
  go_wp2_with fail
  refine (P1 _).mono ?_
  rintro e w1 ⟨rfl, hb⟩
  have HB1 : Hid (Below w.heap.size w w1) := hb
  clear hb
  go_wp2_with fail
  refine (P2 _ (HT.out.below HB1.out)).mono ?_
  rintro e w2 ⟨rfl, hb⟩
  have HB2 : Hid (Below w.heap.size w w2) := bel_step HB1.out hb
  clear hb
  go_wp2_with fail
  refine (P3 _ (HT.out.below HB2.out)).mono ?_
  rintro e w3 ⟨rfl, hb⟩
  have HB3 : Hid (Below w.heap.size w w3) := bel_step HB2.out hb
  clear hb
  go_wp2_with fail
  refine (P4 _).mono ?_
  rintro e w4 ⟨rfl, hb⟩
  have HB4 : Hid (Below w.heap.size w w4) := bel_step HB3.out hb
  clear hb
  go_wp2_with fail
  refine (P5 _ (HT.out.below HB4.out)).mono ?_
  rintro e w5 ⟨rfl, hb⟩
  have HB5 : Hid (Below w.heap.size w w5) := bel_step HB4.out hb
  clear hb
  go_wp2
  go_ret
  exact ⟨rfl, HB5.out⟩
end Go.Proofs.YtelpllilepkjmaaDoor
