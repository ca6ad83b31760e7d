/- The walk of the law NumPairs. -/
import Derived.Test.YtdkoobpapdahaaaDoorNRPow
import Derived.Test.YtdkoobpapdahaaaDoorNLives
namespace Go.Proofs.YtdkoobpapdahaaaDoor
open Go.RowKit
set_option linter.unusedVariables false
set_option maxRecDepth 100000

set_option maxHeartbeats 4000000 in
theorem pairs_walk (a b : Int) (ha : a ≤ 9223372036854775807) (w : World) (T : PTab w) :
    Calls Tryd.prog 5 #[.int .i64 a, .int .i64 b] w fun e w' => e = .returned (.bool true) ∧ Below w.heap.size w w' := by
  have HT : Hid (PTab w) := T
  clear T
  have P_add := fun u => add_any a b u
  have R_add := fun u => radd_any a b u
  have P_sub := fun u => sub_any a b u
  have R_sub := fun u => rsub_any a b u
  have P_mul := fun u => mul_any a b u
  have R_mul := fun u => rmul_any a b u
  have P_div := fun u => div_any a b u
  have R_div := fun u => rdiv_any a b u
  have P_pow := fun u => pow_any a b u
  have R_pow := fun u => rpow_any a b u
  have P_mod := fun u => mod_any a b u
  have R_mod := fun u => rmod_any a b u
  have P_quo := fun u => quo_any a b u
  have R_quo := fun u => rquo_any a b u
  have P_comb := fun u => comb_any a b ha u
  have R_comb := fun u => rcomb_any a b ha u
  have P_gcd := fun u => gcd_any a b u
  have R_gcd := fun u => rgcd_any a b u
  generalize addF a b = r_add at *
  generalize subF a b = r_sub at *
  generalize mulF a b = r_mul at *
  generalize divF a b = r_div at *
  generalize powF a b = r_pow at *
  generalize modF a b = r_mod at *
  generalize quoF a b = r_quo at *
  generalize combF a b = r_comb at *
  generalize gcdF a b = r_gcd at *
  unfold two at *
  go_enter Tryd.func5, Tryd.ntmps5
  go_wp2_with (first
    | (go_at_call 16; refine (P_add _).mono ?_; rintro e w' ⟨rfl, hw⟩; obtain rfl := hw.symm; clear hw)
    | (go_at_call 21; refine (R_add _).mono ?_; rintro e w' ⟨rfl, hw⟩; obtain rfl := hw.symm; clear hw)
    | (go_at_call 17; refine (P_sub _).mono ?_; rintro e w' ⟨rfl, hw⟩; obtain rfl := hw.symm; clear hw)
    | (go_at_call 23; refine (R_sub _).mono ?_; rintro e w' ⟨rfl, hw⟩; obtain rfl := hw.symm; clear hw)
    | (go_at_call 18; refine (P_mul _).mono ?_; rintro e w' ⟨rfl, hw⟩; obtain rfl := hw.symm; clear hw)
    | (go_at_call 24; refine (R_mul _).mono ?_; rintro e w' ⟨rfl, hw⟩; obtain rfl := hw.symm; clear hw)
    | (go_at_call 25; refine (P_div _).mono ?_; rintro e w' ⟨rfl, hw⟩; obtain rfl := hw.symm; clear hw)
    | (go_at_call 26; refine (R_div _).mono ?_; rintro e w' ⟨rfl, hw⟩; obtain rfl := hw.symm; clear hw)
    | (go_at_call 27; refine (P_pow _).mono ?_; rintro e w1 ⟨rfl, hb1⟩; have HB1 : Hid (Below w.heap.size w w1) := hb1; have HT1 : Hid (PTab w1) := HT.out.below hb1; clear hb1)
    | (go_at_call 28; refine (R_pow _).mono ?_; rintro e w' ⟨rfl, hw⟩; obtain rfl := hw.symm; clear hw)
    | (go_at_call 19; refine (P_mod _).mono ?_; rintro e w' ⟨rfl, hw⟩; obtain rfl := hw.symm; clear hw)
    | (go_at_call 29; refine (R_mod _).mono ?_; rintro e w' ⟨rfl, hw⟩; obtain rfl := hw.symm; clear hw)
    | (go_at_call 30; refine (P_quo _).mono ?_; rintro e w' ⟨rfl, hw⟩; obtain rfl := hw.symm; clear hw)
    | (go_at_call 31; refine (R_quo _).mono ?_; rintro e w' ⟨rfl, hw⟩; obtain rfl := hw.symm; clear hw)
    | (go_at_call 32; refine (P_comb _).mono ?_; rintro e w' ⟨rfl, hw⟩; obtain rfl := hw.symm; clear hw)
    | (go_at_call 33; refine (R_comb _).mono ?_; rintro e w' ⟨rfl, hw⟩; obtain rfl := hw.symm; clear hw)
    | (go_at_call 22; refine (same_yes _ _).mono ?_; rintro e w' ⟨rfl, hw⟩; obtain rfl := hw.symm; clear hw)
    | (go_at_call 34; refine (P_gcd _).mono ?_; rintro e w2 ⟨rfl, hb2⟩; have HB2 : Hid (Below w.heap.size w w2) := HB1.out.trans (hb2.mono HB1.out.size); have HT2 : Hid (PTab w2) := HT1.out.below hb2; clear hb2)
    | (go_at_call 35; refine (R_gcd _).mono ?_; rintro e w3 ⟨rfl, hb3⟩; have HB3 : Hid (Below w.heap.size w w3) := HB2.out.trans (hb3.mono HB2.out.size); have HT3 : Hid (PTab w3) := HT2.out.below hb3; clear hb3)
    | (go_at_call 15; refine (lives_any _ HT3.out).mono ?_; rintro e w9 ⟨rfl, hb9⟩; have HB9 : Hid _ := hb9; clear hb9))
  go_ret
  exact ⟨rfl, HB3.out.trans (HB9.out.mono HB3.out.size)⟩
end Go.Proofs.YtdkoobpapdahaaaDoor
