/- The document's examples. -/
import Derived.Test.YtjimgjohfpcnpaaDoorAParseRef
import Derived.Test.YtjimgjohfpcnpaaDoorAEq
namespace Go.Proofs.YtjimgjohfpcnpaaDoor
open Go.RowKit
set_option maxRecDepth 100000
set_option linter.unusedVariables false
set_option linter.unusedSimpArgs false
def ex1 : List UInt8 := [91, 65, 99, 109, 101, 93, 74, 97, 110, 33, 36, 66, 36, 55]
theorem ex_ref : Ad.refP gnF ex1 = some ⟨[65, 99, 109, 101], [74, 97, 110], ⟨7, 2, true, true⟩⟩ := by kernel_rfl
theorem ex_no : Ad.refP gnF [65, 54, 53] = none := by kernel_rfl
theorem ex_a1 : gnF [65, 49] = false := by kernel_rfl
theorem ex_tax : gnF [116, 97, 120] = true := by kernel_rfl
theorem ex_b3 : ctB 3 2 = ⟨#[66, 51]⟩ := by
  unfold ctB
  rw [if_pos (by rfl)]
  unfold cellB Ad.cellW
  rw [show ((3 : Int).toNat) = 3 from rfl, Lib.decDigits_one (by decide)]
  rfl
set_option maxHeartbeats 4000000 in
theorem lives_core {w : World}
    (P1 : ∀ u, Below w.heap.size w u → Calls Tryd.prog 9 #[.string ⟨#[91, 65, 99, 109, 101, 93, 74, 97, 110, 33, 36, 66, 36, 55]⟩] u fun e w' => e = .returned (.tuple #[refV ⟨#[65, 99, 109, 101]⟩ ⟨#[74, 97, 110]⟩ 7 2 true true, .bool true]) ∧ Below u.heap.size u w')
    (P2 : ∀ u, Below w.heap.size w u → Calls Tryd.prog 9 #[.string ⟨#[65, 54, 53]⟩] u fun e w' => e = .returned (.tuple #[ref0, .bool false]) ∧ Below u.heap.size u w')
    (G1 : ∀ u, Below w.heap.size w u → Calls Tryd.prog 11 #[.string ⟨#[65, 49]⟩] u fun e w' => e = .returned (.bool false) ∧ Below u.heap.size u w')
    (G2 : ∀ u, Below w.heap.size w u → Calls Tryd.prog 11 #[.string ⟨#[116, 97, 120]⟩] u fun e w' => e = .returned (.bool true) ∧ Below u.heap.size u w')
    (CT : ∀ u, Below w.heap.size w u → Calls Tryd.prog 22 #[.int .i64 3, .int .i64 2] u fun e w' => e = .returned (.string ⟨#[66, 51]⟩) ∧ Below u.heap.size u w') :
    Calls Tryd.prog 13 #[] w fun e w' => e = .returned (.bool true) ∧ Below w.heap.size w w' := by
  have EQ := fun W => run_eq_ref ⟨#[65, 99, 109, 101]⟩ ⟨#[74, 97, 110]⟩ 7 2 true true W
  have GU := guard23
  go_enter Tryd.func13, Tryd.ntmps13
  go_wp2_with fail
  refine (P1 _ (Below.refl _ _)).mono ?_
  rintro e w1 ⟨rfl, hb⟩
  have HB1 : Hid (Below w.heap.size w w1) := hb
  clear hb
  go_wp2_with fail
  refine (P2 _ (bel_alloc HB1.out _)).mono ?_
  rintro e w2 ⟨rfl, hb⟩
  have HB2 : Hid (Below w.heap.size w w2) := bel_step (bel_alloc HB1.out _) hb
  have z1 := kept_new ((hb.block _ (lt_of (heap_alloc_new w1 _))).trans (heap_alloc_new w1 _)) ref0O
  obtain ⟨d0, d1, d2, d3, d4, d5⟩ := r_cells z1
  clear z1 hb P1 P2
  go_wp2_with fail
  refine (G1 _ (bel_alloc HB2.out _)).mono ?_
  rintro e w3 ⟨rfl, hb⟩
  have HB3 : Hid (Below w.heap.size w w3) := bel_step (bel_alloc HB2.out _) hb
  clear hb G1
  go_wp2_with fail
  refine (G2 _ HB3.out).mono ?_
  rintro e w4 ⟨rfl, hb⟩
  have HB4 : Hid (Below w.heap.size w w4) := bel_step HB3.out hb
  clear hb G2
  go_wp2_with fail
  refine (CT _ HB4.out).mono ?_
  rintro e w5 ⟨rfl, hb⟩
  have HB5 : Hid (Below w.heap.size w w5) := bel_step HB4.out hb
  clear hb CT
  go_wp2
  go_ret
  exact ⟨rfl, HB5.out⟩
theorem lives_any (w : World) (T : Tab8 w) : Calls Tryd.prog 13 #[] w fun e w' => e = .returned (.bool true) ∧ Below w.heap.size w w' := by
  refine lives_core (fun u hu => ?_) (fun u hu => ?_) (fun u hu => ?_) (fun u hu => ?_) (fun u hu => ?_)
  · have := parseref_any ex1 (by decide) u (T.below hu)
    rw [ex_ref] at this
    exact this
  · have := parseref_any [65, 54, 53] (by decide) u (T.below hu)
    rw [ex_no] at this
    exact this
  · have := goodname_any ⟨#[65, 49]⟩ (by decide) u (T.below hu).t
    rw [show (⟨#[65, 49]⟩ : ByteArray).data.toList = [65, 49] from rfl, ex_a1] at this
    exact this
  · have := goodname_any ⟨#[116, 97, 120]⟩ (by decide) u (T.below hu).t
    rw [show (⟨#[116, 97, 120]⟩ : ByteArray).data.toList = [116, 97, 120] from rfl, ex_tax] at this
    exact this
  · have := ct_any 3 2 u (T.below hu).t
    rw [ex_b3] at this
    exact this
end Go.Proofs.YtjimgjohfpcnpaaDoor
