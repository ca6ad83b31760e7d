/- The walk of the law NumTexts. -/
import Derived.Test.YtdkoobpapdahaaaDoorNRParse2
import Derived.Test.YtdkoobpapdahaaaDoorNRPrint2
namespace Go.Proofs.YtdkoobpapdahaaaDoor
open Go.RowKit
set_option linter.unusedVariables false
set_option maxRecDepth 100000

set_option maxHeartbeats 2000000 in
theorem texts_core {s S2 : ByteArray} {n v : Int} {ok g : Bool} {w : World} (HT : Hid (PTab w))
    (P1 : ∀ u : World, Calls Tryd.prog 9 #[.string s] u fun e w' => e = .returned (.tuple #[.int .i64 v, .bool ok]) ∧ Below u.heap.size u w')
    (P2 : ∀ u : World, Calls Tryd.prog 10 #[.string s] u fun e w' => e = .returned (.tuple #[.int .i64 v, .bool ok]) ∧ Below u.heap.size u w')
    (Q1 : ∀ u : World, PTab u → Calls Tryd.prog 11 #[.int .i64 n] u fun e w' => e = .returned (.string S2) ∧ Below u.heap.size u w')
    (Q2 : ∀ u : World, Calls Tryd.prog 12 #[.int .i64 n] u fun e w' => e = .returned (.string S2) ∧ Below u.heap.size u w')
    (G1 : ∀ u : World, Calls Tryd.prog 13 #[.int .i64 n] u fun e w' => e = .returned (.bool g) ∧ w' = u)
    (G2 : ∀ u : World, Calls Tryd.prog 14 #[.int .i64 n] u fun e w' => e = .returned (.bool g) ∧ w' = u) :
    Calls Tryd.prog 3 #[.string s, .int .i64 n] w fun e w' => e = .returned (.bool true) ∧ Below w.heap.size w w' := by
  go_enter Tryd.func3, Tryd.ntmps3
  go_wp2_with fail
  refine (P1 _).mono ?_
  rintro e w1 ⟨rfl, hb1⟩
  have HB1 : Hid (Below w.heap.size w w1) := hb1
  have HT1 : Hid (PTab w1) := HT.out.below hb1
  clear hb1
  go_wp2_with fail
  refine (P2 _).mono ?_
  rintro e w2 ⟨rfl, hb2⟩
  have HB2 : Hid (Below w.heap.size w w2) := HB1.out.trans (hb2.mono HB1.out.size)
  have HT2 : Hid (PTab w2) := HT1.out.below hb2
  clear hb2
  go_wp2_with fail
  refine (Q1 _ HT2.out).mono ?_
  rintro e w3 ⟨rfl, hb3⟩
  have HB3 : Hid (Below w.heap.size w w3) := HB2.out.trans (hb3.mono HB2.out.size)
  have HT3 : Hid (PTab w3) := HT2.out.below hb3
  clear hb3
  go_wp2_with fail
  refine (Q2 _).mono ?_
  rintro e w4 ⟨rfl, hb4⟩
  have HB4 : Hid (Below w.heap.size w w4) := HB3.out.trans (hb4.mono HB3.out.size)
  have HT4 : Hid (PTab w4) := HT3.out.below hb4
  clear hb4
  go_wp2_with fail
  refine (G1 _).mono ?_
  rintro e w' ⟨rfl, hw⟩
  obtain rfl := hw.symm
  clear hw
  go_wp2_with fail
  refine (G2 _).mono ?_
  rintro e w' ⟨rfl, hw⟩
  obtain rfl := hw.symm
  clear hw
  go_wp2_with fail
  refine (lives_any _ HT4.out).mono ?_
  rintro e w9 ⟨rfl, hb9⟩
  have HB9 : Hid _ := hb9
  clear hb9
  go_wp2
  go_ret
  exact ⟨rfl, HB4.out.trans (HB9.out.mono HB4.out.size)⟩
theorem texts_walk (s : ByteArray) (n : Int) (hs : s.size ≤ 9223372036854775807) (hn : -9223372036854775808 ≤ n ∧ n ≤ 9223372036854775807) (w : World) (T : PTab w) :
    Calls Tryd.prog 3 #[.string s, .int .i64 n] w fun e w' => e = .returned (.bool true) ∧ Below w.heap.size w w' := by
  have hl : s.data.toList.length ≤ 9223372036854775807 := by rw [size_list]; exact hs
  have P1 := fun u => parse_any s.data.toList u hl
  have P2 := fun u => rparse_any s.data.toList u hl
  rw [mk_list] at P1 P2
  exact texts_core T P1 P2 (fun u hu => print_any n hn u hu) (fun u => rprint_any n hn u) (fun u => good_any n u) (fun u => rgood_any n u)
end Go.Proofs.YtdkoobpapdahaaaDoor
