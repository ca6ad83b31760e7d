/- ParseRef of the reference. -/
import Derived.Test.YtjimgjohfpcnpaaDoorARIndex
import Derived.Test.YtjimgjohfpcnpaaDoorAParseRef
namespace Go.Proofs.YtjimgjohfpcnpaaDoor
open Go.RowKit
set_option maxRecDepth 100000
set_option linter.unusedVariables false
set_option linter.unusedSimpArgs false
/-- A call, in whatever world behind w. -/
abbrev CB (w : World) (f : Nat) (args : Array Value) (r : Value) : Prop := ∀ u, Below w.heap.size w u → Calls Tryd.prog f args u fun e w' => e = .returned r ∧ Below u.heap.size u w'
/-- A call that leaves the world as it was. -/
abbrev CS (f : Nat) (args : Array Value) (r : Value) : Prop := ∀ u, Calls Tryd.prog f args u fun e w' => e = .returned r ∧ w' = u
section
variable {S B S1 SH S2 : ByteArray} {w : World}
/-! A text that begins with [ and is none. -/
set_option maxHeartbeats 4000000 in
theorem rr_noclose (hz : 0 < S.size) (h91 : ((S[0].toNat : Int) == 91) = true) (IX : CS 39 #[.string S, .int .u8 93] (.int .i64 (-1))) :
    Calls Tryd.prog 10 #[.string S] w fun e w' => e = .returned (.tuple #[ref0, .bool false]) ∧ Below w.heap.size w w' := by
  have c1 : (0 : Int) < S.size := by omega
  go_enter Tryd.func10, Tryd.ntmps10
  go_wp2_with (go_at_call 39; refine (IX _).mono ?_; rintro e w' ⟨rfl, hw⟩; obtain rfl := hw.symm; clear hw)
  refine bodyPost_ret (v := .tuple #[ref0, .bool false]) (by simp [results, Tryd.results10, go_sem]) rfl ?_
  refine ⟨rfl, ?_⟩
  repeat (first | exact Below.refl _ _ | refine Below.drew ?_ | refine bel_alloc ?_ _ | refine Below.setCell ?_ (by simp) _)
set_option maxHeartbeats 4000000 in
theorem rr_badbook {k : Nat} (hz : 0 < S.size) (h91 : ((S[0].toNat : Int) == 91) = true) (IX : CS 39 #[.string S, .int .u8 93] (.int .i64 k)) (k1 : 1 ≤ k) (k2 : k ≤ S.size) (hB : S.extract 1 k = B) (GB : CB w 12 #[.string B] (.bool false)) :
    Calls Tryd.prog 10 #[.string S] w fun e w' => e = .returned (.tuple #[ref0, .bool false]) ∧ Below w.heap.size w w' := by
  have c1 : (0 : Int) < S.size := by omega
  have c2 : ¬ (k : Int) < 0 := by omega
  have c3 : (1 : Int) ≤ k := by omega
  have c4 : (k : Int) ≤ S.size := by omega
  go_enter Tryd.func10, Tryd.ntmps10
  go_wp2_with (go_at_call 39; refine (IX _).mono ?_; rintro e w' ⟨rfl, hw⟩; obtain rfl := hw.symm; clear hw)
  refine (GB _ (bel_alloc (Below.refl _ _) _)).mono ?_
  rintro e w1 ⟨rfl, hb⟩
  have z1 := new1 hb
  have Z1 : Hid (w1.heap[w.heap.size]? = some ref0O) := z1
  have HB1 : Hid (Below w.heap.size w w1) := bel1 hb
  obtain ⟨d0, d1, d2, d3, d4, d5⟩ := r_cells z1
  obtain ⟨e0, e1, e2, e3, e4, e5⟩ := r_free z1
  clear z1 hb
  go_wp2
  exact bodyPost_ret (res_ref rfl rfl (set6 Z1.out) rfl) rfl ⟨rfl, bel_set6 HB1.out (Nat.le_refl _)⟩
set_option maxHeartbeats 4000000 in
theorem rr_nosheet {k m : Nat} (hz : 0 < S.size) (h91 : ((S[0].toNat : Int) == 91) = true) (IX : CS 39 #[.string S, .int .u8 93] (.int .i64 k)) (k1 : 1 ≤ k) (k2 : k ≤ S.size) (hm : (k : Int) + 1 = m) (m2 : m ≤ S.size) (mx : S.size ≤ 9223372036854775807) (hB : S.extract 1 k = B) (hS : S.extract m S.size = S1) (GB : CB w 12 #[.string B] (.bool true)) (IY : CS 39 #[.string S1, .int .u8 33] (.int .i64 (-1))) :
    Calls Tryd.prog 10 #[.string S] w fun e w' => e = .returned (.tuple #[ref0, .bool false]) ∧ Below w.heap.size w w' := by
  have c1 : (0 : Int) < S.size := by omega
  have c2 : ¬ (k : Int) < 0 := by omega
  have c3 : (1 : Int) ≤ k := by omega
  have c4 : (k : Int) ≤ S.size := by omega
  have c5 : (0 : Int) ≤ m := by omega
  have c6 : (m : Int) ≤ ↑S.size := by omega
  have c7 : IntKind.i64.wrap (m : Int) = m := wrap_i64 (by omega) (by omega)
  go_enter Tryd.func10, Tryd.ntmps10
  go_wp2_with (go_at_call 39; refine (IX _).mono ?_; rintro e w' ⟨rfl, hw⟩; obtain rfl := hw.symm; clear hw)
  refine (GB _ (bel_alloc (Below.refl _ _) _)).mono ?_
  rintro e w1 ⟨rfl, hb⟩
  have Z1 : Hid (w1.drew.heap[w.heap.size]? = some ref0O) := new1 hb.drew
  have HB1 : Hid (Below w.heap.size w w1.drew) := (bel1 hb).drew
  clear hb IX GB
  go_wp2_with fail
  go_region
  generalize w1.drew = v1 at *
  obtain ⟨d0, d1, d2, d3, d4, d5⟩ := r_cells Z1.out
  obtain ⟨e0, e1, e2, e3, e4, e5⟩ := r_free Z1.out
  go_wp2_with (go_at_call 39; refine (IY _).mono ?_; rintro e w' ⟨rfl, hw⟩; obtain rfl := hw.symm; clear hw)
  exact bodyPost_ret (res_ref rfl rfl (set6 Z1.out) rfl) rfl ⟨rfl, bel_set6 HB1.out (Nat.le_refl _)⟩
end
end Go.Proofs.YtjimgjohfpcnpaaDoor
