import Derived.Test.YtljfkkpkcjigpaaGreatDoorAParseRef
set_option linter.unusedVariables false
set_option linter.unusedSimpArgs false
/- ParseRef of the reference. -/
namespace Go.Proofs.YtljfkkpkcjigpaaGreatDoor
open Go.RowKit
set_option maxRecDepth 100000
set_option linter.unusedVariables false
set_option linter.unusedSimpArgs false
/-- A call, in whatever world behind w. -/
abbrev CB (w : World) (f : Nat) (args : Array Value) (r : Value) : Prop := ∀ u, Below w.heap.size w u → Calls Tryz.prog f args u fun e w' => e = .returned r ∧ Below u.heap.size u w'
/-- A call that leaves the world as it was. -/
abbrev CS (f : Nat) (args : Array Value) (r : Value) : Prop := ∀ u, Calls Tryz.prog f args u fun e w' => e = .returned r ∧ w' = u
section
variable {S B S1 SH S2 : ByteArray} {w : World}
/-! A text that begins with [ and is none. -/
set_option maxHeartbeats 4000000 in
theorem rr_noclose (hz : 0 < S.size) (h91 : ((S[0].toNat : Int) == 91) = true) (IX : CS 168 #[.string S, .int .u8 93] (.int .i64 (-1))) :
    Calls Tryz.prog 129 #[.string S] w fun e w' => e = .returned (.tuple #[ref0, .bool false]) ∧ Below w.heap.size w w' := by
  have c1 : (0 : Int) < S.size := by omega
  go_enter Tryz.func129, Tryz.ntmps129
  go_wp2_with (go_at_call 168; refine (IX _).mono ?_; rintro e w' ⟨rfl, hw⟩; obtain rfl := hw.symm; clear hw)
  refine bodyPost_ret (v := .tuple #[ref0, .bool false]) (by simp [results, Tryz.results129, go_sem]) rfl ?_
  refine ⟨rfl, ?_⟩
  repeat (first | exact Below.refl _ _ | refine Below.drew ?_ | refine bel_alloc ?_ _ | refine Below.setCell ?_ (by simp) _)
set_option maxHeartbeats 4000000 in
theorem rr_badbook {k : Nat} (hz : 0 < S.size) (h91 : ((S[0].toNat : Int) == 91) = true) (IX : CS 168 #[.string S, .int .u8 93] (.int .i64 k)) (k1 : 1 ≤ k) (k2 : k ≤ S.size) (hB : S.extract 1 k = B) (GB : CB w 100 #[.string B] (.bool false)) :
    Calls Tryz.prog 129 #[.string S] w fun e w' => e = .returned (.tuple #[ref0, .bool false]) ∧ Below w.heap.size w w' := by
  have c1 : (0 : Int) < S.size := by omega
  have c2 : ¬ (k : Int) < 0 := by omega
  have c3 : (1 : Int) ≤ k := by omega
  have c4 : (k : Int) ≤ S.size := by omega
  go_enter Tryz.func129, Tryz.ntmps129
  go_wp2_with (go_at_call 168; refine (IX _).mono ?_; rintro e w' ⟨rfl, hw⟩; obtain rfl := hw.symm; clear hw)
  refine (GB _ (bel_alloc (Below.refl _ _) _)).mono ?_
  rintro e w1 ⟨rfl, hb⟩
  have z1 := new1 hb
  have Z1 : Hid (w1.heap[w.heap.size]? = some ref0O) := z1
  have HB1 : Hid (Below w.heap.size w w1) := bel1 hb
  obtain ⟨d0, d1, d2, d3, d4, d5⟩ := r_cells z1
  obtain ⟨e0, e1, e2, e3, e4, e5⟩ := r_free z1
  clear z1 hb
  go_wp2
  exact bodyPost_ret (res_ref rfl rfl (set6 Z1.out) rfl) rfl ⟨rfl, bel_set6 HB1.out (Nat.le_refl _)⟩
set_option maxHeartbeats 4000000 in
theorem rr_nosheet {k m : Nat} (hz : 0 < S.size) (h91 : ((S[0].toNat : Int) == 91) = true) (IX : CS 168 #[.string S, .int .u8 93] (.int .i64 k)) (k1 : 1 ≤ k) (k2 : k ≤ S.size) (hm : (k : Int) + 1 = m) (m2 : m ≤ S.size) (mx : S.size ≤ 9223372036854775807) (hB : S.extract 1 k = B) (hS : S.extract m S.size = S1) (GB : CB w 100 #[.string B] (.bool true)) (IY : CS 168 #[.string S1, .int .u8 33] (.int .i64 (-1))) :
    Calls Tryz.prog 129 #[.string S] w fun e w' => e = .returned (.tuple #[ref0, .bool false]) ∧ Below w.heap.size w w' := by
  have c1 : (0 : Int) < S.size := by omega
  have c2 : ¬ (k : Int) < 0 := by omega
  have c3 : (1 : Int) ≤ k := by omega
  have c4 : (k : Int) ≤ S.size := by omega
  have c5 : (0 : Int) ≤ m := by omega
  have c6 : (m : Int) ≤ ↑S.size := by omega
  have c7 : IntKind.i64.wrap (m : Int) = m := wrap_i64 (by omega) (by omega)
  go_enter Tryz.func129, Tryz.ntmps129
  go_wp2_with (go_at_call 168; refine (IX _).mono ?_; rintro e w' ⟨rfl, hw⟩; obtain rfl := hw.symm; clear hw)
  refine (GB _ (bel_alloc (Below.refl _ _) _)).mono ?_
  rintro e w1 ⟨rfl, hb⟩
  have Z1 : Hid (w1.drew.heap[w.heap.size]? = some ref0O) := new1 hb.drew
  have HB1 : Hid (Below w.heap.size w w1.drew) := (bel1 hb).drew
  clear hb IX GB
  go_wp2_with fail
  go_region
  generalize w1.drew = v1 at *
  obtain ⟨d0, d1, d2, d3, d4, d5⟩ := r_cells Z1.out
  obtain ⟨e0, e1, e2, e3, e4, e5⟩ := r_free Z1.out
  go_wp2_with (go_at_call 168; refine (IY _).mono ?_; rintro e w' ⟨rfl, hw⟩; obtain rfl := hw.symm; clear hw)
  exact bodyPost_ret (res_ref rfl rfl (set6 Z1.out) rfl) rfl ⟨rfl, bel_set6 HB1.out (Nat.le_refl _)⟩
end
end Go.Proofs.YtljfkkpkcjigpaaGreatDoor

/- ParseRef of the reference. -/
namespace Go.Proofs.YtljfkkpkcjigpaaGreatDoor
open Go.RowKit
set_option maxRecDepth 100000
set_option linter.unusedVariables false
set_option linter.unusedSimpArgs false
section
variable {S B S1 SH S2 : ByteArray} {w : World}
set_option maxHeartbeats 4000000 in
theorem rr_book_bad {k m : Nat} (hz : 0 < S.size) (h91 : ((S[0].toNat : Int) == 91) = true) (IX : CS 168 #[.string S, .int .u8 93] (.int .i64 k)) (k1 : 1 ≤ k) (k2 : k ≤ S.size) (hm : (k : Int) + 1 = m) (m2 : m ≤ S.size) (mx : S.size ≤ 9223372036854775807) (hB : S.extract 1 k = B) (hS : S.extract m S.size = S1) (GB : CB w 100 #[.string B] (.bool true)) {j n : Nat} (IY : CS 168 #[.string S1, .int .u8 33] (.int .i64 j)) (j2 : j ≤ S1.size) (hn : (j : Int) + 1 = n) (n2 : n ≤ S1.size) (nx : S1.size ≤ 9223372036854775807) (hH : S1.extract 0 j = SH) (hX : S1.extract n S1.size = S2) (GS : CB w 100 #[.string SH] (.bool false)) :
    Calls Tryz.prog 129 #[.string S] w fun e w' => e = .returned (.tuple #[ref0, .bool false]) ∧ Below w.heap.size w w' := by
  have f1 : ¬ (j : Int) < 0 := by omega
  have f2 : (0 : Int) ≤ j := by omega
  have f3 : (j : Int) ≤ S1.size := by omega
  have f4 : (0 : Int) ≤ n := by omega
  have f5 : (n : Int) ≤ ↑S1.size := by omega
  have f6 : IntKind.i64.wrap (n : Int) = n := wrap_i64 (by omega) (by omega)
  have c1 : (0 : Int) < S.size := by omega
  have c2 : ¬ (k : Int) < 0 := by omega
  have c3 : (1 : Int) ≤ k := by omega
  have c4 : (k : Int) ≤ S.size := by omega
  have c5 : (0 : Int) ≤ m := by omega
  have c6 : (m : Int) ≤ ↑S.size := by omega
  have c7 : IntKind.i64.wrap (m : Int) = m := wrap_i64 (by omega) (by omega)
  go_enter Tryz.func129, Tryz.ntmps129
  go_wp2_with (go_at_call 168; refine (IX _).mono ?_; rintro e w' ⟨rfl, hw⟩; obtain rfl := hw.symm; clear hw)
  refine (GB _ (bel_alloc (Below.refl _ _) _)).mono ?_
  rintro e w1 ⟨rfl, hb⟩
  have Z1 : Hid (w1.drew.heap[w.heap.size]? = some ref0O) := new1 hb.drew
  have HB1 : Hid (Below w.heap.size w w1.drew) := (bel1 hb).drew
  clear hb IX GB
  go_wp2_with fail
  go_region
  generalize w1.drew = v1 at *
  go_wp2_with (go_at_call 168; refine (IY _).mono ?_; rintro e w' ⟨rfl, hw⟩; obtain rfl := hw.symm; clear hw)
  refine (GS _ HB1.out).mono ?_
  rintro e w3 ⟨rfl, hb⟩
  have Z3 : Hid (w3.heap[w.heap.size]? = some ref0O) := (hb.block _ (lt_of Z1.out)).trans Z1.out
  have HB3 : Hid (Below w.heap.size w w3) := bel_step HB1.out hb
  clear hb GS
  obtain ⟨d0, d1, d2, d3, d4, d5⟩ := r_cells Z3.out
  obtain ⟨e0, e1, e2, e3, e4, e5⟩ := r_free Z3.out
  go_wp2
  exact bodyPost_ret (res_ref rfl rfl (set6 Z3.out) rfl) rfl ⟨rfl, bel_set6 HB3.out (Nat.le_refl _)⟩
set_option maxHeartbeats 4000000 in
theorem rr_book_no {k m : Nat} (hz : 0 < S.size) (h91 : ((S[0].toNat : Int) == 91) = true) (IX : CS 168 #[.string S, .int .u8 93] (.int .i64 k)) (k1 : 1 ≤ k) (k2 : k ≤ S.size) (hm : (k : Int) + 1 = m) (m2 : m ≤ S.size) (mx : S.size ≤ 9223372036854775807) (hB : S.extract 1 k = B) (hS : S.extract m S.size = S1) (GB : CB w 100 #[.string B] (.bool true)) {j n : Nat} (IY : CS 168 #[.string S1, .int .u8 33] (.int .i64 j)) (j2 : j ≤ S1.size) (hn : (j : Int) + 1 = n) (n2 : n ≤ S1.size) (nx : S1.size ≤ 9223372036854775807) (hH : S1.extract 0 j = SH) (hX : S1.extract n S1.size = S2) (GS : CB w 100 #[.string SH] (.bool true)) {b s : ByteArray} {r c : Int} {fr fc : Bool} (PC : CB w 130 #[.string S2] (.tuple #[refV b s r c fr fc, .bool false])) :
    Calls Tryz.prog 129 #[.string S] w fun e w' => e = .returned (.tuple #[ref0, .bool false]) ∧ Below w.heap.size w w' := by
  have f1 : ¬ (j : Int) < 0 := by omega
  have f2 : (0 : Int) ≤ j := by omega
  have f3 : (j : Int) ≤ S1.size := by omega
  have f4 : (0 : Int) ≤ n := by omega
  have f5 : (n : Int) ≤ ↑S1.size := by omega
  have f6 : IntKind.i64.wrap (n : Int) = n := wrap_i64 (by omega) (by omega)
  have c1 : (0 : Int) < S.size := by omega
  have c2 : ¬ (k : Int) < 0 := by omega
  have c3 : (1 : Int) ≤ k := by omega
  have c4 : (k : Int) ≤ S.size := by omega
  have c5 : (0 : Int) ≤ m := by omega
  have c6 : (m : Int) ≤ ↑S.size := by omega
  have c7 : IntKind.i64.wrap (m : Int) = m := wrap_i64 (by omega) (by omega)
  go_enter Tryz.func129, Tryz.ntmps129
  go_wp2_with (go_at_call 168; refine (IX _).mono ?_; rintro e w' ⟨rfl, hw⟩; obtain rfl := hw.symm; clear hw)
  refine (GB _ (bel_alloc (Below.refl _ _) _)).mono ?_
  rintro e w1 ⟨rfl, hb⟩
  have Z1 : Hid (w1.drew.heap[w.heap.size]? = some ref0O) := new1 hb.drew
  have HB1 : Hid (Below w.heap.size w w1.drew) := (bel1 hb).drew
  clear hb IX GB
  go_wp2_with fail
  go_region
  generalize w1.drew = v1 at *
  go_wp2_with (go_at_call 168; refine (IY _).mono ?_; rintro e w' ⟨rfl, hw⟩; obtain rfl := hw.symm; clear hw)
  refine (GS _ HB1.out).mono ?_
  rintro e w3 ⟨rfl, hb⟩
  have Z3 : Hid (w3.heap[w.heap.size]? = some ref0O) := (hb.block _ (lt_of Z1.out)).trans Z1.out
  have HB3 : Hid (Below w.heap.size w w3) := bel_step HB1.out hb
  clear hb GS
  go_wp2_with fail
  go_region
  have Z3d : Hid (w3.drew.heap[w.heap.size]? = some ref0O) := Z3.out
  have HB3d : Hid (Below w.heap.size w w3.drew) := HB3.out.drew
  clear Z3 HB3
  generalize w3.drew = v3 at *
  go_wp2_with fail
  refine (PC _ HB3d.out).mono ?_
  rintro e w4 ⟨rfl, hb⟩
  have z4 := (hb.block _ (lt_of Z3d.out)).trans Z3d.out
  have HB4 : Hid (Below w.heap.size w (w4.alloc (refO b s r c fr fc))) := bel_alloc (bel_step HB3d.out hb) _
  have Z4 : Hid ((w4.alloc (refO b s r c fr fc)).heap[w.heap.size]? = some ref0O) := kept_new z4 _
  obtain ⟨d0, d1, d2, d3, d4, d5⟩ := r_cells Z4.out
  obtain ⟨e0, e1, e2, e3, e4, e5⟩ := r_free Z4.out
  clear z4 hb
  go_wp2
  exact bodyPost_ret (res_ref rfl rfl (set6 Z4.out) rfl) rfl ⟨rfl, bel_set6 HB4.out (Nat.le_refl _)⟩
set_option maxHeartbeats 4000000 in
theorem rr_book_yes {k m : Nat} (hz : 0 < S.size) (h91 : ((S[0].toNat : Int) == 91) = true) (IX : CS 168 #[.string S, .int .u8 93] (.int .i64 k)) (k1 : 1 ≤ k) (k2 : k ≤ S.size) (hm : (k : Int) + 1 = m) (m2 : m ≤ S.size) (mx : S.size ≤ 9223372036854775807) (hB : S.extract 1 k = B) (hS : S.extract m S.size = S1) (GB : CB w 100 #[.string B] (.bool true)) {j n : Nat} (IY : CS 168 #[.string S1, .int .u8 33] (.int .i64 j)) (j2 : j ≤ S1.size) (hn : (j : Int) + 1 = n) (n2 : n ≤ S1.size) (nx : S1.size ≤ 9223372036854775807) (hH : S1.extract 0 j = SH) (hX : S1.extract n S1.size = S2) (GS : CB w 100 #[.string SH] (.bool true)) {b s : ByteArray} {r c : Int} {fr fc : Bool} (PC : CB w 130 #[.string S2] (.tuple #[refV b s r c fr fc, .bool true])) :
    Calls Tryz.prog 129 #[.string S] w fun e w' => e = .returned (.tuple #[refV B SH r c fr fc, .bool true]) ∧ Below w.heap.size w w' := by
  have f1 : ¬ (j : Int) < 0 := by omega
  have f2 : (0 : Int) ≤ j := by omega
  have f3 : (j : Int) ≤ S1.size := by omega
  have f4 : (0 : Int) ≤ n := by omega
  have f5 : (n : Int) ≤ ↑S1.size := by omega
  have f6 : IntKind.i64.wrap (n : Int) = n := wrap_i64 (by omega) (by omega)
  have c1 : (0 : Int) < S.size := by omega
  have c2 : ¬ (k : Int) < 0 := by omega
  have c3 : (1 : Int) ≤ k := by omega
  have c4 : (k : Int) ≤ S.size := by omega
  have c5 : (0 : Int) ≤ m := by omega
  have c6 : (m : Int) ≤ ↑S.size := by omega
  have c7 : IntKind.i64.wrap (m : Int) = m := wrap_i64 (by omega) (by omega)
  go_enter Tryz.func129, Tryz.ntmps129
  go_wp2_with (go_at_call 168; refine (IX _).mono ?_; rintro e w' ⟨rfl, hw⟩; obtain rfl := hw.symm; clear hw)
  refine (GB _ (bel_alloc (Below.refl _ _) _)).mono ?_
  rintro e w1 ⟨rfl, hb⟩
  have Z1 : Hid (w1.drew.heap[w.heap.size]? = some ref0O) := new1 hb.drew
  have HB1 : Hid (Below w.heap.size w w1.drew) := (bel1 hb).drew
  clear hb IX GB
  go_wp2_with fail
  go_region
  generalize w1.drew = v1 at *
  go_wp2_with (go_at_call 168; refine (IY _).mono ?_; rintro e w' ⟨rfl, hw⟩; obtain rfl := hw.symm; clear hw)
  refine (GS _ HB1.out).mono ?_
  rintro e w3 ⟨rfl, hb⟩
  have Z3 : Hid (w3.heap[w.heap.size]? = some ref0O) := (hb.block _ (lt_of Z1.out)).trans Z1.out
  have HB3 : Hid (Below w.heap.size w w3) := bel_step HB1.out hb
  clear hb GS
  go_wp2_with fail
  go_region
  have Z3d : Hid (w3.drew.heap[w.heap.size]? = some ref0O) := Z3.out
  have HB3d : Hid (Below w.heap.size w w3.drew) := HB3.out.drew
  clear Z3 HB3
  generalize w3.drew = v3 at *
  go_wp2_with fail
  refine (PC _ HB3d.out).mono ?_
  rintro e w4 ⟨rfl, hb⟩
  have z4 := (hb.block _ (lt_of Z3d.out)).trans Z3d.out
  have HB4 : Hid (Below w.heap.size w (w4.alloc (refO B SH r c fr fc))) := bel_alloc (bel_step HB3d.out hb) _
  have Z4 : Hid ((w4.alloc (refO B SH r c fr fc)).heap[w.heap.size]? = some ref0O) := kept_new z4 _
  obtain ⟨d0, d1, d2, d3, d4, d5⟩ := r_cells Z4.out
  obtain ⟨e0, e1, e2, e3, e4, e5⟩ := r_free Z4.out
  clear z4 hb
  go_wp2
  exact bodyPost_ret (res_ref rfl rfl (set6 Z4.out) rfl) rfl ⟨rfl, bel_set6 HB4.out (Nat.le_refl _)⟩
end
end Go.Proofs.YtljfkkpkcjigpaaGreatDoor

/- ParseRef of the reference. -/
namespace Go.Proofs.YtljfkkpkcjigpaaGreatDoor
open Go.RowKit
set_option maxRecDepth 100000
set_option linter.unusedVariables false
set_option linter.unusedSimpArgs false
section
variable {S B S1 SH S2 : ByteArray} {w : World}
set_option maxHeartbeats 4000000 in
theorem rr_sheet_bad (hq : (S.size = 0) ∨ ∃ hz : 0 < S.size, ((S[0].toNat : Int) == 91) = false) {j n : Nat} (IY : CS 168 #[.string S, .int .u8 33] (.int .i64 j)) (j2 : j ≤ S.size) (hn : (j : Int) + 1 = n) (n2 : n ≤ S.size) (nx : S.size ≤ 9223372036854775807) (hH : S.extract 0 j = SH) (hX : S.extract n S.size = S2) (GS : CB w 100 #[.string SH] (.bool false)) :
    Calls Tryz.prog 129 #[.string S] w fun e w' => e = .returned (.tuple #[ref0, .bool false]) ∧ Below w.heap.size w w' := by
  have f1 : ¬ (j : Int) < 0 := by omega
  have f2 : (0 : Int) ≤ j := by omega
  have f3 : (j : Int) ≤ S.size := by omega
  have f4 : (0 : Int) ≤ n := by omega
  have f5 : (n : Int) ≤ ↑S.size := by omega
  have f6 : IntKind.i64.wrap (n : Int) = n := wrap_i64 (by omega) (by omega)
  have hq' : (¬ (0 : Int) < S.size) ∨ ∃ hz : 0 < S.size, (0 : Int) < S.size ∧ ((S[0].toNat : Int) == 91) = false := by
    rcases hq with h | ⟨h, g⟩
    · exact .inl (by omega)
    · exact .inr ⟨h, by omega, g⟩
  clear hq
  have HB0 : Hid (Below w.heap.size w (w.alloc ref0O)) := bel_alloc (Below.refl _ _) _
  have Z0 : Hid ((w.alloc ref0O).heap[w.heap.size]? = some ref0O) := heap_alloc_new w _
  rcases hq' with h | ⟨hz, h, h'⟩
  · exfalso
    omega
  · go_enter Tryz.func129, Tryz.ntmps129
    go_wp2_with (go_at_call 168; refine (IY _).mono ?_; rintro e w' ⟨rfl, hw⟩; obtain rfl := hw.symm; clear hw)
    refine (GS _ HB0.out).mono ?_
    rintro e w3 ⟨rfl, hb⟩
    have Z3 : Hid (w3.heap[w.heap.size]? = some ref0O) := (hb.block _ (lt_of Z0.out)).trans Z0.out
    have HB3 : Hid (Below w.heap.size w w3) := bel_step HB0.out hb
    clear hb GS
    obtain ⟨d0, d1, d2, d3, d4, d5⟩ := r_cells Z3.out
    obtain ⟨e0, e1, e2, e3, e4, e5⟩ := r_free Z3.out
    go_wp2
    exact bodyPost_ret (res_ref rfl rfl (set6 Z3.out) rfl) rfl ⟨rfl, bel_set6 HB3.out (Nat.le_refl _)⟩
set_option maxHeartbeats 4000000 in
theorem rr_sheet_no (hq : (S.size = 0) ∨ ∃ hz : 0 < S.size, ((S[0].toNat : Int) == 91) = false) {j n : Nat} (IY : CS 168 #[.string S, .int .u8 33] (.int .i64 j)) (j2 : j ≤ S.size) (hn : (j : Int) + 1 = n) (n2 : n ≤ S.size) (nx : S.size ≤ 9223372036854775807) (hH : S.extract 0 j = SH) (hX : S.extract n S.size = S2) (GS : CB w 100 #[.string SH] (.bool true)) {b s : ByteArray} {r c : Int} {fr fc : Bool} (PC : CB w 130 #[.string S2] (.tuple #[refV b s r c fr fc, .bool false])) :
    Calls Tryz.prog 129 #[.string S] w fun e w' => e = .returned (.tuple #[ref0, .bool false]) ∧ Below w.heap.size w w' := by
  have f1 : ¬ (j : Int) < 0 := by omega
  have f2 : (0 : Int) ≤ j := by omega
  have f3 : (j : Int) ≤ S.size := by omega
  have f4 : (0 : Int) ≤ n := by omega
  have f5 : (n : Int) ≤ ↑S.size := by omega
  have f6 : IntKind.i64.wrap (n : Int) = n := wrap_i64 (by omega) (by omega)
  have hq' : (¬ (0 : Int) < S.size) ∨ ∃ hz : 0 < S.size, (0 : Int) < S.size ∧ ((S[0].toNat : Int) == 91) = false := by
    rcases hq with h | ⟨h, g⟩
    · exact .inl (by omega)
    · exact .inr ⟨h, by omega, g⟩
  clear hq
  have HB0 : Hid (Below w.heap.size w (w.alloc ref0O)) := bel_alloc (Below.refl _ _) _
  have Z0 : Hid ((w.alloc ref0O).heap[w.heap.size]? = some ref0O) := heap_alloc_new w _
  rcases hq' with h | ⟨hz, h, h'⟩
  · exfalso
    omega
  · go_enter Tryz.func129, Tryz.ntmps129
    go_wp2_with (go_at_call 168; refine (IY _).mono ?_; rintro e w' ⟨rfl, hw⟩; obtain rfl := hw.symm; clear hw)
    refine (GS _ HB0.out).mono ?_
    rintro e w3 ⟨rfl, hb⟩
    have Z3 : Hid (w3.heap[w.heap.size]? = some ref0O) := (hb.block _ (lt_of Z0.out)).trans Z0.out
    have HB3 : Hid (Below w.heap.size w w3) := bel_step HB0.out hb
    clear hb GS
    go_wp2_with fail
    go_region
    have Z3d : Hid (w3.drew.heap[w.heap.size]? = some ref0O) := Z3.out
    have HB3d : Hid (Below w.heap.size w w3.drew) := HB3.out.drew
    clear Z3 HB3
    generalize w3.drew = v3 at *
    go_wp2_with fail
    refine (PC _ HB3d.out).mono ?_
    rintro e w4 ⟨rfl, hb⟩
    have z4 := (hb.block _ (lt_of Z3d.out)).trans Z3d.out
    have HB4 : Hid (Below w.heap.size w (w4.alloc (refO b s r c fr fc))) := bel_alloc (bel_step HB3d.out hb) _
    have Z4 : Hid ((w4.alloc (refO b s r c fr fc)).heap[w.heap.size]? = some ref0O) := kept_new z4 _
    obtain ⟨d0, d1, d2, d3, d4, d5⟩ := r_cells Z4.out
    obtain ⟨e0, e1, e2, e3, e4, e5⟩ := r_free Z4.out
    clear z4 hb
    go_wp2
    exact bodyPost_ret (res_ref rfl rfl (set6 Z4.out) rfl) rfl ⟨rfl, bel_set6 HB4.out (Nat.le_refl _)⟩
set_option maxHeartbeats 4000000 in
theorem rr_sheet_yes (hq : (S.size = 0) ∨ ∃ hz : 0 < S.size, ((S[0].toNat : Int) == 91) = false) {j n : Nat} (IY : CS 168 #[.string S, .int .u8 33] (.int .i64 j)) (j2 : j ≤ S.size) (hn : (j : Int) + 1 = n) (n2 : n ≤ S.size) (nx : S.size ≤ 9223372036854775807) (hH : S.extract 0 j = SH) (hX : S.extract n S.size = S2) (GS : CB w 100 #[.string SH] (.bool true)) {b s : ByteArray} {r c : Int} {fr fc : Bool} (PC : CB w 130 #[.string S2] (.tuple #[refV b s r c fr fc, .bool true])) :
    Calls Tryz.prog 129 #[.string S] w fun e w' => e = .returned (.tuple #[refV ⟨#[]⟩ SH r c fr fc, .bool true]) ∧ Below w.heap.size w w' := by
  have f1 : ¬ (j : Int) < 0 := by omega
  have f2 : (0 : Int) ≤ j := by omega
  have f3 : (j : Int) ≤ S.size := by omega
  have f4 : (0 : Int) ≤ n := by omega
  have f5 : (n : Int) ≤ ↑S.size := by omega
  have f6 : IntKind.i64.wrap (n : Int) = n := wrap_i64 (by omega) (by omega)
  have hq' : (¬ (0 : Int) < S.size) ∨ ∃ hz : 0 < S.size, (0 : Int) < S.size ∧ ((S[0].toNat : Int) == 91) = false := by
    rcases hq with h | ⟨h, g⟩
    · exact .inl (by omega)
    · exact .inr ⟨h, by omega, g⟩
  clear hq
  have HB0 : Hid (Below w.heap.size w (w.alloc ref0O)) := bel_alloc (Below.refl _ _) _
  have Z0 : Hid ((w.alloc ref0O).heap[w.heap.size]? = some ref0O) := heap_alloc_new w _
  rcases hq' with h | ⟨hz, h, h'⟩
  · exfalso
    omega
  · go_enter Tryz.func129, Tryz.ntmps129
    go_wp2_with (go_at_call 168; refine (IY _).mono ?_; rintro e w' ⟨rfl, hw⟩; obtain rfl := hw.symm; clear hw)
    refine (GS _ HB0.out).mono ?_
    rintro e w3 ⟨rfl, hb⟩
    have Z3 : Hid (w3.heap[w.heap.size]? = some ref0O) := (hb.block _ (lt_of Z0.out)).trans Z0.out
    have HB3 : Hid (Below w.heap.size w w3) := bel_step HB0.out hb
    clear hb GS
    go_wp2_with fail
    go_region
    have Z3d : Hid (w3.drew.heap[w.heap.size]? = some ref0O) := Z3.out
    have HB3d : Hid (Below w.heap.size w w3.drew) := HB3.out.drew
    clear Z3 HB3
    generalize w3.drew = v3 at *
    go_wp2_with fail
    refine (PC _ HB3d.out).mono ?_
    rintro e w4 ⟨rfl, hb⟩
    have z4 := (hb.block _ (lt_of Z3d.out)).trans Z3d.out
    have HB4 : Hid (Below w.heap.size w (w4.alloc (refO ⟨#[]⟩ SH r c fr fc))) := bel_alloc (bel_step HB3d.out hb) _
    have Z4 : Hid ((w4.alloc (refO ⟨#[]⟩ SH r c fr fc)).heap[w.heap.size]? = some ref0O) := kept_new z4 _
    obtain ⟨d0, d1, d2, d3, d4, d5⟩ := r_cells Z4.out
    obtain ⟨e0, e1, e2, e3, e4, e5⟩ := r_free Z4.out
    clear z4 hb
    go_wp2
    exact bodyPost_ret (res_ref rfl rfl (set6 Z4.out) rfl) rfl ⟨rfl, bel_set6 HB4.out (Nat.le_refl _)⟩
end
end Go.Proofs.YtljfkkpkcjigpaaGreatDoor

/- ParseRef of the reference. -/
namespace Go.Proofs.YtljfkkpkcjigpaaGreatDoor
open Go.RowKit
set_option maxRecDepth 100000
set_option linter.unusedVariables false
set_option linter.unusedSimpArgs false
section
variable {S B S1 SH S2 : ByteArray} {w : World}
set_option maxHeartbeats 4000000 in
theorem rr_cell_no (hq : (S.size = 0) ∨ ∃ hz : 0 < S.size, ((S[0].toNat : Int) == 91) = false) (IY : CS 168 #[.string S, .int .u8 33] (.int .i64 (-1))) {b s : ByteArray} {r c : Int} {fr fc : Bool} (PC : CB w 130 #[.string S] (.tuple #[refV b s r c fr fc, .bool false])) :
    Calls Tryz.prog 129 #[.string S] w fun e w' => e = .returned (.tuple #[ref0, .bool false]) ∧ Below w.heap.size w w' := by
  have hq' : (¬ (0 : Int) < S.size) ∨ ∃ hz : 0 < S.size, (0 : Int) < S.size ∧ ((S[0].toNat : Int) == 91) = false := by
    rcases hq with h | ⟨h, g⟩
    · exact .inl (by omega)
    · exact .inr ⟨h, by omega, g⟩
  clear hq
  have HB0 : Hid (Below w.heap.size w (w.alloc ref0O)) := bel_alloc (Below.refl _ _) _
  have Z0 : Hid ((w.alloc ref0O).heap[w.heap.size]? = some ref0O) := heap_alloc_new w _
  rcases hq' with h | ⟨hz, h, h'⟩
  · go_enter Tryz.func129, Tryz.ntmps129
    go_wp2_with (go_at_call 168; refine (IY _).mono ?_; rintro e w' ⟨rfl, hw⟩; obtain rfl := hw.symm; clear hw)
    refine (PC _ HB0.out).mono ?_
    rintro e w4 ⟨rfl, hb⟩
    have z4 := (hb.block _ (lt_of Z0.out)).trans Z0.out
    have HB4 : Hid (Below w.heap.size w (w4.alloc (refO b s r c fr fc))) := bel_alloc (bel_step HB0.out hb) _
    have Z4 : Hid ((w4.alloc (refO b s r c fr fc)).heap[w.heap.size]? = some ref0O) := kept_new z4 _
    obtain ⟨d0, d1, d2, d3, d4, d5⟩ := r_cells Z4.out
    obtain ⟨e0, e1, e2, e3, e4, e5⟩ := r_free Z4.out
    clear z4 hb
    go_wp2
    exact bodyPost_ret (res_ref rfl rfl (set6 Z4.out) rfl) rfl ⟨rfl, bel_set6 HB4.out (Nat.le_refl _)⟩
  · go_enter Tryz.func129, Tryz.ntmps129
    go_wp2_with (go_at_call 168; refine (IY _).mono ?_; rintro e w' ⟨rfl, hw⟩; obtain rfl := hw.symm; clear hw)
    refine (PC _ HB0.out).mono ?_
    rintro e w4 ⟨rfl, hb⟩
    have z4 := (hb.block _ (lt_of Z0.out)).trans Z0.out
    have HB4 : Hid (Below w.heap.size w (w4.alloc (refO b s r c fr fc))) := bel_alloc (bel_step HB0.out hb) _
    have Z4 : Hid ((w4.alloc (refO b s r c fr fc)).heap[w.heap.size]? = some ref0O) := kept_new z4 _
    obtain ⟨d0, d1, d2, d3, d4, d5⟩ := r_cells Z4.out
    obtain ⟨e0, e1, e2, e3, e4, e5⟩ := r_free Z4.out
    clear z4 hb
    go_wp2
    exact bodyPost_ret (res_ref rfl rfl (set6 Z4.out) rfl) rfl ⟨rfl, bel_set6 HB4.out (Nat.le_refl _)⟩
set_option maxHeartbeats 4000000 in
theorem rr_cell_yes (hq : (S.size = 0) ∨ ∃ hz : 0 < S.size, ((S[0].toNat : Int) == 91) = false) (IY : CS 168 #[.string S, .int .u8 33] (.int .i64 (-1))) {b s : ByteArray} {r c : Int} {fr fc : Bool} (PC : CB w 130 #[.string S] (.tuple #[refV b s r c fr fc, .bool true])) :
    Calls Tryz.prog 129 #[.string S] w fun e w' => e = .returned (.tuple #[refV ⟨#[]⟩ ⟨#[]⟩ r c fr fc, .bool true]) ∧ Below w.heap.size w w' := by
  have hq' : (¬ (0 : Int) < S.size) ∨ ∃ hz : 0 < S.size, (0 : Int) < S.size ∧ ((S[0].toNat : Int) == 91) = false := by
    rcases hq with h | ⟨h, g⟩
    · exact .inl (by omega)
    · exact .inr ⟨h, by omega, g⟩
  clear hq
  have HB0 : Hid (Below w.heap.size w (w.alloc ref0O)) := bel_alloc (Below.refl _ _) _
  have Z0 : Hid ((w.alloc ref0O).heap[w.heap.size]? = some ref0O) := heap_alloc_new w _
  rcases hq' with h | ⟨hz, h, h'⟩
  · go_enter Tryz.func129, Tryz.ntmps129
    go_wp2_with (go_at_call 168; refine (IY _).mono ?_; rintro e w' ⟨rfl, hw⟩; obtain rfl := hw.symm; clear hw)
    refine (PC _ HB0.out).mono ?_
    rintro e w4 ⟨rfl, hb⟩
    have z4 := (hb.block _ (lt_of Z0.out)).trans Z0.out
    have HB4 : Hid (Below w.heap.size w (w4.alloc (refO ⟨#[]⟩ ⟨#[]⟩ r c fr fc))) := bel_alloc (bel_step HB0.out hb) _
    have Z4 : Hid ((w4.alloc (refO ⟨#[]⟩ ⟨#[]⟩ r c fr fc)).heap[w.heap.size]? = some ref0O) := kept_new z4 _
    obtain ⟨d0, d1, d2, d3, d4, d5⟩ := r_cells Z4.out
    obtain ⟨e0, e1, e2, e3, e4, e5⟩ := r_free Z4.out
    clear z4 hb
    go_wp2
    exact bodyPost_ret (res_ref rfl rfl (set6 Z4.out) rfl) rfl ⟨rfl, bel_set6 HB4.out (Nat.le_refl _)⟩
  · go_enter Tryz.func129, Tryz.ntmps129
    go_wp2_with (go_at_call 168; refine (IY _).mono ?_; rintro e w' ⟨rfl, hw⟩; obtain rfl := hw.symm; clear hw)
    refine (PC _ HB0.out).mono ?_
    rintro e w4 ⟨rfl, hb⟩
    have z4 := (hb.block _ (lt_of Z0.out)).trans Z0.out
    have HB4 : Hid (Below w.heap.size w (w4.alloc (refO ⟨#[]⟩ ⟨#[]⟩ r c fr fc))) := bel_alloc (bel_step HB0.out hb) _
    have Z4 : Hid ((w4.alloc (refO ⟨#[]⟩ ⟨#[]⟩ r c fr fc)).heap[w.heap.size]? = some ref0O) := kept_new z4 _
    obtain ⟨d0, d1, d2, d3, d4, d5⟩ := r_cells Z4.out
    obtain ⟨e0, e1, e2, e3, e4, e5⟩ := r_free Z4.out
    clear z4 hb
    go_wp2
    exact bodyPost_ret (res_ref rfl rfl (set6 Z4.out) rfl) rfl ⟨rfl, bel_set6 HB4.out (Nat.le_refl _)⟩
end
end Go.Proofs.YtljfkkpkcjigpaaGreatDoor
