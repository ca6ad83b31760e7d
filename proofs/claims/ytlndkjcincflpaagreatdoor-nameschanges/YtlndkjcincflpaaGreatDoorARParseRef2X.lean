/- ARParseRefB, ARParseRefP, ARParseRefQ, ARParseRef2. -/
import Derived.Test.YtlndkjcincflpaaGreatDoorARParseRefX
set_option linter.unusedVariables false
set_option linter.unusedSimpArgs false
namespace Go.Proofs.YtlndkjcincflpaaGreatDoor
open Go.RowKit
set_option maxRecDepth 100000
section
variable {S B S1 SH S2 : ByteArray} {w : World}
set_option maxHeartbeats 4000000 in
theorem rr_book_bad {k m : Nat} (hz : 0 < S.size) (h91 : ((S[0].toNat : Int) == 91) = true) (IX : CS 223 #[.string S, .int .u8 93] (.int .i64 k)) (k1 : 1 ≤ k) (k2 : k ≤ S.size) (hm : (k : Int) + 1 = m) (m2 : m ≤ S.size) (mx : S.size ≤ 9223372036854775807) (hB : S.extract 1 k = B) (hS : S.extract m S.size = S1) (GB : CB w 55 #[.string B] (.bool true)) {j n : Nat} (IY : CS 223 #[.string S1, .int .u8 33] (.int .i64 j)) (j2 : j ≤ S1.size) (hn : (j : Int) + 1 = n) (n2 : n ≤ S1.size) (nx : S1.size ≤ 9223372036854775807) (hH : S1.extract 0 j = SH) (hX : S1.extract n S1.size = S2) (GS : CB w 55 #[.string SH] (.bool false)) :
    Calls Tryz.prog 203 #[.string S] w fun e w' => e = .returned (.tuple #[ref0, .bool false]) ∧ Below w.heap.size w w' := by
  have f1 : ¬ (j : Int) < 0 := by omega
  have f2 : (0 : Int) ≤ j := by omega
  have f3 : (j : Int) ≤ S1.size := by omega
  have f4 : (0 : Int) ≤ n := by omega
  have f5 : (n : Int) ≤ ↑S1.size := by omega
  have f6 : IntKind.i64.wrap (n : Int) = n := wrap_i64 (by omega) (by omega)
  have c1 : (0 : Int) < S.size := by omega
  have c2 : ¬ (k : Int) < 0 := by omega
  have c3 : (1 : Int) ≤ k := by omega
  have c4 : (k : Int) ≤ S.size := by omega
  have c5 : (0 : Int) ≤ m := by omega
  have c6 : (m : Int) ≤ ↑S.size := by omega
  have c7 : IntKind.i64.wrap (m : Int) = m := wrap_i64 (by omega) (by omega)
  go_enter Tryz.func203, Tryz.ntmps203
  go_wp2_with (go_at_call 223; refine (IX _).mono ?_; rintro e w' ⟨rfl, hw⟩; obtain rfl := hw.symm; clear hw)
  refine (GB _ (bel_alloc (Below.refl _ _) _)).mono ?_
  rintro e w1 ⟨rfl, hb⟩
  have Z1 : Hid (w1.drew.heap[w.heap.size]? = some ref0O) := new1 hb.drew
  have HB1 : Hid (Below w.heap.size w w1.drew) := (bel1 hb).drew
  clear hb IX GB
  go_wp2_with fail
  go_region
  generalize w1.drew = v1 at *
  go_wp2_with (go_at_call 223; refine (IY _).mono ?_; rintro e w' ⟨rfl, hw⟩; obtain rfl := hw.symm; clear hw)
  refine (GS _ HB1.out).mono ?_
  rintro e w3 ⟨rfl, hb⟩
  have Z3 : Hid (w3.heap[w.heap.size]? = some ref0O) := (hb.block _ (lt_of Z1.out)).trans Z1.out
  have HB3 : Hid (Below w.heap.size w w3) := bel_step HB1.out hb
  clear hb GS
  obtain ⟨d0, d1, d2, d3, d4, d5⟩ := r_cells Z3.out
  obtain ⟨e0, e1, e2, e3, e4, e5⟩ := r_free Z3.out
  go_wp2
  exact bodyPost_ret (res_ref rfl rfl (set6 Z3.out) rfl) rfl ⟨rfl, bel_set6 HB3.out (Nat.le_refl _)⟩
set_option maxHeartbeats 4000000 in
theorem rr_book_no {k m : Nat} (hz : 0 < S.size) (h91 : ((S[0].toNat : Int) == 91) = true) (IX : CS 223 #[.string S, .int .u8 93] (.int .i64 k)) (k1 : 1 ≤ k) (k2 : k ≤ S.size) (hm : (k : Int) + 1 = m) (m2 : m ≤ S.size) (mx : S.size ≤ 9223372036854775807) (hB : S.extract 1 k = B) (hS : S.extract m S.size = S1) (GB : CB w 55 #[.string B] (.bool true)) {j n : Nat} (IY : CS 223 #[.string S1, .int .u8 33] (.int .i64 j)) (j2 : j ≤ S1.size) (hn : (j : Int) + 1 = n) (n2 : n ≤ S1.size) (nx : S1.size ≤ 9223372036854775807) (hH : S1.extract 0 j = SH) (hX : S1.extract n S1.size = S2) (GS : CB w 55 #[.string SH] (.bool true)) {b s : ByteArray} {r c : Int} {fr fc : Bool} (PC : CB w 204 #[.string S2] (.tuple #[refV b s r c fr fc, .bool false])) :
    Calls Tryz.prog 203 #[.string S] w fun e w' => e = .returned (.tuple #[ref0, .bool false]) ∧ Below w.heap.size w w' := by
  have f1 : ¬ (j : Int) < 0 := by omega
  have f2 : (0 : Int) ≤ j := by omega
  have f3 : (j : Int) ≤ S1.size := by omega
  have f4 : (0 : Int) ≤ n := by omega
  have f5 : (n : Int) ≤ ↑S1.size := by omega
  have f6 : IntKind.i64.wrap (n : Int) = n := wrap_i64 (by omega) (by omega)
  have c1 : (0 : Int) < S.size := by omega
  have c2 : ¬ (k : Int) < 0 := by omega
  have c3 : (1 : Int) ≤ k := by omega
  have c4 : (k : Int) ≤ S.size := by omega
  have c5 : (0 : Int) ≤ m := by omega
  have c6 : (m : Int) ≤ ↑S.size := by omega
  have c7 : IntKind.i64.wrap (m : Int) = m := wrap_i64 (by omega) (by omega)
  go_enter Tryz.func203, Tryz.ntmps203
  go_wp2_with (go_at_call 223; refine (IX _).mono ?_; rintro e w' ⟨rfl, hw⟩; obtain rfl := hw.symm; clear hw)
  refine (GB _ (bel_alloc (Below.refl _ _) _)).mono ?_
  rintro e w1 ⟨rfl, hb⟩
  have Z1 : Hid (w1.drew.heap[w.heap.size]? = some ref0O) := new1 hb.drew
  have HB1 : Hid (Below w.heap.size w w1.drew) := (bel1 hb).drew
  clear hb IX GB
  go_wp2_with fail
  go_region
  generalize w1.drew = v1 at *
  go_wp2_with (go_at_call 223; refine (IY _).mono ?_; rintro e w' ⟨rfl, hw⟩; obtain rfl := hw.symm; clear hw)
  refine (GS _ HB1.out).mono ?_
  rintro e w3 ⟨rfl, hb⟩
  have Z3 : Hid (w3.heap[w.heap.size]? = some ref0O) := (hb.block _ (lt_of Z1.out)).trans Z1.out
  have HB3 : Hid (Below w.heap.size w w3) := bel_step HB1.out hb
  clear hb GS
  go_wp2_with fail
  go_region
  have Z3d : Hid (w3.drew.heap[w.heap.size]? = some ref0O) := Z3.out
  have HB3d : Hid (Below w.heap.size w w3.drew) := HB3.out.drew
  clear Z3 HB3
  generalize w3.drew = v3 at *
  go_wp2_with fail
  refine (PC _ HB3d.out).mono ?_
  rintro e w4 ⟨rfl, hb⟩
  have z4 := (hb.block _ (lt_of Z3d.out)).trans Z3d.out
  have HB4 : Hid (Below w.heap.size w (w4.alloc (refO b s r c fr fc))) := bel_alloc (bel_step HB3d.out hb) _
  have Z4 : Hid ((w4.alloc (refO b s r c fr fc)).heap[w.heap.size]? = some ref0O) := kept_new z4 _
  obtain ⟨d0, d1, d2, d3, d4, d5⟩ := r_cells Z4.out
  obtain ⟨e0, e1, e2, e3, e4, e5⟩ := r_free Z4.out
  clear z4 hb
  go_wp2
  exact bodyPost_ret (res_ref rfl rfl (set6 Z4.out) rfl) rfl ⟨rfl, bel_set6 HB4.out (Nat.le_refl _)⟩
set_option maxHeartbeats 4000000 in
theorem rr_book_yes {k m : Nat} (hz : 0 < S.size) (h91 : ((S[0].toNat : Int) == 91) = true) (IX : CS 223 #[.string S, .int .u8 93] (.int .i64 k)) (k1 : 1 ≤ k) (k2 : k ≤ S.size) (hm : (k : Int) + 1 = m) (m2 : m ≤ S.size) (mx : S.size ≤ 9223372036854775807) (hB : S.extract 1 k = B) (hS : S.extract m S.size = S1) (GB : CB w 55 #[.string B] (.bool true)) {j n : Nat} (IY : CS 223 #[.string S1, .int .u8 33] (.int .i64 j)) (j2 : j ≤ S1.size) (hn : (j : Int) + 1 = n) (n2 : n ≤ S1.size) (nx : S1.size ≤ 9223372036854775807) (hH : S1.extract 0 j = SH) (hX : S1.extract n S1.size = S2) (GS : CB w 55 #[.string SH] (.bool true)) {b s : ByteArray} {r c : Int} {fr fc : Bool} (PC : CB w 204 #[.string S2] (.tuple #[refV b s r c fr fc, .bool true])) :
    Calls Tryz.prog 203 #[.string S] w fun e w' => e = .returned (.tuple #[refV B SH r c fr fc, .bool true]) ∧ Below w.heap.size w w' := by
  have f1 : ¬ (j : Int) < 0 := by omega
  have f2 : (0 : Int) ≤ j := by omega
  have f3 : (j : Int) ≤ S1.size := by omega
  have f4 : (0 : Int) ≤ n := by omega
  have f5 : (n : Int) ≤ ↑S1.size := by omega
  have f6 : IntKind.i64.wrap (n : Int) = n := wrap_i64 (by omega) (by omega)
  have c1 : (0 : Int) < S.size := by omega
  have c2 : ¬ (k : Int) < 0 := by omega
  have c3 : (1 : Int) ≤ k := by omega
  have c4 : (k : Int) ≤ S.size := by omega
  have c5 : (0 : Int) ≤ m := by omega
  have c6 : (m : Int) ≤ ↑S.size := by omega
  have c7 : IntKind.i64.wrap (m : Int) = m := wrap_i64 (by omega) (by omega)
  go_enter Tryz.func203, Tryz.ntmps203
  go_wp2_with (go_at_call 223; refine (IX _).mono ?_; rintro e w' ⟨rfl, hw⟩; obtain rfl := hw.symm; clear hw)
  refine (GB _ (bel_alloc (Below.refl _ _) _)).mono ?_
  rintro e w1 ⟨rfl, hb⟩
  have Z1 : Hid (w1.drew.heap[w.heap.size]? = some ref0O) := new1 hb.drew
  have HB1 : Hid (Below w.heap.size w w1.drew) := (bel1 hb).drew
  clear hb IX GB
  go_wp2_with fail
  go_region
  generalize w1.drew = v1 at *
  go_wp2_with (go_at_call 223; refine (IY _).mono ?_; rintro e w' ⟨rfl, hw⟩; obtain rfl := hw.symm; clear hw)
  refine (GS _ HB1.out).mono ?_
  rintro e w3 ⟨rfl, hb⟩
  have Z3 : Hid (w3.heap[w.heap.size]? = some ref0O) := (hb.block _ (lt_of Z1.out)).trans Z1.out
  have HB3 : Hid (Below w.heap.size w w3) := bel_step HB1.out hb
  clear hb GS
  go_wp2_with fail
  go_region
  have Z3d : Hid (w3.drew.heap[w.heap.size]? = some ref0O) := Z3.out
  have HB3d : Hid (Below w.heap.size w w3.drew) := HB3.out.drew
  clear Z3 HB3
  generalize w3.drew = v3 at *
  go_wp2_with fail
  refine (PC _ HB3d.out).mono ?_
  rintro e w4 ⟨rfl, hb⟩
  have z4 := (hb.block _ (lt_of Z3d.out)).trans Z3d.out
  have HB4 : Hid (Below w.heap.size w (w4.alloc (refO B SH r c fr fc))) := bel_alloc (bel_step HB3d.out hb) _
  have Z4 : Hid ((w4.alloc (refO B SH r c fr fc)).heap[w.heap.size]? = some ref0O) := kept_new z4 _
  obtain ⟨d0, d1, d2, d3, d4, d5⟩ := r_cells Z4.out
  obtain ⟨e0, e1, e2, e3, e4, e5⟩ := r_free Z4.out
  clear z4 hb
  go_wp2
  exact bodyPost_ret (res_ref rfl rfl (set6 Z4.out) rfl) rfl ⟨rfl, bel_set6 HB4.out (Nat.le_refl _)⟩
end
end Go.Proofs.YtlndkjcincflpaaGreatDoor

namespace Go.Proofs.YtlndkjcincflpaaGreatDoor
open Go.RowKit
set_option maxRecDepth 100000
section
variable {S B S1 SH S2 : ByteArray} {w : World}
set_option maxHeartbeats 4000000 in
theorem rr_sheet_bad (hq : (S.size = 0) ∨ ∃ hz : 0 < S.size, ((S[0].toNat : Int) == 91) = false) {j n : Nat} (IY : CS 223 #[.string S, .int .u8 33] (.int .i64 j)) (j2 : j ≤ S.size) (hn : (j : Int) + 1 = n) (n2 : n ≤ S.size) (nx : S.size ≤ 9223372036854775807) (hH : S.extract 0 j = SH) (hX : S.extract n S.size = S2) (GS : CB w 55 #[.string SH] (.bool false)) :
    Calls Tryz.prog 203 #[.string S] w fun e w' => e = .returned (.tuple #[ref0, .bool false]) ∧ Below w.heap.size w w' := by
  have f1 : ¬ (j : Int) < 0 := by omega
  have f2 : (0 : Int) ≤ j := by omega
  have f3 : (j : Int) ≤ S.size := by omega
  have f4 : (0 : Int) ≤ n := by omega
  have f5 : (n : Int) ≤ ↑S.size := by omega
  have f6 : IntKind.i64.wrap (n : Int) = n := wrap_i64 (by omega) (by omega)
  have hq' : (¬ (0 : Int) < S.size) ∨ ∃ hz : 0 < S.size, (0 : Int) < S.size ∧ ((S[0].toNat : Int) == 91) = false := by
    rcases hq with h | ⟨h, g⟩
    · exact .inl (by omega)
    · exact .inr ⟨h, by omega, g⟩
  clear hq
  have HB0 : Hid (Below w.heap.size w (w.alloc ref0O)) := bel_alloc (Below.refl _ _) _
  have Z0 : Hid ((w.alloc ref0O).heap[w.heap.size]? = some ref0O) := heap_alloc_new w _
  rcases hq' with h | ⟨hz, h, h'⟩
  · exfalso
    omega
  · go_enter Tryz.func203, Tryz.ntmps203
    go_wp2_with (go_at_call 223; refine (IY _).mono ?_; rintro e w' ⟨rfl, hw⟩; obtain rfl := hw.symm; clear hw)
    refine (GS _ HB0.out).mono ?_
    rintro e w3 ⟨rfl, hb⟩
    have Z3 : Hid (w3.heap[w.heap.size]? = some ref0O) := (hb.block _ (lt_of Z0.out)).trans Z0.out
    have HB3 : Hid (Below w.heap.size w w3) := bel_step HB0.out hb
    clear hb GS
    obtain ⟨d0, d1, d2, d3, d4, d5⟩ := r_cells Z3.out
    obtain ⟨e0, e1, e2, e3, e4, e5⟩ := r_free Z3.out
    go_wp2
    exact bodyPost_ret (res_ref rfl rfl (set6 Z3.out) rfl) rfl ⟨rfl, bel_set6 HB3.out (Nat.le_refl _)⟩
set_option maxHeartbeats 4000000 in
theorem rr_sheet_no (hq : (S.size = 0) ∨ ∃ hz : 0 < S.size, ((S[0].toNat : Int) == 91) = false) {j n : Nat} (IY : CS 223 #[.string S, .int .u8 33] (.int .i64 j)) (j2 : j ≤ S.size) (hn : (j : Int) + 1 = n) (n2 : n ≤ S.size) (nx : S.size ≤ 9223372036854775807) (hH : S.extract 0 j = SH) (hX : S.extract n S.size = S2) (GS : CB w 55 #[.string SH] (.bool true)) {b s : ByteArray} {r c : Int} {fr fc : Bool} (PC : CB w 204 #[.string S2] (.tuple #[refV b s r c fr fc, .bool false])) :
    Calls Tryz.prog 203 #[.string S] w fun e w' => e = .returned (.tuple #[ref0, .bool false]) ∧ Below w.heap.size w w' := by
  have f1 : ¬ (j : Int) < 0 := by omega
  have f2 : (0 : Int) ≤ j := by omega
  have f3 : (j : Int) ≤ S.size := by omega
  have f4 : (0 : Int) ≤ n := by omega
  have f5 : (n : Int) ≤ ↑S.size := by omega
  have f6 : IntKind.i64.wrap (n : Int) = n := wrap_i64 (by omega) (by omega)
  have hq' : (¬ (0 : Int) < S.size) ∨ ∃ hz : 0 < S.size, (0 : Int) < S.size ∧ ((S[0].toNat : Int) == 91) = false := by
    rcases hq with h | ⟨h, g⟩
    · exact .inl (by omega)
    · exact .inr ⟨h, by omega, g⟩
  clear hq
  have HB0 : Hid (Below w.heap.size w (w.alloc ref0O)) := bel_alloc (Below.refl _ _) _
  have Z0 : Hid ((w.alloc ref0O).heap[w.heap.size]? = some ref0O) := heap_alloc_new w _
  rcases hq' with h | ⟨hz, h, h'⟩
  · exfalso
    omega
  · go_enter Tryz.func203, Tryz.ntmps203
    go_wp2_with (go_at_call 223; refine (IY _).mono ?_; rintro e w' ⟨rfl, hw⟩; obtain rfl := hw.symm; clear hw)
    refine (GS _ HB0.out).mono ?_
    rintro e w3 ⟨rfl, hb⟩
    have Z3 : Hid (w3.heap[w.heap.size]? = some ref0O) := (hb.block _ (lt_of Z0.out)).trans Z0.out
    have HB3 : Hid (Below w.heap.size w w3) := bel_step HB0.out hb
    clear hb GS
    go_wp2_with fail
    go_region
    have Z3d : Hid (w3.drew.heap[w.heap.size]? = some ref0O) := Z3.out
    have HB3d : Hid (Below w.heap.size w w3.drew) := HB3.out.drew
    clear Z3 HB3
    generalize w3.drew = v3 at *
    go_wp2_with fail
    refine (PC _ HB3d.out).mono ?_
    rintro e w4 ⟨rfl, hb⟩
    have z4 := (hb.block _ (lt_of Z3d.out)).trans Z3d.out
    have HB4 : Hid (Below w.heap.size w (w4.alloc (refO b s r c fr fc))) := bel_alloc (bel_step HB3d.out hb) _
    have Z4 : Hid ((w4.alloc (refO b s r c fr fc)).heap[w.heap.size]? = some ref0O) := kept_new z4 _
    obtain ⟨d0, d1, d2, d3, d4, d5⟩ := r_cells Z4.out
    obtain ⟨e0, e1, e2, e3, e4, e5⟩ := r_free Z4.out
    clear z4 hb
    go_wp2
    exact bodyPost_ret (res_ref rfl rfl (set6 Z4.out) rfl) rfl ⟨rfl, bel_set6 HB4.out (Nat.le_refl _)⟩
set_option maxHeartbeats 4000000 in
theorem rr_sheet_yes (hq : (S.size = 0) ∨ ∃ hz : 0 < S.size, ((S[0].toNat : Int) == 91) = false) {j n : Nat} (IY : CS 223 #[.string S, .int .u8 33] (.int .i64 j)) (j2 : j ≤ S.size) (hn : (j : Int) + 1 = n) (n2 : n ≤ S.size) (nx : S.size ≤ 9223372036854775807) (hH : S.extract 0 j = SH) (hX : S.extract n S.size = S2) (GS : CB w 55 #[.string SH] (.bool true)) {b s : ByteArray} {r c : Int} {fr fc : Bool} (PC : CB w 204 #[.string S2] (.tuple #[refV b s r c fr fc, .bool true])) :
    Calls Tryz.prog 203 #[.string S] w fun e w' => e = .returned (.tuple #[refV ⟨#[]⟩ SH r c fr fc, .bool true]) ∧ Below w.heap.size w w' := by
  have f1 : ¬ (j : Int) < 0 := by omega
  have f2 : (0 : Int) ≤ j := by omega
  have f3 : (j : Int) ≤ S.size := by omega
  have f4 : (0 : Int) ≤ n := by omega
  have f5 : (n : Int) ≤ ↑S.size := by omega
  have f6 : IntKind.i64.wrap (n : Int) = n := wrap_i64 (by omega) (by omega)
  have hq' : (¬ (0 : Int) < S.size) ∨ ∃ hz : 0 < S.size, (0 : Int) < S.size ∧ ((S[0].toNat : Int) == 91) = false := by
    rcases hq with h | ⟨h, g⟩
    · exact .inl (by omega)
    · exact .inr ⟨h, by omega, g⟩
  clear hq
  have HB0 : Hid (Below w.heap.size w (w.alloc ref0O)) := bel_alloc (Below.refl _ _) _
  have Z0 : Hid ((w.alloc ref0O).heap[w.heap.size]? = some ref0O) := heap_alloc_new w _
  rcases hq' with h | ⟨hz, h, h'⟩
  · exfalso
    omega
  · go_enter Tryz.func203, Tryz.ntmps203
    go_wp2_with (go_at_call 223; refine (IY _).mono ?_; rintro e w' ⟨rfl, hw⟩; obtain rfl := hw.symm; clear hw)
    refine (GS _ HB0.out).mono ?_
    rintro e w3 ⟨rfl, hb⟩
    have Z3 : Hid (w3.heap[w.heap.size]? = some ref0O) := (hb.block _ (lt_of Z0.out)).trans Z0.out
    have HB3 : Hid (Below w.heap.size w w3) := bel_step HB0.out hb
    clear hb GS
    go_wp2_with fail
    go_region
    have Z3d : Hid (w3.drew.heap[w.heap.size]? = some ref0O) := Z3.out
    have HB3d : Hid (Below w.heap.size w w3.drew) := HB3.out.drew
    clear Z3 HB3
    generalize w3.drew = v3 at *
    go_wp2_with fail
    refine (PC _ HB3d.out).mono ?_
    rintro e w4 ⟨rfl, hb⟩
    have z4 := (hb.block _ (lt_of Z3d.out)).trans Z3d.out
    have HB4 : Hid (Below w.heap.size w (w4.alloc (refO ⟨#[]⟩ SH r c fr fc))) := bel_alloc (bel_step HB3d.out hb) _
    have Z4 : Hid ((w4.alloc (refO ⟨#[]⟩ SH r c fr fc)).heap[w.heap.size]? = some ref0O) := kept_new z4 _
    obtain ⟨d0, d1, d2, d3, d4, d5⟩ := r_cells Z4.out
    obtain ⟨e0, e1, e2, e3, e4, e5⟩ := r_free Z4.out
    clear z4 hb
    go_wp2
    exact bodyPost_ret (res_ref rfl rfl (set6 Z4.out) rfl) rfl ⟨rfl, bel_set6 HB4.out (Nat.le_refl _)⟩
end
end Go.Proofs.YtlndkjcincflpaaGreatDoor

namespace Go.Proofs.YtlndkjcincflpaaGreatDoor
open Go.RowKit
set_option maxRecDepth 100000
section
variable {S B S1 SH S2 : ByteArray} {w : World}
set_option maxHeartbeats 4000000 in
theorem rr_cell_no (hq : (S.size = 0) ∨ ∃ hz : 0 < S.size, ((S[0].toNat : Int) == 91) = false) (IY : CS 223 #[.string S, .int .u8 33] (.int .i64 (-1))) {b s : ByteArray} {r c : Int} {fr fc : Bool} (PC : CB w 204 #[.string S] (.tuple #[refV b s r c fr fc, .bool false])) :
    Calls Tryz.prog 203 #[.string S] w fun e w' => e = .returned (.tuple #[ref0, .bool false]) ∧ Below w.heap.size w w' := by
  have hq' : (¬ (0 : Int) < S.size) ∨ ∃ hz : 0 < S.size, (0 : Int) < S.size ∧ ((S[0].toNat : Int) == 91) = false := by
    rcases hq with h | ⟨h, g⟩
    · exact .inl (by omega)
    · exact .inr ⟨h, by omega, g⟩
  clear hq
  have HB0 : Hid (Below w.heap.size w (w.alloc ref0O)) := bel_alloc (Below.refl _ _) _
  have Z0 : Hid ((w.alloc ref0O).heap[w.heap.size]? = some ref0O) := heap_alloc_new w _
  rcases hq' with h | ⟨hz, h, h'⟩
  · go_enter Tryz.func203, Tryz.ntmps203
    go_wp2_with (go_at_call 223; refine (IY _).mono ?_; rintro e w' ⟨rfl, hw⟩; obtain rfl := hw.symm; clear hw)
    refine (PC _ HB0.out).mono ?_
    rintro e w4 ⟨rfl, hb⟩
    have z4 := (hb.block _ (lt_of Z0.out)).trans Z0.out
    have HB4 : Hid (Below w.heap.size w (w4.alloc (refO b s r c fr fc))) := bel_alloc (bel_step HB0.out hb) _
    have Z4 : Hid ((w4.alloc (refO b s r c fr fc)).heap[w.heap.size]? = some ref0O) := kept_new z4 _
    obtain ⟨d0, d1, d2, d3, d4, d5⟩ := r_cells Z4.out
    obtain ⟨e0, e1, e2, e3, e4, e5⟩ := r_free Z4.out
    clear z4 hb
    go_wp2
    exact bodyPost_ret (res_ref rfl rfl (set6 Z4.out) rfl) rfl ⟨rfl, bel_set6 HB4.out (Nat.le_refl _)⟩
  · go_enter Tryz.func203, Tryz.ntmps203
    go_wp2_with (go_at_call 223; refine (IY _).mono ?_; rintro e w' ⟨rfl, hw⟩; obtain rfl := hw.symm; clear hw)
    refine (PC _ HB0.out).mono ?_
    rintro e w4 ⟨rfl, hb⟩
    have z4 := (hb.block _ (lt_of Z0.out)).trans Z0.out
    have HB4 : Hid (Below w.heap.size w (w4.alloc (refO b s r c fr fc))) := bel_alloc (bel_step HB0.out hb) _
    have Z4 : Hid ((w4.alloc (refO b s r c fr fc)).heap[w.heap.size]? = some ref0O) := kept_new z4 _
    obtain ⟨d0, d1, d2, d3, d4, d5⟩ := r_cells Z4.out
    obtain ⟨e0, e1, e2, e3, e4, e5⟩ := r_free Z4.out
    clear z4 hb
    go_wp2
    exact bodyPost_ret (res_ref rfl rfl (set6 Z4.out) rfl) rfl ⟨rfl, bel_set6 HB4.out (Nat.le_refl _)⟩
set_option maxHeartbeats 4000000 in
theorem rr_cell_yes (hq : (S.size = 0) ∨ ∃ hz : 0 < S.size, ((S[0].toNat : Int) == 91) = false) (IY : CS 223 #[.string S, .int .u8 33] (.int .i64 (-1))) {b s : ByteArray} {r c : Int} {fr fc : Bool} (PC : CB w 204 #[.string S] (.tuple #[refV b s r c fr fc, .bool true])) :
    Calls Tryz.prog 203 #[.string S] w fun e w' => e = .returned (.tuple #[refV ⟨#[]⟩ ⟨#[]⟩ r c fr fc, .bool true]) ∧ Below w.heap.size w w' := by
  have hq' : (¬ (0 : Int) < S.size) ∨ ∃ hz : 0 < S.size, (0 : Int) < S.size ∧ ((S[0].toNat : Int) == 91) = false := by
    rcases hq with h | ⟨h, g⟩
    · exact .inl (by omega)
    · exact .inr ⟨h, by omega, g⟩
  clear hq
  have HB0 : Hid (Below w.heap.size w (w.alloc ref0O)) := bel_alloc (Below.refl _ _) _
  have Z0 : Hid ((w.alloc ref0O).heap[w.heap.size]? = some ref0O) := heap_alloc_new w _
  rcases hq' with h | ⟨hz, h, h'⟩
  · go_enter Tryz.func203, Tryz.ntmps203
    go_wp2_with (go_at_call 223; refine (IY _).mono ?_; rintro e w' ⟨rfl, hw⟩; obtain rfl := hw.symm; clear hw)
    refine (PC _ HB0.out).mono ?_
    rintro e w4 ⟨rfl, hb⟩
    have z4 := (hb.block _ (lt_of Z0.out)).trans Z0.out
    have HB4 : Hid (Below w.heap.size w (w4.alloc (refO ⟨#[]⟩ ⟨#[]⟩ r c fr fc))) := bel_alloc (bel_step HB0.out hb) _
    have Z4 : Hid ((w4.alloc (refO ⟨#[]⟩ ⟨#[]⟩ r c fr fc)).heap[w.heap.size]? = some ref0O) := kept_new z4 _
    obtain ⟨d0, d1, d2, d3, d4, d5⟩ := r_cells Z4.out
    obtain ⟨e0, e1, e2, e3, e4, e5⟩ := r_free Z4.out
    clear z4 hb
    go_wp2
    exact bodyPost_ret (res_ref rfl rfl (set6 Z4.out) rfl) rfl ⟨rfl, bel_set6 HB4.out (Nat.le_refl _)⟩
  · go_enter Tryz.func203, Tryz.ntmps203
    go_wp2_with (go_at_call 223; refine (IY _).mono ?_; rintro e w' ⟨rfl, hw⟩; obtain rfl := hw.symm; clear hw)
    refine (PC _ HB0.out).mono ?_
    rintro e w4 ⟨rfl, hb⟩
    have z4 := (hb.block _ (lt_of Z0.out)).trans Z0.out
    have HB4 : Hid (Below w.heap.size w (w4.alloc (refO ⟨#[]⟩ ⟨#[]⟩ r c fr fc))) := bel_alloc (bel_step HB0.out hb) _
    have Z4 : Hid ((w4.alloc (refO ⟨#[]⟩ ⟨#[]⟩ r c fr fc)).heap[w.heap.size]? = some ref0O) := kept_new z4 _
    obtain ⟨d0, d1, d2, d3, d4, d5⟩ := r_cells Z4.out
    obtain ⟨e0, e1, e2, e3, e4, e5⟩ := r_free Z4.out
    clear z4 hb
    go_wp2
    exact bodyPost_ret (res_ref rfl rfl (set6 Z4.out) rfl) rfl ⟨rfl, bel_set6 HB4.out (Nat.le_refl _)⟩
end
end Go.Proofs.YtlndkjcincflpaaGreatDoor

namespace Go.Proofs.YtlndkjcincflpaaGreatDoor
open Go.RowKit
set_option maxRecDepth 100000
theorem idx_list (l : List UInt8) (c : UInt8) (hl : l.length ≤ 140737488355328) : CS 223 #[.string ⟨l.toArray⟩, .int .u8 (c.toNat : Nat)] (.int .i64 (idxF c l)) := fun u => ridx_any ⟨l.toArray⟩ c (by rw [size_mk]; omega) u
theorem idx_none {c : UInt8} {l : List UInt8} (h : Ad.at_ c l = none) : idxF c l = -1 := by unfold idxF; rw [h]
theorem idx_some {c : UInt8} {l a b : List UInt8} (h : Ad.at_ c l = some (a, b)) : idxF c l = (a.length : Nat) := by unfold idxF; rw [h]
theorem ext_take (a b : List UInt8) (c : UInt8) : (⟨(a ++ c :: b).toArray⟩ : ByteArray).extract 0 a.length = ⟨a.toArray⟩ ∧ (⟨(a ++ c :: b).toArray⟩ : ByteArray).extract (a.length + 1) (⟨(a ++ c :: b).toArray⟩ : ByteArray).size = ⟨b.toArray⟩ := by
  constructor
  · apply ByteArray.ext
    simp
  · apply ByteArray.ext
    rw [size_mk]
    simp
    exact List.take_of_length_le (by omega)
theorem gn_cb (l : List UInt8) (hl : l.length ≤ 140737488355328) (w : World) : CB w 55 #[.string ⟨l.toArray⟩] (.bool (gnF l)) := fun u hu => rgoodname_any ⟨l.toArray⟩ (by rw [size_mk]; omega) u
theorem rparseref_any (l : List UInt8) (hl : l.length ≤ 140737488355328) (w : World) :
    Calls Tryz.prog 203 #[.string ⟨l.toArray⟩] w fun e w' => e = .returned (.tuple #[refR (Ad.refP gnF l), .bool (Ad.refP gnF l).isSome]) ∧ Below w.heap.size w w' := by
  have plain : ∀ (hq : ((⟨l.toArray⟩ : ByteArray).size = 0) ∨ ∃ hz : 0 < (⟨l.toArray⟩ : ByteArray).size, (((⟨l.toArray⟩ : ByteArray)[0].toNat : Int) == 91) = false), Calls Tryz.prog 203 #[.string ⟨l.toArray⟩] w fun e w' => e = .returned (.tuple #[refR (Ad.sheetP gnF [] l), .bool (Ad.sheetP gnF [] l).isSome]) ∧ Below w.heap.size w w' := fun hq => by
    have IY := idx_list l 33 hl
    unfold Ad.sheetP
    cases h : Ad.at_ 33 l with
    | none =>
      rw [idx_none h] at IY
      have PC : CB w 204 #[.string ⟨l.toArray⟩] _ := fun u hu => rparsecell_any l hl u
      simp only
      cases hc : Ad.cellP l with
      | none => rw [hc] at PC; exact rr_cell_no hq IY PC
      | some c => rw [hc] at PC; exact rr_cell_yes hq IY PC
    | some p =>
      obtain ⟨a, x⟩ := p
      have e := (Ad.at_some h).1
      have hlen := at_some_len h
      rw [idx_some h] at IY
      obtain ⟨x1, x2⟩ := ext_take a x 33
      rw [← e] at x1 x2
      have GS := gn_cb a (by omega) w
      have PC : CB w 204 #[.string ⟨x.toArray⟩] _ := fun u hu => rparsecell_any x (by omega) u
      have q1 : a.length ≤ (⟨l.toArray⟩ : ByteArray).size := by rw [size_mk]; omega
      have q2 : a.length + 1 ≤ (⟨l.toArray⟩ : ByteArray).size := by rw [size_mk]; omega
      have q3 : (⟨l.toArray⟩ : ByteArray).size ≤ 9223372036854775807 := by rw [size_mk]; omega
      simp only
      cases hg : gnF a
      · rw [hg] at GS
        simp only [Bool.false_eq_true, if_false]
        exact rr_sheet_bad hq IY q1 rfl q2 q3 x1 x2 GS
      · rw [hg] at GS
        simp only [if_true]
        cases hc : Ad.cellP x with
        | none => rw [hc] at PC; exact rr_sheet_no hq IY q1 rfl q2 q3 x1 x2 GS PC
        | some c => rw [hc] at PC; exact rr_sheet_yes hq IY q1 rfl q2 q3 x1 x2 GS PC
  cases l with
  | nil => exact plain (.inl rfl)
  | cons c m =>
    have e0 : (⟨(c :: m).toArray⟩ : ByteArray)[0]'(by rw [size_mk]; simp) = c := rfl
    have hz : 0 < (⟨(c :: m).toArray⟩ : ByteArray).size := by rw [size_mk]; simp
    rcases ch_facts c 91 with ⟨h1, h2⟩ | ⟨h1, h2⟩
    · subst h1
      clear plain
      simp only [List.length_cons] at hl
      have IX := idx_list (91 :: m) 93 (by simp; omega)
      have e1 : Ad.refP gnF (91 :: m) = match Ad.at_ 93 m with
        | none => none
        | some (a, r) => if gnF a = true ∧ (Ad.at_ 33 r).isSome = true then Ad.sheetP gnF a r else none := rfl
      rw [e1]
      have e9 := at_cons_ne (c := 93) (x := 91) (r := m) (by decide)
      cases h9 : Ad.at_ 93 m with
      | none =>
        rw [h9] at e9
        rw [idx_none e9] at IX
        exact rr_noclose hz h2 IX
      | some p =>
        obtain ⟨a, r⟩ := p
        rw [h9] at e9
        rw [idx_some (a := 91 :: a) (b := r) e9] at IX
        have e := (Ad.at_some h9).1
        have hlen := at_some_len h9
        obtain ⟨x1, x2⟩ := ext_take (91 :: a) r 93
        have ex : (91 : UInt8) :: m = (91 :: a) ++ 93 :: r := by rw [e]; rfl
        rw [← ex] at x1 x2
        have q1 : (91 :: a).length ≤ (⟨(91 :: m).toArray⟩ : ByteArray).size := by rw [size_mk]; simp; omega
        have q2 : (91 :: a).length + 1 ≤ (⟨(91 :: m).toArray⟩ : ByteArray).size := by rw [size_mk]; simp; omega
        have q3 : (⟨(91 :: m).toArray⟩ : ByteArray).size ≤ 9223372036854775807 := by rw [size_mk]; simp; omega
        have hB : (⟨(91 :: m).toArray⟩ : ByteArray).extract 1 (91 :: a).length = ⟨a.toArray⟩ := by
          apply ByteArray.ext
          rw [e]
          simp
        have GB := gn_cb a (by omega) w
        simp only
        cases hg : gnF a
        · rw [hg] at GB
          simp only [Bool.false_eq_true, false_and, if_false]
          exact rr_badbook hz h2 IX (by simp) q1 hB GB
        · rw [hg] at GB
          simp only [true_and]
          have IY := idx_list r 33 (by omega)
          cases h3 : Ad.at_ 33 r with
          | none =>
            rw [idx_none h3] at IY
            rw [if_neg (by simp)]
            exact rr_nosheet hz h2 IX (by simp) q1 rfl q2 q3 hB x2 GB IY
          | some p =>
            obtain ⟨s, x⟩ := p
            rw [if_pos (by simp)]
            unfold Ad.sheetP
            rw [h3]
            have e3 := (Ad.at_some h3).1
            have hlen3 := at_some_len h3
            rw [idx_some h3] at IY
            obtain ⟨y1, y2⟩ := ext_take s x 33
            rw [← e3] at y1 y2
            have GS := gn_cb s (by omega) w
            have PC : CB w 204 #[.string ⟨x.toArray⟩] _ := fun u hu => rparsecell_any x (by omega) u
            have j1 : s.length ≤ (⟨r.toArray⟩ : ByteArray).size := by rw [size_mk]; omega
            have j2 : s.length + 1 ≤ (⟨r.toArray⟩ : ByteArray).size := by rw [size_mk]; omega
            have j3 : (⟨r.toArray⟩ : ByteArray).size ≤ 9223372036854775807 := by rw [size_mk]; omega
            simp only
            cases hg2 : gnF s
            · rw [hg2] at GS
              simp only [Bool.false_eq_true, if_false]
              exact rr_book_bad hz h2 IX (by simp) q1 rfl q2 q3 hB x2 GB IY j1 rfl j2 j3 y1 y2 GS
            · rw [hg2] at GS
              simp only [if_true]
              cases hc : Ad.cellP x with
              | none => rw [hc] at PC; exact rr_book_no hz h2 IX (by simp) q1 rfl q2 q3 hB x2 GB IY j1 rfl j2 j3 y1 y2 GS PC
              | some c => rw [hc] at PC; exact rr_book_yes hz h2 IX (by simp) q1 rfl q2 q3 hB x2 GB IY j1 rfl j2 j3 y1 y2 GS PC
    · rw [Ad.refP_plain (by simpa using h1)]
      exact plain (.inr ⟨hz, h2⟩)
end Go.Proofs.YtlndkjcincflpaaGreatDoor
