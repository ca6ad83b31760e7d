/- ARParseRefP, ARParseRefQ, ARParseRef2, TPure. -/
import Derived.Test.YtljfkkpkcjigpaaGreatDoorARParseRefBq
import Derived.Test.YtljfkkpkcjigpaaGreatDoorNStrq
set_option linter.unusedVariables false
set_option linter.unusedSimpArgs false
namespace Go.Proofs.YtljfkkpkcjigpaaGreatDoor
open Go.RowKit
set_option maxRecDepth 100000
section
variable {S B S1 SH S2 : ByteArray} {w : World}
set_option maxHeartbeats 4000000 in
theorem rr_sheet_bad (hq : (S.size = 0) ∨ ∃ hz : 0 < S.size, ((S[0].toNat : Int) == 91) = false) {j n : Nat} (IY : CS 168 #[.string S, .int .u8 33] (.int .i64 j)) (j2 : j ≤ S.size) (hn : (j : Int) + 1 = n) (n2 : n ≤ S.size) (nx : S.size ≤ 9223372036854775807) (hH : S.extract 0 j = SH) (hX : S.extract n S.size = S2) (GS : CB w 100 #[.string SH] (.bool false)) :
    Calls Tryz.prog 129 #[.string S] w fun e w' => e = .returned (.tuple #[ref0, .bool false]) ∧ Below w.heap.size w w' := by
  have f1 : ¬ (j : Int) < 0 := by omega
  have f2 : (0 : Int) ≤ j := by omega
  have f3 : (j : Int) ≤ S.size := by omega
  have f4 : (0 : Int) ≤ n := by omega
  have f5 : (n : Int) ≤ ↑S.size := by omega
  have f6 : IntKind.i64.wrap (n : Int) = n := wrap_i64 (by omega) (by omega)
  have hq' : (¬ (0 : Int) < S.size) ∨ ∃ hz : 0 < S.size, (0 : Int) < S.size ∧ ((S[0].toNat : Int) == 91) = false := by
    rcases hq with h | ⟨h, g⟩
    · exact .inl (by omega)
    · exact .inr ⟨h, by omega, g⟩
  clear hq
  have HB0 : Hid (Below w.heap.size w (w.alloc ref0O)) := bel_alloc (Below.refl _ _) _
  have Z0 : Hid ((w.alloc ref0O).heap[w.heap.size]? = some ref0O) := heap_alloc_new w _
  rcases hq' with h | ⟨hz, h, h'⟩
  · exfalso
    omega
  · go_enter Tryz.func129, Tryz.ntmps129
    go_wp2_with (go_at_call 168; refine (IY _).mono ?_; rintro e w' ⟨rfl, hw⟩; obtain rfl := hw.symm; clear hw)
    refine (GS _ HB0.out).mono ?_
    rintro e w3 ⟨rfl, hb⟩
    have Z3 : Hid (w3.heap[w.heap.size]? = some ref0O) := (hb.block _ (lt_of Z0.out)).trans Z0.out
    have HB3 : Hid (Below w.heap.size w w3) := bel_step HB0.out hb
    clear hb GS
    obtain ⟨d0, d1, d2, d3, d4, d5⟩ := r_cells Z3.out
    obtain ⟨e0, e1, e2, e3, e4, e5⟩ := r_free Z3.out
    go_wp2
    exact bodyPost_ret (res_ref rfl rfl (set6 Z3.out) rfl) rfl ⟨rfl, bel_set6 HB3.out (Nat.le_refl _)⟩
set_option maxHeartbeats 4000000 in
theorem rr_sheet_no (hq : (S.size = 0) ∨ ∃ hz : 0 < S.size, ((S[0].toNat : Int) == 91) = false) {j n : Nat} (IY : CS 168 #[.string S, .int .u8 33] (.int .i64 j)) (j2 : j ≤ S.size) (hn : (j : Int) + 1 = n) (n2 : n ≤ S.size) (nx : S.size ≤ 9223372036854775807) (hH : S.extract 0 j = SH) (hX : S.extract n S.size = S2) (GS : CB w 100 #[.string SH] (.bool true)) {b s : ByteArray} {r c : Int} {fr fc : Bool} (PC : CB w 130 #[.string S2] (.tuple #[refV b s r c fr fc, .bool false])) :
    Calls Tryz.prog 129 #[.string S] w fun e w' => e = .returned (.tuple #[ref0, .bool false]) ∧ Below w.heap.size w w' := by
  have f1 : ¬ (j : Int) < 0 := by omega
  have f2 : (0 : Int) ≤ j := by omega
  have f3 : (j : Int) ≤ S.size := by omega
  have f4 : (0 : Int) ≤ n := by omega
  have f5 : (n : Int) ≤ ↑S.size := by omega
  have f6 : IntKind.i64.wrap (n : Int) = n := wrap_i64 (by omega) (by omega)
  have hq' : (¬ (0 : Int) < S.size) ∨ ∃ hz : 0 < S.size, (0 : Int) < S.size ∧ ((S[0].toNat : Int) == 91) = false := by
    rcases hq with h | ⟨h, g⟩
    · exact .inl (by omega)
    · exact .inr ⟨h, by omega, g⟩
  clear hq
  have HB0 : Hid (Below w.heap.size w (w.alloc ref0O)) := bel_alloc (Below.refl _ _) _
  have Z0 : Hid ((w.alloc ref0O).heap[w.heap.size]? = some ref0O) := heap_alloc_new w _
  rcases hq' with h | ⟨hz, h, h'⟩
  · exfalso
    omega
  · go_enter Tryz.func129, Tryz.ntmps129
    go_wp2_with (go_at_call 168; refine (IY _).mono ?_; rintro e w' ⟨rfl, hw⟩; obtain rfl := hw.symm; clear hw)
    refine (GS _ HB0.out).mono ?_
    rintro e w3 ⟨rfl, hb⟩
    have Z3 : Hid (w3.heap[w.heap.size]? = some ref0O) := (hb.block _ (lt_of Z0.out)).trans Z0.out
    have HB3 : Hid (Below w.heap.size w w3) := bel_step HB0.out hb
    clear hb GS
    go_wp2_with fail
    go_region
    have Z3d : Hid (w3.drew.heap[w.heap.size]? = some ref0O) := Z3.out
    have HB3d : Hid (Below w.heap.size w w3.drew) := HB3.out.drew
    clear Z3 HB3
    generalize w3.drew = v3 at *
    go_wp2_with fail
    refine (PC _ HB3d.out).mono ?_
    rintro e w4 ⟨rfl, hb⟩
    have z4 := (hb.block _ (lt_of Z3d.out)).trans Z3d.out
    have HB4 : Hid (Below w.heap.size w (w4.alloc (refO b s r c fr fc))) := bel_alloc (bel_step HB3d.out hb) _
    have Z4 : Hid ((w4.alloc (refO b s r c fr fc)).heap[w.heap.size]? = some ref0O) := kept_new z4 _
    obtain ⟨d0, d1, d2, d3, d4, d5⟩ := r_cells Z4.out
    obtain ⟨e0, e1, e2, e3, e4, e5⟩ := r_free Z4.out
    clear z4 hb
    go_wp2
    exact bodyPost_ret (res_ref rfl rfl (set6 Z4.out) rfl) rfl ⟨rfl, bel_set6 HB4.out (Nat.le_refl _)⟩
set_option maxHeartbeats 4000000 in
theorem rr_sheet_yes (hq : (S.size = 0) ∨ ∃ hz : 0 < S.size, ((S[0].toNat : Int) == 91) = false) {j n : Nat} (IY : CS 168 #[.string S, .int .u8 33] (.int .i64 j)) (j2 : j ≤ S.size) (hn : (j : Int) + 1 = n) (n2 : n ≤ S.size) (nx : S.size ≤ 9223372036854775807) (hH : S.extract 0 j = SH) (hX : S.extract n S.size = S2) (GS : CB w 100 #[.string SH] (.bool true)) {b s : ByteArray} {r c : Int} {fr fc : Bool} (PC : CB w 130 #[.string S2] (.tuple #[refV b s r c fr fc, .bool true])) :
    Calls Tryz.prog 129 #[.string S] w fun e w' => e = .returned (.tuple #[refV ⟨#[]⟩ SH r c fr fc, .bool true]) ∧ Below w.heap.size w w' := by
  have f1 : ¬ (j : Int) < 0 := by omega
  have f2 : (0 : Int) ≤ j := by omega
  have f3 : (j : Int) ≤ S.size := by omega
  have f4 : (0 : Int) ≤ n := by omega
  have f5 : (n : Int) ≤ ↑S.size := by omega
  have f6 : IntKind.i64.wrap (n : Int) = n := wrap_i64 (by omega) (by omega)
  have hq' : (¬ (0 : Int) < S.size) ∨ ∃ hz : 0 < S.size, (0 : Int) < S.size ∧ ((S[0].toNat : Int) == 91) = false := by
    rcases hq with h | ⟨h, g⟩
    · exact .inl (by omega)
    · exact .inr ⟨h, by omega, g⟩
  clear hq
  have HB0 : Hid (Below w.heap.size w (w.alloc ref0O)) := bel_alloc (Below.refl _ _) _
  have Z0 : Hid ((w.alloc ref0O).heap[w.heap.size]? = some ref0O) := heap_alloc_new w _
  rcases hq' with h | ⟨hz, h, h'⟩
  · exfalso
    omega
  · go_enter Tryz.func129, Tryz.ntmps129
    go_wp2_with (go_at_call 168; refine (IY _).mono ?_; rintro e w' ⟨rfl, hw⟩; obtain rfl := hw.symm; clear hw)
    refine (GS _ HB0.out).mono ?_
    rintro e w3 ⟨rfl, hb⟩
    have Z3 : Hid (w3.heap[w.heap.size]? = some ref0O) := (hb.block _ (lt_of Z0.out)).trans Z0.out
    have HB3 : Hid (Below w.heap.size w w3) := bel_step HB0.out hb
    clear hb GS
    go_wp2_with fail
    go_region
    have Z3d : Hid (w3.drew.heap[w.heap.size]? = some ref0O) := Z3.out
    have HB3d : Hid (Below w.heap.size w w3.drew) := HB3.out.drew
    clear Z3 HB3
    generalize w3.drew = v3 at *
    go_wp2_with fail
    refine (PC _ HB3d.out).mono ?_
    rintro e w4 ⟨rfl, hb⟩
    have z4 := (hb.block _ (lt_of Z3d.out)).trans Z3d.out
    have HB4 : Hid (Below w.heap.size w (w4.alloc (refO ⟨#[]⟩ SH r c fr fc))) := bel_alloc (bel_step HB3d.out hb) _
    have Z4 : Hid ((w4.alloc (refO ⟨#[]⟩ SH r c fr fc)).heap[w.heap.size]? = some ref0O) := kept_new z4 _
    obtain ⟨d0, d1, d2, d3, d4, d5⟩ := r_cells Z4.out
    obtain ⟨e0, e1, e2, e3, e4, e5⟩ := r_free Z4.out
    clear z4 hb
    go_wp2
    exact bodyPost_ret (res_ref rfl rfl (set6 Z4.out) rfl) rfl ⟨rfl, bel_set6 HB4.out (Nat.le_refl _)⟩
end
end Go.Proofs.YtljfkkpkcjigpaaGreatDoor

namespace Go.Proofs.YtljfkkpkcjigpaaGreatDoor
open Go.RowKit
set_option maxRecDepth 100000
section
variable {S B S1 SH S2 : ByteArray} {w : World}
set_option maxHeartbeats 4000000 in
theorem rr_cell_no (hq : (S.size = 0) ∨ ∃ hz : 0 < S.size, ((S[0].toNat : Int) == 91) = false) (IY : CS 168 #[.string S, .int .u8 33] (.int .i64 (-1))) {b s : ByteArray} {r c : Int} {fr fc : Bool} (PC : CB w 130 #[.string S] (.tuple #[refV b s r c fr fc, .bool false])) :
    Calls Tryz.prog 129 #[.string S] w fun e w' => e = .returned (.tuple #[ref0, .bool false]) ∧ Below w.heap.size w w' := by
  have hq' : (¬ (0 : Int) < S.size) ∨ ∃ hz : 0 < S.size, (0 : Int) < S.size ∧ ((S[0].toNat : Int) == 91) = false := by
    rcases hq with h | ⟨h, g⟩
    · exact .inl (by omega)
    · exact .inr ⟨h, by omega, g⟩
  clear hq
  have HB0 : Hid (Below w.heap.size w (w.alloc ref0O)) := bel_alloc (Below.refl _ _) _
  have Z0 : Hid ((w.alloc ref0O).heap[w.heap.size]? = some ref0O) := heap_alloc_new w _
  rcases hq' with h | ⟨hz, h, h'⟩
  · go_enter Tryz.func129, Tryz.ntmps129
    go_wp2_with (go_at_call 168; refine (IY _).mono ?_; rintro e w' ⟨rfl, hw⟩; obtain rfl := hw.symm; clear hw)
    refine (PC _ HB0.out).mono ?_
    rintro e w4 ⟨rfl, hb⟩
    have z4 := (hb.block _ (lt_of Z0.out)).trans Z0.out
    have HB4 : Hid (Below w.heap.size w (w4.alloc (refO b s r c fr fc))) := bel_alloc (bel_step HB0.out hb) _
    have Z4 : Hid ((w4.alloc (refO b s r c fr fc)).heap[w.heap.size]? = some ref0O) := kept_new z4 _
    obtain ⟨d0, d1, d2, d3, d4, d5⟩ := r_cells Z4.out
    obtain ⟨e0, e1, e2, e3, e4, e5⟩ := r_free Z4.out
    clear z4 hb
    go_wp2
    exact bodyPost_ret (res_ref rfl rfl (set6 Z4.out) rfl) rfl ⟨rfl, bel_set6 HB4.out (Nat.le_refl _)⟩
  · go_enter Tryz.func129, Tryz.ntmps129
    go_wp2_with (go_at_call 168; refine (IY _).mono ?_; rintro e w' ⟨rfl, hw⟩; obtain rfl := hw.symm; clear hw)
    refine (PC _ HB0.out).mono ?_
    rintro e w4 ⟨rfl, hb⟩
    have z4 := (hb.block _ (lt_of Z0.out)).trans Z0.out
    have HB4 : Hid (Below w.heap.size w (w4.alloc (refO b s r c fr fc))) := bel_alloc (bel_step HB0.out hb) _
    have Z4 : Hid ((w4.alloc (refO b s r c fr fc)).heap[w.heap.size]? = some ref0O) := kept_new z4 _
    obtain ⟨d0, d1, d2, d3, d4, d5⟩ := r_cells Z4.out
    obtain ⟨e0, e1, e2, e3, e4, e5⟩ := r_free Z4.out
    clear z4 hb
    go_wp2
    exact bodyPost_ret (res_ref rfl rfl (set6 Z4.out) rfl) rfl ⟨rfl, bel_set6 HB4.out (Nat.le_refl _)⟩
set_option maxHeartbeats 4000000 in
theorem rr_cell_yes (hq : (S.size = 0) ∨ ∃ hz : 0 < S.size, ((S[0].toNat : Int) == 91) = false) (IY : CS 168 #[.string S, .int .u8 33] (.int .i64 (-1))) {b s : ByteArray} {r c : Int} {fr fc : Bool} (PC : CB w 130 #[.string S] (.tuple #[refV b s r c fr fc, .bool true])) :
    Calls Tryz.prog 129 #[.string S] w fun e w' => e = .returned (.tuple #[refV ⟨#[]⟩ ⟨#[]⟩ r c fr fc, .bool true]) ∧ Below w.heap.size w w' := by
  have hq' : (¬ (0 : Int) < S.size) ∨ ∃ hz : 0 < S.size, (0 : Int) < S.size ∧ ((S[0].toNat : Int) == 91) = false := by
    rcases hq with h | ⟨h, g⟩
    · exact .inl (by omega)
    · exact .inr ⟨h, by omega, g⟩
  clear hq
  have HB0 : Hid (Below w.heap.size w (w.alloc ref0O)) := bel_alloc (Below.refl _ _) _
  have Z0 : Hid ((w.alloc ref0O).heap[w.heap.size]? = some ref0O) := heap_alloc_new w _
  rcases hq' with h | ⟨hz, h, h'⟩
  · go_enter Tryz.func129, Tryz.ntmps129
    go_wp2_with (go_at_call 168; refine (IY _).mono ?_; rintro e w' ⟨rfl, hw⟩; obtain rfl := hw.symm; clear hw)
    refine (PC _ HB0.out).mono ?_
    rintro e w4 ⟨rfl, hb⟩
    have z4 := (hb.block _ (lt_of Z0.out)).trans Z0.out
    have HB4 : Hid (Below w.heap.size w (w4.alloc (refO ⟨#[]⟩ ⟨#[]⟩ r c fr fc))) := bel_alloc (bel_step HB0.out hb) _
    have Z4 : Hid ((w4.alloc (refO ⟨#[]⟩ ⟨#[]⟩ r c fr fc)).heap[w.heap.size]? = some ref0O) := kept_new z4 _
    obtain ⟨d0, d1, d2, d3, d4, d5⟩ := r_cells Z4.out
    obtain ⟨e0, e1, e2, e3, e4, e5⟩ := r_free Z4.out
    clear z4 hb
    go_wp2
    exact bodyPost_ret (res_ref rfl rfl (set6 Z4.out) rfl) rfl ⟨rfl, bel_set6 HB4.out (Nat.le_refl _)⟩
  · go_enter Tryz.func129, Tryz.ntmps129
    go_wp2_with (go_at_call 168; refine (IY _).mono ?_; rintro e w' ⟨rfl, hw⟩; obtain rfl := hw.symm; clear hw)
    refine (PC _ HB0.out).mono ?_
    rintro e w4 ⟨rfl, hb⟩
    have z4 := (hb.block _ (lt_of Z0.out)).trans Z0.out
    have HB4 : Hid (Below w.heap.size w (w4.alloc (refO ⟨#[]⟩ ⟨#[]⟩ r c fr fc))) := bel_alloc (bel_step HB0.out hb) _
    have Z4 : Hid ((w4.alloc (refO ⟨#[]⟩ ⟨#[]⟩ r c fr fc)).heap[w.heap.size]? = some ref0O) := kept_new z4 _
    obtain ⟨d0, d1, d2, d3, d4, d5⟩ := r_cells Z4.out
    obtain ⟨e0, e1, e2, e3, e4, e5⟩ := r_free Z4.out
    clear z4 hb
    go_wp2
    exact bodyPost_ret (res_ref rfl rfl (set6 Z4.out) rfl) rfl ⟨rfl, bel_set6 HB4.out (Nat.le_refl _)⟩
end
end Go.Proofs.YtljfkkpkcjigpaaGreatDoor

namespace Go.Proofs.YtljfkkpkcjigpaaGreatDoor
open Go.RowKit
set_option maxRecDepth 100000
theorem idx_list (l : List UInt8) (c : UInt8) (hl : l.length ≤ 140737488355328) : CS 168 #[.string ⟨l.toArray⟩, .int .u8 (c.toNat : Nat)] (.int .i64 (idxF c l)) := fun u => ridx_any ⟨l.toArray⟩ c (by rw [size_mk]; omega) u
theorem idx_none {c : UInt8} {l : List UInt8} (h : Ad.at_ c l = none) : idxF c l = -1 := by unfold idxF; rw [h]
theorem idx_some {c : UInt8} {l a b : List UInt8} (h : Ad.at_ c l = some (a, b)) : idxF c l = (a.length : Nat) := by unfold idxF; rw [h]
theorem ext_take (a b : List UInt8) (c : UInt8) : (⟨(a ++ c :: b).toArray⟩ : ByteArray).extract 0 a.length = ⟨a.toArray⟩ ∧ (⟨(a ++ c :: b).toArray⟩ : ByteArray).extract (a.length + 1) (⟨(a ++ c :: b).toArray⟩ : ByteArray).size = ⟨b.toArray⟩ := by
  constructor
  · apply ByteArray.ext
    simp
  · apply ByteArray.ext
    rw [size_mk]
    simp
    exact List.take_of_length_le (by omega)
theorem gn_cb (l : List UInt8) (hl : l.length ≤ 140737488355328) (w : World) : CB w 100 #[.string ⟨l.toArray⟩] (.bool (gnF l)) := fun u hu => rgoodname_any ⟨l.toArray⟩ (by rw [size_mk]; omega) u
theorem rparseref_any (l : List UInt8) (hl : l.length ≤ 140737488355328) (w : World) :
    Calls Tryz.prog 129 #[.string ⟨l.toArray⟩] w fun e w' => e = .returned (.tuple #[refR (Ad.refP gnF l), .bool (Ad.refP gnF l).isSome]) ∧ Below w.heap.size w w' := by
  have plain : ∀ (hq : ((⟨l.toArray⟩ : ByteArray).size = 0) ∨ ∃ hz : 0 < (⟨l.toArray⟩ : ByteArray).size, (((⟨l.toArray⟩ : ByteArray)[0].toNat : Int) == 91) = false), Calls Tryz.prog 129 #[.string ⟨l.toArray⟩] w fun e w' => e = .returned (.tuple #[refR (Ad.sheetP gnF [] l), .bool (Ad.sheetP gnF [] l).isSome]) ∧ Below w.heap.size w w' := fun hq => by
    have IY := idx_list l 33 hl
    unfold Ad.sheetP
    cases h : Ad.at_ 33 l with
    | none =>
      rw [idx_none h] at IY
      have PC : CB w 130 #[.string ⟨l.toArray⟩] _ := fun u hu => rparsecell_any l hl u
      simp only
      cases hc : Ad.cellP l with
      | none => rw [hc] at PC; exact rr_cell_no hq IY PC
      | some c => rw [hc] at PC; exact rr_cell_yes hq IY PC
    | some p =>
      obtain ⟨a, x⟩ := p
      have e := (Ad.at_some h).1
      have hlen := at_some_len h
      rw [idx_some h] at IY
      obtain ⟨x1, x2⟩ := ext_take a x 33
      rw [← e] at x1 x2
      have GS := gn_cb a (by omega) w
      have PC : CB w 130 #[.string ⟨x.toArray⟩] _ := fun u hu => rparsecell_any x (by omega) u
      have q1 : a.length ≤ (⟨l.toArray⟩ : ByteArray).size := by rw [size_mk]; omega
      have q2 : a.length + 1 ≤ (⟨l.toArray⟩ : ByteArray).size := by rw [size_mk]; omega
      have q3 : (⟨l.toArray⟩ : ByteArray).size ≤ 9223372036854775807 := by rw [size_mk]; omega
      simp only
      cases hg : gnF a
      · rw [hg] at GS
        simp only [Bool.false_eq_true, if_false]
        exact rr_sheet_bad hq IY q1 rfl q2 q3 x1 x2 GS
      · rw [hg] at GS
        simp only [if_true]
        cases hc : Ad.cellP x with
        | none => rw [hc] at PC; exact rr_sheet_no hq IY q1 rfl q2 q3 x1 x2 GS PC
        | some c => rw [hc] at PC; exact rr_sheet_yes hq IY q1 rfl q2 q3 x1 x2 GS PC
  cases l with
  | nil => exact plain (.inl rfl)
  | cons c m =>
    have e0 : (⟨(c :: m).toArray⟩ : ByteArray)[0]'(by rw [size_mk]; simp) = c := rfl
    have hz : 0 < (⟨(c :: m).toArray⟩ : ByteArray).size := by rw [size_mk]; simp
    rcases ch_facts c 91 with ⟨h1, h2⟩ | ⟨h1, h2⟩
    · subst h1
      clear plain
      simp only [List.length_cons] at hl
      have IX := idx_list (91 :: m) 93 (by simp; omega)
      have e1 : Ad.refP gnF (91 :: m) = match Ad.at_ 93 m with
        | none => none
        | some (a, r) => if gnF a = true ∧ (Ad.at_ 33 r).isSome = true then Ad.sheetP gnF a r else none := rfl
      rw [e1]
      have e9 := at_cons_ne (c := 93) (x := 91) (r := m) (by decide)
      cases h9 : Ad.at_ 93 m with
      | none =>
        rw [h9] at e9
        rw [idx_none e9] at IX
        exact rr_noclose hz h2 IX
      | some p =>
        obtain ⟨a, r⟩ := p
        rw [h9] at e9
        rw [idx_some (a := 91 :: a) (b := r) e9] at IX
        have e := (Ad.at_some h9).1
        have hlen := at_some_len h9
        obtain ⟨x1, x2⟩ := ext_take (91 :: a) r 93
        have ex : (91 : UInt8) :: m = (91 :: a) ++ 93 :: r := by rw [e]; rfl
        rw [← ex] at x1 x2
        have q1 : (91 :: a).length ≤ (⟨(91 :: m).toArray⟩ : ByteArray).size := by rw [size_mk]; simp; omega
        have q2 : (91 :: a).length + 1 ≤ (⟨(91 :: m).toArray⟩ : ByteArray).size := by rw [size_mk]; simp; omega
        have q3 : (⟨(91 :: m).toArray⟩ : ByteArray).size ≤ 9223372036854775807 := by rw [size_mk]; simp; omega
        have hB : (⟨(91 :: m).toArray⟩ : ByteArray).extract 1 (91 :: a).length = ⟨a.toArray⟩ := by
          apply ByteArray.ext
          rw [e]
          simp
        have GB := gn_cb a (by omega) w
        simp only
        cases hg : gnF a
        · rw [hg] at GB
          simp only [Bool.false_eq_true, false_and, if_false]
          exact rr_badbook hz h2 IX (by simp) q1 hB GB
        · rw [hg] at GB
          simp only [true_and]
          have IY := idx_list r 33 (by omega)
          cases h3 : Ad.at_ 33 r with
          | none =>
            rw [idx_none h3] at IY
            rw [if_neg (by simp)]
            exact rr_nosheet hz h2 IX (by simp) q1 rfl q2 q3 hB x2 GB IY
          | some p =>
            obtain ⟨s, x⟩ := p
            rw [if_pos (by simp)]
            unfold Ad.sheetP
            rw [h3]
            have e3 := (Ad.at_some h3).1
            have hlen3 := at_some_len h3
            rw [idx_some h3] at IY
            obtain ⟨y1, y2⟩ := ext_take s x 33
            rw [← e3] at y1 y2
            have GS := gn_cb s (by omega) w
            have PC : CB w 130 #[.string ⟨x.toArray⟩] _ := fun u hu => rparsecell_any x (by omega) u
            have j1 : s.length ≤ (⟨r.toArray⟩ : ByteArray).size := by rw [size_mk]; omega
            have j2 : s.length + 1 ≤ (⟨r.toArray⟩ : ByteArray).size := by rw [size_mk]; omega
            have j3 : (⟨r.toArray⟩ : ByteArray).size ≤ 9223372036854775807 := by rw [size_mk]; omega
            simp only
            cases hg2 : gnF s
            · rw [hg2] at GS
              simp only [Bool.false_eq_true, if_false]
              exact rr_book_bad hz h2 IX (by simp) q1 rfl q2 q3 hB x2 GB IY j1 rfl j2 j3 y1 y2 GS
            · rw [hg2] at GS
              simp only [if_true]
              cases hc : Ad.cellP x with
              | none => rw [hc] at PC; exact rr_book_no hz h2 IX (by simp) q1 rfl q2 q3 hB x2 GB IY j1 rfl j2 j3 y1 y2 GS PC
              | some c => rw [hc] at PC; exact rr_book_yes hz h2 IX (by simp) q1 rfl q2 q3 hB x2 GB IY j1 rfl j2 j3 y1 y2 GS PC
    · rw [Ad.refP_plain (by simpa using h1)]
      exact plain (.inr ⟨hz, h2⟩)
end Go.Proofs.YtljfkkpkcjigpaaGreatDoor

namespace Go.Tk
open Go.Ad

def runC (c : UInt8) : Bool := isL c || isD c || c == 95 || c == 36
def numC (c : UInt8) : Bool := isD c || c == 46
abbrev Tok := Sum Int (Sum (List UInt8) (Sum Ref (Sum (List UInt8 × List UInt8) (Sum (List UInt8) Nat))))
abbrev Tok.num (n : Int) : Tok := .inl n
abbrev Tok.str (s : List UInt8) : Tok := .inr (.inl s)
abbrev Tok.ref (r : Ref) : Tok := .inr (.inr (.inl r))
abbrev Tok.word (b s : List UInt8) : Tok := .inr (.inr (.inr (.inl (b, s))))
abbrev Tok.op (s : List UInt8) : Tok := .inr (.inr (.inr (.inr (.inl s))))
abbrev Tok.bad (n : Nat) : Tok := .inr (.inr (.inr (.inr (.inr n))))
theorem Tok.cs {motive : Tok → Prop} (num : ∀ n, motive (Tok.num n)) (str : ∀ s, motive (Tok.str s)) (ref : ∀ r, motive (Tok.ref r)) (word : ∀ b s, motive (Tok.word b s)) (op : ∀ s, motive (Tok.op s)) (bad : ∀ n, motive (Tok.bad n)) (t : Tok) : motive t := by
  rcases t with n | s | r | ⟨b, s⟩ | s | n
  · exact num n
  · exact str s
  · exact ref r
  · exact word b s
  · exact op s
  · exact bad n
def quoF : List UInt8 → Option (List UInt8 × List UInt8)
  | [] => none
  | [c] => if c = 34 then some ([], []) else none
  | c :: d :: r => if c = 34 then (if d = 34 then (quoF r).map fun p => (34 :: p.1, p.2) else some ([], d :: r)) else (quoF (d :: r)).map fun p => (c :: p.1, p.2)
def quoW : List UInt8 → List UInt8
  | [] => [34]
  | c :: r => if c = 34 then 34 :: 34 :: quoW r else c :: quoW r
def errN : Nat → List UInt8
  | 1 => [35, 68, 73, 86, 47, 48, 33]
  | 2 => [35, 86, 65, 76, 85, 69, 33]
  | 3 => [35, 82, 69, 70, 33]
  | 4 => [35, 78, 65, 77, 69, 63]
  | 5 => [35, 78, 85, 77, 33]
  | 6 => [35, 78, 47, 65]
  | 7 => [35, 67, 89, 67, 76, 69, 33]
  | 8 => [35, 76, 73, 78, 75, 33]
  | _ => []
def badF (l : List UInt8) : Option (Tok × List UInt8) := ([1, 2, 3, 4, 5, 6, 7, 8].find? fun i => (errN i).isPrefixOf l).map fun i => (.bad i, l.drop (errN i).length)
def ones : List UInt8 := [43, 45, 42, 47, 94, 38, 61, 60, 62, 37, 40, 41, 44, 58]
def two (c d : UInt8) : Bool := (c == 60 && d == 62) || (c == 60 && d == 61) || (c == 62 && d == 61)
def opF : List UInt8 → Option (Tok × List UInt8)
  | [] => none
  | [c] => if c ∈ ones then some (.op [c], []) else none
  | c :: d :: r => if two c d = true then some (.op [c, d], r) else if c ∈ ones then some (.op [c], d :: r) else none
section
variable (gn tru : List UInt8 → Bool) (pn : List UInt8 → Option Int) (wn : Int → List UInt8)
def tailN (b pre l : List UInt8) : Option (Tok × List UInt8) :=
  match l.dropWhile runC with
  | 33 :: r => (refP gn (pre ++ l.takeWhile runC ++ 33 :: r.takeWhile runC)).map fun x => (.ref x, r.dropWhile runC)
  | r => if b = [] then (match cellP (l.takeWhile runC) with
      | some c => some (.ref ⟨[], [], c⟩, r)
      | none => if gn (l.takeWhile runC) = true ∨ tru (l.takeWhile runC) = true then some (.word [] (l.takeWhile runC), r) else none)
    else if gn (l.takeWhile runC) = true then some (.word b (l.takeWhile runC), r) else none
def named (l : List UInt8) : Option (Tok × List UInt8) :=
  match l with
  | 91 :: m => match at_ 93 m with
    | none => none
    | some (a, r) => if gn a = true then tailN gn tru a (91 :: (a ++ [93])) r else none
  | l => tailN gn tru [] [] l
def one (l : List UInt8) : Option (Tok × List UInt8) :=
  match l with
  | [] => none
  | c :: r =>
    if isD c = true then (pn ((c :: r).takeWhile numC)).map fun n => (.num n, (c :: r).dropWhile numC)
    else if c = 34 then (quoF r).map fun p => (.str p.1, p.2)
    else if c = 35 then badF (c :: r)
    else if c = 91 ∨ c = 36 ∨ isL c = true then named gn tru (c :: r)
    else opF (c :: r)
def blank (c : UInt8) : Bool := c == 32 || c == 9
def lexN : Nat → List UInt8 → Option (List Tok)
  | 0, _ => none
  | _ + 1, [] => some []
  | k + 1, c :: r => if blank c = true then lexN k r else match one gn tru pn (c :: r) with
    | none => none
    | some (t, m) => (lexN k m).map (t :: ·)
def text : Tok → List UInt8
  | .inl n => wn n
  | .inr (.inl s) => 34 :: quoW s
  | .inr (.inr (.inl r)) => refW r
  | .inr (.inr (.inr (.inl (b, s)))) => if b = [] then s else 91 :: (b ++ 93 :: s)
  | .inr (.inr (.inr (.inr (.inl s)))) => s
  | .inr (.inr (.inr (.inr (.inr n)))) => errN n
end
theorem quo_len : ∀ (k : Nat) (l s r : List UInt8), l.length ≤ k → quoF l = some (s, r) → r.length < l.length
  | 0, l, s, r, hk, h => by
    have : l = [] := List.eq_nil_of_length_eq_zero (by omega)
    subst this; cases h
  | k + 1, [], s, r, hk, h => by cases h
  | k + 1, [c], s, r, hk, h => by
    unfold quoF at h
    split at h
    · cases h; simp
    · cases h
  | k + 1, c :: d :: l, s, r, hk, h => by
    unfold quoF at h
    simp only [List.length_cons] at hk ⊢
    split at h
    · split at h
      · cases hq : quoF l with
        | none => rw [hq] at h; cases h
        | some p =>
          rw [hq] at h
          cases h
          have := quo_len k l p.1 p.2 (by omega) hq
          omega
      · cases h; simp
    · cases hq : quoF (d :: l) with
      | none => rw [hq] at h; cases h
      | some p =>
        rw [hq] at h
        cases h
        have := quo_len k (d :: l) p.1 p.2 (by simp only [List.length_cons]; omega) hq
        simp only [List.length_cons] at this
        omega
theorem drop_le (p : UInt8 → Bool) : ∀ l : List UInt8, (l.dropWhile p).length ≤ l.length
  | [] => Nat.le_refl _
  | c :: r => by
    rw [List.dropWhile_cons]
    split
    · have := drop_le p r; simp only [List.length_cons]; omega
    · exact Nat.le_refl _
theorem drop_lt (p : UInt8 → Bool) {c : UInt8} {r : List UInt8} (h : p c = true) : ((c :: r).dropWhile p).length < (c :: r).length := by
  rw [List.dropWhile_cons, if_pos h]
  have := drop_le p r
  simp only [List.length_cons]; omega
theorem bad_len {l : List UInt8} {t : Tok} {r : List UInt8} (h : badF l = some (t, r)) : r.length < l.length := by
  unfold badF at h
  cases hf : [1, 2, 3, 4, 5, 6, 7, 8].find? fun i => (errN i).isPrefixOf l with
  | none => rw [hf] at h; cases h
  | some i =>
    rw [hf] at h
    cases h
    have h1 := List.find?_some hf
    have h2 := List.mem_of_find?_eq_some hf
    have h3 : 0 < (errN i).length ∧ (errN i).length ≤ l.length := by
      have := List.IsPrefix.length_le (List.isPrefixOf_iff_prefix.1 h1)
      refine ⟨?_, this⟩
      simp only [List.mem_cons, List.not_mem_nil, or_false] at h2
      rcases h2 with rfl | rfl | rfl | rfl | rfl | rfl | rfl | rfl <;> decide
    rw [List.length_drop]
    omega
theorem op_len {l : List UInt8} {t : Tok} {r : List UInt8} (h : opF l = some (t, r)) : r.length < l.length := by
  match l, h with
  | [], h => cases h
  | [c], h =>
    simp only [opF] at h
    split at h
    · cases h; simp
    · cases h
  | c :: d :: m, h =>
    simp only [opF] at h
    split at h
    · cases h; simp; omega
    · split at h
      · cases h; simp
      · cases h
theorem tail_len {gn tru : List UInt8 → Bool} {b pre l : List UInt8} {t : Tok} {r : List UInt8} (h : tailN gn tru b pre l = some (t, r)) : r.length ≤ l.length := by
  have hd := drop_le runC l
  unfold tailN at h
  split at h
  · rename_i m hm
    rw [hm] at hd
    cases hr : refP gn (pre ++ l.takeWhile runC ++ 33 :: m.takeWhile runC) with
    | none => rw [hr] at h; cases h
    | some x =>
      rw [hr] at h
      cases h
      have := drop_le runC m
      simp only [List.length_cons] at hd
      omega
  · split at h
    · split at h
      · cases h; exact hd
      · split at h
        · cases h; exact hd
        · cases h
    · split at h
      · cases h; exact hd
      · cases h
structure Ways (gn tru : List UInt8 → Bool) (pn : List UInt8 → Option Int) (wn : Int → List UInt8) (okN : Int → Prop) : Prop where
  names : Names gn
  first : ∀ c r, gn (c :: r) = true → isL c = true
  signs : ∀ l, gn l = true → ∀ x ∈ l, runC x = true
  nocell : ∀ l, gn l = true → cellP l = none
  truth : ∀ l, tru l = true → l ≠ [] ∧ (∀ x ∈ l, isL x = true) ∧ cellP l = none
  number : ∀ n, okN n → pn (wn n) = some n ∧ (∃ c r, wn n = c :: r ∧ isD c = true) ∧ ∀ x ∈ wn n, numC x = true
section
variable (gn tru : List UInt8 → Bool) (okN : Int → Prop)
def okT : Tok → Prop
  | .inl n => okN n
  | .inr (.inl _) => True
  | .inr (.inr (.inl r)) => goodR gn r
  | .inr (.inr (.inr (.inl (b, s)))) => (b = [] ∧ (gn s = true ∨ tru s = true)) ∨ (gn b = true ∧ gn s = true)
  | .inr (.inr (.inr (.inr (.inl s)))) => (∃ c, c ∈ ones ∧ s = [c]) ∨ (∃ c d, two c d = true ∧ s = [c, d])
  | .inr (.inr (.inr (.inr (.inr n)))) => 1 ≤ n ∧ n ≤ 8
end
theorem isL_run {c : UInt8} (h : isL c = true) : runC c = true := by unfold runC; rw [h]; rfl
theorem isL_notD {c : UInt8} (h : isL c = true) : isD c = false ∧ c ≠ 34 ∧ c ≠ 35 ∧ c ≠ 91 := by
  unfold isL at h
  simp only [Bool.or_eq_true, Bool.and_eq_true, decide_eq_true_eq] at h
  refine ⟨?_, ?_, ?_, ?_⟩
  · unfold isD; rw [Bool.and_eq_false_iff, decide_eq_false_iff_not, decide_eq_false_iff_not]; omega
  · rintro rfl; revert h; decide
  · rintro rfl; revert h; decide
  · rintro rfl; revert h; decide
section
variable {gn tru : List UInt8 → Bool} {pn : List UInt8 → Option Int} {wn : Int → List UInt8} {okN : Int → Prop}
theorem one_named {c : UInt8} {r : List UInt8} (h : c = 36 ∨ isL c = true) : one gn tru pn (c :: r) = tailN gn tru [] [] (c :: r) := by
  have hd : isD c = false ∧ c ≠ 34 ∧ c ≠ 35 ∧ c ≠ 91 := by
    rcases h with rfl | h
    · decide
    · exact isL_notD h
  unfold one
  simp only
  rw [if_neg (by rw [hd.1]; decide), if_neg hd.2.1, if_neg hd.2.2.1, if_pos (.inr h)]
  unfold named
  split
  · rename_i m he
    simp only [List.cons.injEq] at he
    exact absurd he.1 hd.2.2.2
  · rfl
end
end Go.Tk
