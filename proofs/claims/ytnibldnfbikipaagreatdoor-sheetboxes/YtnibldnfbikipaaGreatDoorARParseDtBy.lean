/- ARParseB, ARParseDt. -/
import Derived.Test.YtnibldnfbikipaaGreatDoorARParseBy
set_option linter.unusedVariables false
set_option linter.unusedSimpArgs false
set_option maxHeartbeats 16000000
set_option maxRecDepth 100000
namespace Go.Proofs.YtnibldnfbikipaaGreatDoor
open Go.RowKit
theorem rp_bad {A A1 U V Y A2 : ByteArray} {fc fr : Bool} {C : Int} {w : World} (hz : 0 < A.size) (hA : Cut36 fc A A1 hz) (h2 : 2 ≤ A1.size) (h0 : 0 < A1.size)
    (LT : ∀ u, Calls Tryz.prog 91 #[.int .u8 (A1[0].toNat : Nat)] u fun e w' => e = .returned (.bool true) ∧ w' = u) (hU : A1.extract 0 1 = U) (hV : A1.extract 1 A1.size = V)
    (UP : ∀ u, Calls Tryz.prog 142 #[.string U] u fun e w' => e = .returned (.string Y) ∧ Below u.heap.size u w') (hY : 0 < Y.size) (hy1 : 65 ≤ (Y[0].toNat : Int)) (hy2 : (Y[0].toNat : Int) ≤ 90) (hC : (Y[0].toNat : Int) - 65 + 1 = C)
    (hVz : 0 < V.size) (hW : Cut36 fr V A2 hVz) (hB : A2.size = 0 ∨ 2 < A2.size ∨ ∃ h : 0 < A2.size, A2.size ≤ 2 ∧ ((A2[0].toNat : Int) == 48) = true) :
    Calls Tryz.prog 242 #[.string A] w fun e w' => e = .returned (.tuple #[ref0, .bool false]) ∧ Below w.heap.size w w' := by
  have c1 : (0 : Int) < A.size := by omega
  have c3 : (1 : Int) ≤ A.size := by omega
  have c2 : ¬ (A1.size : Int) < 2 := by omega
  have c4 : (1 : Int) ≤ A1.size := by omega
  have c5 : (1 : Int) ≤ V.size := by omega
  have hB' : ((A2.size : Int) < 1) ∨ (¬ (A2.size : Int) < 1 ∧ (2 : Int) < A2.size) ∨ ∃ h : 0 < A2.size, ¬ (A2.size : Int) < 1 ∧ ¬ (2 : Int) < A2.size ∧ ((A2[0].toNat : Int) == 48) = true := by
    rcases hB with h | h | ⟨h, g, k⟩
    · exact .inl (by omega)
    · exact .inr (.inl ⟨by omega, by omega⟩)
    · exact .inr (.inr ⟨h, by omega, by omega, k⟩)
  clear hB
  rcases hA with ⟨rfl, h3, h4⟩ | ⟨rfl, h3, rfl⟩ <;> rcases hW with ⟨rfl, h5, h6⟩ | ⟨rfl, h5, rfl⟩
  all_goals
    go_enter Tryz.func242, Tryz.ntmps242
    go_wp2_with (go_at_call 91; refine (LT _).mono ?_; rintro e w' ⟨rfl, hw⟩; obtain rfl := hw.symm; clear hw)
    refine (UP _).mono ?_
    rintro e w1 ⟨rfl, hb⟩
    obtain ⟨z1, z2⟩ := new2 hb
    have HB1 : Hid (Below w.heap.size w w1) := bel2 hb
    have Z1 : Hid (w1.heap[w.heap.size]? = some ref0O) := z1
    have Z2 : Hid _ := z2
    obtain ⟨k0, k1, k2, k3, k4, k5⟩ := r_cells z2
    obtain ⟨f0, f1, f2, f3, f4, f5⟩ := r_free z2
    obtain ⟨d0, d1, d2, d3, d4, d5⟩ := r_cells z1
    obtain ⟨e0, e1, e2, e3, e4, e5⟩ := r_free z1
    clear hb z1 z2 UP LT
    rcases hB' with q1 | ⟨q1, q2⟩ | ⟨q0, q1, q2, q3⟩
    all_goals first
      | (exfalso; omega)
      | (go_wp2
         refine bodyPost_ret (res_ref rfl rfl (set6 (?hz : _ = some ref0O)) rfl) rfl ⟨rfl, bel_set6 ?hb (Nat.le_refl _)⟩
         case hz => repeat (first | exact Z1.out | refine (set_o (by omega)).trans ?_)
         case hb => repeat (first | exact HB1.out | refine Below.setCell ?_ (by simp) _))
end Go.Proofs.YtnibldnfbikipaaGreatDoor
namespace Go.Proofs.YtnibldnfbikipaaGreatDoor
open Go.RowKit
theorem rp_one_no_t {A A1 U V Y A2 : ByteArray} {fc : Bool} {C : Int} {w : World} (hz : 0 < A.size) (hA : Cut36 fc A A1 hz) (h2 : 2 ≤ A1.size) (h0 : 0 < A1.size)
  (LT : ∀ u, Calls Tryz.prog 91 #[.int .u8 (A1[0].toNat : Nat)] u fun e w' => e = .returned (.bool true) ∧ w' = u) (hU : A1.extract 0 1 = U) (hV : A1.extract 1 A1.size = V)
  (UP : ∀ u, Calls Tryz.prog 142 #[.string U] u fun e w' => e = .returned (.string Y) ∧ Below u.heap.size u w') (hY : 0 < Y.size) (hy1 : 65 ≤ (Y[0].toNat : Int)) (hy2 : (Y[0].toNat : Int) ≤ 90) (hC : (Y[0].toNat : Int) - 65 + 1 = C)
  (hVz : 0 < V.size) (h5 : ((V[0].toNat : Int) == 36) = true) (h6 : V.extract 1 V.size = A2) (h1 : A2.size = 1) (hq : 0 < A2.size) (h48 : ((A2[0].toNat : Int) == 48) = false) (G0 : ∀ u, Calls Tryz.prog 93 #[.int .u8 (A2[0].toNat : Nat)] u fun e w' => e = .returned (.bool false) ∧ w' = u) :
  Calls Tryz.prog 242 #[.string A] w fun e w' => e = .returned (.tuple #[ref0, .bool false]) ∧ Below w.heap.size w w' := by
 have c1 : (0 : Int) < A.size := by omega
 have c3 : (1 : Int) ≤ A.size := by omega
 have c2 : ¬ (A1.size : Int) < 2 := by omega
 have c4 : (1 : Int) ≤ A1.size := by omega
 have c5 : (1 : Int) ≤ V.size := by omega
 have c6 : ¬ (A2.size : Int) < 1 := by omega
 have c7 : ¬ (2 : Int) < A2.size := by omega
 rcases hA with ⟨rfl, h3, h4⟩ | ⟨rfl, h3, rfl⟩
 all_goals
  go_enter Tryz.func242, Tryz.ntmps242
  go_wp2_with (go_at_call 91; refine (LT _).mono ?_; rintro e w' ⟨rfl, hw⟩; obtain rfl := hw.symm; clear hw)
  refine (UP _).mono ?_
  rintro e w1 ⟨rfl, hb⟩
  obtain ⟨z1, z2⟩ := new2 hb
  have HB1 : Hid (Below w.heap.size w w1) := bel2 hb
  have Z1 : Hid (w1.heap[w.heap.size]? = some ref0O) := z1
  have Z2 : Hid _ := z2
  obtain ⟨k0, k1, k2, k3, k4, k5⟩ := r_cells z2
  obtain ⟨f0, f1, f2, f3, f4, f5⟩ := r_free z2
  clear hb z1 z2 UP LT
  go_wp2
  clear k0 k1 k2 k3 k4 k5 f0 f1 f2 f3 f4 f5
  have x2 := set_4 (v := .bool true) (set_3 (v := .int .i64 C) Z2.out)
  have x1 := (set_o (u := w1.setCell ⟨w.heap.size + 1, 3, none⟩ (.int .i64 C)) (k := 4) (v := .bool true) (g := w.heap.size + 1) (j := w.heap.size) (by omega)).trans ((set_o (by omega)).trans Z1.out)
  have HB3 : Hid (Below w.heap.size w ((w1.setCell ⟨w.heap.size + 1, 3, none⟩ (.int .i64 C)).setCell ⟨w.heap.size + 1, 4, none⟩ (.bool true))) := (HB1.out.setCell (by simp) _).setCell (by simp) _
  clear HB1
  generalize (w1.setCell ⟨w.heap.size + 1, 3, none⟩ (.int .i64 C)).setCell ⟨w.heap.size + 1, 4, none⟩ (.bool true) = w3 at *
  have X1 : Hid (w3.heap[w.heap.size]? = some ref0O) := x1
  have X2 : Hid _ := x2
  obtain ⟨k0, k1, k2, k3, k4, k5⟩ := r_cells x2
  obtain ⟨f0, f1, f2, f3, f4, f5⟩ := r_free x2
  obtain ⟨d0, d1, d2, d3, d4, d5⟩ := r_cells x1
  obtain ⟨e0, e1, e2, e3, e4, e5⟩ := r_free x1
  clear x1 x2 Z1 Z2
  refine wp_loop_rounds 4 ?_
  rw [rounds_succ]
  go_wp2_with (first | (go_at_call 93; refine (G0 _).mono ?_; rintro e w' ⟨rfl, hw⟩; obtain rfl := hw.symm; clear hw))
  exact bodyPost_ret (res_ref rfl rfl (set6 X1.out) rfl) rfl ⟨rfl, bel_set6 HB3.out (Nat.le_refl _)⟩
theorem rp_two_no_t {A A1 U V Y A2 : ByteArray} {fc : Bool} {C : Int} {w : World} (hz : 0 < A.size) (hA : Cut36 fc A A1 hz) (h2 : 2 ≤ A1.size) (h0 : 0 < A1.size)
  (LT : ∀ u, Calls Tryz.prog 91 #[.int .u8 (A1[0].toNat : Nat)] u fun e w' => e = .returned (.bool true) ∧ w' = u) (hU : A1.extract 0 1 = U) (hV : A1.extract 1 A1.size = V)
  (UP : ∀ u, Calls Tryz.prog 142 #[.string U] u fun e w' => e = .returned (.string Y) ∧ Below u.heap.size u w') (hY : 0 < Y.size) (hy1 : 65 ≤ (Y[0].toNat : Int)) (hy2 : (Y[0].toNat : Int) ≤ 90) (hC : (Y[0].toNat : Int) - 65 + 1 = C)
  (hVz : 0 < V.size) (h5 : ((V[0].toNat : Int) == 36) = true) (h6 : V.extract 1 V.size = A2) (h1 : A2.size = 2) (hq : 0 < A2.size) (h48 : ((A2[0].toNat : Int) == 48) = false) (G0 : ∀ u, Calls Tryz.prog 93 #[.int .u8 (A2[0].toNat : Nat)] u fun e w' => e = .returned (.bool false) ∧ w' = u) :
  Calls Tryz.prog 242 #[.string A] w fun e w' => e = .returned (.tuple #[ref0, .bool false]) ∧ Below w.heap.size w w' := by
 have c1 : (0 : Int) < A.size := by omega
 have c3 : (1 : Int) ≤ A.size := by omega
 have c2 : ¬ (A1.size : Int) < 2 := by omega
 have c4 : (1 : Int) ≤ A1.size := by omega
 have c5 : (1 : Int) ≤ V.size := by omega
 have c6 : ¬ (A2.size : Int) < 1 := by omega
 have c7 : ¬ (2 : Int) < A2.size := by omega
 rcases hA with ⟨rfl, h3, h4⟩ | ⟨rfl, h3, rfl⟩
 all_goals
  go_enter Tryz.func242, Tryz.ntmps242
  go_wp2_with (go_at_call 91; refine (LT _).mono ?_; rintro e w' ⟨rfl, hw⟩; obtain rfl := hw.symm; clear hw)
  refine (UP _).mono ?_
  rintro e w1 ⟨rfl, hb⟩
  obtain ⟨z1, z2⟩ := new2 hb
  have HB1 : Hid (Below w.heap.size w w1) := bel2 hb
  have Z1 : Hid (w1.heap[w.heap.size]? = some ref0O) := z1
  have Z2 : Hid _ := z2
  obtain ⟨k0, k1, k2, k3, k4, k5⟩ := r_cells z2
  obtain ⟨f0, f1, f2, f3, f4, f5⟩ := r_free z2
  clear hb z1 z2 UP LT
  go_wp2
  clear k0 k1 k2 k3 k4 k5 f0 f1 f2 f3 f4 f5
  have x2 := set_4 (v := .bool true) (set_3 (v := .int .i64 C) Z2.out)
  have x1 := (set_o (u := w1.setCell ⟨w.heap.size + 1, 3, none⟩ (.int .i64 C)) (k := 4) (v := .bool true) (g := w.heap.size + 1) (j := w.heap.size) (by omega)).trans ((set_o (by omega)).trans Z1.out)
  have HB3 : Hid (Below w.heap.size w ((w1.setCell ⟨w.heap.size + 1, 3, none⟩ (.int .i64 C)).setCell ⟨w.heap.size + 1, 4, none⟩ (.bool true))) := (HB1.out.setCell (by simp) _).setCell (by simp) _
  clear HB1
  generalize (w1.setCell ⟨w.heap.size + 1, 3, none⟩ (.int .i64 C)).setCell ⟨w.heap.size + 1, 4, none⟩ (.bool true) = w3 at *
  have X1 : Hid (w3.heap[w.heap.size]? = some ref0O) := x1
  have X2 : Hid _ := x2
  obtain ⟨k0, k1, k2, k3, k4, k5⟩ := r_cells x2
  obtain ⟨f0, f1, f2, f3, f4, f5⟩ := r_free x2
  obtain ⟨d0, d1, d2, d3, d4, d5⟩ := r_cells x1
  obtain ⟨e0, e1, e2, e3, e4, e5⟩ := r_free x1
  clear x1 x2 Z1 Z2
  refine wp_loop_rounds 4 ?_
  rw [rounds_succ]
  go_wp2_with (first | (go_at_call 93; refine (G0 _).mono ?_; rintro e w' ⟨rfl, hw⟩; obtain rfl := hw.symm; clear hw))
  exact bodyPost_ret (res_ref rfl rfl (set6 X1.out) rfl) rfl ⟨rfl, bel_set6 HB3.out (Nat.le_refl _)⟩
end Go.Proofs.YtnibldnfbikipaaGreatDoor
namespace Go.Proofs.YtnibldnfbikipaaGreatDoor
open Go.RowKit
theorem rp_one_t {A A1 U V Y A2 : ByteArray} {fc : Bool} {C : Int} {w : World} (hz : 0 < A.size) (hA : Cut36 fc A A1 hz) (h2 : 2 ≤ A1.size) (h0 : 0 < A1.size)
  (LT : ∀ u, Calls Tryz.prog 91 #[.int .u8 (A1[0].toNat : Nat)] u fun e w' => e = .returned (.bool true) ∧ w' = u) (hU : A1.extract 0 1 = U) (hV : A1.extract 1 A1.size = V)
  (UP : ∀ u, Calls Tryz.prog 142 #[.string U] u fun e w' => e = .returned (.string Y) ∧ Below u.heap.size u w') (hY : 0 < Y.size) (hy1 : 65 ≤ (Y[0].toNat : Int)) (hy2 : (Y[0].toNat : Int) ≤ 90) (hC : (Y[0].toNat : Int) - 65 + 1 = C)
  (hVz : 0 < V.size) (h5 : ((V[0].toNat : Int) == 36) = true) (h6 : V.extract 1 V.size = A2) (h1 : A2.size = 1) (hq : 0 < A2.size) (h48 : ((A2[0].toNat : Int) == 48) = false) (G0 : ∀ u, Calls Tryz.prog 93 #[.int .u8 (A2[0].toNat : Nat)] u fun e w' => e = .returned (.bool true) ∧ w' = u) {n : Int} (b1 : 48 ≤ (A2[0].toNat : Int)) (b2 : (A2[0].toNat : Int) ≤ 57) (hn : (A2[0].toNat : Int) - 48 = n) {ok : Bool}
  (IN : ∀ u, Calls Tryz.prog 145 #[.int .i64 n, .int .i64 C] u fun e w' => e = .returned (.bool ok) ∧ w' = u) :
  Calls Tryz.prog 242 #[.string A] w fun e w' => e = .returned (.tuple #[if ok = true then refV ⟨#[]⟩ ⟨#[]⟩ n C true fc else ref0, .bool ok]) ∧ Below w.heap.size w w' := by
 have m1 : IntKind.u8.wrap n = n := wrap_u8 (by omega) (by omega)
 have m2 : IntKind.i64.wrap n = n := wrap_i64 (by omega) (by omega)
 have c1 : (0 : Int) < A.size := by omega
 have c3 : (1 : Int) ≤ A.size := by omega
 have c2 : ¬ (A1.size : Int) < 2 := by omega
 have c4 : (1 : Int) ≤ A1.size := by omega
 have c5 : (1 : Int) ≤ V.size := by omega
 have c6 : ¬ (A2.size : Int) < 1 := by omega
 have c7 : ¬ (2 : Int) < A2.size := by omega
 rcases hA with ⟨rfl, h3, h4⟩ | ⟨rfl, h3, rfl⟩
 all_goals
  go_enter Tryz.func242, Tryz.ntmps242
  go_wp2_with (go_at_call 91; refine (LT _).mono ?_; rintro e w' ⟨rfl, hw⟩; obtain rfl := hw.symm; clear hw)
  refine (UP _).mono ?_
  rintro e w1 ⟨rfl, hb⟩
  obtain ⟨z1, z2⟩ := new2 hb
  have HB1 : Hid (Below w.heap.size w w1) := bel2 hb
  have Z1 : Hid (w1.heap[w.heap.size]? = some ref0O) := z1
  have Z2 : Hid _ := z2
  obtain ⟨k0, k1, k2, k3, k4, k5⟩ := r_cells z2
  obtain ⟨f0, f1, f2, f3, f4, f5⟩ := r_free z2
  clear hb z1 z2 UP LT
  go_wp2
  clear k0 k1 k2 k3 k4 k5 f0 f1 f2 f3 f4 f5
  have x2 := set_4 (v := .bool true) (set_3 (v := .int .i64 C) Z2.out)
  have x1 := (set_o (u := w1.setCell ⟨w.heap.size + 1, 3, none⟩ (.int .i64 C)) (k := 4) (v := .bool true) (g := w.heap.size + 1) (j := w.heap.size) (by omega)).trans ((set_o (by omega)).trans Z1.out)
  have HB3 : Hid (Below w.heap.size w ((w1.setCell ⟨w.heap.size + 1, 3, none⟩ (.int .i64 C)).setCell ⟨w.heap.size + 1, 4, none⟩ (.bool true))) := (HB1.out.setCell (by simp) _).setCell (by simp) _
  clear HB1
  generalize (w1.setCell ⟨w.heap.size + 1, 3, none⟩ (.int .i64 C)).setCell ⟨w.heap.size + 1, 4, none⟩ (.bool true) = w3 at *
  have X1 : Hid (w3.heap[w.heap.size]? = some ref0O) := x1
  have X2 : Hid _ := x2
  obtain ⟨k0, k1, k2, k3, k4, k5⟩ := r_cells x2
  obtain ⟨f0, f1, f2, f3, f4, f5⟩ := r_free x2
  obtain ⟨d0, d1, d2, d3, d4, d5⟩ := r_cells x1
  obtain ⟨e0, e1, e2, e3, e4, e5⟩ := r_free x1
  clear x1 x2 Z1 Z2
  refine wp_loop_rounds 4 ?_
  rw [rounds_succ]
  go_wp2_with (first | (go_at_call 93; refine (G0 _).mono ?_; rintro e w' ⟨rfl, hw⟩; obtain rfl := hw.symm; clear hw))
  go_region
  have y2 := show (w3.setCell ⟨w.heap.size + 1, 2, none⟩ (.int .i64 n)).drew.heap[w.heap.size + 1]? = _ from set_2 (v := .int .i64 n) X2.out
  have y1 : (w3.setCell ⟨w.heap.size + 1, 2, none⟩ (.int .i64 n)).drew.heap[w.heap.size]? = some ref0O := (set_o (u := w3) (k := 2) (v := .int .i64 n) (g := w.heap.size + 1) (j := w.heap.size) (by omega)).trans X1.out
  have HBn : Hid (Below w.heap.size w (w3.setCell ⟨w.heap.size + 1, 2, none⟩ (.int .i64 n)).drew) := (HB3.out.setCell (by simp) _).drew
  clear k0 k1 k2 k3 k4 k5 f0 f1 f2 f3 f4 f5 d0 d1 d2 d3 d4 d5 e0 e1 e2 e3 e4 e5 HB3 X1 X2
  generalize (w3.setCell ⟨w.heap.size + 1, 2, none⟩ (.int .i64 n)).drew = w4 at *
  have HB3 : Hid _ := HBn.out
  have X1 : Hid (w4.heap[w.heap.size]? = some ref0O) := y1
  have X2 : Hid _ := y2
  obtain ⟨k0, k1, k2, k3, k4, k5⟩ := r_cells y2
  obtain ⟨f0, f1, f2, f3, f4, f5⟩ := r_free y2
  obtain ⟨d0, d1, d2, d3, d4, d5⟩ := r_cells y1
  obtain ⟨e0, e1, e2, e3, e4, e5⟩ := r_free y1
  clear y1 y2 HBn
  go_wp2
  rw [rounds_succ]
  go_wp2_with fail
  refine (IN _).mono ?_
  rintro e w' ⟨rfl, hw⟩
  obtain rfl := hw.symm
  clear hw
  cases ok
  ·go_wp2
   exact bodyPost_ret (res_ref rfl rfl (set6 X1.out) rfl) rfl ⟨rfl, bel_set6 HB3.out (Nat.le_refl _)⟩
  ·go_wp2
   exact bodyPost_ret (res_ref rfl rfl (set6 X1.out) rfl) rfl ⟨rfl, bel_set6 HB3.out (Nat.le_refl _)⟩
end Go.Proofs.YtnibldnfbikipaaGreatDoor
namespace Go.Proofs.YtnibldnfbikipaaGreatDoor
open Go.RowKit
theorem rp_two_t {A A1 U V Y A2 : ByteArray} {fc : Bool} {C : Int} {w : World} (hz : 0 < A.size) (hA : Cut36 fc A A1 hz) (h2 : 2 ≤ A1.size) (h0 : 0 < A1.size)
  (LT : ∀ u, Calls Tryz.prog 91 #[.int .u8 (A1[0].toNat : Nat)] u fun e w' => e = .returned (.bool true) ∧ w' = u) (hU : A1.extract 0 1 = U) (hV : A1.extract 1 A1.size = V)
  (UP : ∀ u, Calls Tryz.prog 142 #[.string U] u fun e w' => e = .returned (.string Y) ∧ Below u.heap.size u w') (hY : 0 < Y.size) (hy1 : 65 ≤ (Y[0].toNat : Int)) (hy2 : (Y[0].toNat : Int) ≤ 90) (hC : (Y[0].toNat : Int) - 65 + 1 = C)
  (hVz : 0 < V.size) (h5 : ((V[0].toNat : Int) == 36) = true) (h6 : V.extract 1 V.size = A2) (h1 : A2.size = 2) (hq : 0 < A2.size) (hq2 : 1 < A2.size) (h48 : ((A2[0].toNat : Int) == 48) = false) (G0 : ∀ u, Calls Tryz.prog 93 #[.int .u8 (A2[0].toNat : Nat)] u fun e w' => e = .returned (.bool true) ∧ w' = u) (G1 : ∀ u, Calls Tryz.prog 93 #[.int .u8 (A2[1].toNat : Nat)] u fun e w' => e = .returned (.bool true) ∧ w' = u) {n1 n2 m n : Int} (b1 : 48 ≤ (A2[0].toNat : Int)) (b2 : (A2[0].toNat : Int) ≤ 57) (b3 : 48 ≤ (A2[1].toNat : Int)) (b4 : (A2[1].toNat : Int) ≤ 57) (hn1 : (A2[0].toNat : Int) - 48 = n1) (hn2 : (A2[1].toNat : Int) - 48 = n2) (hm : 10 * n1 = m) (hn : m + n2 = n) {ok : Bool}
  (IN : ∀ u, Calls Tryz.prog 145 #[.int .i64 n, .int .i64 C] u fun e w' => e = .returned (.bool ok) ∧ w' = u) :
  Calls Tryz.prog 242 #[.string A] w fun e w' => e = .returned (.tuple #[if ok = true then refV ⟨#[]⟩ ⟨#[]⟩ n C true fc else ref0, .bool ok]) ∧ Below w.heap.size w w' := by
 have m1 : IntKind.u8.wrap n1 = n1 := wrap_u8 (by omega) (by omega)
 have m2 : IntKind.i64.wrap n1 = n1 := wrap_i64 (by omega) (by omega)
 have m3 : IntKind.u8.wrap n2 = n2 := wrap_u8 (by omega) (by omega)
 have m4 : IntKind.i64.wrap n2 = n2 := wrap_i64 (by omega) (by omega)
 have m5 : IntKind.i64.wrap m = m := wrap_i64 (by omega) (by omega)
 have m6 : IntKind.i64.wrap n = n := wrap_i64 (by omega) (by omega)
 have c1 : (0 : Int) < A.size := by omega
 have c3 : (1 : Int) ≤ A.size := by omega
 have c2 : ¬ (A1.size : Int) < 2 := by omega
 have c4 : (1 : Int) ≤ A1.size := by omega
 have c5 : (1 : Int) ≤ V.size := by omega
 have c6 : ¬ (A2.size : Int) < 1 := by omega
 have c7 : ¬ (2 : Int) < A2.size := by omega
 rcases hA with ⟨rfl, h3, h4⟩ | ⟨rfl, h3, rfl⟩
 all_goals
  go_enter Tryz.func242, Tryz.ntmps242
  go_wp2_with (go_at_call 91; refine (LT _).mono ?_; rintro e w' ⟨rfl, hw⟩; obtain rfl := hw.symm; clear hw)
  refine (UP _).mono ?_
  rintro e w1 ⟨rfl, hb⟩
  obtain ⟨z1, z2⟩ := new2 hb
  have HB1 : Hid (Below w.heap.size w w1) := bel2 hb
  have Z1 : Hid (w1.heap[w.heap.size]? = some ref0O) := z1
  have Z2 : Hid _ := z2
  obtain ⟨k0, k1, k2, k3, k4, k5⟩ := r_cells z2
  obtain ⟨f0, f1, f2, f3, f4, f5⟩ := r_free z2
  clear hb z1 z2 UP LT
  go_wp2
  clear k0 k1 k2 k3 k4 k5 f0 f1 f2 f3 f4 f5
  have x2 := set_4 (v := .bool true) (set_3 (v := .int .i64 C) Z2.out)
  have x1 := (set_o (u := w1.setCell ⟨w.heap.size + 1, 3, none⟩ (.int .i64 C)) (k := 4) (v := .bool true) (g := w.heap.size + 1) (j := w.heap.size) (by omega)).trans ((set_o (by omega)).trans Z1.out)
  have HB3 : Hid (Below w.heap.size w ((w1.setCell ⟨w.heap.size + 1, 3, none⟩ (.int .i64 C)).setCell ⟨w.heap.size + 1, 4, none⟩ (.bool true))) := (HB1.out.setCell (by simp) _).setCell (by simp) _
  clear HB1
  generalize (w1.setCell ⟨w.heap.size + 1, 3, none⟩ (.int .i64 C)).setCell ⟨w.heap.size + 1, 4, none⟩ (.bool true) = w3 at *
  have X1 : Hid (w3.heap[w.heap.size]? = some ref0O) := x1
  have X2 : Hid _ := x2
  obtain ⟨k0, k1, k2, k3, k4, k5⟩ := r_cells x2
  obtain ⟨f0, f1, f2, f3, f4, f5⟩ := r_free x2
  obtain ⟨d0, d1, d2, d3, d4, d5⟩ := r_cells x1
  obtain ⟨e0, e1, e2, e3, e4, e5⟩ := r_free x1
  clear x1 x2 Z1 Z2
  refine wp_loop_rounds 4 ?_
  rw [rounds_succ]
  go_wp2_with (first | (go_at_call 93; refine (G0 _).mono ?_; rintro e w' ⟨rfl, hw⟩; obtain rfl := hw.symm; clear hw))
  go_region
  have y2 := show (w3.setCell ⟨w.heap.size + 1, 2, none⟩ (.int .i64 n1)).drew.heap[w.heap.size + 1]? = _ from set_2 (v := .int .i64 n1) X2.out
  have y1 : (w3.setCell ⟨w.heap.size + 1, 2, none⟩ (.int .i64 n1)).drew.heap[w.heap.size]? = some ref0O := (set_o (u := w3) (k := 2) (v := .int .i64 n1) (g := w.heap.size + 1) (j := w.heap.size) (by omega)).trans X1.out
  have HBn : Hid (Below w.heap.size w (w3.setCell ⟨w.heap.size + 1, 2, none⟩ (.int .i64 n1)).drew) := (HB3.out.setCell (by simp) _).drew
  clear k0 k1 k2 k3 k4 k5 f0 f1 f2 f3 f4 f5 d0 d1 d2 d3 d4 d5 e0 e1 e2 e3 e4 e5 HB3 X1 X2
  generalize (w3.setCell ⟨w.heap.size + 1, 2, none⟩ (.int .i64 n1)).drew = w4 at *
  have HB3 : Hid _ := HBn.out
  have X1 : Hid (w4.heap[w.heap.size]? = some ref0O) := y1
  have X2 : Hid _ := y2
  obtain ⟨k0, k1, k2, k3, k4, k5⟩ := r_cells y2
  obtain ⟨f0, f1, f2, f3, f4, f5⟩ := r_free y2
  obtain ⟨d0, d1, d2, d3, d4, d5⟩ := r_cells y1
  obtain ⟨e0, e1, e2, e3, e4, e5⟩ := r_free y1
  clear y1 y2 HBn
  go_wp2
  rw [rounds_succ]
  go_wp2_with (first | (go_at_call 93; refine (G1 _).mono ?_; rintro e w' ⟨rfl, hw⟩; obtain rfl := hw.symm; clear hw))
  go_region
  have y2 := show (w4.setCell ⟨w.heap.size + 1, 2, none⟩ (.int .i64 n)).drew.heap[w.heap.size + 1]? = _ from set_2 (v := .int .i64 n) X2.out
  have y1 : (w4.setCell ⟨w.heap.size + 1, 2, none⟩ (.int .i64 n)).drew.heap[w.heap.size]? = some ref0O := (set_o (u := w4) (k := 2) (v := .int .i64 n) (g := w.heap.size + 1) (j := w.heap.size) (by omega)).trans X1.out
  have HBn : Hid (Below w.heap.size w (w4.setCell ⟨w.heap.size + 1, 2, none⟩ (.int .i64 n)).drew) := (HB3.out.setCell (by simp) _).drew
  clear k0 k1 k2 k3 k4 k5 f0 f1 f2 f3 f4 f5 d0 d1 d2 d3 d4 d5 e0 e1 e2 e3 e4 e5 HB3 X1 X2
  generalize (w4.setCell ⟨w.heap.size + 1, 2, none⟩ (.int .i64 n)).drew = w5 at *
  have HB3 : Hid _ := HBn.out
  have X1 : Hid (w5.heap[w.heap.size]? = some ref0O) := y1
  have X2 : Hid _ := y2
  obtain ⟨k0, k1, k2, k3, k4, k5⟩ := r_cells y2
  obtain ⟨f0, f1, f2, f3, f4, f5⟩ := r_free y2
  obtain ⟨d0, d1, d2, d3, d4, d5⟩ := r_cells y1
  obtain ⟨e0, e1, e2, e3, e4, e5⟩ := r_free y1
  clear y1 y2 HBn
  go_wp2
  rw [rounds_succ]
  go_wp2_with fail
  refine (IN _).mono ?_
  rintro e w' ⟨rfl, hw⟩
  obtain rfl := hw.symm
  clear hw
  cases ok
  ·go_wp2
   exact bodyPost_ret (res_ref rfl rfl (set6 X1.out) rfl) rfl ⟨rfl, bel_set6 HB3.out (Nat.le_refl _)⟩
  ·go_wp2
   exact bodyPost_ret (res_ref rfl rfl (set6 X1.out) rfl) rfl ⟨rfl, bel_set6 HB3.out (Nat.le_refl _)⟩
end Go.Proofs.YtnibldnfbikipaaGreatDoor
namespace Go.Proofs.YtnibldnfbikipaaGreatDoor
open Go.RowKit
theorem rp_two_nn_t {A A1 U V Y A2 : ByteArray} {fc : Bool} {C : Int} {w : World} (hz : 0 < A.size) (hA : Cut36 fc A A1 hz) (h2 : 2 ≤ A1.size) (h0 : 0 < A1.size)
  (LT : ∀ u, Calls Tryz.prog 91 #[.int .u8 (A1[0].toNat : Nat)] u fun e w' => e = .returned (.bool true) ∧ w' = u) (hU : A1.extract 0 1 = U) (hV : A1.extract 1 A1.size = V)
  (UP : ∀ u, Calls Tryz.prog 142 #[.string U] u fun e w' => e = .returned (.string Y) ∧ Below u.heap.size u w') (hY : 0 < Y.size) (hy1 : 65 ≤ (Y[0].toNat : Int)) (hy2 : (Y[0].toNat : Int) ≤ 90) (hC : (Y[0].toNat : Int) - 65 + 1 = C)
  (hVz : 0 < V.size) (h5 : ((V[0].toNat : Int) == 36) = true) (h6 : V.extract 1 V.size = A2) (h1 : A2.size = 2) (hq : 0 < A2.size) (hq2 : 1 < A2.size) (h48 : ((A2[0].toNat : Int) == 48) = false) (G0 : ∀ u, Calls Tryz.prog 93 #[.int .u8 (A2[0].toNat : Nat)] u fun e w' => e = .returned (.bool true) ∧ w' = u) (G1 : ∀ u, Calls Tryz.prog 93 #[.int .u8 (A2[1].toNat : Nat)] u fun e w' => e = .returned (.bool false) ∧ w' = u) {n1 : Int} (b1 : 48 ≤ (A2[0].toNat : Int)) (b2 : (A2[0].toNat : Int) ≤ 57) (hn1 : (A2[0].toNat : Int) - 48 = n1) :
  Calls Tryz.prog 242 #[.string A] w fun e w' => e = .returned (.tuple #[ref0, .bool false]) ∧ Below w.heap.size w w' := by
 have m1 : IntKind.u8.wrap n1 = n1 := wrap_u8 (by omega) (by omega)
 have m2 : IntKind.i64.wrap n1 = n1 := wrap_i64 (by omega) (by omega)
 have c1 : (0 : Int) < A.size := by omega
 have c3 : (1 : Int) ≤ A.size := by omega
 have c2 : ¬ (A1.size : Int) < 2 := by omega
 have c4 : (1 : Int) ≤ A1.size := by omega
 have c5 : (1 : Int) ≤ V.size := by omega
 have c6 : ¬ (A2.size : Int) < 1 := by omega
 have c7 : ¬ (2 : Int) < A2.size := by omega
 rcases hA with ⟨rfl, h3, h4⟩ | ⟨rfl, h3, rfl⟩
 all_goals
  go_enter Tryz.func242, Tryz.ntmps242
  go_wp2_with (go_at_call 91; refine (LT _).mono ?_; rintro e w' ⟨rfl, hw⟩; obtain rfl := hw.symm; clear hw)
  refine (UP _).mono ?_
  rintro e w1 ⟨rfl, hb⟩
  obtain ⟨z1, z2⟩ := new2 hb
  have HB1 : Hid (Below w.heap.size w w1) := bel2 hb
  have Z1 : Hid (w1.heap[w.heap.size]? = some ref0O) := z1
  have Z2 : Hid _ := z2
  obtain ⟨k0, k1, k2, k3, k4, k5⟩ := r_cells z2
  obtain ⟨f0, f1, f2, f3, f4, f5⟩ := r_free z2
  clear hb z1 z2 UP LT
  go_wp2
  clear k0 k1 k2 k3 k4 k5 f0 f1 f2 f3 f4 f5
  have x2 := set_4 (v := .bool true) (set_3 (v := .int .i64 C) Z2.out)
  have x1 := (set_o (u := w1.setCell ⟨w.heap.size + 1, 3, none⟩ (.int .i64 C)) (k := 4) (v := .bool true) (g := w.heap.size + 1) (j := w.heap.size) (by omega)).trans ((set_o (by omega)).trans Z1.out)
  have HB3 : Hid (Below w.heap.size w ((w1.setCell ⟨w.heap.size + 1, 3, none⟩ (.int .i64 C)).setCell ⟨w.heap.size + 1, 4, none⟩ (.bool true))) := (HB1.out.setCell (by simp) _).setCell (by simp) _
  clear HB1
  generalize (w1.setCell ⟨w.heap.size + 1, 3, none⟩ (.int .i64 C)).setCell ⟨w.heap.size + 1, 4, none⟩ (.bool true) = w3 at *
  have X1 : Hid (w3.heap[w.heap.size]? = some ref0O) := x1
  have X2 : Hid _ := x2
  obtain ⟨k0, k1, k2, k3, k4, k5⟩ := r_cells x2
  obtain ⟨f0, f1, f2, f3, f4, f5⟩ := r_free x2
  obtain ⟨d0, d1, d2, d3, d4, d5⟩ := r_cells x1
  obtain ⟨e0, e1, e2, e3, e4, e5⟩ := r_free x1
  clear x1 x2 Z1 Z2
  refine wp_loop_rounds 4 ?_
  rw [rounds_succ]
  go_wp2_with (first | (go_at_call 93; refine (G0 _).mono ?_; rintro e w' ⟨rfl, hw⟩; obtain rfl := hw.symm; clear hw))
  go_region
  have y2 := show (w3.setCell ⟨w.heap.size + 1, 2, none⟩ (.int .i64 n1)).drew.heap[w.heap.size + 1]? = _ from set_2 (v := .int .i64 n1) X2.out
  have y1 : (w3.setCell ⟨w.heap.size + 1, 2, none⟩ (.int .i64 n1)).drew.heap[w.heap.size]? = some ref0O := (set_o (u := w3) (k := 2) (v := .int .i64 n1) (g := w.heap.size + 1) (j := w.heap.size) (by omega)).trans X1.out
  have HBn : Hid (Below w.heap.size w (w3.setCell ⟨w.heap.size + 1, 2, none⟩ (.int .i64 n1)).drew) := (HB3.out.setCell (by simp) _).drew
  clear k0 k1 k2 k3 k4 k5 f0 f1 f2 f3 f4 f5 d0 d1 d2 d3 d4 d5 e0 e1 e2 e3 e4 e5 HB3 X1 X2
  generalize (w3.setCell ⟨w.heap.size + 1, 2, none⟩ (.int .i64 n1)).drew = w4 at *
  have HB3 : Hid _ := HBn.out
  have X1 : Hid (w4.heap[w.heap.size]? = some ref0O) := y1
  have X2 : Hid _ := y2
  obtain ⟨k0, k1, k2, k3, k4, k5⟩ := r_cells y2
  obtain ⟨f0, f1, f2, f3, f4, f5⟩ := r_free y2
  obtain ⟨d0, d1, d2, d3, d4, d5⟩ := r_cells y1
  obtain ⟨e0, e1, e2, e3, e4, e5⟩ := r_free y1
  clear y1 y2 HBn
  go_wp2
  rw [rounds_succ]
  go_wp2_with (first | (go_at_call 93; refine (G1 _).mono ?_; rintro e w' ⟨rfl, hw⟩; obtain rfl := hw.symm; clear hw))
  exact bodyPost_ret (res_ref rfl rfl (set6 X1.out) rfl) rfl ⟨rfl, bel_set6 HB3.out (Nat.le_refl _)⟩
end Go.Proofs.YtnibldnfbikipaaGreatDoor
