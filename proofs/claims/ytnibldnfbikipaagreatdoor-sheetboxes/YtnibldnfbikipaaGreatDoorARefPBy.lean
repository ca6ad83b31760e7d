/- ARParseDf, ARParse2, ARefP. -/
import Derived.Test.YtnibldnfbikipaaGreatDoorARParseDtBy
set_option linter.unusedVariables false
set_option linter.unusedSimpArgs false
set_option maxHeartbeats 16000000
set_option maxRecDepth 100000
namespace Go.Proofs.YtnibldnfbikipaaGreatDoor
open Go.RowKit
theorem rp_one_no_f {A A1 U V Y : ByteArray} {fc : Bool} {C : Int} {w : World} (hz : 0 < A.size) (hA : Cut36 fc A A1 hz) (h2 : 2 ≤ A1.size) (h0 : 0 < A1.size)
  (LT : ∀ u, Calls Tryz.prog 91 #[.int .u8 (A1[0].toNat : Nat)] u fun e w' => e = .returned (.bool true) ∧ w' = u) (hU : A1.extract 0 1 = U) (hV : A1.extract 1 A1.size = V)
  (UP : ∀ u, Calls Tryz.prog 142 #[.string U] u fun e w' => e = .returned (.string Y) ∧ Below u.heap.size u w') (hY : 0 < Y.size) (hy1 : 65 ≤ (Y[0].toNat : Int)) (hy2 : (Y[0].toNat : Int) ≤ 90) (hC : (Y[0].toNat : Int) - 65 + 1 = C)
  (hVz : 0 < V.size) (h5 : ((V[0].toNat : Int) == 36) = false) (h1 : V.size = 1) (hq : 0 < V.size) (h48 : ((V[0].toNat : Int) == 48) = false) (G0 : ∀ u, Calls Tryz.prog 93 #[.int .u8 (V[0].toNat : Nat)] u fun e w' => e = .returned (.bool false) ∧ w' = u) :
  Calls Tryz.prog 242 #[.string A] w fun e w' => e = .returned (.tuple #[ref0, .bool false]) ∧ Below w.heap.size w w' := by
 have c1 : (0 : Int) < A.size := by omega
 have c3 : (1 : Int) ≤ A.size := by omega
 have c2 : ¬ (A1.size : Int) < 2 := by omega
 have c4 : (1 : Int) ≤ A1.size := by omega
 have c5 : (1 : Int) ≤ V.size := by omega
 have c6 : ¬ (V.size : Int) < 1 := by omega
 have c7 : ¬ (2 : Int) < V.size := by omega
 rcases hA with ⟨rfl, h3, h4⟩ | ⟨rfl, h3, rfl⟩
 all_goals
  go_enter Tryz.func242, Tryz.ntmps242
  go_wp2_with (go_at_call 91; refine (LT _).mono ?_; rintro e w' ⟨rfl, hw⟩; obtain rfl := hw.symm; clear hw)
  refine (UP _).mono ?_
  rintro e w1 ⟨rfl, hb⟩
  obtain ⟨z1, z2⟩ := new2 hb
  have HB1 : Hid (Below w.heap.size w w1) := bel2 hb
  have Z1 : Hid (w1.heap[w.heap.size]? = some ref0O) := z1
  have Z2 : Hid _ := z2
  obtain ⟨k0, k1, k2, k3, k4, k5⟩ := r_cells z2
  obtain ⟨f0, f1, f2, f3, f4, f5⟩ := r_free z2
  clear hb z1 z2 UP LT
  go_wp2
  clear k0 k1 k2 k3 k4 k5 f0 f1 f2 f3 f4 f5
  have x2 := set_3 (v := .int .i64 C) Z2.out
  have x1 := (set_o (u := w1) (k := 3) (v := .int .i64 C) (g := w.heap.size + 1) (j := w.heap.size) (by omega)).trans Z1.out
  have HB3 : Hid (Below w.heap.size w (w1.setCell ⟨w.heap.size + 1, 3, none⟩ (.int .i64 C))) := HB1.out.setCell (by simp) _
  clear HB1
  generalize w1.setCell ⟨w.heap.size + 1, 3, none⟩ (.int .i64 C) = w3 at *
  have X1 : Hid (w3.heap[w.heap.size]? = some ref0O) := x1
  have X2 : Hid _ := x2
  obtain ⟨k0, k1, k2, k3, k4, k5⟩ := r_cells x2
  obtain ⟨f0, f1, f2, f3, f4, f5⟩ := r_free x2
  obtain ⟨d0, d1, d2, d3, d4, d5⟩ := r_cells x1
  obtain ⟨e0, e1, e2, e3, e4, e5⟩ := r_free x1
  clear x1 x2 Z1 Z2
  refine wp_loop_rounds 4 ?_
  rw [rounds_succ]
  go_wp2_with (first | (go_at_call 93; refine (G0 _).mono ?_; rintro e w' ⟨rfl, hw⟩; obtain rfl := hw.symm; clear hw))
  exact bodyPost_ret (res_ref rfl rfl (set6 X1.out) rfl) rfl ⟨rfl, bel_set6 HB3.out (Nat.le_refl _)⟩
theorem rp_two_no_f {A A1 U V Y : ByteArray} {fc : Bool} {C : Int} {w : World} (hz : 0 < A.size) (hA : Cut36 fc A A1 hz) (h2 : 2 ≤ A1.size) (h0 : 0 < A1.size)
  (LT : ∀ u, Calls Tryz.prog 91 #[.int .u8 (A1[0].toNat : Nat)] u fun e w' => e = .returned (.bool true) ∧ w' = u) (hU : A1.extract 0 1 = U) (hV : A1.extract 1 A1.size = V)
  (UP : ∀ u, Calls Tryz.prog 142 #[.string U] u fun e w' => e = .returned (.string Y) ∧ Below u.heap.size u w') (hY : 0 < Y.size) (hy1 : 65 ≤ (Y[0].toNat : Int)) (hy2 : (Y[0].toNat : Int) ≤ 90) (hC : (Y[0].toNat : Int) - 65 + 1 = C)
  (hVz : 0 < V.size) (h5 : ((V[0].toNat : Int) == 36) = false) (h1 : V.size = 2) (hq : 0 < V.size) (h48 : ((V[0].toNat : Int) == 48) = false) (G0 : ∀ u, Calls Tryz.prog 93 #[.int .u8 (V[0].toNat : Nat)] u fun e w' => e = .returned (.bool false) ∧ w' = u) :
  Calls Tryz.prog 242 #[.string A] w fun e w' => e = .returned (.tuple #[ref0, .bool false]) ∧ Below w.heap.size w w' := by
 have c1 : (0 : Int) < A.size := by omega
 have c3 : (1 : Int) ≤ A.size := by omega
 have c2 : ¬ (A1.size : Int) < 2 := by omega
 have c4 : (1 : Int) ≤ A1.size := by omega
 have c5 : (1 : Int) ≤ V.size := by omega
 have c6 : ¬ (V.size : Int) < 1 := by omega
 have c7 : ¬ (2 : Int) < V.size := by omega
 rcases hA with ⟨rfl, h3, h4⟩ | ⟨rfl, h3, rfl⟩
 all_goals
  go_enter Tryz.func242, Tryz.ntmps242
  go_wp2_with (go_at_call 91; refine (LT _).mono ?_; rintro e w' ⟨rfl, hw⟩; obtain rfl := hw.symm; clear hw)
  refine (UP _).mono ?_
  rintro e w1 ⟨rfl, hb⟩
  obtain ⟨z1, z2⟩ := new2 hb
  have HB1 : Hid (Below w.heap.size w w1) := bel2 hb
  have Z1 : Hid (w1.heap[w.heap.size]? = some ref0O) := z1
  have Z2 : Hid _ := z2
  obtain ⟨k0, k1, k2, k3, k4, k5⟩ := r_cells z2
  obtain ⟨f0, f1, f2, f3, f4, f5⟩ := r_free z2
  clear hb z1 z2 UP LT
  go_wp2
  clear k0 k1 k2 k3 k4 k5 f0 f1 f2 f3 f4 f5
  have x2 := set_3 (v := .int .i64 C) Z2.out
  have x1 := (set_o (u := w1) (k := 3) (v := .int .i64 C) (g := w.heap.size + 1) (j := w.heap.size) (by omega)).trans Z1.out
  have HB3 : Hid (Below w.heap.size w (w1.setCell ⟨w.heap.size + 1, 3, none⟩ (.int .i64 C))) := HB1.out.setCell (by simp) _
  clear HB1
  generalize w1.setCell ⟨w.heap.size + 1, 3, none⟩ (.int .i64 C) = w3 at *
  have X1 : Hid (w3.heap[w.heap.size]? = some ref0O) := x1
  have X2 : Hid _ := x2
  obtain ⟨k0, k1, k2, k3, k4, k5⟩ := r_cells x2
  obtain ⟨f0, f1, f2, f3, f4, f5⟩ := r_free x2
  obtain ⟨d0, d1, d2, d3, d4, d5⟩ := r_cells x1
  obtain ⟨e0, e1, e2, e3, e4, e5⟩ := r_free x1
  clear x1 x2 Z1 Z2
  refine wp_loop_rounds 4 ?_
  rw [rounds_succ]
  go_wp2_with (first | (go_at_call 93; refine (G0 _).mono ?_; rintro e w' ⟨rfl, hw⟩; obtain rfl := hw.symm; clear hw))
  exact bodyPost_ret (res_ref rfl rfl (set6 X1.out) rfl) rfl ⟨rfl, bel_set6 HB3.out (Nat.le_refl _)⟩
end Go.Proofs.YtnibldnfbikipaaGreatDoor
namespace Go.Proofs.YtnibldnfbikipaaGreatDoor
open Go.RowKit
theorem rp_one_f {A A1 U V Y : ByteArray} {fc : Bool} {C : Int} {w : World} (hz : 0 < A.size) (hA : Cut36 fc A A1 hz) (h2 : 2 ≤ A1.size) (h0 : 0 < A1.size)
  (LT : ∀ u, Calls Tryz.prog 91 #[.int .u8 (A1[0].toNat : Nat)] u fun e w' => e = .returned (.bool true) ∧ w' = u) (hU : A1.extract 0 1 = U) (hV : A1.extract 1 A1.size = V)
  (UP : ∀ u, Calls Tryz.prog 142 #[.string U] u fun e w' => e = .returned (.string Y) ∧ Below u.heap.size u w') (hY : 0 < Y.size) (hy1 : 65 ≤ (Y[0].toNat : Int)) (hy2 : (Y[0].toNat : Int) ≤ 90) (hC : (Y[0].toNat : Int) - 65 + 1 = C)
  (hVz : 0 < V.size) (h5 : ((V[0].toNat : Int) == 36) = false) (h1 : V.size = 1) (hq : 0 < V.size) (h48 : ((V[0].toNat : Int) == 48) = false) (G0 : ∀ u, Calls Tryz.prog 93 #[.int .u8 (V[0].toNat : Nat)] u fun e w' => e = .returned (.bool true) ∧ w' = u) {n : Int} (b1 : 48 ≤ (V[0].toNat : Int)) (b2 : (V[0].toNat : Int) ≤ 57) (hn : (V[0].toNat : Int) - 48 = n) {ok : Bool}
  (IN : ∀ u, Calls Tryz.prog 145 #[.int .i64 n, .int .i64 C] u fun e w' => e = .returned (.bool ok) ∧ w' = u) :
  Calls Tryz.prog 242 #[.string A] w fun e w' => e = .returned (.tuple #[if ok = true then refV ⟨#[]⟩ ⟨#[]⟩ n C false fc else ref0, .bool ok]) ∧ Below w.heap.size w w' := by
 have m1 : IntKind.u8.wrap n = n := wrap_u8 (by omega) (by omega)
 have m2 : IntKind.i64.wrap n = n := wrap_i64 (by omega) (by omega)
 have c1 : (0 : Int) < A.size := by omega
 have c3 : (1 : Int) ≤ A.size := by omega
 have c2 : ¬ (A1.size : Int) < 2 := by omega
 have c4 : (1 : Int) ≤ A1.size := by omega
 have c5 : (1 : Int) ≤ V.size := by omega
 have c6 : ¬ (V.size : Int) < 1 := by omega
 have c7 : ¬ (2 : Int) < V.size := by omega
 rcases hA with ⟨rfl, h3, h4⟩ | ⟨rfl, h3, rfl⟩
 all_goals
  go_enter Tryz.func242, Tryz.ntmps242
  go_wp2_with (go_at_call 91; refine (LT _).mono ?_; rintro e w' ⟨rfl, hw⟩; obtain rfl := hw.symm; clear hw)
  refine (UP _).mono ?_
  rintro e w1 ⟨rfl, hb⟩
  obtain ⟨z1, z2⟩ := new2 hb
  have HB1 : Hid (Below w.heap.size w w1) := bel2 hb
  have Z1 : Hid (w1.heap[w.heap.size]? = some ref0O) := z1
  have Z2 : Hid _ := z2
  obtain ⟨k0, k1, k2, k3, k4, k5⟩ := r_cells z2
  obtain ⟨f0, f1, f2, f3, f4, f5⟩ := r_free z2
  clear hb z1 z2 UP LT
  go_wp2
  clear k0 k1 k2 k3 k4 k5 f0 f1 f2 f3 f4 f5
  have x2 := set_3 (v := .int .i64 C) Z2.out
  have x1 := (set_o (u := w1) (k := 3) (v := .int .i64 C) (g := w.heap.size + 1) (j := w.heap.size) (by omega)).trans Z1.out
  have HB3 : Hid (Below w.heap.size w (w1.setCell ⟨w.heap.size + 1, 3, none⟩ (.int .i64 C))) := HB1.out.setCell (by simp) _
  clear HB1
  generalize w1.setCell ⟨w.heap.size + 1, 3, none⟩ (.int .i64 C) = w3 at *
  have X1 : Hid (w3.heap[w.heap.size]? = some ref0O) := x1
  have X2 : Hid _ := x2
  obtain ⟨k0, k1, k2, k3, k4, k5⟩ := r_cells x2
  obtain ⟨f0, f1, f2, f3, f4, f5⟩ := r_free x2
  obtain ⟨d0, d1, d2, d3, d4, d5⟩ := r_cells x1
  obtain ⟨e0, e1, e2, e3, e4, e5⟩ := r_free x1
  clear x1 x2 Z1 Z2
  refine wp_loop_rounds 4 ?_
  rw [rounds_succ]
  go_wp2_with (first | (go_at_call 93; refine (G0 _).mono ?_; rintro e w' ⟨rfl, hw⟩; obtain rfl := hw.symm; clear hw))
  go_region
  have y2 := show (w3.setCell ⟨w.heap.size + 1, 2, none⟩ (.int .i64 n)).drew.heap[w.heap.size + 1]? = _ from set_2 (v := .int .i64 n) X2.out
  have y1 : (w3.setCell ⟨w.heap.size + 1, 2, none⟩ (.int .i64 n)).drew.heap[w.heap.size]? = some ref0O := (set_o (u := w3) (k := 2) (v := .int .i64 n) (g := w.heap.size + 1) (j := w.heap.size) (by omega)).trans X1.out
  have HBn : Hid (Below w.heap.size w (w3.setCell ⟨w.heap.size + 1, 2, none⟩ (.int .i64 n)).drew) := (HB3.out.setCell (by simp) _).drew
  clear k0 k1 k2 k3 k4 k5 f0 f1 f2 f3 f4 f5 d0 d1 d2 d3 d4 d5 e0 e1 e2 e3 e4 e5 HB3 X1 X2
  generalize (w3.setCell ⟨w.heap.size + 1, 2, none⟩ (.int .i64 n)).drew = w4 at *
  have HB3 : Hid _ := HBn.out
  have X1 : Hid (w4.heap[w.heap.size]? = some ref0O) := y1
  have X2 : Hid _ := y2
  obtain ⟨k0, k1, k2, k3, k4, k5⟩ := r_cells y2
  obtain ⟨f0, f1, f2, f3, f4, f5⟩ := r_free y2
  obtain ⟨d0, d1, d2, d3, d4, d5⟩ := r_cells y1
  obtain ⟨e0, e1, e2, e3, e4, e5⟩ := r_free y1
  clear y1 y2 HBn
  go_wp2
  rw [rounds_succ]
  go_wp2_with fail
  refine (IN _).mono ?_
  rintro e w' ⟨rfl, hw⟩
  obtain rfl := hw.symm
  clear hw
  cases ok
  ·go_wp2
   exact bodyPost_ret (res_ref rfl rfl (set6 X1.out) rfl) rfl ⟨rfl, bel_set6 HB3.out (Nat.le_refl _)⟩
  ·go_wp2
   exact bodyPost_ret (res_ref rfl rfl (set6 X1.out) rfl) rfl ⟨rfl, bel_set6 HB3.out (Nat.le_refl _)⟩
end Go.Proofs.YtnibldnfbikipaaGreatDoor
namespace Go.Proofs.YtnibldnfbikipaaGreatDoor
open Go.RowKit
theorem rp_two_f {A A1 U V Y : ByteArray} {fc : Bool} {C : Int} {w : World} (hz : 0 < A.size) (hA : Cut36 fc A A1 hz) (h2 : 2 ≤ A1.size) (h0 : 0 < A1.size)
  (LT : ∀ u, Calls Tryz.prog 91 #[.int .u8 (A1[0].toNat : Nat)] u fun e w' => e = .returned (.bool true) ∧ w' = u) (hU : A1.extract 0 1 = U) (hV : A1.extract 1 A1.size = V)
  (UP : ∀ u, Calls Tryz.prog 142 #[.string U] u fun e w' => e = .returned (.string Y) ∧ Below u.heap.size u w') (hY : 0 < Y.size) (hy1 : 65 ≤ (Y[0].toNat : Int)) (hy2 : (Y[0].toNat : Int) ≤ 90) (hC : (Y[0].toNat : Int) - 65 + 1 = C)
  (hVz : 0 < V.size) (h5 : ((V[0].toNat : Int) == 36) = false) (h1 : V.size = 2) (hq : 0 < V.size) (hq2 : 1 < V.size) (h48 : ((V[0].toNat : Int) == 48) = false) (G0 : ∀ u, Calls Tryz.prog 93 #[.int .u8 (V[0].toNat : Nat)] u fun e w' => e = .returned (.bool true) ∧ w' = u) (G1 : ∀ u, Calls Tryz.prog 93 #[.int .u8 (V[1].toNat : Nat)] u fun e w' => e = .returned (.bool true) ∧ w' = u) {n1 n2 m n : Int} (b1 : 48 ≤ (V[0].toNat : Int)) (b2 : (V[0].toNat : Int) ≤ 57) (b3 : 48 ≤ (V[1].toNat : Int)) (b4 : (V[1].toNat : Int) ≤ 57) (hn1 : (V[0].toNat : Int) - 48 = n1) (hn2 : (V[1].toNat : Int) - 48 = n2) (hm : 10 * n1 = m) (hn : m + n2 = n) {ok : Bool}
  (IN : ∀ u, Calls Tryz.prog 145 #[.int .i64 n, .int .i64 C] u fun e w' => e = .returned (.bool ok) ∧ w' = u) :
  Calls Tryz.prog 242 #[.string A] w fun e w' => e = .returned (.tuple #[if ok = true then refV ⟨#[]⟩ ⟨#[]⟩ n C false fc else ref0, .bool ok]) ∧ Below w.heap.size w w' := by
 have m1 : IntKind.u8.wrap n1 = n1 := wrap_u8 (by omega) (by omega)
 have m2 : IntKind.i64.wrap n1 = n1 := wrap_i64 (by omega) (by omega)
 have m3 : IntKind.u8.wrap n2 = n2 := wrap_u8 (by omega) (by omega)
 have m4 : IntKind.i64.wrap n2 = n2 := wrap_i64 (by omega) (by omega)
 have m5 : IntKind.i64.wrap m = m := wrap_i64 (by omega) (by omega)
 have m6 : IntKind.i64.wrap n = n := wrap_i64 (by omega) (by omega)
 have c1 : (0 : Int) < A.size := by omega
 have c3 : (1 : Int) ≤ A.size := by omega
 have c2 : ¬ (A1.size : Int) < 2 := by omega
 have c4 : (1 : Int) ≤ A1.size := by omega
 have c5 : (1 : Int) ≤ V.size := by omega
 have c6 : ¬ (V.size : Int) < 1 := by omega
 have c7 : ¬ (2 : Int) < V.size := by omega
 rcases hA with ⟨rfl, h3, h4⟩ | ⟨rfl, h3, rfl⟩
 all_goals
  go_enter Tryz.func242, Tryz.ntmps242
  go_wp2_with (go_at_call 91; refine (LT _).mono ?_; rintro e w' ⟨rfl, hw⟩; obtain rfl := hw.symm; clear hw)
  refine (UP _).mono ?_
  rintro e w1 ⟨rfl, hb⟩
  obtain ⟨z1, z2⟩ := new2 hb
  have HB1 : Hid (Below w.heap.size w w1) := bel2 hb
  have Z1 : Hid (w1.heap[w.heap.size]? = some ref0O) := z1
  have Z2 : Hid _ := z2
  obtain ⟨k0, k1, k2, k3, k4, k5⟩ := r_cells z2
  obtain ⟨f0, f1, f2, f3, f4, f5⟩ := r_free z2
  clear hb z1 z2 UP LT
  go_wp2
  clear k0 k1 k2 k3 k4 k5 f0 f1 f2 f3 f4 f5
  have x2 := set_3 (v := .int .i64 C) Z2.out
  have x1 := (set_o (u := w1) (k := 3) (v := .int .i64 C) (g := w.heap.size + 1) (j := w.heap.size) (by omega)).trans Z1.out
  have HB3 : Hid (Below w.heap.size w (w1.setCell ⟨w.heap.size + 1, 3, none⟩ (.int .i64 C))) := HB1.out.setCell (by simp) _
  clear HB1
  generalize w1.setCell ⟨w.heap.size + 1, 3, none⟩ (.int .i64 C) = w3 at *
  have X1 : Hid (w3.heap[w.heap.size]? = some ref0O) := x1
  have X2 : Hid _ := x2
  obtain ⟨k0, k1, k2, k3, k4, k5⟩ := r_cells x2
  obtain ⟨f0, f1, f2, f3, f4, f5⟩ := r_free x2
  obtain ⟨d0, d1, d2, d3, d4, d5⟩ := r_cells x1
  obtain ⟨e0, e1, e2, e3, e4, e5⟩ := r_free x1
  clear x1 x2 Z1 Z2
  refine wp_loop_rounds 4 ?_
  rw [rounds_succ]
  go_wp2_with (first | (go_at_call 93; refine (G0 _).mono ?_; rintro e w' ⟨rfl, hw⟩; obtain rfl := hw.symm; clear hw))
  go_region
  have y2 := show (w3.setCell ⟨w.heap.size + 1, 2, none⟩ (.int .i64 n1)).drew.heap[w.heap.size + 1]? = _ from set_2 (v := .int .i64 n1) X2.out
  have y1 : (w3.setCell ⟨w.heap.size + 1, 2, none⟩ (.int .i64 n1)).drew.heap[w.heap.size]? = some ref0O := (set_o (u := w3) (k := 2) (v := .int .i64 n1) (g := w.heap.size + 1) (j := w.heap.size) (by omega)).trans X1.out
  have HBn : Hid (Below w.heap.size w (w3.setCell ⟨w.heap.size + 1, 2, none⟩ (.int .i64 n1)).drew) := (HB3.out.setCell (by simp) _).drew
  clear k0 k1 k2 k3 k4 k5 f0 f1 f2 f3 f4 f5 d0 d1 d2 d3 d4 d5 e0 e1 e2 e3 e4 e5 HB3 X1 X2
  generalize (w3.setCell ⟨w.heap.size + 1, 2, none⟩ (.int .i64 n1)).drew = w4 at *
  have HB3 : Hid _ := HBn.out
  have X1 : Hid (w4.heap[w.heap.size]? = some ref0O) := y1
  have X2 : Hid _ := y2
  obtain ⟨k0, k1, k2, k3, k4, k5⟩ := r_cells y2
  obtain ⟨f0, f1, f2, f3, f4, f5⟩ := r_free y2
  obtain ⟨d0, d1, d2, d3, d4, d5⟩ := r_cells y1
  obtain ⟨e0, e1, e2, e3, e4, e5⟩ := r_free y1
  clear y1 y2 HBn
  go_wp2
  rw [rounds_succ]
  go_wp2_with (first | (go_at_call 93; refine (G1 _).mono ?_; rintro e w' ⟨rfl, hw⟩; obtain rfl := hw.symm; clear hw))
  go_region
  have y2 := show (w4.setCell ⟨w.heap.size + 1, 2, none⟩ (.int .i64 n)).drew.heap[w.heap.size + 1]? = _ from set_2 (v := .int .i64 n) X2.out
  have y1 : (w4.setCell ⟨w.heap.size + 1, 2, none⟩ (.int .i64 n)).drew.heap[w.heap.size]? = some ref0O := (set_o (u := w4) (k := 2) (v := .int .i64 n) (g := w.heap.size + 1) (j := w.heap.size) (by omega)).trans X1.out
  have HBn : Hid (Below w.heap.size w (w4.setCell ⟨w.heap.size + 1, 2, none⟩ (.int .i64 n)).drew) := (HB3.out.setCell (by simp) _).drew
  clear k0 k1 k2 k3 k4 k5 f0 f1 f2 f3 f4 f5 d0 d1 d2 d3 d4 d5 e0 e1 e2 e3 e4 e5 HB3 X1 X2
  generalize (w4.setCell ⟨w.heap.size + 1, 2, none⟩ (.int .i64 n)).drew = w5 at *
  have HB3 : Hid _ := HBn.out
  have X1 : Hid (w5.heap[w.heap.size]? = some ref0O) := y1
  have X2 : Hid _ := y2
  obtain ⟨k0, k1, k2, k3, k4, k5⟩ := r_cells y2
  obtain ⟨f0, f1, f2, f3, f4, f5⟩ := r_free y2
  obtain ⟨d0, d1, d2, d3, d4, d5⟩ := r_cells y1
  obtain ⟨e0, e1, e2, e3, e4, e5⟩ := r_free y1
  clear y1 y2 HBn
  go_wp2
  rw [rounds_succ]
  go_wp2_with fail
  refine (IN _).mono ?_
  rintro e w' ⟨rfl, hw⟩
  obtain rfl := hw.symm
  clear hw
  cases ok
  ·go_wp2
   exact bodyPost_ret (res_ref rfl rfl (set6 X1.out) rfl) rfl ⟨rfl, bel_set6 HB3.out (Nat.le_refl _)⟩
  ·go_wp2
   exact bodyPost_ret (res_ref rfl rfl (set6 X1.out) rfl) rfl ⟨rfl, bel_set6 HB3.out (Nat.le_refl _)⟩
end Go.Proofs.YtnibldnfbikipaaGreatDoor
namespace Go.Proofs.YtnibldnfbikipaaGreatDoor
open Go.RowKit
theorem rp_two_nn_f {A A1 U V Y : ByteArray} {fc : Bool} {C : Int} {w : World} (hz : 0 < A.size) (hA : Cut36 fc A A1 hz) (h2 : 2 ≤ A1.size) (h0 : 0 < A1.size)
  (LT : ∀ u, Calls Tryz.prog 91 #[.int .u8 (A1[0].toNat : Nat)] u fun e w' => e = .returned (.bool true) ∧ w' = u) (hU : A1.extract 0 1 = U) (hV : A1.extract 1 A1.size = V)
  (UP : ∀ u, Calls Tryz.prog 142 #[.string U] u fun e w' => e = .returned (.string Y) ∧ Below u.heap.size u w') (hY : 0 < Y.size) (hy1 : 65 ≤ (Y[0].toNat : Int)) (hy2 : (Y[0].toNat : Int) ≤ 90) (hC : (Y[0].toNat : Int) - 65 + 1 = C)
  (hVz : 0 < V.size) (h5 : ((V[0].toNat : Int) == 36) = false) (h1 : V.size = 2) (hq : 0 < V.size) (hq2 : 1 < V.size) (h48 : ((V[0].toNat : Int) == 48) = false) (G0 : ∀ u, Calls Tryz.prog 93 #[.int .u8 (V[0].toNat : Nat)] u fun e w' => e = .returned (.bool true) ∧ w' = u) (G1 : ∀ u, Calls Tryz.prog 93 #[.int .u8 (V[1].toNat : Nat)] u fun e w' => e = .returned (.bool false) ∧ w' = u) {n1 : Int} (b1 : 48 ≤ (V[0].toNat : Int)) (b2 : (V[0].toNat : Int) ≤ 57) (hn1 : (V[0].toNat : Int) - 48 = n1) :
  Calls Tryz.prog 242 #[.string A] w fun e w' => e = .returned (.tuple #[ref0, .bool false]) ∧ Below w.heap.size w w' := by
 have m1 : IntKind.u8.wrap n1 = n1 := wrap_u8 (by omega) (by omega)
 have m2 : IntKind.i64.wrap n1 = n1 := wrap_i64 (by omega) (by omega)
 have c1 : (0 : Int) < A.size := by omega
 have c3 : (1 : Int) ≤ A.size := by omega
 have c2 : ¬ (A1.size : Int) < 2 := by omega
 have c4 : (1 : Int) ≤ A1.size := by omega
 have c5 : (1 : Int) ≤ V.size := by omega
 have c6 : ¬ (V.size : Int) < 1 := by omega
 have c7 : ¬ (2 : Int) < V.size := by omega
 rcases hA with ⟨rfl, h3, h4⟩ | ⟨rfl, h3, rfl⟩
 all_goals
  go_enter Tryz.func242, Tryz.ntmps242
  go_wp2_with (go_at_call 91; refine (LT _).mono ?_; rintro e w' ⟨rfl, hw⟩; obtain rfl := hw.symm; clear hw)
  refine (UP _).mono ?_
  rintro e w1 ⟨rfl, hb⟩
  obtain ⟨z1, z2⟩ := new2 hb
  have HB1 : Hid (Below w.heap.size w w1) := bel2 hb
  have Z1 : Hid (w1.heap[w.heap.size]? = some ref0O) := z1
  have Z2 : Hid _ := z2
  obtain ⟨k0, k1, k2, k3, k4, k5⟩ := r_cells z2
  obtain ⟨f0, f1, f2, f3, f4, f5⟩ := r_free z2
  clear hb z1 z2 UP LT
  go_wp2
  clear k0 k1 k2 k3 k4 k5 f0 f1 f2 f3 f4 f5
  have x2 := set_3 (v := .int .i64 C) Z2.out
  have x1 := (set_o (u := w1) (k := 3) (v := .int .i64 C) (g := w.heap.size + 1) (j := w.heap.size) (by omega)).trans Z1.out
  have HB3 : Hid (Below w.heap.size w (w1.setCell ⟨w.heap.size + 1, 3, none⟩ (.int .i64 C))) := HB1.out.setCell (by simp) _
  clear HB1
  generalize w1.setCell ⟨w.heap.size + 1, 3, none⟩ (.int .i64 C) = w3 at *
  have X1 : Hid (w3.heap[w.heap.size]? = some ref0O) := x1
  have X2 : Hid _ := x2
  obtain ⟨k0, k1, k2, k3, k4, k5⟩ := r_cells x2
  obtain ⟨f0, f1, f2, f3, f4, f5⟩ := r_free x2
  obtain ⟨d0, d1, d2, d3, d4, d5⟩ := r_cells x1
  obtain ⟨e0, e1, e2, e3, e4, e5⟩ := r_free x1
  clear x1 x2 Z1 Z2
  refine wp_loop_rounds 4 ?_
  rw [rounds_succ]
  go_wp2_with (first | (go_at_call 93; refine (G0 _).mono ?_; rintro e w' ⟨rfl, hw⟩; obtain rfl := hw.symm; clear hw))
  go_region
  have y2 := show (w3.setCell ⟨w.heap.size + 1, 2, none⟩ (.int .i64 n1)).drew.heap[w.heap.size + 1]? = _ from set_2 (v := .int .i64 n1) X2.out
  have y1 : (w3.setCell ⟨w.heap.size + 1, 2, none⟩ (.int .i64 n1)).drew.heap[w.heap.size]? = some ref0O := (set_o (u := w3) (k := 2) (v := .int .i64 n1) (g := w.heap.size + 1) (j := w.heap.size) (by omega)).trans X1.out
  have HBn : Hid (Below w.heap.size w (w3.setCell ⟨w.heap.size + 1, 2, none⟩ (.int .i64 n1)).drew) := (HB3.out.setCell (by simp) _).drew
  clear k0 k1 k2 k3 k4 k5 f0 f1 f2 f3 f4 f5 d0 d1 d2 d3 d4 d5 e0 e1 e2 e3 e4 e5 HB3 X1 X2
  generalize (w3.setCell ⟨w.heap.size + 1, 2, none⟩ (.int .i64 n1)).drew = w4 at *
  have HB3 : Hid _ := HBn.out
  have X1 : Hid (w4.heap[w.heap.size]? = some ref0O) := y1
  have X2 : Hid _ := y2
  obtain ⟨k0, k1, k2, k3, k4, k5⟩ := r_cells y2
  obtain ⟨f0, f1, f2, f3, f4, f5⟩ := r_free y2
  obtain ⟨d0, d1, d2, d3, d4, d5⟩ := r_cells y1
  obtain ⟨e0, e1, e2, e3, e4, e5⟩ := r_free y1
  clear y1 y2 HBn
  go_wp2
  rw [rounds_succ]
  go_wp2_with (first | (go_at_call 93; refine (G1 _).mono ?_; rintro e w' ⟨rfl, hw⟩; obtain rfl := hw.symm; clear hw))
  exact bodyPost_ret (res_ref rfl rfl (set6 X1.out) rfl) rfl ⟨rfl, bel_set6 HB3.out (Nat.le_refl _)⟩
end Go.Proofs.YtnibldnfbikipaaGreatDoor
namespace Go.Proofs.YtnibldnfbikipaaGreatDoor
open Go.RowKit
theorem cut36_of (l : List UInt8) (hz : 0 < (⟨l.toArray⟩ : ByteArray).size) : Cut36 (Ad.strip 36 l).1 ⟨l.toArray⟩ ⟨(Ad.strip 36 l).2.toArray⟩ hz := by
 cases l with
 | nil => exact absurd hz (by simp [ByteArray.size])
 | cons c r =>
  obtain ⟨k1, k2, k3, k4⟩ := cons_facts c r
  have e0 : (⟨(c :: r).toArray⟩ : ByteArray)[0] = c := rfl
  unfold Cut36
  rw [Ad.strip_cons, e0]
  rcases ch_facts c 36 with ⟨h1, h2⟩ | ⟨h1, h2⟩
  ·rw [if_pos h1]; left; exact ⟨rfl, h2, k2⟩
  ·rw [if_neg h1]; right; exact ⟨rfl, h2, rfl⟩
theorem not_d (a : UInt8) (h : Ad.isD a = true) : 48 ≤ (a.toNat : Int) ∧ (a.toNat : Int) ≤ 57 := by
 unfold Ad.isD at h
 simp only [Bool.and_eq_true, decide_eq_true_eq] at h
 omega
theorem rparsecell_any (l : List UInt8) (hl : l.length ≤ 140737488355328) (w : World) :
  Calls Tryz.prog 242 #[.string ⟨l.toArray⟩] w fun e w' => e = .returned (.tuple #[cellR (Ad.cellP l), .bool (Ad.cellP l).isSome]) ∧ Below w.heap.size w w' := by
 by_cases hn : l = []
 ·subst hn
  exact rp_nil rfl
 have hz : 0 < (⟨l.toArray⟩ : ByteArray).size := by
  rw [size_mk]
  rcases Nat.eq_zero_or_pos l.length with e | e
  ·exact absurd (List.eq_nil_of_length_eq_zero e) hn
  ·exact e
 have hA := cut36_of l hz
 unfold Ad.cellP
 generalize (Ad.strip 36 l).1 = fc at *
 cases hs : (Ad.strip 36 l).2 with
 | nil =>
  rw [hs] at hA
  exact rp_short hz hA (by rw [size_mk]; decide)
 | cons c r =>
  rw [hs] at hA
  obtain ⟨k1, k2, k3, k4⟩ := cons_facts c r
  simp only
  by_cases hr : r = []
  ·subst hr
   have : Ad.restF fc c [] = none := by unfold Ad.restF; rw [if_neg (by simp [Ad.strip, Ad.rowF])]
   rw [this]
   exact rp_short hz hA (by rw [size_mk]; simp)
  have hrz : 0 < (⟨r.toArray⟩ : ByteArray).size := by
   rw [size_mk]
   rcases Nat.eq_zero_or_pos r.length with e | e
   ·exact absurd (List.eq_nil_of_length_eq_zero e) hr
   ·exact e
  have h2 : 2 ≤ (⟨(c :: r).toArray⟩ : ByteArray).size := by rw [size_mk] at hrz ⊢; simp; omega
  unfold Ad.restF
  have LT := fun u => rletter_any c u
  cases hL : Ad.isL c
  ·rw [hL] at LT
   rw [if_neg (by simp)]
   exact rp_other hz hA h2 k4 LT
  rw [hL] at LT
  obtain ⟨b1, b2, _⟩ := Ad.colF_bd hL
  obtain ⟨y1, y2, y3⟩ := one_up c hL
  have UP := fun u => rup_one c u
  have hW := cut36_of r hrz
  generalize (Ad.strip 36 r).1 = fr at *
  have no : ∀ m, ¬ (1 ≤ Ad.rowF m ∧ Ad.rowF m ≤ 64) → (if true = true ∧ 1 ≤ Ad.rowF m ∧ Ad.rowF m ≤ 64 then some (⟨Ad.rowF m, Ad.colF c, fr, fc⟩ : Ad.Cell) else none) = none := fun m h => if_neg fun q => h q.2
  have yes : ∀ m, (1 ≤ Ad.rowF m ∧ Ad.rowF m ≤ 64) → (if true = true ∧ 1 ≤ Ad.rowF m ∧ Ad.rowF m ≤ 64 then some (⟨Ad.rowF m, Ad.colF c, fr, fc⟩ : Ad.Cell) else none) = some ⟨Ad.rowF m, Ad.colF c, fr, fc⟩ := fun m h => if_pos ⟨rfl, h⟩
  have inF : ∀ (m : List UInt8) (n : Int), n = (Ad.rowF m : Nat) → ∀ ok, inB n (Ad.colF c : Nat) = ok → (ok = true → 1 ≤ Ad.rowF m ∧ Ad.rowF m ≤ 64) ∧ (ok = false → ¬ (1 ≤ Ad.rowF m ∧ Ad.rowF m ≤ 64)) := fun m n e ok hok => by
   have := inB_row n (Ad.colF c) b1 b2
   rw [hok] at this
   unfold Ad.rowIn at this
   constructor
   ·intro h; have := this.1 h; omega
   ·intro h q; have := this.2 (by omega); rw [h] at this; cases this
  generalize hm : (Ad.strip 36 r).2 = m at *
  match m with
  | [] =>
   rw [no _ (by simp [Ad.rowF])]
   exact rp_bad hz hA h2 k4 LT k1 k2 UP (show 0 < 1 by decide) y1 y2 y3 hrz hW (.inl rfl)
  | x :: y :: z :: q =>
   rw [no _ (by simp [Ad.rowF])]
   exact rp_bad hz hA h2 k4 LT k1 k2 UP (show 0 < 1 by decide) y1 y2 y3 hrz hW (.inr (.inl (by rw [size_mk]; simp)))
  | [x] =>
   rcases ch_facts x 48 with ⟨e1, e2⟩ | ⟨e1, e2⟩
   ·rw [no _ (by rw [Ad.rowF_one, if_neg (by simp [e1])]; omega)]
    exact rp_bad hz hA h2 k4 LT k1 k2 UP (show 0 < 1 by decide) y1 y2 y3 hrz hW (.inr (.inr ⟨show 0 < 1 by decide, show 1 ≤ 2 by decide, e2⟩))
   ·have G0 := fun u => rdigit_any x u
    cases hd : Ad.isD x
    ·rw [hd] at G0
     rw [no _ (by rw [Ad.rowF_one, if_neg (by simp [hd])]; omega)]
     rcases hW with ⟨rfl, h5, h6⟩ | ⟨rfl, h5, h6⟩
     ·exact rp_one_no_t hz hA h2 k4 LT k1 k2 UP (show 0 < 1 by decide) y1 y2 y3 hrz h5 h6 rfl (show 0 < 1 by decide) e2 G0
     ·obtain rfl : r = [x] := by simpa using congrArg (fun b : ByteArray => b.data.toList) h6
      exact rp_one_no_f hz hA h2 k4 LT k1 k2 UP (show 0 < 1 by decide) y1 y2 y3 hrz h5 rfl (show 0 < 1 by decide) e2 G0
    ·rw [hd] at G0
     obtain ⟨g1, g2⟩ := not_d x hd
     have en : (x.toNat : Int) - 48 = (Ad.rowF [x] : Nat) := by rw [Ad.rowF_one, if_pos ⟨hd, e1⟩]; omega
     have W : ∀ ok, inB ((Ad.rowF [x] : Nat) : Int) (Ad.colF c : Nat) = ok → Calls Tryz.prog 242 #[.string ⟨l.toArray⟩] w fun e w' => e = .returned (.tuple #[if ok = true then refV ⟨#[]⟩ ⟨#[]⟩ (Ad.rowF [x] : Nat) (Ad.colF c : Nat) fr fc else ref0, .bool ok]) ∧ Below w.heap.size w w' := fun ok hok => by
      have IN := fun u => rin_any ((Ad.rowF [x] : Nat) : Int) (Ad.colF c : Nat) u
      rw [hok] at IN
      rcases hW with ⟨rfl, h5, h6⟩ | ⟨rfl, h5, h6⟩
      ·exact rp_one_t hz hA h2 k4 LT k1 k2 UP (show 0 < 1 by decide) y1 y2 y3 hrz h5 h6 rfl (show 0 < 1 by decide) e2 G0 g1 g2 en IN
      ·obtain rfl : r = [x] := by simpa using congrArg (fun b : ByteArray => b.data.toList) h6
       exact rp_one_f hz hA h2 k4 LT k1 k2 UP (show 0 < 1 by decide) y1 y2 y3 hrz h5 rfl (show 0 < 1 by decide) e2 G0 g1 g2 en IN
     cases hok : inB ((Ad.rowF [x] : Nat) : Int) (Ad.colF c : Nat)
     ·rw [no _ ((inF _ _ rfl _ hok).2 rfl)]
      exact W false hok
     ·rw [yes _ ((inF _ _ rfl _ hok).1 rfl)]
      exact W true hok
  | [x, y] =>
   rcases ch_facts x 48 with ⟨e1, e2⟩ | ⟨e1, e2⟩
   ·rw [no _ (by rw [Ad.rowF_two, if_neg (by simp [e1])]; omega)]
    exact rp_bad hz hA h2 k4 LT k1 k2 UP (show 0 < 1 by decide) y1 y2 y3 hrz hW (.inr (.inr ⟨show 0 < 2 by decide, show 2 ≤ 2 by decide, e2⟩))
   ·have G0 := fun u => rdigit_any x u
    have G1 := fun u => rdigit_any y u
    cases hd : Ad.isD x
    ·rw [hd] at G0
     rw [no _ (by rw [Ad.rowF_two, if_neg (by simp [hd])]; omega)]
     rcases hW with ⟨rfl, h5, h6⟩ | ⟨rfl, h5, h6⟩
     ·exact rp_two_no_t hz hA h2 k4 LT k1 k2 UP (show 0 < 1 by decide) y1 y2 y3 hrz h5 h6 rfl (show 0 < 2 by decide) e2 G0
     ·obtain rfl : r = [x, y] := by simpa using congrArg (fun b : ByteArray => b.data.toList) h6
      exact rp_two_no_f hz hA h2 k4 LT k1 k2 UP (show 0 < 1 by decide) y1 y2 y3 hrz h5 rfl (show 0 < 2 by decide) e2 G0
    ·rw [hd] at G0
     obtain ⟨g1, g2⟩ := not_d x hd
     cases hd2 : Ad.isD y
     ·rw [hd2] at G1
      rw [no _ (by rw [Ad.rowF_two, if_neg (by simp [hd2])]; omega)]
      rcases hW with ⟨rfl, h5, h6⟩ | ⟨rfl, h5, h6⟩
      ·exact rp_two_nn_t hz hA h2 k4 LT k1 k2 UP (show 0 < 1 by decide) y1 y2 y3 hrz h5 h6 rfl (show 0 < 2 by decide) (show 1 < 2 by decide) e2 G0 G1 g1 g2 rfl
      ·obtain rfl : r = [x, y] := by simpa using congrArg (fun b : ByteArray => b.data.toList) h6
       exact rp_two_nn_f hz hA h2 k4 LT k1 k2 UP (show 0 < 1 by decide) y1 y2 y3 hrz h5 rfl (show 0 < 2 by decide) (show 1 < 2 by decide) e2 G0 G1 g1 g2 rfl
     ·rw [hd2] at G1
      obtain ⟨g3, g4⟩ := not_d y hd2
      have en : 10 * ((x.toNat : Int) - 48) + ((y.toNat : Int) - 48) = (Ad.rowF [x, y] : Nat) := by rw [Ad.rowF_two, if_pos ⟨hd, hd2, e1⟩]; omega
      have W : ∀ ok, inB ((Ad.rowF [x, y] : Nat) : Int) (Ad.colF c : Nat) = ok → Calls Tryz.prog 242 #[.string ⟨l.toArray⟩] w fun e w' => e = .returned (.tuple #[if ok = true then refV ⟨#[]⟩ ⟨#[]⟩ (Ad.rowF [x, y] : Nat) (Ad.colF c : Nat) fr fc else ref0, .bool ok]) ∧ Below w.heap.size w w' := fun ok hok => by
       have IN := fun u => rin_any ((Ad.rowF [x, y] : Nat) : Int) (Ad.colF c : Nat) u
       rw [hok] at IN
       rcases hW with ⟨rfl, h5, h6⟩ | ⟨rfl, h5, h6⟩
       ·exact rp_two_t hz hA h2 k4 LT k1 k2 UP (show 0 < 1 by decide) y1 y2 y3 hrz h5 h6 rfl (show 0 < 2 by decide) (show 1 < 2 by decide) e2 G0 G1 g1 g2 g3 g4 rfl rfl rfl en IN
       ·obtain rfl : r = [x, y] := by simpa using congrArg (fun b : ByteArray => b.data.toList) h6
        exact rp_two_f hz hA h2 k4 LT k1 k2 UP (show 0 < 1 by decide) y1 y2 y3 hrz h5 rfl (show 0 < 2 by decide) (show 1 < 2 by decide) e2 G0 G1 g1 g2 g3 g4 rfl rfl rfl en IN
      cases hok : inB ((Ad.rowF [x, y] : Nat) : Int) (Ad.colF c : Nat)
      ·rw [no _ ((inF _ _ rfl _ hok).2 rfl)]
       exact W false hok
      ·rw [yes _ ((inF _ _ rfl _ hok).1 rfl)]
       exact W true hok
def refR (o : Option Ad.Ref) : Value := match o with
 | none => ref0
 | some r => refV ⟨r.book.toArray⟩ ⟨r.sheet.toArray⟩ r.cell.row r.cell.col r.cell.fr r.cell.fc
def nmsF (l : List UInt8) : List UInt8 × List UInt8 × Bool :=
 if (Ad.strip 91 l).1 = true then ((cutF 93 (Ad.strip 91 l).2).1, (cutF 93 (Ad.strip 91 l).2).2.1, gnF (cutF 93 (Ad.strip 91 l).2).1 && gnF (cutF 93 (Ad.strip 91 l).2).2.1) else ([], l, gnF l)
def progP (l : List UInt8) : Option Ad.Ref := match Ad.at_ 33 l with
 | none => (Ad.cellP l).map fun c => ⟨[], [], c⟩
 | some p => if (nmsF p.1).2.2 = true then (Ad.cellP p.2).map fun c => ⟨(nmsF p.1).1, (nmsF p.1).2.1, c⟩ else none
theorem gn_nil : gnF [] = false := rfl
theorem gn_no33 {l : List UInt8} (h : 33 ∈ l) : gnF l = false := by
 cases hg : gnF l
 ·rfl
 ·exact absurd rfl ((gn_names l hg).2 33 h).1
theorem cell_br (m : List UInt8) : Ad.cellP (91 :: m) = none := rfl
theorem at_cons_ne {c x : UInt8} {r : List UInt8} (h : x ≠ c) : Ad.at_ c (x :: r) = (Ad.at_ c r).map fun p => (x :: p.1, p.2) := by
 rw [Ad.at_, if_neg h]
theorem at_long {c : UInt8} : ∀ {l m : List UInt8}, (∀ x ∈ l, x ≠ c) → Ad.at_ c (l ++ m) = (Ad.at_ c m).map fun p => (l ++ p.1, p.2)
 | [], m, _ => by rw [List.nil_append]; cases Ad.at_ c m <;> rfl
 | x :: l, m, h => by
  rw [List.cons_append, at_cons_ne (h x (List.mem_cons_self ..)), at_long (l := l) (m := m) fun y hy => h y (List.mem_cons_of_mem _ hy)]
  cases Ad.at_ c m <;> rfl
theorem prog_eq (l : List UInt8) : progP l = Ad.refP gnF l := by
 cases l with
 | nil => rfl
 | cons x m =>
  by_cases hx : x = 91
  ·subst hx
   have e1 : Ad.refP gnF (91 :: m) = match Ad.at_ 93 m with
    | none => none
    | some (a, r) => if gnF a = true ∧ (Ad.at_ 33 r).isSome = true then Ad.sheetP gnF a r else none := rfl
   rw [e1]
   unfold progP
   rw [at_cons_ne (show (91 : UInt8) ≠ 33 by decide)]
   cases h3 : Ad.at_ 33 m with
   | none =>
    simp only [Option.map_none]
    rw [cell_br]
    cases h9 : Ad.at_ 93 m with
    | none => rfl
    | some p =>
     obtain ⟨a, r⟩ := p
     have e2 := (Ad.at_some h9).1
     have : Ad.at_ 33 r = none := by
      by_cases ha : 33 ∈ a
      ·exfalso
       rw [e2] at h3
       have key : ∀ l : List UInt8, (33 : UInt8) ∈ l → Ad.at_ 33 l ≠ none := by
        intro l
        induction l with
        | nil => intro h; cases h
        | cons y q ih =>
         intro h e
         unfold Ad.at_ at e
         by_cases hy : y = 33
         ·rw [if_pos hy] at e; cases e
         ·rw [if_neg hy] at e
          rcases List.mem_cons.1 h with h | h
          ·exact hy h.symm
          ·cases hq : Ad.at_ 33 q with
           | none => exact ih h hq
           | some z => rw [hq] at e; cases e
       exact key _ (List.mem_append_left _ ha) h3
      ·rw [e2, at_long (c := 33) (l := a) (fun y hy e => ha (by rw [← e]; exact hy)), at_cons_ne (show (93 : UInt8) ≠ 33 by decide)] at h3
       cases hr : Ad.at_ 33 r with
       | none => rfl
       | some z => rw [hr] at h3; cases h3
     simp only [this]
     rw [if_neg (by simp)]
     rfl
   | some p =>
    obtain ⟨a', rest⟩ := p
    obtain ⟨e2, n2⟩ := Ad.at_some h3
    simp only [Option.map_some]
    have es : Ad.strip 91 (91 :: a') = (true, a') := Ad.strip_yes 91 a'
    unfold nmsF
    rw [es]
    simp only [if_true]
    cases h9 : Ad.at_ 93 a' with
    | none =>
     rw [cutF_none h9]
     simp only [gn_nil, Bool.and_false, Bool.false_eq_true, if_false]
     cases hm : Ad.at_ 93 m with
     | none => rfl
     | some q =>
      obtain ⟨a, r⟩ := q
      have h33 : 33 ∈ a := by
       rw [e2] at hm
       have nA : ∀ x ∈ a', x ≠ 93 := by
        intro x hx e
        subst e
        have key : ∀ l : List UInt8, (93 : UInt8) ∈ l → Ad.at_ 93 l ≠ none := by
         intro l
         induction l with
         | nil => intro h; cases h
         | cons y q ih =>
          intro h e
          unfold Ad.at_ at e
          by_cases hy : y = 93
          ·rw [if_pos hy] at e; cases e
          ·rw [if_neg hy] at e
           rcases List.mem_cons.1 h with h | h
           ·exact hy h.symm
           ·cases hq : Ad.at_ 93 q with
            | none => exact ih h hq
            | some z => rw [hq] at e; cases e
        exact key _ hx h9
       rw [at_long nA, at_cons_ne (show (33 : UInt8) ≠ 93 by decide)] at hm
       cases hr : Ad.at_ 93 rest with
       | none => rw [hr] at hm; cases hm
       | some z =>
        rw [hr] at hm
        simp only [Option.map_some, Option.some.injEq, Prod.mk.injEq] at hm
        rw [← hm.1]
        exact List.mem_append_right _ (List.mem_cons_self ..)
      simp only [gn_no33 h33, Bool.false_eq_true, false_and, if_false]
    | some q =>
     obtain ⟨b, s'⟩ := q
     obtain ⟨e3, n3⟩ := Ad.at_some h9
     rw [cutF_some h9]
     have hm : Ad.at_ 93 m = some (b, s' ++ 33 :: rest) := by
      rw [e2, e3, List.append_assoc, List.cons_append]
      exact Ad.at_app _ n3
     have hs : Ad.at_ 33 (s' ++ 33 :: rest) = some (s', rest) := Ad.at_app _ fun y hy => n2 y (by rw [e3]; exact List.mem_append_right _ (List.mem_cons_of_mem _ hy))
     rw [hm]
     simp only [hs]
     unfold Ad.sheetP
     simp only [hs]
     cases gnF b <;> cases gnF s' <;> simp
  ·rw [Ad.refP_plain (by simpa using hx)]
   unfold progP Ad.sheetP
   cases h3 : Ad.at_ 33 (x :: m) with
   | none => rfl
   | some p =>
    obtain ⟨a, r⟩ := p
    obtain ⟨e2, n2⟩ := Ad.at_some h3
    have es : nmsF a = ([], a, gnF a) := by
     unfold nmsF
     have : (Ad.strip 91 a).1 = false := by
      cases a with
      | nil => rfl
      | cons y q =>
       simp only [List.cons_append, List.cons.injEq] at e2
       rw [Ad.strip_cons, if_neg (by rw [← e2.1]; exact hx)]
     rw [this]
     rfl
    simp only [es]
theorem at_some_len {c : UInt8} {l a b : List UInt8} (h : Ad.at_ c l = some (a, b)) : a.length + b.length + 1 = l.length := by
 rw [(Ad.at_some h).1]
 simp
 omega
end Go.Proofs.YtnibldnfbikipaaGreatDoor
