/- ARow, AParse, AParse2, ARefP, AParseRef, ARParseRef. -/
import Derived.Test.YtnibldnfbikipaaGreatDoorAPrint2Fp
set_option linter.unusedVariables false
set_option linter.unusedSimpArgs false
set_option maxHeartbeats 16000000
set_option maxRecDepth 100000
namespace Go.Proofs.YtnibldnfbikipaaGreatDoor
open Go.RowKit
def Errs (w : World) : Prop := ∃ t1 p1 t2 p2, w.cell? ⟨6, 0, none⟩ = some (.iface t1 p1) ∧ w.cell? ⟨7, 0, none⟩ = some (.iface t2 p2)
theorem Errs.below {w w' : World} (h : Errs w) (hb : Below w.heap.size w w') : Errs w' := by
 obtain ⟨t1, p1, t2, p2, h1, h2⟩ := h
 exact ⟨t1, p1, t2, p2, (hb.cell (World.block_lt_of_cell? w _ h1)).trans h1, (hb.cell (World.block_lt_of_cell? w _ h2)).trans h2⟩
structure Tab8 (w : World) : Prop where
 t : Tabs w
 e : Errs w
theorem Tab8.below {w w' : World} (h : Tab8 w) (hb : Below w.heap.size w w') : Tab8 w' := ⟨h.t.below hb, h.e.below hb⟩
theorem itoaI_any (n : Int) (hn : In64 n) (w : World) (T : PTab w) :
  Calls Tryz.prog 221 #[.int .i64 n] w fun e w' => e = .returned (.string ⟨(Lib.itoa n).toArray⟩) ∧ Below w.heap.size w w' := by
 refine (Tryz.strconv_Itoa n hn.1 hn.2 w T).mono ?_
 rintro e w' ⟨rfl, k, os, rfl⟩
 exact ⟨rfl, grow_below w k os⟩
theorem prow_ok {s X : ByteArray} {v : Int} {w : World} (AT : Calls Tryz.prog 281 #[.string s] w fun e w' => e = .returned (.tuple #[.int .i64 v, .nilIface]) ∧ Below w.heap.size w w')
  (IT : RC w 221 #[.int .i64 v] (.string X)) {b : Bool} (hx : (X.toList == s.toList) = b) :
  Calls Tryz.prog 267 #[.string s] w fun e w' => e = .returned (.int .i64 (if b = true then v else 0)) ∧ Below w.heap.size w w' := by
 cases b
 all_goals
  go_enter Tryz.func267, Tryz.ntmps267
  go_wp2_with (first | (go_at_call 281; refine AT.mono ?_; rintro e w1 ⟨rfl, hb⟩; have HB : Hid (Below w.heap.size w w1) := hb; clear hb) | (go_at_call 221; refine (IT _ HB.out).mono ?_; rintro e w2 ⟨rfl, hb⟩; have HB2 : Hid (Below w.heap.size w w2) := hb; clear hb))
  go_ret
  exact ⟨rfl, HB2.out⟩
theorem prow_no {s : ByteArray} {v : Int} {w : World} (AT : Calls Tryz.prog 281 #[.string s] w fun e w' => ∃ N, e = .returned (.tuple #[.int .i64 v, .iface 290 (.pointer (some ⟨N, 0, none⟩))]) ∧ Below w.heap.size w w') :
  Calls Tryz.prog 267 #[.string s] w fun e w' => e = .returned (.int .i64 0) ∧ Below w.heap.size w w' := by
 go_enter Tryz.func267, Tryz.ntmps267
 go_wp2_with (go_at_call 281; refine AT.mono ?_; rintro e w1 ⟨N, rfl, hb⟩; have HB : Hid (Below w.heap.size w w1) := hb; clear hb)
 go_ret
 exact ⟨rfl, HB.out⟩
theorem bytesL (a b : ByteArray) : (a.toList == b.toList) = decide (a.data.toList = b.data.toList) := by
 rw [ByteArray.toList_eq, ByteArray.toList_eq, Bool.eq_iff_iff]
 simp
theorem parserow_any (l : List UInt8) (hl : l.length ≤ 140737488355328) (w : World) (T : Tab8 w) :
  Calls Tryz.prog 267 #[.string ⟨l.toArray⟩] w fun e w' => e = .returned (.int .i64 (Ad.rowA l)) ∧ Below w.heap.size w w' := by
 obtain ⟨t1, p1, t2, p2, h1, h2⟩ := T.e
 have hz : (⟨l.toArray⟩ : ByteArray).size ≤ 140737488355328 := by rw [size_mk]; exact hl
 unfold Ad.rowA
 cases ha : Lib.atoiAll l with
 | ok v =>
  have AT := Tryz.strconv_Atoi_ok ⟨l.toArray⟩ (by omega) v ha w
  have hv := Lib.atoiAll_bounds ha
  have := prow_ok (s := ⟨l.toArray⟩) (v := v) (w := w) (AT.mono fun e w' ⟨q1, q2⟩ => ⟨q1, by
   rcases q2 with rfl | ⟨t, rfl⟩
   ·exact Below.refl _ _
   ·exact Lib.bytesWorld_below _ _ _⟩) (RC.of fun u hu => itoaI_any v hv u (T.t.p.below hu)) (bytesL _ _)
  simp only [List.toList_toArray, decide_eq_true_eq] at this
  exact this
 | «syntax» =>
  exact prow_no ((Tryz.strconv_Atoi_syntax ⟨l.toArray⟩ (by omega) ha _ w h1 (.inr ⟨_, _, rfl⟩)).mono fun e w' ⟨N, q1, _, _, q2⟩ => ⟨N, q1, q2⟩)
 | range =>
  exact prow_no ((Tryz.strconv_Atoi_range ⟨l.toArray⟩ (by omega) ha _ w h2 (.inr ⟨_, _, rfl⟩)).mono fun e w' ⟨N, q1, _, _, q2⟩ => ⟨N, q1, q2⟩)
abbrev ref0O : Obj := refO ⟨#[]⟩ ⟨#[]⟩ 0 0 false false
def cellR (o : Option Ad.Cell) : Value := match o with
 | none => ref0
 | some c => refV ⟨#[]⟩ ⟨#[]⟩ c.row c.col c.fr c.fc
section
variable {u : World} {g : Nat} {a b c d e f v : Value} {t : TypeId}
theorem set_2 (h : u.heap[g]? = some (.cells #[a, b, c, d, e, f] t (0, 0))) : (u.setCell ⟨g, 2, none⟩ v).heap[g]? = some (.cells #[a, b, v, d, e, f] t (0, 0)) := by
 simp [World.setCell, Array.getElem?_modify, h]
theorem set_3 (h : u.heap[g]? = some (.cells #[a, b, c, d, e, f] t (0, 0))) : (u.setCell ⟨g, 3, none⟩ v).heap[g]? = some (.cells #[a, b, c, v, e, f] t (0, 0)) := by
 simp [World.setCell, Array.getElem?_modify, h]
theorem set_4 (h : u.heap[g]? = some (.cells #[a, b, c, d, e, f] t (0, 0))) : (u.setCell ⟨g, 4, none⟩ v).heap[g]? = some (.cells #[a, b, c, d, v, f] t (0, 0)) := by
 simp [World.setCell, Array.getElem?_modify, h]
theorem set_o {j k : Nat} (hj : g ≠ j) : (u.setCell ⟨g, k, none⟩ v).heap[j]? = u.heap[j]? := by
 simp [World.setCell, Array.getElem?_modify, hj]
end
section
variable {u : World} {g : Nat} {a b c d e f a' b' c' d' e' f' : Value} {t : TypeId}
theorem set6 (h : u.heap[g]? = some (.cells #[a, b, c, d, e, f] t (0, 0))) : ((((((u.setCell ⟨g, 0, none⟩ a').setCell ⟨g, 1, none⟩ b').setCell ⟨g, 2, none⟩ c').setCell ⟨g, 3, none⟩ d').setCell ⟨g, 4, none⟩ e').setCell ⟨g, 5, none⟩ f').heap[g]? = some (.cells #[a', b', c', d', e', f'] t (0, 0)) := by
 simp [World.setCell, Array.getElem?_modify, h]
theorem bel_set6 {w : World} (h : Below w.heap.size w u) (hg : w.heap.size ≤ g) : Below w.heap.size w ((((((u.setCell ⟨g, 0, none⟩ a').setCell ⟨g, 1, none⟩ b').setCell ⟨g, 2, none⟩ c').setCell ⟨g, 3, none⟩ d').setCell ⟨g, 4, none⟩ e').setCell ⟨g, 5, none⟩ f') :=
 (((((h.setCell hg _).setCell hg _).setCell hg _).setCell hg _).setCell hg _).setCell hg _
end
theorem res_ref {fn : Func} {i j : Tmp} (hr : fn.results = #[.cell i 64, .tmp j]) {tmps : Array Value} {g : Nat} {wf : World} (hp : tmps.getD i undef = .pointer (some ⟨g, 0, none⟩)) {b s : ByteArray} {r c : Int} {fr fc ok : Bool}
  (h : wf.heap[g]? = some (refO b s r c fr fc)) (hj : tmps.getD j undef = .bool ok) : (results fn tmps).run Tryz.prog wf = .ok (.tuple #[refV b s r c fr fc, .bool ok]) wf := by
 obtain ⟨c0, c1, c2, c3, c4, c5⟩ := r_cells h
 simp only [Array.getD_eq_getD_getElem?] at hp hj
 simp [results, hr, hp, hj, go_sem, c0, c1, c2, c3, c4, c5]
theorem pc_empty {A A1 : ByteArray} {fc : Bool} {w : World} (CP : ∀ u, Calls Tryz.prog 73 #[.string A, .string ⟨#[36]⟩] u fun e w' => e = .returned (.tuple #[.string A1, .bool fc]) ∧ w' = u) (h0 : A1.toList = []) :
  Calls Tryz.prog 233 #[.string A] w fun e w' => e = .returned (.tuple #[ref0, .bool false]) ∧ Below w.heap.size w w' := by
 go_enter Tryz.func233, Tryz.ntmps233
 go_wp2_with (go_at_call 73; refine (CP _).mono ?_; rintro e w' ⟨rfl, hw⟩; obtain rfl := hw.symm; clear hw)
 refine bodyPost_ret (v := .tuple #[ref0, .bool false]) (by simp [results, Tryz.results233, go_sem]) rfl ?_
 refine ⟨rfl, ?_⟩
 repeat (first | exact Below.refl _ _ | refine Below.drew ?_ | refine bel_alloc ?_ _ | refine Below.setCell ?_ (by simp) _)
theorem pc_other {A A1 : ByteArray} {fc : Bool} {w : World} (CP : ∀ u, Calls Tryz.prog 73 #[.string A, .string ⟨#[36]⟩] u fun e w' => e = .returned (.tuple #[.string A1, .bool fc]) ∧ w' = u) (h0 : (A1.toList == []) = false) (hz : 0 < A1.size)
  (LT : ∀ u, Calls Tryz.prog 158 #[.int .u8 (A1[0].toNat : Nat)] u fun e w' => e = .returned (.bool false) ∧ w' = u) :
  Calls Tryz.prog 233 #[.string A] w fun e w' => e = .returned (.tuple #[ref0, .bool false]) ∧ Below w.heap.size w w' := by
 go_enter Tryz.func233, Tryz.ntmps233
 go_wp2_with (first | (go_at_call 73; refine (CP _).mono ?_; rintro e w' ⟨rfl, hw⟩; obtain rfl := hw.symm; clear hw) | (go_at_call 158; refine (LT _).mono ?_; rintro e w' ⟨rfl, hw⟩; obtain rfl := hw.symm; clear hw))
 refine bodyPost_ret (v := .tuple #[ref0, .bool false]) (by simp [results, Tryz.results233, go_sem]) rfl ?_
 refine ⟨rfl, ?_⟩
 repeat (first | exact Below.refl _ _ | refine Below.drew ?_ | refine bel_alloc ?_ _ | refine Below.setCell ?_ (by simp) _)
theorem pc_letter {A A1 U V Y A2 : ByteArray} {fc fr ok : Bool} {n C : Int} {w : World} (CP : ∀ u, Calls Tryz.prog 73 #[.string A, .string ⟨#[36]⟩] u fun e w' => e = .returned (.tuple #[.string A1, .bool fc]) ∧ w' = u) (h0 : (A1.toList == []) = false) (hz : 0 < A1.size)
  (LT : ∀ u, Calls Tryz.prog 158 #[.int .u8 (A1[0].toNat : Nat)] u fun e w' => e = .returned (.bool true) ∧ w' = u) (hU : A1.extract 0 1 = U) (hV : A1.extract 1 A1.size = V)
  (UP : ∀ u, Calls Tryz.prog 214 #[.string U] u fun e w' => e = .returned (.string Y) ∧ Below u.heap.size u w') (hY : 0 < Y.size) (hy1 : 65 ≤ (Y[0].toNat : Int)) (hy2 : (Y[0].toNat : Int) ≤ 90) (hC : (Y[0].toNat : Int) - 65 + 1 = C)
  (CQ : ∀ u, Calls Tryz.prog 73 #[.string V, .string ⟨#[36]⟩] u fun e w' => e = .returned (.tuple #[.string A2, .bool fr]) ∧ w' = u)
  (PR : ∀ u, Below w.heap.size w u → Calls Tryz.prog 267 #[.string A2] u fun e w' => e = .returned (.int .i64 n) ∧ Below u.heap.size u w') (IN : ∀ u, Calls Tryz.prog 212 #[.int .i64 n, .int .i64 C] u fun e w' => e = .returned (.bool ok) ∧ w' = u) :
  Calls Tryz.prog 233 #[.string A] w fun e w' => e = .returned (.tuple #[if ok = true then refV ⟨#[]⟩ ⟨#[]⟩ n C fr fc else ref0, .bool ok]) ∧ Below w.heap.size w w' := by
 have c1 : (1 : Int) ≤ A1.size := by omega
 go_enter Tryz.func233, Tryz.ntmps233
 go_wp2_with (go_at_call 73; refine (CP _).mono ?_; rintro e w' ⟨rfl, hw⟩; obtain rfl := hw.symm; clear hw)
 refine (LT _).mono ?_
 rintro e w' ⟨rfl, hw⟩
 obtain rfl := hw.symm
 clear hw
 go_wp2_with fail
 refine (UP _).mono ?_
 rintro e w1 ⟨rfl, hb⟩
 obtain ⟨z1, z2⟩ := new2 hb
 have HB1 : Hid (Below w.heap.size w w1) := bel2 hb
 have Z1 : Hid (w1.heap[w.heap.size]? = some ref0O ∧ w1.heap[w.heap.size + 1]? = some (refO ⟨#[]⟩ ⟨#[]⟩ 0 0 false fc)) := ⟨z1, z2⟩
 obtain ⟨c0, c1, c2, c3, c4, c5⟩ := r_cells z2
 obtain ⟨f0, f1, f2, f3, f4, f5⟩ := r_free z2
 clear hb z1 z2 UP LT CP
 go_wp2_with fail
 refine (CQ _).mono ?_
 rintro e w' ⟨rfl, hw⟩
 obtain rfl := hw.symm
 clear hw
 go_wp2_with fail
 clear c0 c1 c2 c3 c4 c5 f0 f1 f2 f3 f4 f5
 refine (PR _ ?hh).mono ?_
 case hh => exact (HB1.out.setCell (by simp) _).setCell (by simp) _
 rintro e w2 ⟨rfl, hb⟩
 have HB2 : Hid (Below w.heap.size w w2) := bel_step ((HB1.out.setCell (by simp) _).setCell (by simp) _) hb
 have y2 := (hb.block _ (lt_of (set_4 (set_3 Z1.out.2)))).trans (set_4 (set_3 Z1.out.2))
 have y1 := (hb.block w.heap.size (lt_of ((set_o (by omega)).trans ((set_o (by omega)).trans Z1.out.1)))).trans ((set_o (by omega)).trans ((set_o (by omega)).trans Z1.out.1))
 have YY : Hid (w2.heap[w.heap.size]? = some ref0O ∧ w2.heap[w.heap.size + 1]? = some (refO ⟨#[]⟩ ⟨#[]⟩ 0 C fr fc)) := ⟨y1, y2⟩
 obtain ⟨c0, c1, c2, c3, c4, c5⟩ := r_cells y2
 obtain ⟨f0, f1, f2, f3, f4, f5⟩ := r_free y2
 obtain ⟨d0, d1, d2, d3, d4, d5⟩ := r_cells y1
 obtain ⟨e0, e1, e2, e3, e4, e5⟩ := r_free y1
 clear hb y1 y2 Z1
 go_wp2_with fail
 refine (IN _).mono ?_
 rintro e w' ⟨rfl, hw⟩
 obtain rfl := hw.symm
 have x2 := set_2 (v := .int .i64 n) YY.out.2
 have x1 := (set_o (u := w2) (k := 2) (v := .int .i64 n) (g := w.heap.size + 1) (j := w.heap.size) (by omega)).trans YY.out.1
 have HB3 : Hid (Below w.heap.size w (w2.setCell ⟨w.heap.size + 1, 2, none⟩ (.int .i64 n))) := HB2.out.setCell (by simp) _
 clear hw c0 c1 c2 c3 c4 c5 f0 f1 f2 f3 f4 f5 d0 d1 d2 d3 d4 d5 e0 e1 e2 e3 e4 e5 YY HB2 HB1 IN PR CQ
 generalize w2.setCell ⟨w.heap.size + 1, 2, none⟩ (.int .i64 n) = w3 at *
 have XX : Hid (w3.heap[w.heap.size]? = some ref0O) := x1
 obtain ⟨c0, c1, c2, c3, c4, c5⟩ := r_cells x2
 obtain ⟨d0, d1, d2, d3, d4, d5⟩ := r_cells x1
 obtain ⟨e0, e1, e2, e3, e4, e5⟩ := r_free x1
 clear x1 x2
 cases ok
 ·go_wp2
  exact bodyPost_ret (res_ref rfl rfl (set6 XX.out) rfl) rfl ⟨rfl, bel_set6 HB3.out (Nat.le_refl _)⟩
 ·go_wp2
  exact bodyPost_ret (res_ref rfl rfl (set6 XX.out) rfl) rfl ⟨rfl, bel_set6 HB3.out (Nat.le_refl _)⟩
theorem one_up (c : UInt8) (h : Ad.isL c = true) : 65 ≤ ((szB 97 65 c).toNat : Int) ∧ ((szB 97 65 c).toNat : Int) ≤ 90 ∧ ((szB 97 65 c).toNat : Int) - 65 + 1 = (Ad.colF c : Nat) := by
 unfold Ad.isL at h
 simp only [Bool.or_eq_true, Bool.and_eq_true, decide_eq_true_eq] at h
 unfold szB Ad.colF
 rcases h with h | h
 ·rw [if_pos (by omega), if_pos (by omega), Ad.toNat_ofNat (by omega)]
  omega
 ·rw [if_neg (by omega), if_neg (by omega)]
  omega
theorem up_one (c : UInt8) (u : World) : Calls Tryz.prog 214 #[.string ⟨#[c]⟩] u fun e w' => e = .returned (.string ⟨#[szB 97 65 c]⟩) ∧ Below u.heap.size u w' := up_any ⟨#[c]⟩ (by show 1 ≤ _; decide) u
theorem cons_facts (c : UInt8) (r : List UInt8) : (⟨(c :: r).toArray⟩ : ByteArray).extract 0 1 = ⟨#[c]⟩ ∧ (⟨(c :: r).toArray⟩ : ByteArray).extract 1 (⟨(c :: r).toArray⟩ : ByteArray).size = ⟨r.toArray⟩ ∧ ((⟨(c :: r).toArray⟩ : ByteArray).toList == []) = false ∧ 0 < (⟨(c :: r).toArray⟩ : ByteArray).size := by
 refine ⟨?_, ?_, ?_, ?_⟩
 ·apply ByteArray.ext
  simp
 ·exact drop_mk (c :: r)
 ·rw [ByteArray.toList_eq]; rfl
 ·rw [size_mk]; simp
theorem inB_row (n : Int) (c : Nat) (h1 : 1 ≤ c) (h2 : c ≤ 26) : inB n c = true ↔ Ad.rowIn n := by
 unfold inB Ad.rowIn
 simp only [Bool.and_eq_true, decide_eq_true_eq]
 omega
theorem parsecell_any (l : List UInt8) (hl : l.length ≤ 140737488355328) (w : World) (T : Tab8 w) :
  Calls Tryz.prog 233 #[.string ⟨l.toArray⟩] w fun e w' => e = .returned (.tuple #[cellR (Ad.cellP l), .bool (Ad.cellP l).isSome]) ∧ Below w.heap.size w w' := by
 have CP := fun u => strip_any 36 l u
 have hlen := Ad.strip_len 36 l
 unfold Ad.cellP
 cases hs : (Ad.strip 36 l).2 with
 | nil =>
  rw [hs] at CP
  exact pc_empty CP (by rw [ByteArray.toList_eq])
 | cons c r =>
  rw [hs] at CP hlen
  obtain ⟨k1, k2, k3, k4⟩ := cons_facts c r
  simp only
  unfold Ad.restF
  cases hL : Ad.isL c
  ·have LT := fun u => letter_any c u
   rw [hL] at LT
   rw [if_neg (by simp)]
   exact pc_other CP k3 k4 LT
  ·have LT := fun u => letter_any c u
   rw [hL] at LT
   obtain ⟨b1, b2, _⟩ := Ad.colF_bd hL
   obtain ⟨y1, y2, y3⟩ := one_up c hL
   have hlr := Ad.strip_len 36 r
   have W : ∀ ok, inB (Ad.rowA (Ad.strip 36 r).2) (Ad.colF c : Nat) = ok → _ := fun ok hok => pc_letter (w := w) (ok := ok) CP k3 k4 LT k1 k2 (fun u => up_one c u) (show 0 < 1 by decide) y1 y2 y3 (fun u => strip_any 36 r u) (fun u hu => parserow_any (Ad.strip 36 r).2 (by simp only [List.length_cons] at hlen; omega) u (T.below hu)) (fun u => by have := in_any (Ad.rowA (Ad.strip 36 r).2) (Ad.colF c : Nat) u; rw [hok] at this; exact this)
   rcases Ad.row_ways (Ad.strip 36 r).2 with ⟨h1, h2⟩ | ⟨h1, h2⟩
   ·have hx := W true ((inB_row _ _ b1 b2).2 h1)
    rw [h2] at hx h1
    unfold Ad.rowIn at h1
    rw [if_pos ⟨rfl, by omega, by omega⟩]
    exact hx
   ·have hx := W false (by
     cases hb : inB (Ad.rowA (Ad.strip 36 r).2) (Ad.colF c : Nat)
     ·rfl
     ·exact absurd ((inB_row _ _ b1 b2).1 hb) h1)
    rw [if_neg (fun q => h2 q.2)]
    exact hx
def refR (o : Option Ad.Ref) : Value := match o with
 | none => ref0
 | some r => refV ⟨r.book.toArray⟩ ⟨r.sheet.toArray⟩ r.cell.row r.cell.col r.cell.fr r.cell.fc
def nmsF (l : List UInt8) : List UInt8 × List UInt8 × Bool :=
 if (Ad.strip 91 l).1 = true then ((cutF 93 (Ad.strip 91 l).2).1, (cutF 93 (Ad.strip 91 l).2).2.1, gnF (cutF 93 (Ad.strip 91 l).2).1 && gnF (cutF 93 (Ad.strip 91 l).2).2.1) else ([], l, gnF l)
def progP (l : List UInt8) : Option Ad.Ref := match Ad.at_ 33 l with
 | none => (Ad.cellP l).map fun c => ⟨[], [], c⟩
 | some p => if (nmsF p.1).2.2 = true then (Ad.cellP p.2).map fun c => ⟨(nmsF p.1).1, (nmsF p.1).2.1, c⟩ else none
theorem gn_nil : gnF [] = false := rfl
theorem gn_no33 {l : List UInt8} (h : 33 ∈ l) : gnF l = false := by
 cases hg : gnF l
 ·rfl
 ·exact absurd rfl ((gn_names l hg).2 33 h).1
theorem cell_br (m : List UInt8) : Ad.cellP (91 :: m) = none := rfl
theorem at_cons_ne {c x : UInt8} {r : List UInt8} (h : x ≠ c) : Ad.at_ c (x :: r) = (Ad.at_ c r).map fun p => (x :: p.1, p.2) := by
 rw [Ad.at_, if_neg h]
theorem at_long {c : UInt8} : ∀ {l m : List UInt8}, (∀ x ∈ l, x ≠ c) → Ad.at_ c (l ++ m) = (Ad.at_ c m).map fun p => (l ++ p.1, p.2)
 | [], m, _ => by rw [List.nil_append]; cases Ad.at_ c m <;> rfl
 | x :: l, m, h => by
  rw [List.cons_append, at_cons_ne (h x (List.mem_cons_self ..)), at_long (l := l) (m := m) fun y hy => h y (List.mem_cons_of_mem _ hy)]
  cases Ad.at_ c m <;> rfl
theorem prog_eq (l : List UInt8) : progP l = Ad.refP gnF l := by
 cases l with
 | nil => rfl
 | cons x m =>
  by_cases hx : x = 91
  ·subst hx
   have e1 : Ad.refP gnF (91 :: m) = match Ad.at_ 93 m with
    | none => none
    | some (a, r) => if gnF a = true ∧ (Ad.at_ 33 r).isSome = true then Ad.sheetP gnF a r else none := rfl
   rw [e1]
   unfold progP
   rw [at_cons_ne (show (91 : UInt8) ≠ 33 by decide)]
   cases h3 : Ad.at_ 33 m with
   | none =>
    simp only [Option.map_none]
    rw [cell_br]
    cases h9 : Ad.at_ 93 m with
    | none => rfl
    | some p =>
     obtain ⟨a, r⟩ := p
     have e2 := (Ad.at_some h9).1
     have : Ad.at_ 33 r = none := by
      by_cases ha : 33 ∈ a
      ·exfalso
       rw [e2] at h3
       have key : ∀ l : List UInt8, (33 : UInt8) ∈ l → Ad.at_ 33 l ≠ none := by
        intro l
        induction l with
        | nil => intro h; cases h
        | cons y q ih =>
         intro h e
         unfold Ad.at_ at e
         by_cases hy : y = 33
         ·rw [if_pos hy] at e; cases e
         ·rw [if_neg hy] at e
          rcases List.mem_cons.1 h with h | h
          ·exact hy h.symm
          ·cases hq : Ad.at_ 33 q with
           | none => exact ih h hq
           | some z => rw [hq] at e; cases e
       exact key _ (List.mem_append_left _ ha) h3
      ·rw [e2, at_long (c := 33) (l := a) (fun y hy e => ha (by rw [← e]; exact hy)), at_cons_ne (show (93 : UInt8) ≠ 33 by decide)] at h3
       cases hr : Ad.at_ 33 r with
       | none => rfl
       | some z => rw [hr] at h3; cases h3
     simp only [this]
     rw [if_neg (by simp)]
     rfl
   | some p =>
    obtain ⟨a', rest⟩ := p
    obtain ⟨e2, n2⟩ := Ad.at_some h3
    simp only [Option.map_some]
    have es : Ad.strip 91 (91 :: a') = (true, a') := Ad.strip_yes 91 a'
    unfold nmsF
    rw [es]
    simp only [if_true]
    cases h9 : Ad.at_ 93 a' with
    | none =>
     rw [cutF_none h9]
     simp only [gn_nil, Bool.and_false, Bool.false_eq_true, if_false]
     cases hm : Ad.at_ 93 m with
     | none => rfl
     | some q =>
      obtain ⟨a, r⟩ := q
      have h33 : 33 ∈ a := by
       rw [e2] at hm
       have nA : ∀ x ∈ a', x ≠ 93 := by
        intro x hx e
        subst e
        have key : ∀ l : List UInt8, (93 : UInt8) ∈ l → Ad.at_ 93 l ≠ none := by
         intro l
         induction l with
         | nil => intro h; cases h
         | cons y q ih =>
          intro h e
          unfold Ad.at_ at e
          by_cases hy : y = 93
          ·rw [if_pos hy] at e; cases e
          ·rw [if_neg hy] at e
           rcases List.mem_cons.1 h with h | h
           ·exact hy h.symm
           ·cases hq : Ad.at_ 93 q with
            | none => exact ih h hq
            | some z => rw [hq] at e; cases e
        exact key _ hx h9
       rw [at_long nA, at_cons_ne (show (33 : UInt8) ≠ 93 by decide)] at hm
       cases hr : Ad.at_ 93 rest with
       | none => rw [hr] at hm; cases hm
       | some z =>
        rw [hr] at hm
        simp only [Option.map_some, Option.some.injEq, Prod.mk.injEq] at hm
        rw [← hm.1]
        exact List.mem_append_right _ (List.mem_cons_self ..)
      simp only [gn_no33 h33, Bool.false_eq_true, false_and, if_false]
    | some q =>
     obtain ⟨b, s'⟩ := q
     obtain ⟨e3, n3⟩ := Ad.at_some h9
     rw [cutF_some h9]
     have hm : Ad.at_ 93 m = some (b, s' ++ 33 :: rest) := by
      rw [e2, e3, List.append_assoc, List.cons_append]
      exact Ad.at_app _ n3
     have hs : Ad.at_ 33 (s' ++ 33 :: rest) = some (s', rest) := Ad.at_app _ fun y hy => n2 y (by rw [e3]; exact List.mem_append_right _ (List.mem_cons_of_mem _ hy))
     rw [hm]
     simp only [hs]
     unfold Ad.sheetP
     simp only [hs]
     cases gnF b <;> cases gnF s' <;> simp
  ·rw [Ad.refP_plain (by simpa using hx)]
   unfold progP Ad.sheetP
   cases h3 : Ad.at_ 33 (x :: m) with
   | none => rfl
   | some p =>
    obtain ⟨a, r⟩ := p
    obtain ⟨e2, n2⟩ := Ad.at_some h3
    have es : nmsF a = ([], a, gnF a) := by
     unfold nmsF
     have : (Ad.strip 91 a).1 = false := by
      cases a with
      | nil => rfl
      | cons y q =>
       simp only [List.cons_append, List.cons.injEq] at e2
       rw [Ad.strip_cons, if_neg (by rw [← e2.1]; exact hx)]
     rw [this]
     rfl
    simp only [es]
theorem at_some_len {c : UInt8} {l a b : List UInt8} (h : Ad.at_ c l = some (a, b)) : a.length + b.length + 1 = l.length := by
 rw [(Ad.at_some h).1]
 simp
 omega
theorem pn_plain {A A1 : ByteArray} {g : Bool} {w : World} (CP : ∀ u, Calls Tryz.prog 73 #[.string A, .string ⟨#[91]⟩] u fun e w' => e = .returned (.tuple #[.string A1, .bool false]) ∧ w' = u) (GN : RC w 76 #[.string A] (.bool g)) :
  Calls Tryz.prog 266 #[.string A] w fun e w' => e = .returned (.tuple #[.string ⟨#[]⟩, .string A, .bool g]) ∧ Below w.heap.size w w' := by
 have HB0 : Hid (Below w.heap.size w w) := Below.refl _ _
 go_enter Tryz.func266, Tryz.ntmps266
 go_wp2_with (first | (go_at_call 73; refine (CP _).mono ?_; rintro e w' ⟨rfl, hw⟩; obtain rfl := hw.symm; clear hw) | (go_at_call 76; refine (GN _ HB0.out).mono ?_; rintro e w1 ⟨rfl, hb⟩; have HB1 : Hid (Below w.heap.size w w1) := hb; clear hb))
 go_ret3
 exact ⟨rfl, HB1.out⟩
theorem pn_book {A A1 B S : ByteArray} {x g h : Bool} {w : World} (CP : ∀ u, Calls Tryz.prog 73 #[.string A, .string ⟨#[91]⟩] u fun e w' => e = .returned (.tuple #[.string A1, .bool true]) ∧ w' = u)
  (CU : RC w 247 #[.string A1, .string ⟨#[93]⟩] (.tuple #[.string B, .string S, .bool x])) (GB : RC w 76 #[.string B] (.bool g)) (GS : RC w 76 #[.string S] (.bool h)) :
  Calls Tryz.prog 266 #[.string A] w fun e w' => e = .returned (.tuple #[.string B, .string S, .bool (g && h)]) ∧ Below w.heap.size w w' := by
 have HB0 : Hid (Below w.heap.size w w) := Below.refl _ _
 cases g
 ·go_enter Tryz.func266, Tryz.ntmps266
  go_wp2_with (first | (go_at_call 73; refine (CP _).mono ?_; rintro e w' ⟨rfl, hw⟩; obtain rfl := hw.symm; clear hw) | (go_at_call 247; refine (CU _ HB0.out).mono ?_; rintro e w1 ⟨rfl, hb⟩; have HB1 : Hid (Below w.heap.size w w1) := hb; clear hb) | (go_at_call_of 76 B; refine (GB _ HB1.out).mono ?_; rintro e w2 ⟨rfl, hb⟩; have HB2 : Hid (Below w.heap.size w w2) := hb; clear hb))
  go_ret3
  exact ⟨rfl, HB2.out⟩
 ·go_enter Tryz.func266, Tryz.ntmps266
  go_wp2_with (first | (go_at_call 73; refine (CP _).mono ?_; rintro e w' ⟨rfl, hw⟩; obtain rfl := hw.symm; clear hw) | (go_at_call 247; refine (CU _ HB0.out).mono ?_; rintro e w1 ⟨rfl, hb⟩; have HB1 : Hid (Below w.heap.size w w1) := hb; clear hb) | (go_at_call_of 76 B; refine (GB _ HB1.out).mono ?_; rintro e w2 ⟨rfl, hb⟩; have HB2 : Hid (Below w.heap.size w w2) := hb; clear hb) | (go_at_call_of 76 S; refine (GS _ HB2.out).mono ?_; rintro e w3 ⟨rfl, hb⟩; have HB3 : Hid (Below w.heap.size w w3) := hb; clear hb))
  go_ret3
  exact ⟨rfl, HB3.out⟩
theorem gname_list (l : List UInt8) (hl : l.length ≤ 140737488355328) (w : World) (T : Tab8 w) : RC w 76 #[.string ⟨l.toArray⟩] (.bool (gnF l)) :=
 RC.of fun u hu => goodname_any ⟨l.toArray⟩ (by rw [size_mk]; omega) u (T.t.below hu)
theorem cutF_len (c : UInt8) (l : List UInt8) : (cutF c l).1.length ≤ l.length ∧ (cutF c l).2.1.length ≤ l.length := by
 cases h : Ad.at_ c l with
 | none => rw [cutF_none h]; simp
 | some p =>
  obtain ⟨a, b⟩ := p
  have := at_some_len h
  rw [cutF_some h]
  simp only
  omega
theorem names_any8 (l : List UInt8) (hl : l.length ≤ 140737488355328) (w : World) (T : Tab8 w) :
  Calls Tryz.prog 266 #[.string ⟨l.toArray⟩] w fun e w' => e = .returned (.tuple #[.string ⟨(nmsF l).1.toArray⟩, .string ⟨(nmsF l).2.1.toArray⟩, .bool (nmsF l).2.2]) ∧ Below w.heap.size w w' := by
 have CP := fun u => strip_any 91 l u
 have hs := Ad.strip_len 91 l
 unfold nmsF
 cases hx : (Ad.strip 91 l).1
 ·rw [hx] at CP
  exact pn_plain CP (gname_list l hl w T)
 ·rw [hx] at CP hs
  rw [if_pos rfl]
  have hl2 := cutF_len 93 (Ad.strip 91 l).2
  have g1 := gname_list (cutF 93 (Ad.strip 91 l).2).1 (by omega) w T
  have g2 := gname_list (cutF 93 (Ad.strip 91 l).2).2.1 (by omega) w T
  exact pn_book CP (RC.of fun u hu => cutc_any 93 (Ad.strip 91 l).2 u (by omega)) g1 g2
theorem pr_plain {A N X : ByteArray} {o : Option Ad.Cell} {w : World} (CU : RC (w.alloc ref0O) 247 #[.string A, .string ⟨#[33]⟩] (.tuple #[.string N, .string X, .bool false]))
  (PC : ∀ u, Below w.heap.size w u → Calls Tryz.prog 233 #[.string A] u fun e w' => e = .returned (.tuple #[cellR o, .bool o.isSome]) ∧ Below u.heap.size u w') :
  Calls Tryz.prog 232 #[.string A] w fun e w' => e = .returned (.tuple #[cellR o, .bool o.isSome]) ∧ Below w.heap.size w w' := by
 have HB0 : Hid (Below (w.alloc ref0O).heap.size (w.alloc ref0O) (w.alloc ref0O)) := Below.refl _ _
 cases o with
 | none =>
  go_enter Tryz.func232, Tryz.ntmps232
  go_wp2_with (go_at_call 247; refine (CU _ HB0.out).mono ?_; rintro e w1 ⟨rfl, hb⟩; have HB1 : Hid (Below (w.alloc ref0O).heap.size (w.alloc ref0O) w1) := hb; clear hb)
  refine (PC _ (bel1 HB1.out)).mono ?_
  rintro e w2 ⟨rfl, hb⟩
  have z1 := (hb.block _ (lt_of (new1 HB1.out))).trans (new1 HB1.out)
  have Z1 : Hid (w2.heap[w.heap.size]? = some ref0O) := z1
  have HB2 : Hid (Below w.heap.size w w2) := bel_step (bel1 HB1.out) hb
  obtain ⟨d0, d1, d2, d3, d4, d5⟩ := r_cells z1
  obtain ⟨e0, e1, e2, e3, e4, e5⟩ := r_free z1
  clear z1 hb
  unfold cellR
  go_wp2
  exact bodyPost_ret (res_ref rfl rfl (set6 Z1.out) rfl) rfl ⟨rfl, bel_set6 HB2.out (Nat.le_refl _)⟩
 | some c =>
  go_enter Tryz.func232, Tryz.ntmps232
  go_wp2_with (go_at_call 247; refine (CU _ HB0.out).mono ?_; rintro e w1 ⟨rfl, hb⟩; have HB1 : Hid (Below (w.alloc ref0O).heap.size (w.alloc ref0O) w1) := hb; clear hb)
  refine (PC _ (bel1 HB1.out)).mono ?_
  rintro e w2 ⟨rfl, hb⟩
  have z1 := (hb.block _ (lt_of (new1 HB1.out))).trans (new1 HB1.out)
  have Z1 : Hid (w2.heap[w.heap.size]? = some ref0O) := z1
  have HB2 : Hid (Below w.heap.size w w2) := bel_step (bel1 HB1.out) hb
  obtain ⟨d0, d1, d2, d3, d4, d5⟩ := r_cells z1
  obtain ⟨e0, e1, e2, e3, e4, e5⟩ := r_free z1
  clear z1 hb
  unfold cellR
  go_wp2
  exact bodyPost_ret (res_ref rfl rfl (set6 Z1.out) rfl) rfl ⟨rfl, bel_set6 HB2.out (Nat.le_refl _)⟩
theorem kept_new {u : World} {g : Nat} {o : Obj} (h : u.heap[g]? = some o) (p : Obj) : (u.alloc p).heap[g]? = some o := (Below.heap_alloc u p _ (lt_of h)).trans h
theorem pr_no {A N X B S : ByteArray} {g k : Bool} {b s : ByteArray} {r c : Int} {fr fc : Bool} {w : World} (CU : RC (w.alloc ref0O) 247 #[.string A, .string ⟨#[33]⟩] (.tuple #[.string N, .string X, .bool true]))
  (NM : RC (w.alloc ref0O) 266 #[.string N] (.tuple #[.string B, .string S, .bool g])) (PC : ∀ u, Below w.heap.size w u → Calls Tryz.prog 233 #[.string X] u fun e w' => e = .returned (.tuple #[refV b s r c fr fc, .bool k]) ∧ Below u.heap.size u w') (hk : (g && k) = false) :
  Calls Tryz.prog 232 #[.string A] w fun e w' => e = .returned (.tuple #[ref0, .bool false]) ∧ Below w.heap.size w w' := by
 have HB0 : Hid (Below (w.alloc ref0O).heap.size (w.alloc ref0O) (w.alloc ref0O)) := Below.refl _ _
 cases g
 all_goals
  try (obtain rfl : k = false := hk)
  go_enter Tryz.func232, Tryz.ntmps232
  go_wp2_with (first | (go_at_call 247; refine (CU _ HB0.out).mono ?_; rintro e w1 ⟨rfl, hb⟩; have HB1 : Hid (Below (w.alloc ref0O).heap.size (w.alloc ref0O) w1) := hb; clear hb) | (go_at_call 266; refine (NM _ HB1.out).mono ?_; rintro e w2 ⟨rfl, hb⟩; have HB2 : Hid (Below (w.alloc ref0O).heap.size (w.alloc ref0O) w2) := hb; clear hb))
  refine (PC _ (bel1 HB2.out)).mono ?_
  rintro e w3 ⟨rfl, hb⟩
  have z1 := (hb.block _ (lt_of (new1 HB2.out))).trans (new1 HB2.out)
  have HB3 : Hid (Below w.heap.size w (w3.alloc (refO b s r c fr fc))) := bel_alloc (bel_step (bel1 HB2.out) hb) _
  have Z1 : Hid ((w3.alloc (refO b s r c fr fc)).heap[w.heap.size]? = some ref0O) := kept_new z1 _
  obtain ⟨d0, d1, d2, d3, d4, d5⟩ := r_cells Z1.out
  obtain ⟨e0, e1, e2, e3, e4, e5⟩ := r_free Z1.out
  clear z1 hb
  go_wp2
  exact bodyPost_ret (res_ref rfl rfl (set6 Z1.out) rfl) rfl ⟨rfl, bel_set6 HB3.out (Nat.le_refl _)⟩
theorem pr_yes {A N X B S : ByteArray} {b s : ByteArray} {r c : Int} {fr fc : Bool} {w : World} (CU : RC (w.alloc ref0O) 247 #[.string A, .string ⟨#[33]⟩] (.tuple #[.string N, .string X, .bool true]))
  (NM : RC (w.alloc ref0O) 266 #[.string N] (.tuple #[.string B, .string S, .bool true])) (PC : ∀ u, Below w.heap.size w u → Calls Tryz.prog 233 #[.string X] u fun e w' => e = .returned (.tuple #[refV b s r c fr fc, .bool true]) ∧ Below u.heap.size u w') :
  Calls Tryz.prog 232 #[.string A] w fun e w' => e = .returned (.tuple #[refV B S r c fr fc, .bool true]) ∧ Below w.heap.size w w' := by
 have HB0 : Hid (Below (w.alloc ref0O).heap.size (w.alloc ref0O) (w.alloc ref0O)) := Below.refl _ _
 go_enter Tryz.func232, Tryz.ntmps232
 go_wp2_with (first | (go_at_call 247; refine (CU _ HB0.out).mono ?_; rintro e w1 ⟨rfl, hb⟩; have HB1 : Hid (Below (w.alloc ref0O).heap.size (w.alloc ref0O) w1) := hb; clear hb) | (go_at_call 266; refine (NM _ HB1.out).mono ?_; rintro e w2 ⟨rfl, hb⟩; have HB2 : Hid (Below (w.alloc ref0O).heap.size (w.alloc ref0O) w2) := hb; clear hb))
 refine (PC _ (bel1 HB2.out)).mono ?_
 rintro e w3 ⟨rfl, hb⟩
 have z1 := (hb.block _ (lt_of (new1 HB2.out))).trans (new1 HB2.out)
 have HB3 : Hid (Below w.heap.size w (w3.alloc (refO B S r c fr fc))) := bel_alloc (bel_step (bel1 HB2.out) hb) _
 have Z1 : Hid ((w3.alloc (refO B S r c fr fc)).heap[w.heap.size]? = some ref0O) := kept_new z1 _
 obtain ⟨d0, d1, d2, d3, d4, d5⟩ := r_cells Z1.out
 obtain ⟨e0, e1, e2, e3, e4, e5⟩ := r_free Z1.out
 clear z1 hb
 go_wp2
 exact bodyPost_ret (res_ref rfl rfl (set6 Z1.out) rfl) rfl ⟨rfl, bel_set6 HB3.out (Nat.le_refl _)⟩
theorem parseref_any (l : List UInt8) (hl : l.length ≤ 140737488355328) (w : World) (T : Tab8 w) :
  Calls Tryz.prog 232 #[.string ⟨l.toArray⟩] w fun e w' => e = .returned (.tuple #[refR (Ad.refP gnF l), .bool (Ad.refP gnF l).isSome]) ∧ Below w.heap.size w w' := by
 rw [← prog_eq]
 unfold progP
 have CU : RC (w.alloc ref0O) 247 #[.string ⟨l.toArray⟩, .string ⟨#[33]⟩] _ := RC.of fun u hu => cutc_any 33 l u (by omega)
 have T1 : Tab8 (w.alloc ref0O) := T.below (bel_alloc (Below.refl _ _) _)
 cases h : Ad.at_ 33 l with
 | none =>
  rw [cutF_none h] at CU
  have := pr_plain (o := Ad.cellP l) CU fun u hu => parsecell_any l hl u (T.below hu)
  cases hc : Ad.cellP l with
  | none => rw [hc] at this; exact this
  | some c => rw [hc] at this; exact this
 | some p =>
  obtain ⟨a, x⟩ := p
  have hlen := at_some_len h
  rw [cutF_some h] at CU
  have NM : RC (w.alloc ref0O) 266 #[.string ⟨a.toArray⟩] _ := RC.of fun u hu => names_any8 a (by omega) u (T1.below hu)
  have PC := fun u (hu : Below w.heap.size w u) => parsecell_any x (by omega) u (T.below hu)
  simp only
  cases hg : (nmsF a).2.2
  ·rw [hg] at NM
   simp only [Bool.false_eq_true, if_false]
   cases hc : Ad.cellP x with
   | none => rw [hc] at PC; exact pr_no CU NM PC rfl
   | some c => rw [hc] at PC; exact pr_no CU NM PC rfl
  ·rw [hg] at NM
   simp only [if_true]
   cases hc : Ad.cellP x with
   | none => rw [hc] at PC; exact pr_no CU NM PC rfl
   | some c => rw [hc] at PC; exact pr_yes CU NM PC
abbrev CB (w : World) (f : Nat) (args : Array Value) (r : Value) : Prop := ∀ u, Below w.heap.size w u → Calls Tryz.prog f args u fun e w' => e = .returned r ∧ Below u.heap.size u w'
abbrev CS (f : Nat) (args : Array Value) (r : Value) : Prop := ∀ u, Calls Tryz.prog f args u fun e w' => e = .returned r ∧ w' = u
end Go.Proofs.YtnibldnfbikipaaGreatDoor
