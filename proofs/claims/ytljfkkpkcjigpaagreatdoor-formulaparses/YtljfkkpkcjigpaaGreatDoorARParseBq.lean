/- APrint2, ARow, AParse, AParse2, ARParse, ARParseB. -/
import Derived.Test.YtljfkkpkcjigpaaGreatDoorARCellq
set_option linter.unusedVariables false
set_option linter.unusedSimpArgs false
namespace Go.Proofs.YtljfkkpkcjigpaaGreatDoor
open Go.RowKit
set_option maxRecDepth 100000
def refT (b s : ByteArray) (R C : Nat) (fr fc : Bool) : ByteArray := ⟨(Ad.refW ⟨b.data.toList, s.data.toList, ⟨R, C, fr, fc⟩⟩).toArray⟩
def prB (b s : ByteArray) (r c : Int) (fr fc : Bool) : ByteArray := if goodB b s r c = true then refT b s r.toNat c.toNat fr fc else ⟨#[]⟩
theorem gn_size {s : ByteArray} (h : gnF s.data.toList = true) : s.size ≤ 16 := by
  unfold gnF at h
  simp only [Bool.and_eq_true] at h
  rw [← size_list]
  exact (sp_parts h.1.1).1
theorem good_yes {b s : ByteArray} {r c : Int} (h : goodB b s r c = true) : ∃ R C : Nat, r = R ∧ c = C ∧ 1 ≤ R ∧ R ≤ 64 ∧ 1 ≤ C ∧ C ≤ 26 ∧
    ((s.toList = [] ∧ b.toList = []) ∨ ((s.toList == []) = false ∧ gnF s.data.toList = true ∧ b.toList = []) ∨ ((s.toList == []) = false ∧ gnF s.data.toList = true ∧ (b.toList == []) = false ∧ gnF b.data.toList = true)) := by
  rcases good_ways b s r c with ⟨_, h2⟩ | ⟨h1, h3, h4, _⟩ | ⟨_, _, _, h2⟩ | ⟨_, _, _, h2⟩ | ⟨h1, h3, h4, h5, h2⟩ | ⟨h1, h3, h4, h5, h2⟩
  · rw [h] at h2; cases h2
  · obtain ⟨R, C, e1, e2, q1, q2, q3, q4⟩ := in_yes h1
    exact ⟨R, C, e1, e2, q1, q2, q3, q4, .inl ⟨h3, h4⟩⟩
  · rw [h] at h2; cases h2
  · rw [h] at h2; cases h2
  · obtain ⟨R, C, e1, e2, q1, q2, q3, q4⟩ := in_yes h1
    exact ⟨R, C, e1, e2, q1, q2, q3, q4, .inr (.inl ⟨h3, h4, h5⟩)⟩
  · obtain ⟨R, C, e1, e2, q1, q2, q3, q4⟩ := in_yes h1
    exact ⟨R, C, e1, e2, q1, q2, q3, q4, .inr (.inr ⟨h3, h4, h5, h2.symm.trans h⟩)⟩
theorem nil_data {s : ByteArray} (h : s.toList = []) : s.data.toList = [] := by rw [← ByteArray.toList_eq]; exact h
theorem ne_data {s : ByteArray} (h : (s.toList == []) = false) : ¬ s.data.toList = [] := by
  rw [← ByteArray.toList_eq]
  simpa using h
theorem refT_ways {b s : ByteArray} {R C : Nat} {fr fc : Bool} (hw : (s.toList = [] ∧ b.toList = []) ∨ ((s.toList == []) = false ∧ gnF s.data.toList = true ∧ b.toList = []) ∨ ((s.toList == []) = false ∧ gnF s.data.toList = true ∧ (b.toList == []) = false ∧ gnF b.data.toList = true)) :
    (s.toList = [] ∧ b.toList = [] ∧ refT b s R C fr fc = cellB R C fr fc) ∨ ((s.toList == []) = false ∧ s.size ≤ 16 ∧ b.toList = [] ∧ refT b s R C fr fc = s ++ ⟨#[33]⟩ ++ cellB R C fr fc) ∨ ((s.toList == []) = false ∧ s.size ≤ 16 ∧ (b.toList == []) = false ∧ b.size ≤ 16 ∧ refT b s R C fr fc = (⟨#[91]⟩ : ByteArray) ++ b ++ ⟨#[93]⟩ ++ (s ++ ⟨#[33]⟩ ++ cellB R C fr fc)) := by
  unfold refT Ad.refW cellB
  rcases hw with ⟨h1, h2⟩ | ⟨h1, h3, h2⟩ | ⟨h1, h3, h2, h4⟩
  · left
    refine ⟨h1, h2, ?_⟩
    simp only [nil_data h1, nil_data h2, if_true, List.nil_append]
  · right; left
    refine ⟨h1, gn_size h3, h2, ?_⟩
    simp only [nil_data h2, if_true, List.nil_append, if_neg (ne_data h1)]
    apply ByteArray.ext
    simp
  · right; right
    refine ⟨h1, gn_size h3, h2, gn_size h4, ?_⟩
    simp only [if_neg (ne_data h2), if_neg (ne_data h1)]
    apply ByteArray.ext
    simp
theorem cellB_size (R C : Nat) (fr fc : Bool) (h1 : 1 ≤ R) (h2 : R ≤ 64) : (cellB R C fr fc).size ≤ 5 := by
  rw [← cellB_eq]
  have z1 := dol_size fc
  have z2 := dol_size fr
  have z3 := dec_short R h2
  have z4 : (⟨#[Ad.colC C]⟩ : ByteArray).size = 1 := rfl
  simp only [ByteArray.size_append, z4]
  omega

set_option maxHeartbeats 4000000 in
theorem aprint_no {b s : ByteArray} {r c : Int} {fr fc : Bool} {w : World} (GD : RC (w.alloc (refO b s r c fr fc)) 92 #[refV b s r c fr fc] (.bool false)) :
    Calls Tryz.prog 109 #[refV b s r c fr fc] w fun e w' => e = .returned (.string ⟨#[]⟩) ∧ Below w.heap.size w w' := by
  have HB0 : Hid (Below (w.alloc (refO b s r c fr fc)).heap.size (w.alloc (refO b s r c fr fc)) (w.alloc (refO b s r c fr fc))) := Below.refl _ _
  go_enter Tryz.func109, Tryz.ntmps109
  go_wp2_with (go_at_call 92; refine (GD _ HB0.out).mono ?_; rintro e w1 ⟨rfl, hb⟩; have HB1 : Hid (Below (w.alloc (refO b s r c fr fc)).heap.size (w.alloc (refO b s r c fr fc)) w1) := hb; clear hb)
  go_ret
  exact ⟨rfl, bel1 HB1.out⟩
set_option maxHeartbeats 4000000 in
theorem aprint_core {b s X R : ByteArray} {r c : Int} {fr fc : Bool} {w : World} (GD : RC (w.alloc (refO b s r c fr fc)) 92 #[refV b s r c fr fc] (.bool true)) (CE : RC (w.alloc (refO b s r c fr fc)) 154 #[refV b s r c fr fc] (.string X)) (hX : X.size ≤ 5)
    (hw : (s.toList = [] ∧ b.toList = [] ∧ R = X) ∨ ((s.toList == []) = false ∧ s.size ≤ 16 ∧ b.toList = [] ∧ R = s ++ ⟨#[33]⟩ ++ X) ∨ ((s.toList == []) = false ∧ s.size ≤ 16 ∧ (b.toList == []) = false ∧ b.size ≤ 16 ∧ R = (⟨#[91]⟩ : ByteArray) ++ b ++ ⟨#[93]⟩ ++ (s ++ ⟨#[33]⟩ ++ X))) :
    Calls Tryz.prog 109 #[refV b s r c fr fc] w fun e w' => e = .returned (.string R) ∧ Below w.heap.size w w' := by
  have HB0 : Hid (Below (w.alloc (refO b s r c fr fc)).heap.size (w.alloc (refO b s r c fr fc)) (w.alloc (refO b s r c fr fc))) := Below.refl _ _
  have y1 : (⟨#[33]⟩ : ByteArray).size ≤ 1 := Nat.le_refl 1
  have y2 : (⟨#[91]⟩ : ByteArray).size ≤ 1 := Nat.le_refl 1
  have y3 : (⟨#[93]⟩ : ByteArray).size ≤ 1 := Nat.le_refl 1
  rcases hw with ⟨h1, h2, rfl⟩ | ⟨h1, h3, h2, rfl⟩ | ⟨h1, h3, h2, h4, rfl⟩
  all_goals
    go_enter Tryz.func109, Tryz.ntmps109
    go_wp2_with (first | (go_at_call 92; refine (GD _ HB0.out).mono ?_; rintro e w1 ⟨rfl, hb⟩; have HB1 : Hid (Below (w.alloc (refO b s r c fr fc)).heap.size (w.alloc (refO b s r c fr fc)) w1) := hb; clear hb; obtain ⟨c0, c1, c2, c3, c4, c5⟩ := r_cells (new1 HB1.out)) | (go_at_call 154; refine (CE _ HB1.out).mono ?_; rintro e w2 ⟨rfl, hb⟩; have HB2 : Hid (Below (w.alloc (refO b s r c fr fc)).heap.size (w.alloc (refO b s r c fr fc)) w2) := hb; clear hb; obtain ⟨d0, d1, d2, d3, d4, d5⟩ := r_cells (new1 HB2.out)))
    go_ret
    exact ⟨rfl, bel1 HB2.out⟩
theorem aprint_any (b s : ByteArray) (r c : Int) (fr fc : Bool) (hb : b.size ≤ 9223372036854775807) (hs : s.size ≤ 9223372036854775807) (w : World) (T : Tabs w) :
    Calls Tryz.prog 109 #[refV b s r c fr fc] w fun e w' => e = .returned (.string (prB b s r c fr fc)) ∧ Below w.heap.size w w' := by
  have GD : RC (w.alloc (refO b s r c fr fc)) 92 #[refV b s r c fr fc] _ := RC.of fun u hu => agood_any b s r c fr fc hb hs u (T.below (bel1 hu))
  unfold prB
  cases hg : goodB b s r c
  · rw [hg] at GD
    exact aprint_no GD
  · rw [hg] at GD
    obtain ⟨R, C, rfl, rfl, q1, q2, q3, q4, hw⟩ := good_yes hg
    have CE : RC (w.alloc (refO b s R C fr fc)) 154 #[refV b s R C fr fc] (.string (cellB R C fr fc)) := RC.of fun u hu => pcell_any b s R C fr fc q1 q2 q3 q4 u (T.below (bel1 hu))
    exact aprint_core GD CE (cellB_size R C fr fc q1 q2) (refT_ways hw)
end Go.Proofs.YtljfkkpkcjigpaaGreatDoor

namespace Go.Proofs.YtljfkkpkcjigpaaGreatDoor
open Go.RowKit
set_option maxRecDepth 100000
def Errs (w : World) : Prop := ∃ t1 p1 t2 p2, w.cell? ⟨6, 0, none⟩ = some (.iface t1 p1) ∧ w.cell? ⟨7, 0, none⟩ = some (.iface t2 p2)
theorem Errs.below {w w' : World} (h : Errs w) (hb : Below w.heap.size w w') : Errs w' := by
  obtain ⟨t1, p1, t2, p2, h1, h2⟩ := h
  exact ⟨t1, p1, t2, p2, (hb.cell (World.block_lt_of_cell? w _ h1)).trans h1, (hb.cell (World.block_lt_of_cell? w _ h2)).trans h2⟩
structure Tab8 (w : World) : Prop where
  t : Tabs w
  e : Errs w
theorem Tab8.below {w w' : World} (h : Tab8 w) (hb : Below w.heap.size w w') : Tab8 w' := ⟨h.t.below hb, h.e.below hb⟩
theorem itoaI_any (n : Int) (hn : In64 n) (w : World) (T : PTab w) :
    Calls Tryz.prog 150 #[.int .i64 n] w fun e w' => e = .returned (.string ⟨(Lib.itoa n).toArray⟩) ∧ Below w.heap.size w w' := by
  refine (Tryz.strconv_Itoa n hn.1 hn.2 w T).mono ?_
  rintro e w' ⟨rfl, k, os, rfl⟩
  exact ⟨rfl, grow_below w k os⟩
set_option maxHeartbeats 2000000 in
theorem prow_ok {s X : ByteArray} {v : Int} {w : World} (AT : Calls Tryz.prog 191 #[.string s] w fun e w' => e = .returned (.tuple #[.int .i64 v, .nilIface]) ∧ Below w.heap.size w w')
    (IT : RC w 150 #[.int .i64 v] (.string X)) {b : Bool} (hx : (X.toList == s.toList) = b) :
    Calls Tryz.prog 166 #[.string s] w fun e w' => e = .returned (.int .i64 (if b = true then v else 0)) ∧ Below w.heap.size w w' := by
  cases b
  all_goals
    go_enter Tryz.func166, Tryz.ntmps166
    go_wp2_with (first | (go_at_call 191; refine AT.mono ?_; rintro e w1 ⟨rfl, hb⟩; have HB : Hid (Below w.heap.size w w1) := hb; clear hb) | (go_at_call 150; refine (IT _ HB.out).mono ?_; rintro e w2 ⟨rfl, hb⟩; have HB2 : Hid (Below w.heap.size w w2) := hb; clear hb))
    go_ret
    exact ⟨rfl, HB2.out⟩
set_option maxHeartbeats 2000000 in
theorem prow_no {s : ByteArray} {v : Int} {w : World} (AT : Calls Tryz.prog 191 #[.string s] w fun e w' => ∃ N, e = .returned (.tuple #[.int .i64 v, .iface 199 (.pointer (some ⟨N, 0, none⟩))]) ∧ Below w.heap.size w w') :
    Calls Tryz.prog 166 #[.string s] w fun e w' => e = .returned (.int .i64 0) ∧ Below w.heap.size w w' := by
  go_enter Tryz.func166, Tryz.ntmps166
  go_wp2_with (go_at_call 191; refine AT.mono ?_; rintro e w1 ⟨N, rfl, hb⟩; have HB : Hid (Below w.heap.size w w1) := hb; clear hb)
  go_ret
  exact ⟨rfl, HB.out⟩
theorem bytesL (a b : ByteArray) : (a.toList == b.toList) = decide (a.data.toList = b.data.toList) := by
  rw [ByteArray.toList_eq, ByteArray.toList_eq, Bool.eq_iff_iff]
  simp
theorem parserow_any (l : List UInt8) (hl : l.length ≤ 140737488355328) (w : World) (T : Tab8 w) :
    Calls Tryz.prog 166 #[.string ⟨l.toArray⟩] w fun e w' => e = .returned (.int .i64 (Ad.rowA l)) ∧ Below w.heap.size w w' := by
  obtain ⟨t1, p1, t2, p2, h1, h2⟩ := T.e
  have hz : (⟨l.toArray⟩ : ByteArray).size ≤ 140737488355328 := by rw [size_mk]; exact hl
  unfold Ad.rowA
  cases ha : Lib.atoiAll l with
  | ok v =>
    have AT := Tryz.strconv_Atoi_ok ⟨l.toArray⟩ (by omega) v ha w
    have hv := Lib.atoiAll_bounds ha
    have := prow_ok (s := ⟨l.toArray⟩) (v := v) (w := w) (AT.mono fun e w' ⟨q1, q2⟩ => ⟨q1, by
      rcases q2 with rfl | ⟨t, rfl⟩
      · exact Below.refl _ _
      · exact Lib.bytesWorld_below _ _ _⟩) (RC.of fun u hu => itoaI_any v hv u (T.t.p.below hu)) (bytesL _ _)
    simp only [List.toList_toArray, decide_eq_true_eq] at this
    exact this
  | «syntax» =>
    exact prow_no ((Tryz.strconv_Atoi_syntax ⟨l.toArray⟩ (by omega) ha _ w h1 (.inr ⟨_, _, rfl⟩)).mono fun e w' ⟨N, q1, _, _, q2⟩ => ⟨N, q1, q2⟩)
  | range =>
    exact prow_no ((Tryz.strconv_Atoi_range ⟨l.toArray⟩ (by omega) ha _ w h2 (.inr ⟨_, _, rfl⟩)).mono fun e w' ⟨N, q1, _, _, q2⟩ => ⟨N, q1, q2⟩)
end Go.Proofs.YtljfkkpkcjigpaaGreatDoor

namespace Go.Proofs.YtljfkkpkcjigpaaGreatDoor
open Go.RowKit
set_option maxRecDepth 100000
abbrev ref0O : Obj := refO ⟨#[]⟩ ⟨#[]⟩ 0 0 false false
def cellR (o : Option Ad.Cell) : Value := match o with
  | none => ref0
  | some c => refV ⟨#[]⟩ ⟨#[]⟩ c.row c.col c.fr c.fc
section
variable {u : World} {g : Nat} {a b c d e f v : Value} {t : TypeId}
theorem set_2 (h : u.heap[g]? = some (.cells #[a, b, c, d, e, f] t (0, 0))) : (u.setCell ⟨g, 2, none⟩ v).heap[g]? = some (.cells #[a, b, v, d, e, f] t (0, 0)) := by
  simp [World.setCell, Array.getElem?_modify, h]
theorem set_3 (h : u.heap[g]? = some (.cells #[a, b, c, d, e, f] t (0, 0))) : (u.setCell ⟨g, 3, none⟩ v).heap[g]? = some (.cells #[a, b, c, v, e, f] t (0, 0)) := by
  simp [World.setCell, Array.getElem?_modify, h]
theorem set_4 (h : u.heap[g]? = some (.cells #[a, b, c, d, e, f] t (0, 0))) : (u.setCell ⟨g, 4, none⟩ v).heap[g]? = some (.cells #[a, b, c, d, v, f] t (0, 0)) := by
  simp [World.setCell, Array.getElem?_modify, h]
theorem set_o {j k : Nat} (hj : g ≠ j) : (u.setCell ⟨g, k, none⟩ v).heap[j]? = u.heap[j]? := by
  simp [World.setCell, Array.getElem?_modify, hj]
end
section
variable {u : World} {g : Nat} {a b c d e f a' b' c' d' e' f' : Value} {t : TypeId}
theorem set6 (h : u.heap[g]? = some (.cells #[a, b, c, d, e, f] t (0, 0))) : ((((((u.setCell ⟨g, 0, none⟩ a').setCell ⟨g, 1, none⟩ b').setCell ⟨g, 2, none⟩ c').setCell ⟨g, 3, none⟩ d').setCell ⟨g, 4, none⟩ e').setCell ⟨g, 5, none⟩ f').heap[g]? = some (.cells #[a', b', c', d', e', f'] t (0, 0)) := by
  simp [World.setCell, Array.getElem?_modify, h]
theorem bel_set6 {w : World} (h : Below w.heap.size w u) (hg : w.heap.size ≤ g) : Below w.heap.size w ((((((u.setCell ⟨g, 0, none⟩ a').setCell ⟨g, 1, none⟩ b').setCell ⟨g, 2, none⟩ c').setCell ⟨g, 3, none⟩ d').setCell ⟨g, 4, none⟩ e').setCell ⟨g, 5, none⟩ f') :=
  (((((h.setCell hg _).setCell hg _).setCell hg _).setCell hg _).setCell hg _).setCell hg _
end
theorem res_ref {fn : Func} {i j : Tmp} (hr : fn.results = #[.cell i 25, .tmp j]) {tmps : Array Value} {g : Nat} {wf : World} (hp : tmps.getD i undef = .pointer (some ⟨g, 0, none⟩)) {b s : ByteArray} {r c : Int} {fr fc ok : Bool}
    (h : wf.heap[g]? = some (refO b s r c fr fc)) (hj : tmps.getD j undef = .bool ok) : (results fn tmps).run Tryz.prog wf = .ok (.tuple #[refV b s r c fr fc, .bool ok]) wf := by
  obtain ⟨c0, c1, c2, c3, c4, c5⟩ := r_cells h
  simp only [Array.getD_eq_getD_getElem?] at hp hj
  simp [results, hr, hp, hj, go_sem, c0, c1, c2, c3, c4, c5]
set_option maxHeartbeats 2000000 in
theorem pc_empty {A A1 : ByteArray} {fc : Bool} {w : World} (CP : ∀ u, Calls Tryz.prog 157 #[.string A, .string ⟨#[36]⟩] u fun e w' => e = .returned (.tuple #[.string A1, .bool fc]) ∧ w' = u) (h0 : A1.toList = []) :
    Calls Tryz.prog 121 #[.string A] w fun e w' => e = .returned (.tuple #[ref0, .bool false]) ∧ Below w.heap.size w w' := by
  go_enter Tryz.func121, Tryz.ntmps121
  go_wp2_with (go_at_call 157; refine (CP _).mono ?_; rintro e w' ⟨rfl, hw⟩; obtain rfl := hw.symm; clear hw)
  refine bodyPost_ret (v := .tuple #[ref0, .bool false]) (by simp [results, Tryz.results121, go_sem]) rfl ?_
  refine ⟨rfl, ?_⟩
  repeat (first | exact Below.refl _ _ | refine Below.drew ?_ | refine bel_alloc ?_ _ | refine Below.setCell ?_ (by simp) _)
set_option maxHeartbeats 2000000 in
theorem pc_other {A A1 : ByteArray} {fc : Bool} {w : World} (CP : ∀ u, Calls Tryz.prog 157 #[.string A, .string ⟨#[36]⟩] u fun e w' => e = .returned (.tuple #[.string A1, .bool fc]) ∧ w' = u) (h0 : (A1.toList == []) = false) (hz : 0 < A1.size)
    (LT : ∀ u, Calls Tryz.prog 165 #[.int .u8 (A1[0].toNat : Nat)] u fun e w' => e = .returned (.bool false) ∧ w' = u) :
    Calls Tryz.prog 121 #[.string A] w fun e w' => e = .returned (.tuple #[ref0, .bool false]) ∧ Below w.heap.size w w' := by
  go_enter Tryz.func121, Tryz.ntmps121
  go_wp2_with (first | (go_at_call 157; refine (CP _).mono ?_; rintro e w' ⟨rfl, hw⟩; obtain rfl := hw.symm; clear hw) | (go_at_call 165; refine (LT _).mono ?_; rintro e w' ⟨rfl, hw⟩; obtain rfl := hw.symm; clear hw))
  refine bodyPost_ret (v := .tuple #[ref0, .bool false]) (by simp [results, Tryz.results121, go_sem]) rfl ?_
  refine ⟨rfl, ?_⟩
  repeat (first | exact Below.refl _ _ | refine Below.drew ?_ | refine bel_alloc ?_ _ | refine Below.setCell ?_ (by simp) _)
set_option maxHeartbeats 4000000 in
theorem pc_letter {A A1 U V Y A2 : ByteArray} {fc fr ok : Bool} {n C : Int} {w : World} (CP : ∀ u, Calls Tryz.prog 157 #[.string A, .string ⟨#[36]⟩] u fun e w' => e = .returned (.tuple #[.string A1, .bool fc]) ∧ w' = u) (h0 : (A1.toList == []) = false) (hz : 0 < A1.size)
    (LT : ∀ u, Calls Tryz.prog 165 #[.int .u8 (A1[0].toNat : Nat)] u fun e w' => e = .returned (.bool true) ∧ w' = u) (hU : A1.extract 0 1 = U) (hV : A1.extract 1 A1.size = V)
    (UP : ∀ u, Calls Tryz.prog 141 #[.string U] u fun e w' => e = .returned (.string Y) ∧ Below u.heap.size u w') (hY : 0 < Y.size) (hy1 : 65 ≤ (Y[0].toNat : Int)) (hy2 : (Y[0].toNat : Int) ≤ 90) (hC : (Y[0].toNat : Int) - 65 + 1 = C)
    (CQ : ∀ u, Calls Tryz.prog 157 #[.string V, .string ⟨#[36]⟩] u fun e w' => e = .returned (.tuple #[.string A2, .bool fr]) ∧ w' = u)
    (PR : ∀ u, Below w.heap.size w u → Calls Tryz.prog 166 #[.string A2] u fun e w' => e = .returned (.int .i64 n) ∧ Below u.heap.size u w') (IN : ∀ u, Calls Tryz.prog 136 #[.int .i64 n, .int .i64 C] u fun e w' => e = .returned (.bool ok) ∧ w' = u) :
    Calls Tryz.prog 121 #[.string A] w fun e w' => e = .returned (.tuple #[if ok = true then refV ⟨#[]⟩ ⟨#[]⟩ n C fr fc else ref0, .bool ok]) ∧ Below w.heap.size w w' := by
  have c1 : (1 : Int) ≤ A1.size := by omega
  go_enter Tryz.func121, Tryz.ntmps121
  go_wp2_with (go_at_call 157; refine (CP _).mono ?_; rintro e w' ⟨rfl, hw⟩; obtain rfl := hw.symm; clear hw)
  refine (LT _).mono ?_
  rintro e w' ⟨rfl, hw⟩
  obtain rfl := hw.symm
  clear hw
  go_wp2_with fail
  refine (UP _).mono ?_
  rintro e w1 ⟨rfl, hb⟩
  obtain ⟨z1, z2⟩ := new2 hb
  have HB1 : Hid (Below w.heap.size w w1) := bel2 hb
  have Z1 : Hid (w1.heap[w.heap.size]? = some ref0O ∧ w1.heap[w.heap.size + 1]? = some (refO ⟨#[]⟩ ⟨#[]⟩ 0 0 false fc)) := ⟨z1, z2⟩
  obtain ⟨c0, c1, c2, c3, c4, c5⟩ := r_cells z2
  obtain ⟨f0, f1, f2, f3, f4, f5⟩ := r_free z2
  clear hb z1 z2 UP LT CP
  go_wp2_with fail
  refine (CQ _).mono ?_
  rintro e w' ⟨rfl, hw⟩
  obtain rfl := hw.symm
  clear hw
  go_wp2_with fail
  clear c0 c1 c2 c3 c4 c5 f0 f1 f2 f3 f4 f5
  refine (PR _ ?hh).mono ?_
  case hh => exact (HB1.out.setCell (by simp) _).setCell (by simp) _
  rintro e w2 ⟨rfl, hb⟩
  have HB2 : Hid (Below w.heap.size w w2) := bel_step ((HB1.out.setCell (by simp) _).setCell (by simp) _) hb
  have y2 := (hb.block _ (lt_of (set_4 (set_3 Z1.out.2)))).trans (set_4 (set_3 Z1.out.2))
  have y1 := (hb.block w.heap.size (lt_of ((set_o (by omega)).trans ((set_o (by omega)).trans Z1.out.1)))).trans ((set_o (by omega)).trans ((set_o (by omega)).trans Z1.out.1))
  have YY : Hid (w2.heap[w.heap.size]? = some ref0O ∧ w2.heap[w.heap.size + 1]? = some (refO ⟨#[]⟩ ⟨#[]⟩ 0 C fr fc)) := ⟨y1, y2⟩
  obtain ⟨c0, c1, c2, c3, c4, c5⟩ := r_cells y2
  obtain ⟨f0, f1, f2, f3, f4, f5⟩ := r_free y2
  obtain ⟨d0, d1, d2, d3, d4, d5⟩ := r_cells y1
  obtain ⟨e0, e1, e2, e3, e4, e5⟩ := r_free y1
  clear hb y1 y2 Z1
  go_wp2_with fail
  refine (IN _).mono ?_
  rintro e w' ⟨rfl, hw⟩
  obtain rfl := hw.symm
  have x2 := set_2 (v := .int .i64 n) YY.out.2
  have x1 := (set_o (u := w2) (k := 2) (v := .int .i64 n) (g := w.heap.size + 1) (j := w.heap.size) (by omega)).trans YY.out.1
  have HB3 : Hid (Below w.heap.size w (w2.setCell ⟨w.heap.size + 1, 2, none⟩ (.int .i64 n))) := HB2.out.setCell (by simp) _
  clear hw c0 c1 c2 c3 c4 c5 f0 f1 f2 f3 f4 f5 d0 d1 d2 d3 d4 d5 e0 e1 e2 e3 e4 e5 YY HB2 HB1 IN PR CQ
  generalize w2.setCell ⟨w.heap.size + 1, 2, none⟩ (.int .i64 n) = w3 at *
  have XX : Hid (w3.heap[w.heap.size]? = some ref0O) := x1
  obtain ⟨c0, c1, c2, c3, c4, c5⟩ := r_cells x2
  obtain ⟨d0, d1, d2, d3, d4, d5⟩ := r_cells x1
  obtain ⟨e0, e1, e2, e3, e4, e5⟩ := r_free x1
  clear x1 x2
  cases ok
  · go_wp2
    exact bodyPost_ret (res_ref rfl rfl (set6 XX.out) rfl) rfl ⟨rfl, bel_set6 HB3.out (Nat.le_refl _)⟩
  · go_wp2
    exact bodyPost_ret (res_ref rfl rfl (set6 XX.out) rfl) rfl ⟨rfl, bel_set6 HB3.out (Nat.le_refl _)⟩
end Go.Proofs.YtljfkkpkcjigpaaGreatDoor

namespace Go.Proofs.YtljfkkpkcjigpaaGreatDoor
open Go.RowKit
set_option maxRecDepth 100000
theorem one_up (c : UInt8) (h : Ad.isL c = true) : 65 ≤ ((szB 97 65 c).toNat : Int) ∧ ((szB 97 65 c).toNat : Int) ≤ 90 ∧ ((szB 97 65 c).toNat : Int) - 65 + 1 = (Ad.colF c : Nat) := by
  unfold Ad.isL at h
  simp only [Bool.or_eq_true, Bool.and_eq_true, decide_eq_true_eq] at h
  unfold szB Ad.colF
  rcases h with h | h
  · rw [if_pos (by omega), if_pos (by omega), Ad.toNat_ofNat (by omega)]
    omega
  · rw [if_neg (by omega), if_neg (by omega)]
    omega
theorem up_one (c : UInt8) (u : World) : Calls Tryz.prog 141 #[.string ⟨#[c]⟩] u fun e w' => e = .returned (.string ⟨#[szB 97 65 c]⟩) ∧ Below u.heap.size u w' := up_any ⟨#[c]⟩ (by show 1 ≤ _; decide) u
theorem rup_one (c : UInt8) (u : World) : Calls Tryz.prog 101 #[.string ⟨#[c]⟩] u fun e w' => e = .returned (.string ⟨#[szB 97 65 c]⟩) ∧ Below u.heap.size u w' := rup_any ⟨#[c]⟩ (by show 1 ≤ _; decide) u
theorem cons_facts (c : UInt8) (r : List UInt8) : (⟨(c :: r).toArray⟩ : ByteArray).extract 0 1 = ⟨#[c]⟩ ∧ (⟨(c :: r).toArray⟩ : ByteArray).extract 1 (⟨(c :: r).toArray⟩ : ByteArray).size = ⟨r.toArray⟩ ∧ ((⟨(c :: r).toArray⟩ : ByteArray).toList == []) = false ∧ 0 < (⟨(c :: r).toArray⟩ : ByteArray).size := by
  refine ⟨?_, ?_, ?_, ?_⟩
  · apply ByteArray.ext
    simp
  · exact drop_mk (c :: r)
  · rw [ByteArray.toList_eq]; rfl
  · rw [size_mk]; simp
theorem inB_row (n : Int) (c : Nat) (h1 : 1 ≤ c) (h2 : c ≤ 26) : inB n c = true ↔ Ad.rowIn n := by
  unfold inB Ad.rowIn
  simp only [Bool.and_eq_true, decide_eq_true_eq]
  omega
theorem parsecell_any (l : List UInt8) (hl : l.length ≤ 140737488355328) (w : World) (T : Tab8 w) :
    Calls Tryz.prog 121 #[.string ⟨l.toArray⟩] w fun e w' => e = .returned (.tuple #[cellR (Ad.cellP l), .bool (Ad.cellP l).isSome]) ∧ Below w.heap.size w w' := by
  have CP := fun u => strip_any 36 l u
  have hlen := Ad.strip_len 36 l
  unfold Ad.cellP
  cases hs : (Ad.strip 36 l).2 with
  | nil =>
    rw [hs] at CP
    exact pc_empty CP (by rw [ByteArray.toList_eq])
  | cons c r =>
    rw [hs] at CP hlen
    obtain ⟨k1, k2, k3, k4⟩ := cons_facts c r
    simp only
    unfold Ad.restF
    cases hL : Ad.isL c
    · have LT := fun u => letter_any c u
      rw [hL] at LT
      rw [if_neg (by simp)]
      exact pc_other CP k3 k4 LT
    · have LT := fun u => letter_any c u
      rw [hL] at LT
      obtain ⟨b1, b2, _⟩ := Ad.colF_bd hL
      obtain ⟨y1, y2, y3⟩ := one_up c hL
      have hlr := Ad.strip_len 36 r
      have W : ∀ ok, inB (Ad.rowA (Ad.strip 36 r).2) (Ad.colF c : Nat) = ok → _ := fun ok hok => pc_letter (w := w) (ok := ok) CP k3 k4 LT k1 k2 (fun u => up_one c u) (show 0 < 1 by decide) y1 y2 y3 (fun u => strip_any 36 r u) (fun u hu => parserow_any (Ad.strip 36 r).2 (by simp only [List.length_cons] at hlen; omega) u (T.below hu)) (fun u => by have := in_any (Ad.rowA (Ad.strip 36 r).2) (Ad.colF c : Nat) u; rw [hok] at this; exact this)
      rcases Ad.row_ways (Ad.strip 36 r).2 with ⟨h1, h2⟩ | ⟨h1, h2⟩
      · have hx := W true ((inB_row _ _ b1 b2).2 h1)
        rw [h2] at hx h1
        unfold Ad.rowIn at h1
        rw [if_pos ⟨rfl, by omega, by omega⟩]
        exact hx
      · have hx := W false (by
          cases hb : inB (Ad.rowA (Ad.strip 36 r).2) (Ad.colF c : Nat)
          · rfl
          · exact absurd ((inB_row _ _ b1 b2).1 hb) h1)
        rw [if_neg (fun q => h2 q.2)]
        exact hx
end Go.Proofs.YtljfkkpkcjigpaaGreatDoor

namespace Go.Proofs.YtljfkkpkcjigpaaGreatDoor
open Go.RowKit
set_option maxRecDepth 100000
def Cut36 (f : Bool) (A A1 : ByteArray) (h : 0 < A.size) : Prop := (f = true ∧ ((A[0].toNat : Int) == 36) = true ∧ A.extract 1 A.size = A1) ∨ (f = false ∧ ((A[0].toNat : Int) == 36) = false ∧ A = A1)
set_option maxHeartbeats 2000000 in
theorem rp_nil {A : ByteArray} {w : World} (h0 : A.size = 0) :
    Calls Tryz.prog 130 #[.string A] w fun e w' => e = .returned (.tuple #[ref0, .bool false]) ∧ Below w.heap.size w w' := by
  have c1 : ¬ (0 : Int) < A.size := by omega
  have c2 : (A.size : Int) < 2 := by omega
  go_enter Tryz.func130, Tryz.ntmps130
  go_wp2
  refine bodyPost_ret (v := .tuple #[ref0, .bool false]) (by simp [results, Tryz.results130, go_sem]) rfl ?_
  refine ⟨rfl, ?_⟩
  repeat (first | exact Below.refl _ _ | refine Below.drew ?_ | refine bel_alloc ?_ _ | refine Below.setCell ?_ (by simp) _)
set_option maxHeartbeats 2000000 in
theorem rp_short {A A1 : ByteArray} {fc : Bool} {w : World} (hz : 0 < A.size) (hA : Cut36 fc A A1 hz) (h2 : A1.size < 2) :
    Calls Tryz.prog 130 #[.string A] w fun e w' => e = .returned (.tuple #[ref0, .bool false]) ∧ Below w.heap.size w w' := by
  have c1 : (0 : Int) < A.size := by omega
  have c3 : (1 : Int) ≤ A.size := by omega
  have c2 : (A1.size : Int) < 2 := by omega
  rcases hA with ⟨rfl, h3, h4⟩ | ⟨rfl, h3, rfl⟩
  all_goals
    go_enter Tryz.func130, Tryz.ntmps130
    go_wp2
    refine bodyPost_ret (v := .tuple #[ref0, .bool false]) (by simp [results, Tryz.results130, go_sem]) rfl ?_
    refine ⟨rfl, ?_⟩
    repeat (first | exact Below.refl _ _ | refine Below.drew ?_ | refine bel_alloc ?_ _ | refine Below.setCell ?_ (by simp) _)
set_option maxHeartbeats 2000000 in
theorem rp_other {A A1 : ByteArray} {fc : Bool} {w : World} (hz : 0 < A.size) (hA : Cut36 fc A A1 hz) (h2 : 2 ≤ A1.size) (h0 : 0 < A1.size)
    (LT : ∀ u, Calls Tryz.prog 87 #[.int .u8 (A1[0].toNat : Nat)] u fun e w' => e = .returned (.bool false) ∧ w' = u) :
    Calls Tryz.prog 130 #[.string A] w fun e w' => e = .returned (.tuple #[ref0, .bool false]) ∧ Below w.heap.size w w' := by
  have c1 : (0 : Int) < A.size := by omega
  have c3 : (1 : Int) ≤ A.size := by omega
  have c2 : ¬ (A1.size : Int) < 2 := by omega
  rcases hA with ⟨rfl, h3, h4⟩ | ⟨rfl, h3, rfl⟩
  all_goals
    go_enter Tryz.func130, Tryz.ntmps130
    go_wp2_with (go_at_call 87; refine (LT _).mono ?_; rintro e w' ⟨rfl, hw⟩; obtain rfl := hw.symm; clear hw)
    refine bodyPost_ret (v := .tuple #[ref0, .bool false]) (by simp [results, Tryz.results130, go_sem]) rfl ?_
    refine ⟨rfl, ?_⟩
    repeat (first | exact Below.refl _ _ | refine Below.drew ?_ | refine bel_alloc ?_ _ | refine Below.setCell ?_ (by simp) _)
end Go.Proofs.YtljfkkpkcjigpaaGreatDoor

namespace Go.Proofs.YtljfkkpkcjigpaaGreatDoor
open Go.RowKit
set_option maxRecDepth 100000
set_option maxHeartbeats 8000000 in
theorem rp_bad {A A1 U V Y A2 : ByteArray} {fc fr : Bool} {C : Int} {w : World} (hz : 0 < A.size) (hA : Cut36 fc A A1 hz) (h2 : 2 ≤ A1.size) (h0 : 0 < A1.size)
    (LT : ∀ u, Calls Tryz.prog 87 #[.int .u8 (A1[0].toNat : Nat)] u fun e w' => e = .returned (.bool true) ∧ w' = u) (hU : A1.extract 0 1 = U) (hV : A1.extract 1 A1.size = V)
    (UP : ∀ u, Calls Tryz.prog 101 #[.string U] u fun e w' => e = .returned (.string Y) ∧ Below u.heap.size u w') (hY : 0 < Y.size) (hy1 : 65 ≤ (Y[0].toNat : Int)) (hy2 : (Y[0].toNat : Int) ≤ 90) (hC : (Y[0].toNat : Int) - 65 + 1 = C)
    (hVz : 0 < V.size) (hW : Cut36 fr V A2 hVz) (hB : A2.size = 0 ∨ 2 < A2.size ∨ ∃ h : 0 < A2.size, A2.size ≤ 2 ∧ ((A2[0].toNat : Int) == 48) = true) :
    Calls Tryz.prog 130 #[.string A] w fun e w' => e = .returned (.tuple #[ref0, .bool false]) ∧ Below w.heap.size w w' := by
  have c1 : (0 : Int) < A.size := by omega
  have c3 : (1 : Int) ≤ A.size := by omega
  have c2 : ¬ (A1.size : Int) < 2 := by omega
  have c4 : (1 : Int) ≤ A1.size := by omega
  have c5 : (1 : Int) ≤ V.size := by omega
  have hB' : ((A2.size : Int) < 1) ∨ (¬ (A2.size : Int) < 1 ∧ (2 : Int) < A2.size) ∨ ∃ h : 0 < A2.size, ¬ (A2.size : Int) < 1 ∧ ¬ (2 : Int) < A2.size ∧ ((A2[0].toNat : Int) == 48) = true := by
    rcases hB with h | h | ⟨h, g, k⟩
    · exact .inl (by omega)
    · exact .inr (.inl ⟨by omega, by omega⟩)
    · exact .inr (.inr ⟨h, by omega, by omega, k⟩)
  clear hB
  rcases hA with ⟨rfl, h3, h4⟩ | ⟨rfl, h3, rfl⟩ <;> rcases hW with ⟨rfl, h5, h6⟩ | ⟨rfl, h5, rfl⟩
  all_goals
    go_enter Tryz.func130, Tryz.ntmps130
    go_wp2_with (go_at_call 87; refine (LT _).mono ?_; rintro e w' ⟨rfl, hw⟩; obtain rfl := hw.symm; clear hw)
    refine (UP _).mono ?_
    rintro e w1 ⟨rfl, hb⟩
    obtain ⟨z1, z2⟩ := new2 hb
    have HB1 : Hid (Below w.heap.size w w1) := bel2 hb
    have Z1 : Hid (w1.heap[w.heap.size]? = some ref0O) := z1
    have Z2 : Hid _ := z2
    obtain ⟨k0, k1, k2, k3, k4, k5⟩ := r_cells z2
    obtain ⟨f0, f1, f2, f3, f4, f5⟩ := r_free z2
    obtain ⟨d0, d1, d2, d3, d4, d5⟩ := r_cells z1
    obtain ⟨e0, e1, e2, e3, e4, e5⟩ := r_free z1
    clear hb z1 z2 UP LT
    rcases hB' with q1 | ⟨q1, q2⟩ | ⟨q0, q1, q2, q3⟩
    all_goals first
      | (exfalso; omega)
      | (go_wp2
         refine bodyPost_ret (res_ref rfl rfl (set6 (?hz : _ = some ref0O)) rfl) rfl ⟨rfl, bel_set6 ?hb (Nat.le_refl _)⟩
         case hz => repeat (first | exact Z1.out | refine (set_o (by omega)).trans ?_)
         case hb => repeat (first | exact HB1.out | refine Below.setCell ?_ (by simp) _))
end Go.Proofs.YtljfkkpkcjigpaaGreatDoor
