/- APrint2, ARow, AParse, AParse2, ARefP. -/
import Derived.Test.YtljmklbbngpllaaGreatDoorARCellNd
set_option linter.unusedVariables false
set_option linter.unusedSimpArgs false
set_option maxHeartbeats 16000000
set_option maxRecDepth 100000
namespace Go.Proofs.YtljmklbbngpllaaGreatDoor
open Go.RowKit
def qW (b s : ByteArray) (R C : Nat) (fr fc : Bool) : ByteArray := ⟨(Ad.qD ⟨b.data.toList, s.data.toList, ⟨R, C, fr, fc⟩⟩).toArray⟩
def prB (b s : ByteArray) (r c : Int) (fr fc : Bool) : ByteArray := if bB b s r c = true then qW b s r.toNat c.toNat fr fc else ⟨#[]⟩
theorem vN {s : ByteArray} (h : gnF s.data.toList = true) : s.size ≤ 16 := by
 unfold gnF at h
 simp only [Bool.and_eq_true] at h
 rw [← cZ]
 exact (mX h.1.1).1
theorem jX {b s : ByteArray} {r c : Int} (h : bB b s r c = true) : ∃ R C : Nat, r = R ∧ c = C ∧ 1 ≤ R ∧ R ≤ 64 ∧ 1 ≤ C ∧ C ≤ 26 ∧
  ((s.toList = [] ∧ b.toList = []) ∨ ((s.toList == []) = false ∧ gnF s.data.toList = true ∧ b.toList = []) ∨ ((s.toList == []) = false ∧ gnF s.data.toList = true ∧ (b.toList == []) = false ∧ gnF b.data.toList = true)) := by
 rcases uE b s r c with ⟨_, h2⟩ | ⟨h1, h3, h4, _⟩ | ⟨_, _, _, h2⟩ | ⟨_, _, _, h2⟩ | ⟨h1, h3, h4, h5, h2⟩ | ⟨h1, h3, h4, h5, h2⟩
 ·rw [h] at h2; cases h2
 ·obtain ⟨R, C, e1, e2, q1, q2, q3, q4⟩ := aAM h1
  exact ⟨R, C, e1, e2, q1, q2, q3, q4, .inl ⟨h3, h4⟩⟩
 ·rw [h] at h2; cases h2
 ·rw [h] at h2; cases h2
 ·obtain ⟨R, C, e1, e2, q1, q2, q3, q4⟩ := aAM h1
  exact ⟨R, C, e1, e2, q1, q2, q3, q4, .inr (.inl ⟨h3, h4, h5⟩)⟩
 ·obtain ⟨R, C, e1, e2, q1, q2, q3, q4⟩ := aAM h1
  exact ⟨R, C, e1, e2, q1, q2, q3, q4, .inr (.inr ⟨h3, h4, h5, h2.symm.trans h⟩)⟩
theorem gU {s : ByteArray} (h : s.toList = []) : s.data.toList = [] := by rw [← ByteArray.toList_eq]; exact h
theorem vO {s : ByteArray} (h : (s.toList == []) = false) : ¬ s.data.toList = [] := by
 rw [← ByteArray.toList_eq]
 simpa using h
theorem uH {b s : ByteArray} {R C : Nat} {fr fc : Bool} (hw : (s.toList = [] ∧ b.toList = []) ∨ ((s.toList == []) = false ∧ gnF s.data.toList = true ∧ b.toList = []) ∨ ((s.toList == []) = false ∧ gnF s.data.toList = true ∧ (b.toList == []) = false ∧ gnF b.data.toList = true)) :
  (s.toList = [] ∧ b.toList = [] ∧ qW b s R C fr fc = jN R C fr fc) ∨ ((s.toList == []) = false ∧ s.size ≤ 16 ∧ b.toList = [] ∧ qW b s R C fr fc = s ++ ⟨#[33]⟩ ++ jN R C fr fc) ∨ ((s.toList == []) = false ∧ s.size ≤ 16 ∧ (b.toList == []) = false ∧ b.size ≤ 16 ∧ qW b s R C fr fc = (⟨#[91]⟩ : ByteArray) ++ b ++ ⟨#[93]⟩ ++ (s ++ ⟨#[33]⟩ ++ jN R C fr fc)) := by
 unfold qW Ad.qD jN
 rcases hw with ⟨h1, h2⟩ | ⟨h1, h3, h2⟩ | ⟨h1, h3, h2, h4⟩
 ·left
  refine ⟨h1, h2, ?_⟩
  simp only [gU h1, gU h2, if_true, List.nil_append]
 ·right; left
  refine ⟨h1, vN h3, h2, ?_⟩
  simp only [gU h2, if_true, List.nil_append, if_neg (vO h1)]
  apply ByteArray.ext
  simp
 ·right; right
  refine ⟨h1, vN h3, h2, vN h4, ?_⟩
  simp only [if_neg (vO h2), if_neg (vO h1)]
  apply ByteArray.ext
  simp
theorem qX (R C : Nat) (fr fc : Bool) (h1 : 1 ≤ R) (h2 : R ≤ 64) : (jN R C fr fc).size ≤ 5 := by
 rw [← yQ]
 have z1 := mZ fc
 have z2 := mZ fr
 have z3 := uG R h2
 have z4 : (⟨#[Ad.eT C]⟩ : ByteArray).size = 1 := rfl
 simp only [ByteArray.size_append, z4]
 omega
theorem aCO {b s : ByteArray} {r c : Int} {fr fc : Bool} {w : World} (GD : RC (w.alloc (aU b s r c fr fc)) 162 #[bC b s r c fr fc] (.bool false)) :
  Calls Tryz.prog 132 #[bC b s r c fr fc] w fun e w' => e = .returned (.string ⟨#[]⟩) ∧ Below w.heap.size w w' := by
 have HB0 : Hid (Below (w.alloc (aU b s r c fr fc)).heap.size (w.alloc (aU b s r c fr fc)) (w.alloc (aU b s r c fr fc))) := Below.refl _ _
 go_enter Tryz.func132, Tryz.ntmps132
 go_wp2_with (go_at_call 162; refine (GD _ HB0.out).mono ?_; rintro e w1 ⟨rfl, hb⟩; have HB1 : Hid (Below (w.alloc (aU b s r c fr fc)).heap.size (w.alloc (aU b s r c fr fc)) w1) := hb; clear hb)
 go_ret
 exact ⟨rfl, aR HB1.out⟩
theorem yR {b s X R : ByteArray} {r c : Int} {fr fc : Bool} {w : World} (GD : RC (w.alloc (aU b s r c fr fc)) 162 #[bC b s r c fr fc] (.bool true)) (CE : RC (w.alloc (aU b s r c fr fc)) 174 #[bC b s r c fr fc] (.string X)) (hX : X.size ≤ 5)
  (hw : (s.toList = [] ∧ b.toList = [] ∧ R = X) ∨ ((s.toList == []) = false ∧ s.size ≤ 16 ∧ b.toList = [] ∧ R = s ++ ⟨#[33]⟩ ++ X) ∨ ((s.toList == []) = false ∧ s.size ≤ 16 ∧ (b.toList == []) = false ∧ b.size ≤ 16 ∧ R = (⟨#[91]⟩ : ByteArray) ++ b ++ ⟨#[93]⟩ ++ (s ++ ⟨#[33]⟩ ++ X))) :
  Calls Tryz.prog 132 #[bC b s r c fr fc] w fun e w' => e = .returned (.string R) ∧ Below w.heap.size w w' := by
 have HB0 : Hid (Below (w.alloc (aU b s r c fr fc)).heap.size (w.alloc (aU b s r c fr fc)) (w.alloc (aU b s r c fr fc))) := Below.refl _ _
 have y1 : (⟨#[33]⟩ : ByteArray).size ≤ 1 := Nat.le_refl 1
 have y2 : (⟨#[91]⟩ : ByteArray).size ≤ 1 := Nat.le_refl 1
 have y3 : (⟨#[93]⟩ : ByteArray).size ≤ 1 := Nat.le_refl 1
 rcases hw with ⟨h1, h2, rfl⟩ | ⟨h1, h3, h2, rfl⟩ | ⟨h1, h3, h2, h4, rfl⟩
 all_goals
  go_enter Tryz.func132, Tryz.ntmps132
  go_wp2_with (first | (go_at_call 162; refine (GD _ HB0.out).mono ?_; rintro e w1 ⟨rfl, hb⟩; have HB1 : Hid (Below (w.alloc (aU b s r c fr fc)).heap.size (w.alloc (aU b s r c fr fc)) w1) := hb; clear hb; obtain ⟨c0, c1, c2, c3, c4, c5⟩ := aP (new1 HB1.out)) | (go_at_call 174; refine (CE _ HB1.out).mono ?_; rintro e w2 ⟨rfl, hb⟩; have HB2 : Hid (Below (w.alloc (aU b s r c fr fc)).heap.size (w.alloc (aU b s r c fr fc)) w2) := hb; clear hb; obtain ⟨d0, d1, d2, d3, d4, d5⟩ := aP (new1 HB2.out)))
  go_ret
  exact ⟨rfl, aR HB2.out⟩
theorem lT (b s : ByteArray) (r c : Int) (fr fc : Bool) (hb : b.size ≤ 9223372036854775807) (hs : s.size ≤ 9223372036854775807) (w : World) (T : eD w) :
  Calls Tryz.prog 132 #[bC b s r c fr fc] w fun e w' => e = .returned (.string (prB b s r c fr fc)) ∧ Below w.heap.size w w' := by
 have GD : RC (w.alloc (aU b s r c fr fc)) 162 #[bC b s r c fr fc] _ := RC.of fun u hu => uF b s r c fr fc hb hs u (T.below (aR hu))
 unfold prB
 cases hg : bB b s r c
 ·rw [hg] at GD
  exact aCO GD
 ·rw [hg] at GD
  obtain ⟨R, C, rfl, rfl, q1, q2, q3, q4, hw⟩ := jX hg
  have CE : RC (w.alloc (aU b s R C fr fc)) 174 #[bC b s R C fr fc] (.string (jN R C fr fc)) := RC.of fun u hu => aCN b s R C fr fc q1 q2 q3 q4 u (T.below (aR hu))
  exact yR GD CE (qX R C fr fc q1 q2) (uH hw)
def aEJ (w : World) : Prop := ∃ t1 p1 t2 p2, w.cell? ⟨6, 0, none⟩ = some (.iface t1 p1) ∧ w.cell? ⟨7, 0, none⟩ = some (.iface t2 p2)
theorem aEJ.below {w w' : World} (h : aEJ w) (hb : Below w.heap.size w w') : aEJ w' := by
 obtain ⟨t1, p1, t2, p2, h1, h2⟩ := h
 exact ⟨t1, p1, t2, p2, (hb.cell (World.block_lt_of_cell? w _ h1)).trans h1, (hb.cell (World.block_lt_of_cell? w _ h2)).trans h2⟩
structure tC (w : World) : Prop where
 t : eD w
 e : aEJ w
theorem tC.below {w w' : World} (h : tC w) (hb : Below w.heap.size w w') : tC w' := ⟨h.t.below hb, h.e.below hb⟩
theorem aCP (n : Int) (hn : In64 n) (w : World) (T : lG w) :
  Calls Tryz.prog 170 #[.int .i64 n] w fun e w' => e = .returned (.string ⟨(Lib.itoa n).toArray⟩) ∧ Below w.heap.size w w' := by
 refine (Tryz.strconv_Itoa n hn.1 hn.2 w T).mono ?_
 rintro e w' ⟨rfl, k, os, rfl⟩
 exact ⟨rfl, qL w k os⟩
theorem aGI {s X : ByteArray} {v : Int} {w : World} (AT : Calls Tryz.prog 220 #[.string s] w fun e w' => e = .returned (.tuple #[.int .i64 v, .nilIface]) ∧ Below w.heap.size w w')
  (IT : RC w 170 #[.int .i64 v] (.string X)) {b : Bool} (hx : (X.toList == s.toList) = b) :
  Calls Tryz.prog 195 #[.string s] w fun e w' => e = .returned (.int .i64 (if b = true then v else 0)) ∧ Below w.heap.size w w' := by
 cases b
 all_goals
  go_enter Tryz.func195, Tryz.ntmps195
  go_wp2_with (first | (go_at_call 220; refine AT.mono ?_; rintro e w1 ⟨rfl, hb⟩; have HB : Hid (Below w.heap.size w w1) := hb; clear hb) | (go_at_call 170; refine (IT _ HB.out).mono ?_; rintro e w2 ⟨rfl, hb⟩; have HB2 : Hid (Below w.heap.size w w2) := hb; clear hb))
  go_ret
  exact ⟨rfl, HB2.out⟩
theorem aBT {s : ByteArray} {v : Int} {w : World} (AT : Calls Tryz.prog 220 #[.string s] w fun e w' => ∃ N, e = .returned (.tuple #[.int .i64 v, .iface 248 (.pointer (some ⟨N, 0, none⟩))]) ∧ Below w.heap.size w w') :
  Calls Tryz.prog 195 #[.string s] w fun e w' => e = .returned (.int .i64 0) ∧ Below w.heap.size w w' := by
 go_enter Tryz.func195, Tryz.ntmps195
 go_wp2_with (go_at_call 220; refine AT.mono ?_; rintro e w1 ⟨N, rfl, hb⟩; have HB : Hid (Below w.heap.size w w1) := hb; clear hb)
 go_ret
 exact ⟨rfl, HB.out⟩
theorem aIH (a b : ByteArray) : (a.toList == b.toList) = decide (a.data.toList = b.data.toList) := by
 rw [ByteArray.toList_eq, ByteArray.toList_eq, Bool.eq_iff_iff]
 simp
theorem vP (l : List UInt8) (hl : l.length ≤ 140737488355328) (w : World) (T : tC w) :
  Calls Tryz.prog 195 #[.string ⟨l.toArray⟩] w fun e w' => e = .returned (.int .i64 (Ad.qE l)) ∧ Below w.heap.size w w' := by
 obtain ⟨t1, p1, t2, p2, h1, h2⟩ := T.e
 have hz : (⟨l.toArray⟩ : ByteArray).size ≤ 140737488355328 := by rw [size_mk]; exact hl
 unfold Ad.qE
 cases ha : Lib.atoiAll l with
 | ok v =>
  have AT := Tryz.strconv_Atoi_ok ⟨l.toArray⟩ (by omega) v ha w
  have hv := Lib.atoiAll_bounds ha
  have := aGI (s := ⟨l.toArray⟩) (v := v) (w := w) (AT.mono fun e w' ⟨q1, q2⟩ => ⟨q1, by
   rcases q2 with rfl | ⟨t, rfl⟩
   ·exact Below.refl _ _
   ·exact Lib.bytesWorld_below _ _ _⟩) (RC.of fun u hu => aCP v hv u (T.t.p.below hu)) (aIH _ _)
  simp only [List.toList_toArray, decide_eq_true_eq] at this
  exact this
 | «syntax» =>
  exact aBT ((Tryz.strconv_Atoi_syntax ⟨l.toArray⟩ (by omega) ha _ w h1 (.inr ⟨_, _, rfl⟩)).mono fun e w' ⟨N, q1, _, _, q2⟩ => ⟨N, q1, q2⟩)
 | range =>
  exact aBT ((Tryz.strconv_Atoi_range ⟨l.toArray⟩ (by omega) ha _ w h2 (.inr ⟨_, _, rfl⟩)).mono fun e w' ⟨N, q1, _, _, q2⟩ => ⟨N, q1, q2⟩)
abbrev bR : Obj := aU ⟨#[]⟩ ⟨#[]⟩ 0 0 false false
def yS (o : Option Ad.Cell) : Value := match o with
 | none => xC
 | some c => bC ⟨#[]⟩ ⟨#[]⟩ c.row c.col c.fr c.fc
section
variable {u : World} {g : Nat} {a b c d e f v : Value} {t : TypeId}
theorem aJH (h : u.heap[g]? = some (.cells #[a, b, c, d, e, f] t (0, 0))) : (u.setCell ⟨g, 2, none⟩ v).heap[g]? = some (.cells #[a, b, v, d, e, f] t (0, 0)) := by
 simp [World.setCell, Array.getElem?_modify, h]
theorem aIn (h : u.heap[g]? = some (.cells #[a, b, c, d, e, f] t (0, 0))) : (u.setCell ⟨g, 3, none⟩ v).heap[g]? = some (.cells #[a, b, c, v, e, f] t (0, 0)) := by
 simp [World.setCell, Array.getElem?_modify, h]
theorem aIo (h : u.heap[g]? = some (.cells #[a, b, c, d, e, f] t (0, 0))) : (u.setCell ⟨g, 4, none⟩ v).heap[g]? = some (.cells #[a, b, c, d, v, f] t (0, 0)) := by
 simp [World.setCell, Array.getElem?_modify, h]
theorem yT {j k : Nat} (hj : g ≠ j) : (u.setCell ⟨g, k, none⟩ v).heap[j]? = u.heap[j]? := by
 simp [World.setCell, Array.getElem?_modify, hj]
end
section
variable {u : World} {g : Nat} {a b c d e f a' b' c' d' e' f' : Value} {t : TypeId}
theorem aCQ (h : u.heap[g]? = some (.cells #[a, b, c, d, e, f] t (0, 0))) : ((((((u.setCell ⟨g, 0, none⟩ a').setCell ⟨g, 1, none⟩ b').setCell ⟨g, 2, none⟩ c').setCell ⟨g, 3, none⟩ d').setCell ⟨g, 4, none⟩ e').setCell ⟨g, 5, none⟩ f').heap[g]? = some (.cells #[a', b', c', d', e', f'] t (0, 0)) := by
 simp [World.setCell, Array.getElem?_modify, h]
theorem iN {w : World} (h : Below w.heap.size w u) (hg : w.heap.size ≤ g) : Below w.heap.size w ((((((u.setCell ⟨g, 0, none⟩ a').setCell ⟨g, 1, none⟩ b').setCell ⟨g, 2, none⟩ c').setCell ⟨g, 3, none⟩ d').setCell ⟨g, 4, none⟩ e').setCell ⟨g, 5, none⟩ f') :=
 (((((h.setCell hg _).setCell hg _).setCell hg _).setCell hg _).setCell hg _).setCell hg _
end
theorem kQ {fn : Func} {i j : Tmp} (hr : fn.results = #[.cell i 25, .tmp j]) {tmps : Array Value} {g : Nat} {wf : World} (hp : tmps.getD i undef = .pointer (some ⟨g, 0, none⟩)) {b s : ByteArray} {r c : Int} {fr fc ok : Bool}
  (h : wf.heap[g]? = some (aU b s r c fr fc)) (hj : tmps.getD j undef = .bool ok) : (results fn tmps).run Tryz.prog wf = .ok (.tuple #[bC b s r c fr fc, .bool ok]) wf := by
 obtain ⟨c0, c1, c2, c3, c4, c5⟩ := aP h
 simp only [Array.getD_eq_getD_getElem?] at hp hj
 simp [results, hr, hp, hj, go_sem, c0, c1, c2, c3, c4, c5]
theorem aEK {A A1 : ByteArray} {fc : Bool} {w : World} (CP : ∀ u, Calls Tryz.prog 33 #[.string A, .string ⟨#[36]⟩] u fun e w' => e = .returned (.tuple #[.string A1, .bool fc]) ∧ w' = u) (h0 : A1.toList = []) :
  Calls Tryz.prog 153 #[.string A] w fun e w' => e = .returned (.tuple #[xC, .bool false]) ∧ Below w.heap.size w w' := by
 go_enter Tryz.func153, Tryz.ntmps153
 go_wp2_with (go_at_call 33; refine (CP _).mono ?_; rintro e w' ⟨rfl, hw⟩; obtain rfl := hw.symm; clear hw)
 refine bodyPost_ret (v := .tuple #[xC, .bool false]) (by simp [results, Tryz.results153, go_sem]) rfl ?_
 refine ⟨rfl, ?_⟩
 repeat (first | exact Below.refl _ _ | refine Below.drew ?_ | refine aA ?_ _ | refine Below.setCell ?_ (by simp) _)
theorem aEL {A A1 : ByteArray} {fc : Bool} {w : World} (CP : ∀ u, Calls Tryz.prog 33 #[.string A, .string ⟨#[36]⟩] u fun e w' => e = .returned (.tuple #[.string A1, .bool fc]) ∧ w' = u) (h0 : (A1.toList == []) = false) (hz : 0 < A1.size)
  (LT : ∀ u, Calls Tryz.prog 193 #[.int .u8 (A1[0].toNat : Nat)] u fun e w' => e = .returned (.bool false) ∧ w' = u) :
  Calls Tryz.prog 153 #[.string A] w fun e w' => e = .returned (.tuple #[xC, .bool false]) ∧ Below w.heap.size w w' := by
 go_enter Tryz.func153, Tryz.ntmps153
 go_wp2_with (first | (go_at_call 33; refine (CP _).mono ?_; rintro e w' ⟨rfl, hw⟩; obtain rfl := hw.symm; clear hw) | (go_at_call 193; refine (LT _).mono ?_; rintro e w' ⟨rfl, hw⟩; obtain rfl := hw.symm; clear hw))
 refine bodyPost_ret (v := .tuple #[xC, .bool false]) (by simp [results, Tryz.results153, go_sem]) rfl ?_
 refine ⟨rfl, ?_⟩
 repeat (first | exact Below.refl _ _ | refine Below.drew ?_ | refine aA ?_ _ | refine Below.setCell ?_ (by simp) _)
theorem aCR {A A1 U V Y A2 : ByteArray} {fc fr ok : Bool} {n C : Int} {w : World} (CP : ∀ u, Calls Tryz.prog 33 #[.string A, .string ⟨#[36]⟩] u fun e w' => e = .returned (.tuple #[.string A1, .bool fc]) ∧ w' = u) (h0 : (A1.toList == []) = false) (hz : 0 < A1.size)
  (LT : ∀ u, Calls Tryz.prog 193 #[.int .u8 (A1[0].toNat : Nat)] u fun e w' => e = .returned (.bool true) ∧ w' = u) (hU : A1.extract 0 1 = U) (hV : A1.extract 1 A1.size = V)
  (UP : ∀ u, Calls Tryz.prog 194 #[.string U] u fun e w' => e = .returned (.string Y) ∧ Below u.heap.size u w') (hY : 0 < Y.size) (hy1 : 65 ≤ (Y[0].toNat : Int)) (hy2 : (Y[0].toNat : Int) ≤ 90) (hC : (Y[0].toNat : Int) - 65 + 1 = C)
  (CQ : ∀ u, Calls Tryz.prog 33 #[.string V, .string ⟨#[36]⟩] u fun e w' => e = .returned (.tuple #[.string A2, .bool fr]) ∧ w' = u)
  (PR : ∀ u, Below w.heap.size w u → Calls Tryz.prog 195 #[.string A2] u fun e w' => e = .returned (.int .i64 n) ∧ Below u.heap.size u w') (IN : ∀ u, Calls Tryz.prog 196 #[.int .i64 n, .int .i64 C] u fun e w' => e = .returned (.bool ok) ∧ w' = u) :
  Calls Tryz.prog 153 #[.string A] w fun e w' => e = .returned (.tuple #[if ok = true then bC ⟨#[]⟩ ⟨#[]⟩ n C fr fc else xC, .bool ok]) ∧ Below w.heap.size w w' := by
 have c1 : (1 : Int) ≤ A1.size := by omega
 go_enter Tryz.func153, Tryz.ntmps153
 go_wp2_with (go_at_call 33; refine (CP _).mono ?_; rintro e w' ⟨rfl, hw⟩; obtain rfl := hw.symm; clear hw)
 refine (LT _).mono ?_
 rintro e w' ⟨rfl, hw⟩
 obtain rfl := hw.symm
 clear hw
 go_wp2_with fail
 refine (UP _).mono ?_
 rintro e w1 ⟨rfl, hb⟩
 obtain ⟨z1, z2⟩ := new2 hb
 have HB1 : Hid (Below w.heap.size w w1) := aCw hb
 have Z1 : Hid (w1.heap[w.heap.size]? = some bR ∧ w1.heap[w.heap.size + 1]? = some (aU ⟨#[]⟩ ⟨#[]⟩ 0 0 false fc)) := ⟨z1, z2⟩
 obtain ⟨c0, c1, c2, c3, c4, c5⟩ := aP z2
 obtain ⟨f0, f1, f2, f3, f4, f5⟩ := bH z2
 clear hb z1 z2 UP LT CP
 go_wp2_with fail
 refine (CQ _).mono ?_
 rintro e w' ⟨rfl, hw⟩
 obtain rfl := hw.symm
 clear hw
 go_wp2_with fail
 clear c0 c1 c2 c3 c4 c5 f0 f1 f2 f3 f4 f5
 refine (PR _ ?hh).mono ?_
 case hh => exact (HB1.out.setCell (by simp) _).setCell (by simp) _
 rintro e w2 ⟨rfl, hb⟩
 have HB2 : Hid (Below w.heap.size w w2) := aG ((HB1.out.setCell (by simp) _).setCell (by simp) _) hb
 have y2 := (hb.block _ (aS (aIo (aIn Z1.out.2)))).trans (aIo (aIn Z1.out.2))
 have y1 := (hb.block w.heap.size (aS ((yT (by omega)).trans ((yT (by omega)).trans Z1.out.1)))).trans ((yT (by omega)).trans ((yT (by omega)).trans Z1.out.1))
 have YY : Hid (w2.heap[w.heap.size]? = some bR ∧ w2.heap[w.heap.size + 1]? = some (aU ⟨#[]⟩ ⟨#[]⟩ 0 C fr fc)) := ⟨y1, y2⟩
 obtain ⟨c0, c1, c2, c3, c4, c5⟩ := aP y2
 obtain ⟨f0, f1, f2, f3, f4, f5⟩ := bH y2
 obtain ⟨d0, d1, d2, d3, d4, d5⟩ := aP y1
 obtain ⟨e0, e1, e2, e3, e4, e5⟩ := bH y1
 clear hb y1 y2 Z1
 go_wp2_with fail
 refine (IN _).mono ?_
 rintro e w' ⟨rfl, hw⟩
 obtain rfl := hw.symm
 have x2 := aJH (v := .int .i64 n) YY.out.2
 have x1 := (yT (u := w2) (k := 2) (v := .int .i64 n) (g := w.heap.size + 1) (j := w.heap.size) (by omega)).trans YY.out.1
 have HB3 : Hid (Below w.heap.size w (w2.setCell ⟨w.heap.size + 1, 2, none⟩ (.int .i64 n))) := HB2.out.setCell (by simp) _
 clear hw c0 c1 c2 c3 c4 c5 f0 f1 f2 f3 f4 f5 d0 d1 d2 d3 d4 d5 e0 e1 e2 e3 e4 e5 YY HB2 HB1 IN PR CQ
 generalize w2.setCell ⟨w.heap.size + 1, 2, none⟩ (.int .i64 n) = w3 at *
 have XX : Hid (w3.heap[w.heap.size]? = some bR) := x1
 obtain ⟨c0, c1, c2, c3, c4, c5⟩ := aP x2
 obtain ⟨d0, d1, d2, d3, d4, d5⟩ := aP x1
 obtain ⟨e0, e1, e2, e3, e4, e5⟩ := bH x1
 clear x1 x2
 cases ok
 ·go_wp2
  exact bodyPost_ret (kQ rfl rfl (aCQ XX.out) rfl) rfl ⟨rfl, iN HB3.out (Nat.le_refl _)⟩
 ·go_wp2
  exact bodyPost_ret (kQ rfl rfl (aCQ XX.out) rfl) rfl ⟨rfl, iN HB3.out (Nat.le_refl _)⟩
theorem aII (c : UInt8) (h : Ad.isL c = true) : 65 ≤ ((szB 97 65 c).toNat : Int) ∧ ((szB 97 65 c).toNat : Int) ≤ 90 ∧ ((szB 97 65 c).toNat : Int) - 65 + 1 = (Ad.sU c : Nat) := by
 unfold Ad.isL at h
 simp only [Bool.or_eq_true, Bool.and_eq_true, decide_eq_true_eq] at h
 unfold szB Ad.sU
 rcases h with h | h
 ·rw [if_pos (by omega), if_pos (by omega), Ad.toNat_ofNat (by omega)]
  omega
 ·rw [if_neg (by omega), if_neg (by omega)]
  omega
theorem aIJ (c : UInt8) (u : World) : Calls Tryz.prog 194 #[.string ⟨#[c]⟩] u fun e w' => e = .returned (.string ⟨#[szB 97 65 c]⟩) ∧ Below u.heap.size u w' := vJ ⟨#[c]⟩ (by show 1 ≤ _; decide) u
theorem aAN (c : UInt8) (r : List UInt8) : (⟨(c :: r).toArray⟩ : ByteArray).extract 0 1 = ⟨#[c]⟩ ∧ (⟨(c :: r).toArray⟩ : ByteArray).extract 1 (⟨(c :: r).toArray⟩ : ByteArray).size = ⟨r.toArray⟩ ∧ ((⟨(c :: r).toArray⟩ : ByteArray).toList == []) = false ∧ 0 < (⟨(c :: r).toArray⟩ : ByteArray).size := by
 refine ⟨?_, ?_, ?_, ?_⟩
 ·apply ByteArray.ext
  simp
 ·exact drop_mk (c :: r)
 ·rw [ByteArray.toList_eq]; rfl
 ·rw [size_mk]; simp
theorem aBU (n : Int) (c : Nat) (h1 : 1 ≤ c) (h2 : c ≤ 26) : inB n c = true ↔ Ad.jR n := by
 unfold inB Ad.jR
 simp only [Bool.and_eq_true, decide_eq_true_eq]
 omega
theorem iG (l : List UInt8) (hl : l.length ≤ 140737488355328) (w : World) (T : tC w) :
  Calls Tryz.prog 153 #[.string ⟨l.toArray⟩] w fun e w' => e = .returned (.tuple #[yS (Ad.cellP l), .bool (Ad.cellP l).isSome]) ∧ Below w.heap.size w w' := by
 have CP := fun u => kM 36 l u
 have hlen := Ad.iL 36 l
 unfold Ad.cellP
 cases hs : (Ad.strip 36 l).2 with
 | nil =>
  rw [hs] at CP
  exact aEK CP (by rw [ByteArray.toList_eq])
 | cons c r =>
  rw [hs] at CP hlen
  obtain ⟨k1, k2, k3, k4⟩ := aAN c r
  simp only
  unfold Ad.aD4
  cases hL : Ad.isL c
  ·have LT := fun u => iU c u
   rw [hL] at LT
   rw [if_neg (by simp)]
   exact aEL CP k3 k4 LT
  ·have LT := fun u => iU c u
   rw [hL] at LT
   obtain ⟨b1, b2, _⟩ := Ad.aBN hL
   obtain ⟨y1, y2, y3⟩ := aII c hL
   have hlr := Ad.iL 36 r
   have W : ∀ ok, inB (Ad.qE (Ad.strip 36 r).2) (Ad.sU c : Nat) = ok → _ := fun ok hok => aCR (w := w) (ok := ok) CP k3 k4 LT k1 k2 (fun u => aIJ c u) (show 0 < 1 by decide) y1 y2 y3 (fun u => kM 36 r u) (fun u hu => vP (Ad.strip 36 r).2 (by simp only [List.length_cons] at hlen; omega) u (T.below hu)) (fun u => by have := aD9 (Ad.qE (Ad.strip 36 r).2) (Ad.sU c : Nat) u; rw [hok] at this; exact this)
   rcases Ad.aD8 (Ad.strip 36 r).2 with ⟨h1, h2⟩ | ⟨h1, h2⟩
   ·have hx := W true ((aBU _ _ b1 b2).2 h1)
    rw [h2] at hx h1
    unfold Ad.jR at h1
    rw [if_pos ⟨rfl, by omega, by omega⟩]
    exact hx
   ·have hx := W false (by
     cases hb : inB (Ad.qE (Ad.strip 36 r).2) (Ad.sU c : Nat)
     ·rfl
     ·exact absurd ((aBU _ _ b1 b2).1 hb) h1)
    rw [if_neg (fun q => h2 q.2)]
    exact hx
def aKF (o : Option Ad.Ref) : Value := match o with
 | none => xC
 | some r => bC ⟨r.book.toArray⟩ ⟨r.sheet.toArray⟩ r.cell.row r.cell.col r.cell.fr r.cell.fc
def qY (l : List UInt8) : List UInt8 × List UInt8 × Bool :=
 if (Ad.strip 91 l).1 = true then ((gI 93 (Ad.strip 91 l).2).1, (gI 93 (Ad.strip 91 l).2).2.1, gnF (gI 93 (Ad.strip 91 l).2).1 && gnF (gI 93 (Ad.strip 91 l).2).2.1) else ([], l, gnF l)
def aBV (l : List UInt8) : Option Ad.Ref := match Ad.at_ 33 l with
 | none => (Ad.cellP l).map fun c => ⟨[], [], c⟩
 | some p => if (qY p.1).2.2 = true then (Ad.cellP p.2).map fun c => ⟨(qY p.1).1, (qY p.1).2.1, c⟩ else none
theorem aIK : gnF [] = false := rfl
theorem aGJ {l : List UInt8} (h : 33 ∈ l) : gnF l = false := by
 cases hg : gnF l
 ·rfl
 ·exact absurd rfl ((yO l hg).2 33 h).1
theorem aGK (m : List UInt8) : Ad.cellP (91 :: m) = none := rfl
theorem iX {c x : UInt8} {r : List UInt8} (h : x ≠ c) : Ad.at_ c (x :: r) = (Ad.at_ c r).map fun p => (x :: p.1, p.2) := by
 rw [Ad.at_, if_neg h]
theorem vQ {c : UInt8} : ∀ {l m : List UInt8}, (∀ x ∈ l, x ≠ c) → Ad.at_ c (l ++ m) = (Ad.at_ c m).map fun p => (l ++ p.1, p.2)
 | [], m, _ => by rw [List.nil_append]; cases Ad.at_ c m <;> rfl
 | x :: l, m, h => by
  rw [List.cons_append, iX (h x (List.mem_cons_self ..)), vQ (l := l) (m := m) fun y hy => h y (List.mem_cons_of_mem _ hy)]
  cases Ad.at_ c m <;> rfl
theorem aGL (l : List UInt8) : aBV l = Ad.mM gnF l := by
 cases l with
 | nil => rfl
 | cons x m =>
  by_cases hx : x = 91
  ·subst hx
   have e1 : Ad.mM gnF (91 :: m) = match Ad.at_ 93 m with
    | none => none
    | some (a, r) => if gnF a = true ∧ (Ad.at_ 33 r).isSome = true then Ad.jQ gnF a r else none := rfl
   rw [e1]
   unfold aBV
   rw [iX (show (91 : UInt8) ≠ 33 by decide)]
   cases h3 : Ad.at_ 33 m with
   | none =>
    simp only [Option.map_none]
    rw [aGK]
    cases h9 : Ad.at_ 93 m with
    | none => rfl
    | some p =>
     obtain ⟨a, r⟩ := p
     have e2 := (Ad.gZ h9).1
     have : Ad.at_ 33 r = none := by
      by_cases ha : 33 ∈ a
      ·exfalso
       rw [e2] at h3
       have key : ∀ l : List UInt8, (33 : UInt8) ∈ l → Ad.at_ 33 l ≠ none := by
        intro l
        induction l with
        | nil => intro h; cases h
        | cons y q ih =>
         intro h e
         unfold Ad.at_ at e
         by_cases hy : y = 33
         ·rw [if_pos hy] at e; cases e
         ·rw [if_neg hy] at e
          rcases List.mem_cons.1 h with h | h
          ·exact hy h.symm
          ·cases hq : Ad.at_ 33 q with
           | none => exact ih h hq
           | some z => rw [hq] at e; cases e
       exact key _ (List.mem_append_left _ ha) h3
      ·rw [e2, vQ (c := 33) (l := a) (fun y hy e => ha (by rw [← e]; exact hy)), iX (show (93 : UInt8) ≠ 33 by decide)] at h3
       cases hr : Ad.at_ 33 r with
       | none => rfl
       | some z => rw [hr] at h3; cases h3
     simp only [this]
     rw [if_neg (by simp)]
     rfl
   | some p =>
    obtain ⟨a', rest⟩ := p
    obtain ⟨e2, n2⟩ := Ad.gZ h3
    simp only [Option.map_some]
    have es : Ad.strip 91 (91 :: a') = (true, a') := Ad.aCv 91 a'
    unfold qY
    rw [es]
    simp only [if_true]
    cases h9 : Ad.at_ 93 a' with
    | none =>
     rw [kK h9]
     simp only [aIK, Bool.and_false, Bool.false_eq_true, if_false]
     cases hm : Ad.at_ 93 m with
     | none => rfl
     | some q =>
      obtain ⟨a, r⟩ := q
      have h33 : 33 ∈ a := by
       rw [e2] at hm
       have nA : ∀ x ∈ a', x ≠ 93 := by
        intro x hx e
        subst e
        have key : ∀ l : List UInt8, (93 : UInt8) ∈ l → Ad.at_ 93 l ≠ none := by
         intro l
         induction l with
         | nil => intro h; cases h
         | cons y q ih =>
          intro h e
          unfold Ad.at_ at e
          by_cases hy : y = 93
          ·rw [if_pos hy] at e; cases e
          ·rw [if_neg hy] at e
           rcases List.mem_cons.1 h with h | h
           ·exact hy h.symm
           ·cases hq : Ad.at_ 93 q with
            | none => exact ih h hq
            | some z => rw [hq] at e; cases e
        exact key _ hx h9
       rw [vQ nA, iX (show (33 : UInt8) ≠ 93 by decide)] at hm
       cases hr : Ad.at_ 93 rest with
       | none => rw [hr] at hm; cases hm
       | some z =>
        rw [hr] at hm
        simp only [Option.map_some, Option.some.injEq, Prod.mk.injEq] at hm
        rw [← hm.1]
        exact List.mem_append_right _ (List.mem_cons_self ..)
      simp only [aGJ h33, Bool.false_eq_true, false_and, if_false]
    | some q =>
     obtain ⟨b, s'⟩ := q
     obtain ⟨e3, n3⟩ := Ad.gZ h9
     rw [kL h9]
     have hm : Ad.at_ 93 m = some (b, s' ++ 33 :: rest) := by
      rw [e2, e3, List.append_assoc, List.cons_append]
      exact Ad.aAv _ n3
     have hs : Ad.at_ 33 (s' ++ 33 :: rest) = some (s', rest) := Ad.aAv _ fun y hy => n2 y (by rw [e3]; exact List.mem_append_right _ (List.mem_cons_of_mem _ hy))
     rw [hm]
     simp only [hs]
     unfold Ad.jQ
     simp only [hs]
     cases gnF b <;> cases gnF s' <;> simp
  ·rw [Ad.aAw (by simpa using hx)]
   unfold aBV Ad.jQ
   cases h3 : Ad.at_ 33 (x :: m) with
   | none => rfl
   | some p =>
    obtain ⟨a, r⟩ := p
    obtain ⟨e2, n2⟩ := Ad.gZ h3
    have es : qY a = ([], a, gnF a) := by
     unfold qY
     have : (Ad.strip 91 a).1 = false := by
      cases a with
      | nil => rfl
      | cons y q =>
       simp only [List.cons_append, List.cons.injEq] at e2
       rw [Ad.bV, if_neg (by rw [← e2.1]; exact hx)]
     rw [this]
     rfl
    simp only [es]
theorem oW {c : UInt8} {l a b : List UInt8} (h : Ad.at_ c l = some (a, b)) : a.length + b.length + 1 = l.length := by
 rw [(Ad.gZ h).1]
 simp
 omega
end Go.Proofs.YtljmklbbngpllaaGreatDoor
