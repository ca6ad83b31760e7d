import Derived.Test.YtdgnodijmbeajaaGreatDoorARow
/- A cell's name is read: the program. -/
namespace Go.Proofs.YtdgnodijmbeajaaGreatDoor
open Go.RowKit
set_option maxRecDepth 100000
set_option linter.unusedVariables false
set_option linter.unusedSimpArgs false
abbrev ref0O : Obj := refO ⟨#[]⟩ ⟨#[]⟩ 0 0 false false
def cellR (o : Option Ad.Cell) : Value := match o with
  | none => ref0
  | some c => refV ⟨#[]⟩ ⟨#[]⟩ c.row c.col c.fr c.fc
section
variable {u : World} {g : Nat} {a b c d e f v : Value} {t : TypeId}
theorem set_2 (h : u.heap[g]? = some (.cells #[a, b, c, d, e, f] t (0, 0))) : (u.setCell ⟨g, 2, none⟩ v).heap[g]? = some (.cells #[a, b, v, d, e, f] t (0, 0)) := by
  simp [World.setCell, Array.getElem?_modify, h]
theorem set_3 (h : u.heap[g]? = some (.cells #[a, b, c, d, e, f] t (0, 0))) : (u.setCell ⟨g, 3, none⟩ v).heap[g]? = some (.cells #[a, b, c, v, e, f] t (0, 0)) := by
  simp [World.setCell, Array.getElem?_modify, h]
theorem set_4 (h : u.heap[g]? = some (.cells #[a, b, c, d, e, f] t (0, 0))) : (u.setCell ⟨g, 4, none⟩ v).heap[g]? = some (.cells #[a, b, c, d, v, f] t (0, 0)) := by
  simp [World.setCell, Array.getElem?_modify, h]
theorem set_o {j k : Nat} (hj : g ≠ j) : (u.setCell ⟨g, k, none⟩ v).heap[j]? = u.heap[j]? := by
  simp [World.setCell, Array.getElem?_modify, hj]
end
section
variable {u : World} {g : Nat} {a b c d e f a' b' c' d' e' f' : Value} {t : TypeId}
theorem set6 (h : u.heap[g]? = some (.cells #[a, b, c, d, e, f] t (0, 0))) : ((((((u.setCell ⟨g, 0, none⟩ a').setCell ⟨g, 1, none⟩ b').setCell ⟨g, 2, none⟩ c').setCell ⟨g, 3, none⟩ d').setCell ⟨g, 4, none⟩ e').setCell ⟨g, 5, none⟩ f').heap[g]? = some (.cells #[a', b', c', d', e', f'] t (0, 0)) := by
  simp [World.setCell, Array.getElem?_modify, h]
theorem bel_set6 {w : World} (h : Below w.heap.size w u) (hg : w.heap.size ≤ g) : Below w.heap.size w ((((((u.setCell ⟨g, 0, none⟩ a').setCell ⟨g, 1, none⟩ b').setCell ⟨g, 2, none⟩ c').setCell ⟨g, 3, none⟩ d').setCell ⟨g, 4, none⟩ e').setCell ⟨g, 5, none⟩ f') :=
  (((((h.setCell hg _).setCell hg _).setCell hg _).setCell hg _).setCell hg _).setCell hg _
end
theorem res_ref {fn : Func} {i j : Tmp} (hr : fn.results = #[.cell i 33, .tmp j]) {tmps : Array Value} {g : Nat} {wf : World} (hp : tmps.getD i undef = .pointer (some ⟨g, 0, none⟩)) {b s : ByteArray} {r c : Int} {fr fc ok : Bool}
    (h : wf.heap[g]? = some (refO b s r c fr fc)) (hj : tmps.getD j undef = .bool ok) : (results fn tmps).run Tryz.prog wf = .ok (.tuple #[refV b s r c fr fc, .bool ok]) wf := by
  obtain ⟨c0, c1, c2, c3, c4, c5⟩ := r_cells h
  simp only [Array.getD_eq_getD_getElem?] at hp hj
  simp [results, hr, hp, hj, go_sem, c0, c1, c2, c3, c4, c5]
set_option maxHeartbeats 2000000 in
theorem pc_empty {A A1 : ByteArray} {fc : Bool} {w : World} (CP : ∀ u, Calls Tryz.prog 81 #[.string A, .string ⟨#[36]⟩] u fun e w' => e = .returned (.tuple #[.string A1, .bool fc]) ∧ w' = u) (h0 : A1.toList = []) :
    Calls Tryz.prog 58 #[.string A] w fun e w' => e = .returned (.tuple #[ref0, .bool false]) ∧ Below w.heap.size w w' := by
  go_enter Tryz.func58, Tryz.ntmps58
  go_wp2_with (go_at_call 81; refine (CP _).mono ?_; rintro e w' ⟨rfl, hw⟩; obtain rfl := hw.symm; clear hw)
  refine bodyPost_ret (v := .tuple #[ref0, .bool false]) (by simp [results, Tryz.results58, go_sem]) rfl ?_
  refine ⟨rfl, ?_⟩
  repeat (first | exact Below.refl _ _ | refine Below.drew ?_ | refine bel_alloc ?_ _ | refine Below.setCell ?_ (by simp) _)
set_option maxHeartbeats 2000000 in
theorem pc_other {A A1 : ByteArray} {fc : Bool} {w : World} (CP : ∀ u, Calls Tryz.prog 81 #[.string A, .string ⟨#[36]⟩] u fun e w' => e = .returned (.tuple #[.string A1, .bool fc]) ∧ w' = u) (h0 : (A1.toList == []) = false) (hz : 0 < A1.size)
    (LT : ∀ u, Calls Tryz.prog 89 #[.int .u8 (A1[0].toNat : Nat)] u fun e w' => e = .returned (.bool false) ∧ w' = u) :
    Calls Tryz.prog 58 #[.string A] w fun e w' => e = .returned (.tuple #[ref0, .bool false]) ∧ Below w.heap.size w w' := by
  go_enter Tryz.func58, Tryz.ntmps58
  go_wp2_with (first | (go_at_call 81; refine (CP _).mono ?_; rintro e w' ⟨rfl, hw⟩; obtain rfl := hw.symm; clear hw) | (go_at_call 89; refine (LT _).mono ?_; rintro e w' ⟨rfl, hw⟩; obtain rfl := hw.symm; clear hw))
  refine bodyPost_ret (v := .tuple #[ref0, .bool false]) (by simp [results, Tryz.results58, go_sem]) rfl ?_
  refine ⟨rfl, ?_⟩
  repeat (first | exact Below.refl _ _ | refine Below.drew ?_ | refine bel_alloc ?_ _ | refine Below.setCell ?_ (by simp) _)
set_option maxHeartbeats 4000000 in
theorem pc_letter {A A1 U V Y A2 : ByteArray} {fc fr ok : Bool} {n C : Int} {w : World} (CP : ∀ u, Calls Tryz.prog 81 #[.string A, .string ⟨#[36]⟩] u fun e w' => e = .returned (.tuple #[.string A1, .bool fc]) ∧ w' = u) (h0 : (A1.toList == []) = false) (hz : 0 < A1.size)
    (LT : ∀ u, Calls Tryz.prog 89 #[.int .u8 (A1[0].toNat : Nat)] u fun e w' => e = .returned (.bool true) ∧ w' = u) (hU : A1.extract 0 1 = U) (hV : A1.extract 1 A1.size = V)
    (UP : ∀ u, Calls Tryz.prog 90 #[.string U] u fun e w' => e = .returned (.string Y) ∧ Below u.heap.size u w') (hY : 0 < Y.size) (hy1 : 65 ≤ (Y[0].toNat : Int)) (hy2 : (Y[0].toNat : Int) ≤ 90) (hC : (Y[0].toNat : Int) - 65 + 1 = C)
    (CQ : ∀ u, Calls Tryz.prog 81 #[.string V, .string ⟨#[36]⟩] u fun e w' => e = .returned (.tuple #[.string A2, .bool fr]) ∧ w' = u)
    (PR : ∀ u, Below w.heap.size w u → Calls Tryz.prog 91 #[.string A2] u fun e w' => e = .returned (.int .i64 n) ∧ Below u.heap.size u w') (IN : ∀ u, Calls Tryz.prog 92 #[.int .i64 n, .int .i64 C] u fun e w' => e = .returned (.bool ok) ∧ w' = u) :
    Calls Tryz.prog 58 #[.string A] w fun e w' => e = .returned (.tuple #[if ok = true then refV ⟨#[]⟩ ⟨#[]⟩ n C fr fc else ref0, .bool ok]) ∧ Below w.heap.size w w' := by
  have c1 : (1 : Int) ≤ A1.size := by omega
  go_enter Tryz.func58, Tryz.ntmps58
  go_wp2_with (go_at_call 81; refine (CP _).mono ?_; rintro e w' ⟨rfl, hw⟩; obtain rfl := hw.symm; clear hw)
  refine (LT _).mono ?_
  rintro e w' ⟨rfl, hw⟩
  obtain rfl := hw.symm
  clear hw
  go_wp2_with fail
  refine (UP _).mono ?_
  rintro e w1 ⟨rfl, hb⟩
  obtain ⟨z1, z2⟩ := new2 hb
  have HB1 : Hid (Below w.heap.size w w1) := bel2 hb
  have Z1 : Hid (w1.heap[w.heap.size]? = some ref0O ∧ w1.heap[w.heap.size + 1]? = some (refO ⟨#[]⟩ ⟨#[]⟩ 0 0 false fc)) := ⟨z1, z2⟩
  obtain ⟨c0, c1, c2, c3, c4, c5⟩ := r_cells z2
  obtain ⟨f0, f1, f2, f3, f4, f5⟩ := r_free z2
  clear hb z1 z2 UP LT CP
  go_wp2_with fail
  refine (CQ _).mono ?_
  rintro e w' ⟨rfl, hw⟩
  obtain rfl := hw.symm
  clear hw
  go_wp2_with fail
  clear c0 c1 c2 c3 c4 c5 f0 f1 f2 f3 f4 f5
  refine (PR _ ?hh).mono ?_
  case hh => exact (HB1.out.setCell (by simp) _).setCell (by simp) _
  rintro e w2 ⟨rfl, hb⟩
  have HB2 : Hid (Below w.heap.size w w2) := bel_step ((HB1.out.setCell (by simp) _).setCell (by simp) _) hb
  have y2 := (hb.block _ (lt_of (set_4 (set_3 Z1.out.2)))).trans (set_4 (set_3 Z1.out.2))
  have y1 := (hb.block w.heap.size (lt_of ((set_o (by omega)).trans ((set_o (by omega)).trans Z1.out.1)))).trans ((set_o (by omega)).trans ((set_o (by omega)).trans Z1.out.1))
  have YY : Hid (w2.heap[w.heap.size]? = some ref0O ∧ w2.heap[w.heap.size + 1]? = some (refO ⟨#[]⟩ ⟨#[]⟩ 0 C fr fc)) := ⟨y1, y2⟩
  obtain ⟨c0, c1, c2, c3, c4, c5⟩ := r_cells y2
  obtain ⟨f0, f1, f2, f3, f4, f5⟩ := r_free y2
  obtain ⟨d0, d1, d2, d3, d4, d5⟩ := r_cells y1
  obtain ⟨e0, e1, e2, e3, e4, e5⟩ := r_free y1
  clear hb y1 y2 Z1
  go_wp2_with fail
  refine (IN _).mono ?_
  rintro e w' ⟨rfl, hw⟩
  obtain rfl := hw.symm
  have x2 := set_2 (v := .int .i64 n) YY.out.2
  have x1 := (set_o (u := w2) (k := 2) (v := .int .i64 n) (g := w.heap.size + 1) (j := w.heap.size) (by omega)).trans YY.out.1
  have HB3 : Hid (Below w.heap.size w (w2.setCell ⟨w.heap.size + 1, 2, none⟩ (.int .i64 n))) := HB2.out.setCell (by simp) _
  clear hw c0 c1 c2 c3 c4 c5 f0 f1 f2 f3 f4 f5 d0 d1 d2 d3 d4 d5 e0 e1 e2 e3 e4 e5 YY HB2 HB1 IN PR CQ
  generalize w2.setCell ⟨w.heap.size + 1, 2, none⟩ (.int .i64 n) = w3 at *
  have XX : Hid (w3.heap[w.heap.size]? = some ref0O) := x1
  obtain ⟨c0, c1, c2, c3, c4, c5⟩ := r_cells x2
  obtain ⟨d0, d1, d2, d3, d4, d5⟩ := r_cells x1
  obtain ⟨e0, e1, e2, e3, e4, e5⟩ := r_free x1
  clear x1 x2
  cases ok
  · go_wp2
    exact bodyPost_ret (res_ref rfl rfl (set6 XX.out) rfl) rfl ⟨rfl, bel_set6 HB3.out (Nat.le_refl _)⟩
  · go_wp2
    exact bodyPost_ret (res_ref rfl rfl (set6 XX.out) rfl) rfl ⟨rfl, bel_set6 HB3.out (Nat.le_refl _)⟩
end Go.Proofs.YtdgnodijmbeajaaGreatDoor

/- ParseCell of the program, for every text. -/
namespace Go.Proofs.YtdgnodijmbeajaaGreatDoor
open Go.RowKit
set_option maxRecDepth 100000
set_option linter.unusedVariables false
set_option linter.unusedSimpArgs false
theorem one_up (c : UInt8) (h : Ad.isL c = true) : 65 ≤ ((szB 97 65 c).toNat : Int) ∧ ((szB 97 65 c).toNat : Int) ≤ 90 ∧ ((szB 97 65 c).toNat : Int) - 65 + 1 = (Ad.colF c : Nat) := by
  unfold Ad.isL at h
  simp only [Bool.or_eq_true, Bool.and_eq_true, decide_eq_true_eq] at h
  unfold szB Ad.colF
  rcases h with h | h
  · rw [if_pos (by omega), if_pos (by omega), Ad.toNat_ofNat (by omega)]
    omega
  · rw [if_neg (by omega), if_neg (by omega)]
    omega
theorem up_one (c : UInt8) (u : World) : Calls Tryz.prog 90 #[.string ⟨#[c]⟩] u fun e w' => e = .returned (.string ⟨#[szB 97 65 c]⟩) ∧ Below u.heap.size u w' := up_any ⟨#[c]⟩ (by show 1 ≤ _; decide) u
theorem rup_one (c : UInt8) (u : World) : Calls Tryz.prog 100 #[.string ⟨#[c]⟩] u fun e w' => e = .returned (.string ⟨#[szB 97 65 c]⟩) ∧ Below u.heap.size u w' := rup_any ⟨#[c]⟩ (by show 1 ≤ _; decide) u
theorem cons_facts (c : UInt8) (r : List UInt8) : (⟨(c :: r).toArray⟩ : ByteArray).extract 0 1 = ⟨#[c]⟩ ∧ (⟨(c :: r).toArray⟩ : ByteArray).extract 1 (⟨(c :: r).toArray⟩ : ByteArray).size = ⟨r.toArray⟩ ∧ ((⟨(c :: r).toArray⟩ : ByteArray).toList == []) = false ∧ 0 < (⟨(c :: r).toArray⟩ : ByteArray).size := by
  refine ⟨?_, ?_, ?_, ?_⟩
  · apply ByteArray.ext
    simp
  · exact drop_mk (c :: r)
  · rw [ByteArray.toList_eq]; rfl
  · rw [size_mk]; simp
theorem inB_row (n : Int) (c : Nat) (h1 : 1 ≤ c) (h2 : c ≤ 26) : inB n c = true ↔ Ad.rowIn n := by
  unfold inB Ad.rowIn
  simp only [Bool.and_eq_true, decide_eq_true_eq]
  omega
theorem parsecell_any (l : List UInt8) (hl : l.length ≤ 140737488355328) (w : World) (T : Tab8 w) :
    Calls Tryz.prog 58 #[.string ⟨l.toArray⟩] w fun e w' => e = .returned (.tuple #[cellR (Ad.cellP l), .bool (Ad.cellP l).isSome]) ∧ Below w.heap.size w w' := by
  have CP := fun u => strip_any 36 l u
  have hlen := Ad.strip_len 36 l
  unfold Ad.cellP
  cases hs : (Ad.strip 36 l).2 with
  | nil =>
    rw [hs] at CP
    exact pc_empty CP (by rw [ByteArray.toList_eq])
  | cons c r =>
    rw [hs] at CP hlen
    obtain ⟨k1, k2, k3, k4⟩ := cons_facts c r
    simp only
    unfold Ad.restF
    cases hL : Ad.isL c
    · have LT := fun u => letter_any c u
      rw [hL] at LT
      rw [if_neg (by simp)]
      exact pc_other CP k3 k4 LT
    · have LT := fun u => letter_any c u
      rw [hL] at LT
      obtain ⟨b1, b2, _⟩ := Ad.colF_bd hL
      obtain ⟨y1, y2, y3⟩ := one_up c hL
      have hlr := Ad.strip_len 36 r
      have W : ∀ ok, inB (Ad.rowA (Ad.strip 36 r).2) (Ad.colF c : Nat) = ok → _ := fun ok hok => pc_letter (w := w) (ok := ok) CP k3 k4 LT k1 k2 (fun u => up_one c u) (show 0 < 1 by decide) y1 y2 y3 (fun u => strip_any 36 r u) (fun u hu => parserow_any (Ad.strip 36 r).2 (by simp only [List.length_cons] at hlen; omega) u (T.below hu)) (fun u => by have := in_any (Ad.rowA (Ad.strip 36 r).2) (Ad.colF c : Nat) u; rw [hok] at this; exact this)
      rcases Ad.row_ways (Ad.strip 36 r).2 with ⟨h1, h2⟩ | ⟨h1, h2⟩
      · have hx := W true ((inB_row _ _ b1 b2).2 h1)
        rw [h2] at hx h1
        unfold Ad.rowIn at h1
        rw [if_pos ⟨rfl, by omega, by omega⟩]
        exact hx
      · have hx := W false (by
          cases hb : inB (Ad.rowA (Ad.strip 36 r).2) (Ad.colF c : Nat)
          · rfl
          · exact absurd ((inB_row _ _ b1 b2).1 hb) h1)
        rw [if_neg (fun q => h2 q.2)]
        exact hx
end Go.Proofs.YtdgnodijmbeajaaGreatDoor

/- A cell's name is read: the reference. -/
namespace Go.Proofs.YtdgnodijmbeajaaGreatDoor
open Go.RowKit
set_option maxRecDepth 100000
set_option linter.unusedVariables false
set_option linter.unusedSimpArgs false
/-- A sign that stands ahead, or not. -/
def Cut36 (f : Bool) (A A1 : ByteArray) (h : 0 < A.size) : Prop := (f = true ∧ ((A[0].toNat : Int) == 36) = true ∧ A.extract 1 A.size = A1) ∨ (f = false ∧ ((A[0].toNat : Int) == 36) = false ∧ A = A1)
set_option maxHeartbeats 2000000 in
theorem rp_nil {A : ByteArray} {w : World} (h0 : A.size = 0) :
    Calls Tryz.prog 66 #[.string A] w fun e w' => e = .returned (.tuple #[ref0, .bool false]) ∧ Below w.heap.size w w' := by
  have c1 : ¬ (0 : Int) < A.size := by omega
  have c2 : (A.size : Int) < 2 := by omega
  go_enter Tryz.func66, Tryz.ntmps66
  go_wp2
  refine bodyPost_ret (v := .tuple #[ref0, .bool false]) (by simp [results, Tryz.results66, go_sem]) rfl ?_
  refine ⟨rfl, ?_⟩
  repeat (first | exact Below.refl _ _ | refine Below.drew ?_ | refine bel_alloc ?_ _ | refine Below.setCell ?_ (by simp) _)
set_option maxHeartbeats 2000000 in
theorem rp_short {A A1 : ByteArray} {fc : Bool} {w : World} (hz : 0 < A.size) (hA : Cut36 fc A A1 hz) (h2 : A1.size < 2) :
    Calls Tryz.prog 66 #[.string A] w fun e w' => e = .returned (.tuple #[ref0, .bool false]) ∧ Below w.heap.size w w' := by
  have c1 : (0 : Int) < A.size := by omega
  have c3 : (1 : Int) ≤ A.size := by omega
  have c2 : (A1.size : Int) < 2 := by omega
  rcases hA with ⟨rfl, h3, h4⟩ | ⟨rfl, h3, rfl⟩
  all_goals
    go_enter Tryz.func66, Tryz.ntmps66
    go_wp2
    refine bodyPost_ret (v := .tuple #[ref0, .bool false]) (by simp [results, Tryz.results66, go_sem]) rfl ?_
    refine ⟨rfl, ?_⟩
    repeat (first | exact Below.refl _ _ | refine Below.drew ?_ | refine bel_alloc ?_ _ | refine Below.setCell ?_ (by simp) _)
set_option maxHeartbeats 2000000 in
theorem rp_other {A A1 : ByteArray} {fc : Bool} {w : World} (hz : 0 < A.size) (hA : Cut36 fc A A1 hz) (h2 : 2 ≤ A1.size) (h0 : 0 < A1.size)
    (LT : ∀ u, Calls Tryz.prog 37 #[.int .u8 (A1[0].toNat : Nat)] u fun e w' => e = .returned (.bool false) ∧ w' = u) :
    Calls Tryz.prog 66 #[.string A] w fun e w' => e = .returned (.tuple #[ref0, .bool false]) ∧ Below w.heap.size w w' := by
  have c1 : (0 : Int) < A.size := by omega
  have c3 : (1 : Int) ≤ A.size := by omega
  have c2 : ¬ (A1.size : Int) < 2 := by omega
  rcases hA with ⟨rfl, h3, h4⟩ | ⟨rfl, h3, rfl⟩
  all_goals
    go_enter Tryz.func66, Tryz.ntmps66
    go_wp2_with (go_at_call 37; refine (LT _).mono ?_; rintro e w' ⟨rfl, hw⟩; obtain rfl := hw.symm; clear hw)
    refine bodyPost_ret (v := .tuple #[ref0, .bool false]) (by simp [results, Tryz.results66, go_sem]) rfl ?_
    refine ⟨rfl, ?_⟩
    repeat (first | exact Below.refl _ _ | refine Below.drew ?_ | refine bel_alloc ?_ _ | refine Below.setCell ?_ (by simp) _)
end Go.Proofs.YtdgnodijmbeajaaGreatDoor
