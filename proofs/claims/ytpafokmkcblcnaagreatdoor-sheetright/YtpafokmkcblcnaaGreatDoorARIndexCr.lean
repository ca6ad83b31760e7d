/- AParse, AParse2, ARParse, ARParseB, ARParseDt, ARParseDf, ARParse2, ARefP, ARIndex. -/
import Derived.Test.YtpafokmkcblcnaaGreatDoorARowCr
set_option linter.unusedVariables false
set_option linter.unusedSimpArgs false
namespace Go.Proofs.YtpafokmkcblcnaaGreatDoor
open Go.RowKit
set_option maxRecDepth 100000
abbrev ref0O : Obj := refO ⟨#[]⟩ ⟨#[]⟩ 0 0 false false
def cellR (o : Option Ad.Cell) : Value := match o with
  | none => ref0
  | some c => refV ⟨#[]⟩ ⟨#[]⟩ c.row c.col c.fr c.fc
section
variable {u : World} {g : Nat} {a b c d e f v : Value} {t : TypeId}
theorem set_2 (h : u.heap[g]? = some (.cells #[a, b, c, d, e, f] t (0, 0))) : (u.setCell ⟨g, 2, none⟩ v).heap[g]? = some (.cells #[a, b, v, d, e, f] t (0, 0)) := by
  simp [World.setCell, Array.getElem?_modify, h]
theorem set_3 (h : u.heap[g]? = some (.cells #[a, b, c, d, e, f] t (0, 0))) : (u.setCell ⟨g, 3, none⟩ v).heap[g]? = some (.cells #[a, b, c, v, e, f] t (0, 0)) := by
  simp [World.setCell, Array.getElem?_modify, h]
theorem set_4 (h : u.heap[g]? = some (.cells #[a, b, c, d, e, f] t (0, 0))) : (u.setCell ⟨g, 4, none⟩ v).heap[g]? = some (.cells #[a, b, c, d, v, f] t (0, 0)) := by
  simp [World.setCell, Array.getElem?_modify, h]
theorem set_o {j k : Nat} (hj : g ≠ j) : (u.setCell ⟨g, k, none⟩ v).heap[j]? = u.heap[j]? := by
  simp [World.setCell, Array.getElem?_modify, hj]
end
section
variable {u : World} {g : Nat} {a b c d e f a' b' c' d' e' f' : Value} {t : TypeId}
theorem set6 (h : u.heap[g]? = some (.cells #[a, b, c, d, e, f] t (0, 0))) : ((((((u.setCell ⟨g, 0, none⟩ a').setCell ⟨g, 1, none⟩ b').setCell ⟨g, 2, none⟩ c').setCell ⟨g, 3, none⟩ d').setCell ⟨g, 4, none⟩ e').setCell ⟨g, 5, none⟩ f').heap[g]? = some (.cells #[a', b', c', d', e', f'] t (0, 0)) := by
  simp [World.setCell, Array.getElem?_modify, h]
theorem bel_set6 {w : World} (h : Below w.heap.size w u) (hg : w.heap.size ≤ g) : Below w.heap.size w ((((((u.setCell ⟨g, 0, none⟩ a').setCell ⟨g, 1, none⟩ b').setCell ⟨g, 2, none⟩ c').setCell ⟨g, 3, none⟩ d').setCell ⟨g, 4, none⟩ e').setCell ⟨g, 5, none⟩ f') :=
  (((((h.setCell hg _).setCell hg _).setCell hg _).setCell hg _).setCell hg _).setCell hg _
end
theorem res_ref {fn : Func} {i j : Tmp} (hr : fn.results = #[.cell i 64, .tmp j]) {tmps : Array Value} {g : Nat} {wf : World} (hp : tmps.getD i undef = .pointer (some ⟨g, 0, none⟩)) {b s : ByteArray} {r c : Int} {fr fc ok : Bool}
    (h : wf.heap[g]? = some (refO b s r c fr fc)) (hj : tmps.getD j undef = .bool ok) : (results fn tmps).run Tryz.prog wf = .ok (.tuple #[refV b s r c fr fc, .bool ok]) wf := by
  obtain ⟨c0, c1, c2, c3, c4, c5⟩ := r_cells h
  simp only [Array.getD_eq_getD_getElem?] at hp hj
  simp [results, hr, hp, hj, go_sem, c0, c1, c2, c3, c4, c5]
set_option maxHeartbeats 2000000 in
theorem pc_empty {A A1 : ByteArray} {fc : Bool} {w : World} (CP : ∀ u, Calls Tryz.prog 73 #[.string A, .string ⟨#[36]⟩] u fun e w' => e = .returned (.tuple #[.string A1, .bool fc]) ∧ w' = u) (h0 : A1.toList = []) :
    Calls Tryz.prog 233 #[.string A] w fun e w' => e = .returned (.tuple #[ref0, .bool false]) ∧ Below w.heap.size w w' := by
  go_enter Tryz.func233, Tryz.ntmps233
  go_wp2_with (go_at_call 73; refine (CP _).mono ?_; rintro e w' ⟨rfl, hw⟩; obtain rfl := hw.symm; clear hw)
  refine bodyPost_ret (v := .tuple #[ref0, .bool false]) (by simp [results, Tryz.results233, go_sem]) rfl ?_
  refine ⟨rfl, ?_⟩
  repeat (first | exact Below.refl _ _ | refine Below.drew ?_ | refine bel_alloc ?_ _ | refine Below.setCell ?_ (by simp) _)
set_option maxHeartbeats 2000000 in
theorem pc_other {A A1 : ByteArray} {fc : Bool} {w : World} (CP : ∀ u, Calls Tryz.prog 73 #[.string A, .string ⟨#[36]⟩] u fun e w' => e = .returned (.tuple #[.string A1, .bool fc]) ∧ w' = u) (h0 : (A1.toList == []) = false) (hz : 0 < A1.size)
    (LT : ∀ u, Calls Tryz.prog 158 #[.int .u8 (A1[0].toNat : Nat)] u fun e w' => e = .returned (.bool false) ∧ w' = u) :
    Calls Tryz.prog 233 #[.string A] w fun e w' => e = .returned (.tuple #[ref0, .bool false]) ∧ Below w.heap.size w w' := by
  go_enter Tryz.func233, Tryz.ntmps233
  go_wp2_with (first | (go_at_call 73; refine (CP _).mono ?_; rintro e w' ⟨rfl, hw⟩; obtain rfl := hw.symm; clear hw) | (go_at_call 158; refine (LT _).mono ?_; rintro e w' ⟨rfl, hw⟩; obtain rfl := hw.symm; clear hw))
  refine bodyPost_ret (v := .tuple #[ref0, .bool false]) (by simp [results, Tryz.results233, go_sem]) rfl ?_
  refine ⟨rfl, ?_⟩
  repeat (first | exact Below.refl _ _ | refine Below.drew ?_ | refine bel_alloc ?_ _ | refine Below.setCell ?_ (by simp) _)
set_option maxHeartbeats 4000000 in
theorem pc_letter {A A1 U V Y A2 : ByteArray} {fc fr ok : Bool} {n C : Int} {w : World} (CP : ∀ u, Calls Tryz.prog 73 #[.string A, .string ⟨#[36]⟩] u fun e w' => e = .returned (.tuple #[.string A1, .bool fc]) ∧ w' = u) (h0 : (A1.toList == []) = false) (hz : 0 < A1.size)
    (LT : ∀ u, Calls Tryz.prog 158 #[.int .u8 (A1[0].toNat : Nat)] u fun e w' => e = .returned (.bool true) ∧ w' = u) (hU : A1.extract 0 1 = U) (hV : A1.extract 1 A1.size = V)
    (UP : ∀ u, Calls Tryz.prog 214 #[.string U] u fun e w' => e = .returned (.string Y) ∧ Below u.heap.size u w') (hY : 0 < Y.size) (hy1 : 65 ≤ (Y[0].toNat : Int)) (hy2 : (Y[0].toNat : Int) ≤ 90) (hC : (Y[0].toNat : Int) - 65 + 1 = C)
    (CQ : ∀ u, Calls Tryz.prog 73 #[.string V, .string ⟨#[36]⟩] u fun e w' => e = .returned (.tuple #[.string A2, .bool fr]) ∧ w' = u)
    (PR : ∀ u, Below w.heap.size w u → Calls Tryz.prog 267 #[.string A2] u fun e w' => e = .returned (.int .i64 n) ∧ Below u.heap.size u w') (IN : ∀ u, Calls Tryz.prog 212 #[.int .i64 n, .int .i64 C] u fun e w' => e = .returned (.bool ok) ∧ w' = u) :
    Calls Tryz.prog 233 #[.string A] w fun e w' => e = .returned (.tuple #[if ok = true then refV ⟨#[]⟩ ⟨#[]⟩ n C fr fc else ref0, .bool ok]) ∧ Below w.heap.size w w' := by
  have c1 : (1 : Int) ≤ A1.size := by omega
  go_enter Tryz.func233, Tryz.ntmps233
  go_wp2_with (go_at_call 73; refine (CP _).mono ?_; rintro e w' ⟨rfl, hw⟩; obtain rfl := hw.symm; clear hw)
  refine (LT _).mono ?_
  rintro e w' ⟨rfl, hw⟩
  obtain rfl := hw.symm
  clear hw
  go_wp2_with fail
  refine (UP _).mono ?_
  rintro e w1 ⟨rfl, hb⟩
  obtain ⟨z1, z2⟩ := new2 hb
  have HB1 : Hid (Below w.heap.size w w1) := bel2 hb
  have Z1 : Hid (w1.heap[w.heap.size]? = some ref0O ∧ w1.heap[w.heap.size + 1]? = some (refO ⟨#[]⟩ ⟨#[]⟩ 0 0 false fc)) := ⟨z1, z2⟩
  obtain ⟨c0, c1, c2, c3, c4, c5⟩ := r_cells z2
  obtain ⟨f0, f1, f2, f3, f4, f5⟩ := r_free z2
  clear hb z1 z2 UP LT CP
  go_wp2_with fail
  refine (CQ _).mono ?_
  rintro e w' ⟨rfl, hw⟩
  obtain rfl := hw.symm
  clear hw
  go_wp2_with fail
  clear c0 c1 c2 c3 c4 c5 f0 f1 f2 f3 f4 f5
  refine (PR _ ?hh).mono ?_
  case hh => exact (HB1.out.setCell (by simp) _).setCell (by simp) _
  rintro e w2 ⟨rfl, hb⟩
  have HB2 : Hid (Below w.heap.size w w2) := bel_step ((HB1.out.setCell (by simp) _).setCell (by simp) _) hb
  have y2 := (hb.block _ (lt_of (set_4 (set_3 Z1.out.2)))).trans (set_4 (set_3 Z1.out.2))
  have y1 := (hb.block w.heap.size (lt_of ((set_o (by omega)).trans ((set_o (by omega)).trans Z1.out.1)))).trans ((set_o (by omega)).trans ((set_o (by omega)).trans Z1.out.1))
  have YY : Hid (w2.heap[w.heap.size]? = some ref0O ∧ w2.heap[w.heap.size + 1]? = some (refO ⟨#[]⟩ ⟨#[]⟩ 0 C fr fc)) := ⟨y1, y2⟩
  obtain ⟨c0, c1, c2, c3, c4, c5⟩ := r_cells y2
  obtain ⟨f0, f1, f2, f3, f4, f5⟩ := r_free y2
  obtain ⟨d0, d1, d2, d3, d4, d5⟩ := r_cells y1
  obtain ⟨e0, e1, e2, e3, e4, e5⟩ := r_free y1
  clear hb y1 y2 Z1
  go_wp2_with fail
  refine (IN _).mono ?_
  rintro e w' ⟨rfl, hw⟩
  obtain rfl := hw.symm
  have x2 := set_2 (v := .int .i64 n) YY.out.2
  have x1 := (set_o (u := w2) (k := 2) (v := .int .i64 n) (g := w.heap.size + 1) (j := w.heap.size) (by omega)).trans YY.out.1
  have HB3 : Hid (Below w.heap.size w (w2.setCell ⟨w.heap.size + 1, 2, none⟩ (.int .i64 n))) := HB2.out.setCell (by simp) _
  clear hw c0 c1 c2 c3 c4 c5 f0 f1 f2 f3 f4 f5 d0 d1 d2 d3 d4 d5 e0 e1 e2 e3 e4 e5 YY HB2 HB1 IN PR CQ
  generalize w2.setCell ⟨w.heap.size + 1, 2, none⟩ (.int .i64 n) = w3 at *
  have XX : Hid (w3.heap[w.heap.size]? = some ref0O) := x1
  obtain ⟨c0, c1, c2, c3, c4, c5⟩ := r_cells x2
  obtain ⟨d0, d1, d2, d3, d4, d5⟩ := r_cells x1
  obtain ⟨e0, e1, e2, e3, e4, e5⟩ := r_free x1
  clear x1 x2
  cases ok
  · go_wp2
    exact bodyPost_ret (res_ref rfl rfl (set6 XX.out) rfl) rfl ⟨rfl, bel_set6 HB3.out (Nat.le_refl _)⟩
  · go_wp2
    exact bodyPost_ret (res_ref rfl rfl (set6 XX.out) rfl) rfl ⟨rfl, bel_set6 HB3.out (Nat.le_refl _)⟩
end Go.Proofs.YtpafokmkcblcnaaGreatDoor

namespace Go.Proofs.YtpafokmkcblcnaaGreatDoor
open Go.RowKit
set_option maxRecDepth 100000
theorem one_up (c : UInt8) (h : Ad.isL c = true) : 65 ≤ ((szB 97 65 c).toNat : Int) ∧ ((szB 97 65 c).toNat : Int) ≤ 90 ∧ ((szB 97 65 c).toNat : Int) - 65 + 1 = (Ad.colF c : Nat) := by
  unfold Ad.isL at h
  simp only [Bool.or_eq_true, Bool.and_eq_true, decide_eq_true_eq] at h
  unfold szB Ad.colF
  rcases h with h | h
  · rw [if_pos (by omega), if_pos (by omega), Ad.toNat_ofNat (by omega)]
    omega
  · rw [if_neg (by omega), if_neg (by omega)]
    omega
theorem up_one (c : UInt8) (u : World) : Calls Tryz.prog 214 #[.string ⟨#[c]⟩] u fun e w' => e = .returned (.string ⟨#[szB 97 65 c]⟩) ∧ Below u.heap.size u w' := up_any ⟨#[c]⟩ (by show 1 ≤ _; decide) u
theorem cons_facts (c : UInt8) (r : List UInt8) : (⟨(c :: r).toArray⟩ : ByteArray).extract 0 1 = ⟨#[c]⟩ ∧ (⟨(c :: r).toArray⟩ : ByteArray).extract 1 (⟨(c :: r).toArray⟩ : ByteArray).size = ⟨r.toArray⟩ ∧ ((⟨(c :: r).toArray⟩ : ByteArray).toList == []) = false ∧ 0 < (⟨(c :: r).toArray⟩ : ByteArray).size := by
  refine ⟨?_, ?_, ?_, ?_⟩
  · apply ByteArray.ext
    simp
  · exact drop_mk (c :: r)
  · rw [ByteArray.toList_eq]; rfl
  · rw [size_mk]; simp
theorem inB_row (n : Int) (c : Nat) (h1 : 1 ≤ c) (h2 : c ≤ 26) : inB n c = true ↔ Ad.rowIn n := by
  unfold inB Ad.rowIn
  simp only [Bool.and_eq_true, decide_eq_true_eq]
  omega
theorem parsecell_any (l : List UInt8) (hl : l.length ≤ 140737488355328) (w : World) (T : Tab8 w) :
    Calls Tryz.prog 233 #[.string ⟨l.toArray⟩] w fun e w' => e = .returned (.tuple #[cellR (Ad.cellP l), .bool (Ad.cellP l).isSome]) ∧ Below w.heap.size w w' := by
  have CP := fun u => strip_any 36 l u
  have hlen := Ad.strip_len 36 l
  unfold Ad.cellP
  cases hs : (Ad.strip 36 l).2 with
  | nil =>
    rw [hs] at CP
    exact pc_empty CP (by rw [ByteArray.toList_eq])
  | cons c r =>
    rw [hs] at CP hlen
    obtain ⟨k1, k2, k3, k4⟩ := cons_facts c r
    simp only
    unfold Ad.restF
    cases hL : Ad.isL c
    · have LT := fun u => letter_any c u
      rw [hL] at LT
      rw [if_neg (by simp)]
      exact pc_other CP k3 k4 LT
    · have LT := fun u => letter_any c u
      rw [hL] at LT
      obtain ⟨b1, b2, _⟩ := Ad.colF_bd hL
      obtain ⟨y1, y2, y3⟩ := one_up c hL
      have hlr := Ad.strip_len 36 r
      have W : ∀ ok, inB (Ad.rowA (Ad.strip 36 r).2) (Ad.colF c : Nat) = ok → _ := fun ok hok => pc_letter (w := w) (ok := ok) CP k3 k4 LT k1 k2 (fun u => up_one c u) (show 0 < 1 by decide) y1 y2 y3 (fun u => strip_any 36 r u) (fun u hu => parserow_any (Ad.strip 36 r).2 (by simp only [List.length_cons] at hlen; omega) u (T.below hu)) (fun u => by have := in_any (Ad.rowA (Ad.strip 36 r).2) (Ad.colF c : Nat) u; rw [hok] at this; exact this)
      rcases Ad.row_ways (Ad.strip 36 r).2 with ⟨h1, h2⟩ | ⟨h1, h2⟩
      · have hx := W true ((inB_row _ _ b1 b2).2 h1)
        rw [h2] at hx h1
        unfold Ad.rowIn at h1
        rw [if_pos ⟨rfl, by omega, by omega⟩]
        exact hx
      · have hx := W false (by
          cases hb : inB (Ad.rowA (Ad.strip 36 r).2) (Ad.colF c : Nat)
          · rfl
          · exact absurd ((inB_row _ _ b1 b2).1 hb) h1)
        rw [if_neg (fun q => h2 q.2)]
        exact hx
end Go.Proofs.YtpafokmkcblcnaaGreatDoor

namespace Go.Proofs.YtpafokmkcblcnaaGreatDoor
open Go.RowKit
set_option maxRecDepth 100000
end Go.Proofs.YtpafokmkcblcnaaGreatDoor

namespace Go.Proofs.YtpafokmkcblcnaaGreatDoor
open Go.RowKit
set_option maxRecDepth 100000
end Go.Proofs.YtpafokmkcblcnaaGreatDoor

namespace Go.Proofs.YtpafokmkcblcnaaGreatDoor
open Go.RowKit
set_option maxRecDepth 100000
end Go.Proofs.YtpafokmkcblcnaaGreatDoor

namespace Go.Proofs.YtpafokmkcblcnaaGreatDoor
open Go.RowKit
set_option maxRecDepth 100000
end Go.Proofs.YtpafokmkcblcnaaGreatDoor

namespace Go.Proofs.YtpafokmkcblcnaaGreatDoor
open Go.RowKit
set_option maxRecDepth 100000
end Go.Proofs.YtpafokmkcblcnaaGreatDoor

namespace Go.Proofs.YtpafokmkcblcnaaGreatDoor
open Go.RowKit
set_option maxRecDepth 100000
end Go.Proofs.YtpafokmkcblcnaaGreatDoor

namespace Go.Proofs.YtpafokmkcblcnaaGreatDoor
open Go.RowKit
set_option maxRecDepth 100000
end Go.Proofs.YtpafokmkcblcnaaGreatDoor

namespace Go.Proofs.YtpafokmkcblcnaaGreatDoor
open Go.RowKit
set_option maxRecDepth 100000
end Go.Proofs.YtpafokmkcblcnaaGreatDoor

namespace Go.Proofs.YtpafokmkcblcnaaGreatDoor
open Go.RowKit
set_option maxRecDepth 100000
end Go.Proofs.YtpafokmkcblcnaaGreatDoor

namespace Go.Proofs.YtpafokmkcblcnaaGreatDoor
open Go.RowKit
set_option maxRecDepth 100000
end Go.Proofs.YtpafokmkcblcnaaGreatDoor

namespace Go.Proofs.YtpafokmkcblcnaaGreatDoor
open Go.RowKit
set_option maxRecDepth 100000
end Go.Proofs.YtpafokmkcblcnaaGreatDoor

namespace Go.Proofs.YtpafokmkcblcnaaGreatDoor
open Go.RowKit
set_option maxRecDepth 100000
def refR (o : Option Ad.Ref) : Value := match o with
  | none => ref0
  | some r => refV ⟨r.book.toArray⟩ ⟨r.sheet.toArray⟩ r.cell.row r.cell.col r.cell.fr r.cell.fc
def nmsF (l : List UInt8) : List UInt8 × List UInt8 × Bool :=
  if (Ad.strip 91 l).1 = true then ((cutF 93 (Ad.strip 91 l).2).1, (cutF 93 (Ad.strip 91 l).2).2.1, gnF (cutF 93 (Ad.strip 91 l).2).1 && gnF (cutF 93 (Ad.strip 91 l).2).2.1) else ([], l, gnF l)
def progP (l : List UInt8) : Option Ad.Ref := match Ad.at_ 33 l with
  | none => (Ad.cellP l).map fun c => ⟨[], [], c⟩
  | some p => if (nmsF p.1).2.2 = true then (Ad.cellP p.2).map fun c => ⟨(nmsF p.1).1, (nmsF p.1).2.1, c⟩ else none
theorem gn_nil : gnF [] = false := rfl
theorem gn_no33 {l : List UInt8} (h : 33 ∈ l) : gnF l = false := by
  cases hg : gnF l
  · rfl
  · exact absurd rfl ((gn_names l hg).2 33 h).1
theorem cell_br (m : List UInt8) : Ad.cellP (91 :: m) = none := rfl
theorem at_cons_ne {c x : UInt8} {r : List UInt8} (h : x ≠ c) : Ad.at_ c (x :: r) = (Ad.at_ c r).map fun p => (x :: p.1, p.2) := by
  rw [Ad.at_, if_neg h]
theorem at_long {c : UInt8} : ∀ {l m : List UInt8}, (∀ x ∈ l, x ≠ c) → Ad.at_ c (l ++ m) = (Ad.at_ c m).map fun p => (l ++ p.1, p.2)
  | [], m, _ => by rw [List.nil_append]; cases Ad.at_ c m <;> rfl
  | x :: l, m, h => by
    rw [List.cons_append, at_cons_ne (h x (List.mem_cons_self ..)), at_long (l := l) (m := m) fun y hy => h y (List.mem_cons_of_mem _ hy)]
    cases Ad.at_ c m <;> rfl
theorem prog_eq (l : List UInt8) : progP l = Ad.refP gnF l := by
  cases l with
  | nil => rfl
  | cons x m =>
    by_cases hx : x = 91
    · subst hx
      have e1 : Ad.refP gnF (91 :: m) = match Ad.at_ 93 m with
        | none => none
        | some (a, r) => if gnF a = true ∧ (Ad.at_ 33 r).isSome = true then Ad.sheetP gnF a r else none := rfl
      rw [e1]
      unfold progP
      rw [at_cons_ne (show (91 : UInt8) ≠ 33 by decide)]
      cases h3 : Ad.at_ 33 m with
      | none =>
        simp only [Option.map_none]
        rw [cell_br]
        cases h9 : Ad.at_ 93 m with
        | none => rfl
        | some p =>
          obtain ⟨a, r⟩ := p
          have e2 := (Ad.at_some h9).1
          have : Ad.at_ 33 r = none := by
            by_cases ha : 33 ∈ a
            · exfalso
              rw [e2] at h3
              have key : ∀ l : List UInt8, (33 : UInt8) ∈ l → Ad.at_ 33 l ≠ none := by
                intro l
                induction l with
                | nil => intro h; cases h
                | cons y q ih =>
                  intro h e
                  unfold Ad.at_ at e
                  by_cases hy : y = 33
                  · rw [if_pos hy] at e; cases e
                  · rw [if_neg hy] at e
                    rcases List.mem_cons.1 h with h | h
                    · exact hy h.symm
                    · cases hq : Ad.at_ 33 q with
                      | none => exact ih h hq
                      | some z => rw [hq] at e; cases e
              exact key _ (List.mem_append_left _ ha) h3
            · rw [e2, at_long (c := 33) (l := a) (fun y hy e => ha (by rw [← e]; exact hy)), at_cons_ne (show (93 : UInt8) ≠ 33 by decide)] at h3
              cases hr : Ad.at_ 33 r with
              | none => rfl
              | some z => rw [hr] at h3; cases h3
          simp only [this]
          rw [if_neg (by simp)]
          rfl
      | some p =>
        obtain ⟨a', rest⟩ := p
        obtain ⟨e2, n2⟩ := Ad.at_some h3
        simp only [Option.map_some]
        have es : Ad.strip 91 (91 :: a') = (true, a') := Ad.strip_yes 91 a'
        unfold nmsF
        rw [es]
        simp only [if_true]
        cases h9 : Ad.at_ 93 a' with
        | none =>
          rw [cutF_none h9]
          simp only [gn_nil, Bool.and_false, Bool.false_eq_true, if_false]
          cases hm : Ad.at_ 93 m with
          | none => rfl
          | some q =>
            obtain ⟨a, r⟩ := q
            have h33 : 33 ∈ a := by
              rw [e2] at hm
              have nA : ∀ x ∈ a', x ≠ 93 := by
                intro x hx e
                subst e
                have key : ∀ l : List UInt8, (93 : UInt8) ∈ l → Ad.at_ 93 l ≠ none := by
                  intro l
                  induction l with
                  | nil => intro h; cases h
                  | cons y q ih =>
                    intro h e
                    unfold Ad.at_ at e
                    by_cases hy : y = 93
                    · rw [if_pos hy] at e; cases e
                    · rw [if_neg hy] at e
                      rcases List.mem_cons.1 h with h | h
                      · exact hy h.symm
                      · cases hq : Ad.at_ 93 q with
                        | none => exact ih h hq
                        | some z => rw [hq] at e; cases e
                exact key _ hx h9
              rw [at_long nA, at_cons_ne (show (33 : UInt8) ≠ 93 by decide)] at hm
              cases hr : Ad.at_ 93 rest with
              | none => rw [hr] at hm; cases hm
              | some z =>
                rw [hr] at hm
                simp only [Option.map_some, Option.some.injEq, Prod.mk.injEq] at hm
                rw [← hm.1]
                exact List.mem_append_right _ (List.mem_cons_self ..)
            simp only [gn_no33 h33, Bool.false_eq_true, false_and, if_false]
        | some q =>
          obtain ⟨b, s'⟩ := q
          obtain ⟨e3, n3⟩ := Ad.at_some h9
          rw [cutF_some h9]
          have hm : Ad.at_ 93 m = some (b, s' ++ 33 :: rest) := by
            rw [e2, e3, List.append_assoc, List.cons_append]
            exact Ad.at_app _ n3
          have hs : Ad.at_ 33 (s' ++ 33 :: rest) = some (s', rest) := Ad.at_app _ fun y hy => n2 y (by rw [e3]; exact List.mem_append_right _ (List.mem_cons_of_mem _ hy))
          rw [hm]
          simp only [hs]
          unfold Ad.sheetP
          simp only [hs]
          cases gnF b <;> cases gnF s' <;> simp
    · rw [Ad.refP_plain (by simpa using hx)]
      unfold progP Ad.sheetP
      cases h3 : Ad.at_ 33 (x :: m) with
      | none => rfl
      | some p =>
        obtain ⟨a, r⟩ := p
        obtain ⟨e2, n2⟩ := Ad.at_some h3
        have es : nmsF a = ([], a, gnF a) := by
          unfold nmsF
          have : (Ad.strip 91 a).1 = false := by
            cases a with
            | nil => rfl
            | cons y q =>
              simp only [List.cons_append, List.cons.injEq] at e2
              rw [Ad.strip_cons, if_neg (by rw [← e2.1]; exact hx)]
          rw [this]
          rfl
        simp only [es]
theorem at_some_len {c : UInt8} {l a b : List UInt8} (h : Ad.at_ c l = some (a, b)) : a.length + b.length + 1 = l.length := by
  rw [(Ad.at_some h).1]
  simp
  omega
end Go.Proofs.YtpafokmkcblcnaaGreatDoor

namespace Go.Proofs.YtpafokmkcblcnaaGreatDoor
open Go.RowKit
set_option maxRecDepth 100000
end Go.Proofs.YtpafokmkcblcnaaGreatDoor
