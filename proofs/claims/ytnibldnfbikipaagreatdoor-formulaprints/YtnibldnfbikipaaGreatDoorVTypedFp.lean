/- VRUp, VTruth, VMake, VTyped. -/
import Derived.Test.YtnibldnfbikipaaGreatDoorVUpFp
set_option linter.unusedVariables false
set_option linter.unusedSimpArgs false
set_option maxHeartbeats 16000000
set_option maxRecDepth 100000
namespace Go.Proofs.YtnibldnfbikipaaGreatDoor
open Go.RowKit
structure RX (w : World) (L : List UInt8) (u : World) : Prop where
 row : ∃ C : Array Value, u.heap[w.heap.size]? = some (.cells C 5 (C.size, C.size + 1)) ∧ ∀ j (h : j < L.length), C[j]? = some (.int .u8 (L[j].toNat : Nat))
 bel : Below w.heap.size w u
theorem RX.cell {w u : World} {L : List UInt8} (h : RX w L u) {j : Nat} (hj : j < L.length) :
  u.cell? ⟨w.heap.size, j, none⟩ = some (.int .u8 (L[j].toNat : Nat)) ∧ u.frozen? ⟨w.heap.size, j, none⟩ = false := by
 obtain ⟨C, h1, h2⟩ := h.row
 have hc : j < C.size := (Array.getElem?_eq_some_iff.1 (h2 j hj)).1
 constructor
 ·rw [cell_of_row u _ _ C 5 _ h1]; exact h2 j hj
 ·simp [World.frozen?, h1]; omega
theorem RX.store {w u : World} {L : List UInt8} (h : RX w L u) {j : Nat} (hj : j < L.length) (x : UInt8) :
  RX w (L.set j x) (u.setCell ⟨w.heap.size, j, none⟩ (.int .u8 (x.toNat : Nat))) := by
 obtain ⟨C, h1, h2⟩ := h.row
 have hc : j < C.size := (Array.getElem?_eq_some_iff.1 (h2 j hj)).1
 refine ⟨⟨C.setIfInBounds j (.int .u8 (x.toNat : Nat)), ?_, fun i hi => ?_⟩, h.bel.setCell (Nat.le_refl _) _⟩
 ·simp [World.setCell, Array.getElem?_modify, h1]
 ·rw [List.length_set] at hi
  rw [Array.getElem?_setIfInBounds, List.getElem_set]
  by_cases e : j = i
  ·subst e; simp [hc]
  ·simp [e, h2 i hi]
theorem RX.begin {w : World} {s : ByteArray} {cap : Nat} : RX w s.data.toList (w.drew.alloc (.cells (bytesRow s cap) 5 ((bytesRow s cap).size, (bytesRow s cap).size + 1))) := by
 refine ⟨⟨bytesRow s cap, heap_alloc_new w.drew _, fun j hj => ?_⟩, ((Below.refl _ _).drew).alloc (Nat.le_refl _) _⟩
 have := bytesRow_at s cap j (by simpa using hj)
 rw [this]
 simp
theorem RX.conv {w u : World} {L : List UInt8} {cap : Nat} (h : RX w L u) :
  (convert 96 9 (.slice (some ⟨w.heap.size, 0, none⟩) L.length cap)).run Tryz.prog u = .ok (.string ⟨L.toArray⟩) u :=
 run_convert_bytes_back u 96 9 5 _ cap L Tryz.underlying96 Tryz.underlying5 Tryz.underlying9 fun j hj => by
  have hp : (⟨w.heap.size, 0, none⟩ : Addr).add j = ⟨w.heap.size, j, none⟩ := by unfold Addr.add; split <;> simp_all
  rw [hp]
  exact (h.cell hj).1
theorem rup_any (s : ByteArray) (hs : s.size ≤ 9223372036854775807) (w : World) : Calls Tryz.prog 142 #[.string s] w fun e w' => e = .returned (.string ⟨(szF 97 65 s.data.toList).toArray⟩) ∧ Below w.heap.size w w' := by
 have hlen : s.data.toList.length = s.size := by simp
 have HL : Hid (∀ p, (szP 97 65 s.data.toList p).length = s.size) := fun p => by rw [szP_len, hlen]
 have CV : ∀ W : World, (convert 9 96 (.string s)).run Tryz.prog W = _ := fun W => run_bytes_of_string W 9 96 5 s Tryz.underlying9 Tryz.underlying96 Tryz.underlying5
 go_enter Tryz.func142, Tryz.ntmps142
 go_wp2
 generalize hcap : grownCap w s.size 0 5 = cap
 go_loopw [10] (fun i w' => ∃ (p : Nat), p ≤ s.size ∧ i = .int .i64 p ∧ RX w (szP 97 65 s.data.toList p) w') (fun i _ => s.size - (intOf i).toNat)
 case atStart => exact ⟨0, Nat.zero_le _, rfl, by rw [szP_zero]; exact RX.begin⟩
 case round =>
  clear CV
  obtain ⟨p, hp, rfl, hR⟩ := hrel
  by_cases hlt : p < s.size
  ·have hpl : p < s.data.toList.length := by rw [hlen]; exact hlt
   have hj : p < (szP 97 65 s.data.toList p).length := by rw [HL.out]; exact hlt
   obtain ⟨k1, k2⟩ := hR.cell hj
   have hsuc := szP_succ 97 65 s.data.toList p hpl
   have hat : (szP 97 65 s.data.toList p)[p] = s.data.toList[p] := Option.some.inj ((List.getElem?_eq_getElem hj).symm.trans (szP_at 97 65 s.data.toList p hpl))
   rw [hat] at k1
   generalize hcc : s.data.toList[p] = c at *
   by_cases hin : 97 ≤ c.toNat ∧ c.toNat ≤ 97 + 25
   ·have hi1 : 97 ≤ (c.toNat : Int) := by omega
    have hi2 : (c.toNat : Int) ≤ 97 + 25 := by omega
    have HR2 : Hid (RX w ((szP 97 65 s.data.toList p).set p (szB 97 65 c)) (wr.setCell ⟨w.heap.size, p, none⟩ (.int .u8 ((c.toNat : Int) - 32)))) := by
     have := hR.store hj (szB 97 65 c)
     rw [szB_in 97 65 c hin (by decide), show (c.toNat : Int) - (97 : Nat) + (65 : Nat) = (c.toNat : Int) - 32 by omega] at this
     exact this
    have HS : Hid _ := hsuc
    clear hsuc hR hat
    go_wp2
    go_roundw
    case rel => exact ⟨p + 1, by omega, by go_num, by rw [HS.out]; exact HR2.out⟩
    case measure => simp [intOf]; omega
   ·have HR2 : Hid (RX w (szP 97 65 s.data.toList (p + 1)) wr) := by
     show RX _ _ _
     rw [hsuc, szB_out _ _ _ hin]
     have e : (szP 97 65 s.data.toList p).set p c = szP 97 65 s.data.toList p := by
      apply List.ext_getElem?
      intro i
      rw [List.getElem?_set]
      split
      ·rename_i e; subst e; rw [szP_at _ _ _ _ hpl, hcc]; try rw [if_pos (by rw [HL.out]; exact hlt)]
      ·rfl
     rw [e]
     exact hR
    clear hsuc hR hat
    have hi : ¬ 97 ≤ (c.toNat : Int) ∨ (97 ≤ (c.toNat : Int) ∧ ¬ (c.toNat : Int) ≤ 97 + 25) := by omega
    rcases hi with hi | ⟨hi1, hi2⟩
    all_goals
     go_wp2
     go_roundw
     case rel => exact ⟨p + 1, by omega, by go_num, HR2.out⟩
     case measure => simp [intOf]; omega
  ·have CB := hR.conv (cap := cap)
   rw [HL.out, szP_end _ _ _ _ (by rw [hlen]; omega)] at CB
   have HB : Hid _ := hR.bel
   clear hR
   go_wp2
   go_ret
   exact ⟨rfl, HB.out⟩
def truL (X : List UInt8) : Bool × Bool := if X = [84, 82, 85, 69] then (true, true) else if X = [70, 65, 76, 83, 69] then (false, true) else (false, false)
def truN (X : List UInt8) : Int := if X = [84, 82, 85, 69] then 1 else if X = [70, 65, 76, 83, 69] then 0 else -1
def truF (s : ByteArray) : Bool × Bool := truL (szF 97 65 s.data.toList)
theorem tru_cases (X : List UInt8) : (X = [84, 82, 85, 69] ∧ truL X = (true, true) ∧ truN X = 1) ∨ (X = [70, 65, 76, 83, 69] ∧ truL X = (false, true) ∧ truN X = 0) ∨ ((X == [84, 82, 85, 69]) = false ∧ (X == [70, 65, 76, 83, 69]) = false ∧ truL X = (false, false) ∧ truN X = -1) := by
 by_cases h : X = [84, 82, 85, 69]
 ·subst h; left; exact ⟨rfl, rfl, rfl⟩
 ·by_cases g : X = [70, 65, 76, 83, 69]
  ·subst g; right; left; exact ⟨rfl, rfl, rfl⟩
  ·right; right; simp [truL, truN, h, g]
theorem ptruth_any (s : ByteArray) (hs : s.size ≤ 9223372036854775807) (w : World) : Calls Tryz.prog 205 #[.string s] w fun e w' => e = .returned (.tuple #[.bool (truF s).1, .bool (truF s).2]) ∧ Below w.heap.size w w' := by
 have R := fun u => up_any s hs u
 unfold truF
 generalize szF 97 65 s.data.toList = X at *
 rcases tru_cases X with ⟨rfl, h, _⟩ | ⟨rfl, h, _⟩ | ⟨h1, h2, h, _⟩
 all_goals
  rw [h]
  go_enter Tryz.func205, Tryz.ntmps205
  go_wp2_with (go_at_call 214; refine (R _).mono ?_; rintro e w1 ⟨rfl, hb⟩; have HB : Hid _ := hb; clear hb)
  go_ret2
  exact ⟨rfl, HB.out⟩
theorem rtruth_any (s : ByteArray) (hs : s.size ≤ 9223372036854775807) (w : World) : Calls Tryz.prog 92 #[.string s] w fun e w' => e = .returned (.int .i64 (truN (szF 97 65 s.data.toList))) ∧ Below w.heap.size w w' := by
 have R := fun u => rup_any s hs u
 generalize szF 97 65 s.data.toList = X at *
 rcases tru_cases X with ⟨rfl, _, h⟩ | ⟨rfl, _, h⟩ | ⟨h1, h2, _, h⟩
 all_goals
  rw [h]
  go_enter Tryz.func92, Tryz.ntmps92
  go_wp2_with (go_at_call 142; refine (R _).mono ?_; rintro e w1 ⟨rfl, hb⟩; have HB : Hid _ := hb; clear hb)
  go_ret
  exact ⟨rfl, HB.out⟩
theorem words_any (s : ByteArray) (w : World) : Calls Tryz.prog 202 #[.string s] w fun e w' => e = .returned (.agg #[.int .i64 2, .int .i64 0, .string s]) ∧ Below w.heap.size w w' := by
 go_enter Tryz.func202, Tryz.ntmps202
 go_wp2
 exact bodyPost_ret (v := .agg #[.int .i64 2, .int .i64 0, .string s]) (by simp [results, Tryz.results202, go_sem]) rfl ⟨rfl, (Below.refl _ _).alloc (Nat.le_refl _) _⟩
theorem tvalue_any (b : Bool) (w : World) : Calls Tryz.prog 206 #[.bool b] w fun e w' => e = .returned (.agg #[.int .i64 3, .int .i64 (if b = true then 1 else 0), .string ⟨#[]⟩]) ∧ Below w.heap.size w w' := by
 cases b
 all_goals
  go_enter Tryz.func206, Tryz.ntmps206
  go_wp2_with (go_at_call 253; refine (tcount_any _ _).mono ?_; rintro e w' ⟨rfl, hw⟩; obtain rfl := hw.symm; clear hw)
 ·exact bodyPost_ret (v := .agg #[.int .i64 3, .int .i64 0, .string ⟨#[]⟩]) (by simp [results, Tryz.results206, go_sem]) rfl ⟨rfl, (Below.refl _ _).alloc (Nat.le_refl _) _⟩
 ·exact bodyPost_ret (v := .agg #[.int .i64 3, .int .i64 1, .string ⟨#[]⟩]) (by simp [results, Tryz.results206, go_sem]) rfl ⟨rfl, (Below.refl _ _).alloc (Nat.le_refl _) _⟩
def badN (n : Int) : Int := if knB n = true then n else 2
theorem bad_any (n : Int) (w : World) : Calls Tryz.prog 208 #[.int .i64 n] w fun e w' => e = .returned (.agg #[.int .i64 4, .int .i64 (badN n), .string ⟨#[]⟩]) ∧ Below w.heap.size w w' := by
 have K := fun u => known_any n u
 cases hk : knB n
 all_goals
  rw [hk] at K
 ·have e : badN n = 2 := by simp [badN, hk]
  rw [e]
  go_enter Tryz.func208, Tryz.ntmps208
  go_wp2_with (go_at_call 254; refine (K _).mono ?_; rintro e w' ⟨rfl, hw⟩; obtain rfl := hw.symm; clear hw)
  exact bodyPost_ret (v := .agg #[.int .i64 4, .int .i64 2, .string ⟨#[]⟩]) (by simp [results, Tryz.results208, go_sem]) rfl ⟨rfl, (Below.refl _ _).alloc (Nat.le_refl _) _⟩
 ·have e : badN n = n := by simp [badN, hk]
  rw [e]
  go_enter Tryz.func208, Tryz.ntmps208
  go_wp2_with (go_at_call 254; refine (K _).mono ?_; rintro e w' ⟨rfl, hw⟩; obtain rfl := hw.symm; clear hw)
  exact bodyPost_ret (v := .agg #[.int .i64 4, .int .i64 n, .string ⟨#[]⟩]) (by simp [results, Tryz.results208, go_sem]) rfl ⟨rfl, (Below.refl _ _).alloc (Nat.le_refl _) _⟩
theorem rescell {w w1 : World} {a b c : Value} (hb : Below (w.alloc (.cells #[a, b, c] 62)).heap.size (w.alloc (.cells #[a, b, c] 62)) w1) :
  (w1.cell? ⟨w.heap.size, 0, none⟩ = some a ∧ w1.cell? ⟨w.heap.size, 1, none⟩ = some b ∧ w1.cell? ⟨w.heap.size, 2, none⟩ = some c) ∧
  (w1.frozen? ⟨w.heap.size, 0, none⟩ = false ∧ w1.frozen? ⟨w.heap.size, 1, none⟩ = false ∧ w1.frozen? ⟨w.heap.size, 2, none⟩ = false) := by
 have h0 : w1.heap[w.heap.size]? = some (.cells #[a, b, c] 62 (0, 0)) := by
  rw [hb.block _ (by simp)]
  exact heap_alloc_new w _
 exact ⟨(boxcell hb).2, by simp [World.frozen?, h0]⟩
theorem set3 {w w1 : World} {a b c : Value} (h : Below w.heap.size w w1) : Below w.heap.size w (((w1.setCell ⟨w.heap.size, 0, none⟩ a).setCell ⟨w.heap.size, 1, none⟩ b).setCell ⟨w.heap.size, 2, none⟩ c) :=
 ((h.setCell (Nat.le_refl _) _).setCell (Nat.le_refl _) _).setCell (Nat.le_refl _) _
def ofV (n : Int) (ok : Bool) : Value := if (ok && gd n) = true then .agg #[.int .i64 1, .int .i64 n, .string ⟨#[]⟩] else .agg #[.int .i64 4, .int .i64 5, .string ⟨#[]⟩]
theorem of_any (n : Int) (ok : Bool) (w : World) : Calls Tryz.prog 204 #[.int .i64 n, .bool ok] w fun e w' => e = .returned (ofV n ok) ∧ Below w.heap.size w w' := by
 have G := fun u => good_any n u
 unfold ofV
 cases ok <;> cases hg : gd n
 all_goals
  rw [hg] at G
  simp only [Bool.and_true, Bool.and_false, Bool.false_eq_true, if_true, if_false]
  go_enter Tryz.func204, Tryz.ntmps204
  go_wp2_with (first | (go_at_call 252; refine (G _).mono ?_; rintro e w' ⟨rfl, hw⟩; obtain rfl := hw.symm; clear hw) | (go_at_call 208; refine (bad_any _ _).mono ?_; rintro e w1 ⟨rfl, hb⟩; have HB : Hid (Below w.heap.size w w1) := bel1 hb; obtain ⟨⟨c0, c1, c2⟩, f0, f1, f2⟩ := rescell hb; clear hb))
  first
  | exact bodyPost_ret (v := .agg #[.int .i64 4, .int .i64 5, .string ⟨#[]⟩]) (by simp [results, Tryz.results204, go_sem, c0, c1, c2]; rfl) rfl ⟨rfl, set3 HB.out⟩
  | exact bodyPost_ret (v := .agg #[.int .i64 1, .int .i64 n, .string ⟨#[]⟩]) (by simp [results, Tryz.results204, go_sem]) rfl ⟨rfl, (Below.refl _ _).alloc (Nat.le_refl _) _⟩
def fltN (s : ByteArray) : Nat := if s = fnm 1 then 1 else if s = fnm 2 then 2 else if s = fnm 3 then 3 else if s = fnm 4 then 4 else if s = fnm 5 then 5 else if s = fnm 6 then 6 else if s = fnm 7 then 7 else if s = fnm 8 then 8 else 0
theorem flt_le (s : ByteArray) : fltN s ≤ 8 := by
 unfold fltN
 repeat' split
 all_goals omega
theorem flt_is (s : ByteArray) (h : fltN s ≠ 0) : s = fnm (fltN s) := by
 unfold fltN at h ⊢
 repeat' split
 all_goals first | assumption | (exfalso; simp_all)
theorem fnm_ne : ∀ i, i < 9 → ∀ j, j < 9 → i ≠ j → fnm i ≠ fnm j := by decide
theorem flt_not (s : ByteArray) (j : Nat) (h1 : 1 ≤ j) (h8 : j ≤ 8) (h : fltN s ≠ j) : fnm j ≠ s := by
 rintro rfl
 by_cases h0 : fltN (fnm j) = 0
 ·have hj : j = 1 ∨ j = 2 ∨ j = 3 ∨ j = 4 ∨ j = 5 ∨ j = 6 ∨ j = 7 ∨ j = 8 := by omega
  rcases hj with rfl | rfl | rfl | rfl | rfl | rfl | rfl | rfl <;> revert h0 <;> decide
 ·exact fnm_ne j (by omega) _ (by have := flt_le (fnm j); omega) (Ne.symm h) (flt_is _ h0)
theorem bytes_ne {a b : ByteArray} (h : a ≠ b) : (a.toList == b.toList) = false := by
 rw [beq_eq_false_iff_ne]
 intro e
 rw [ByteArray.toList_eq, ByteArray.toList_eq] at e
 exact h (Go.WideShapes.bytes_inj e)
theorem fnB_nat (j : Nat) (h1 : 1 ≤ j) (h8 : j ≤ 8) : fnB (j : Int) = fnm j := by
 have : knB (j : Int) = true := by simp [knB]; omega
 simp [fnB, this]
theorem kn_nat (j : Nat) (h1 : 1 ≤ j) (h8 : j ≤ 8) : knB (j : Int) = true := by simp [knB]; omega
theorem pfault_any (s : ByteArray) (w : World) (T : FTab w) : Calls Tryz.prog 207 #[.string s] w fun e w' => e = .returned (.tuple #[.int .i64 (fltN s : Nat), .bool (decide (fltN s ≠ 0))]) ∧ w' = w := by
 have hle := flt_le s
 have HI : Hid (fltN s ≠ 0 → s = fnm (fltN s)) := flt_is s
 have HN : Hid (∀ j : Nat, 1 ≤ j → j ≤ 8 → fltN s ≠ j → fnm j ≠ s) := fun j => flt_not s j
 generalize fltN s = m at *
 have KN := fun (j : Nat) (h1 : 1 ≤ j) (h8 : j ≤ 8) (u : World) => (known_any (j : Int) u)
 have FN := fun (j : Nat) (u : World) (hu : FTab u) => fname_any (j : Int) u hu
 go_enter Tryz.func207, Tryz.ntmps207
 go_wp2
 go_loop [4] (fun f => ∃ j : Nat, 1 ≤ j ∧ j ≤ 9 ∧ f = .int .i64 j ∧ (m = 0 ∨ j ≤ m)) (fun f => 9 - (intOf f).toNat)
 case atStart => exact ⟨1, by omega, by omega, rfl, by omega⟩
 case round =>
  obtain ⟨j, h1, h9, rfl, hm⟩ := hrel
  by_cases h8 : j ≤ 8
  ·have K := fun u => known_any (j : Int) u
   have F := fname_any (j : Int) w T
   rw [kn_nat j h1 h8] at K
   rw [fnB_nat j h1 h8] at F
   by_cases hj : m = j
   ·subst hj
    have hs := HI.out (by omega)
    have HD : Hid (decide (m ≠ 0) = true) := by show _ = _; simp; omega
    subst hs
    clear hm
    go_wp2_with (first | (go_at_call 254; refine (K _).mono ?_; rintro e w' ⟨rfl, hw⟩; obtain rfl := hw.symm; clear hw) | (go_at_call 218; refine F.mono ?_; rintro e w' ⟨rfl, hw⟩; obtain rfl := hw.symm; clear hw))
    go_ret2
    exact ⟨by rw [HD.out]; rfl, rfl⟩
   ·have hne := bytes_ne (HN.out j h1 h8 hj)
    go_wp2_with (first | (go_at_call 254; refine (K _).mono ?_; rintro e w' ⟨rfl, hw⟩; obtain rfl := hw.symm; clear hw) | (go_at_call 218; refine F.mono ?_; rintro e w' ⟨rfl, hw⟩; obtain rfl := hw.symm; clear hw))
    go_round
    case rel => exact ⟨j + 1, by omega, by omega, by go_num, by omega⟩
    case measure => simp [intOf]; omega
  ·have K := fun u => known_any (j : Int) u
   have hk : knB (j : Int) = false := by simp [knB]; omega
   rw [hk] at K
   have h0 : m = 0 := by omega
   subst h0
   go_wp2_with (first | (go_at_call 254; refine (K _).mono ?_; rintro e w' ⟨rfl, hw⟩; obtain rfl := hw.symm; clear hw))
   go_ret2
   exact ⟨rfl, rfl⟩
theorem typed_empty (s : ByteArray) (w : World) (h : s.toList = []) : Calls Tryz.prog 160 #[.string s] w fun e w' => e = .returned (.agg #[.int .i64 0, .int .i64 0, .string ⟨#[]⟩]) ∧ Below w.heap.size w w' := by
 go_enter Tryz.func160, Tryz.ntmps160
 go_wp2
 exact bodyPost_ret (v := .agg #[.int .i64 0, .int .i64 0, .string ⟨#[]⟩]) (by simp [results, Tryz.results160, go_sem]) rfl ⟨rfl, (Below.refl _ _).alloc (Nat.le_refl _) _⟩
theorem typed_quote (s : ByteArray) (w : World) (hne : ¬ s.toList = []) (R : ByteArray) (PF : ∀ u : World, Calls Tryz.prog 73 #[.string s, .string ⟨#[39]⟩] u fun e w' => e = .returned (.tuple #[.string R, .bool true]) ∧ w' = u) : Calls Tryz.prog 160 #[.string s] w fun e w' => e = .returned (.agg #[.int .i64 2, .int .i64 0, .string R]) ∧ Below w.heap.size w w' := by
 have hne2 : (s.toList == []) = false := by simpa using hne
 have HB0 : Hid (Below (w.alloc (.cells #[.int .i64 0, .int .i64 0, .string ⟨#[]⟩] 62)).heap.size (w.alloc (.cells #[.int .i64 0, .int .i64 0, .string ⟨#[]⟩] 62)) (w.alloc (.cells #[.int .i64 0, .int .i64 0, .string ⟨#[]⟩] 62))) := Below.refl _ _
 go_enter Tryz.func160, Tryz.ntmps160
 go_wp2_with (first | (go_at_call 73; refine (PF _).mono ?_; rintro e w' ⟨rfl, hw⟩; obtain rfl := hw.symm; clear hw) | (go_at_call 202; refine (words_any _ _).mono ?_; rintro e w1 ⟨rfl, hb⟩; have HB1 : Hid (Below (w.alloc (.cells #[.int .i64 0, .int .i64 0, .string ⟨#[]⟩] 62)).heap.size (w.alloc (.cells #[.int .i64 0, .int .i64 0, .string ⟨#[]⟩] 62)) w1) := bel_step HB0.out hb; obtain ⟨⟨c0, c1, c2⟩, f0, f1, f2⟩ := rescell HB1.out; clear hb))
 exact bodyPost_ret (v := .agg #[.int .i64 2, .int .i64 0, .string R]) (by simp [results, Tryz.results160, go_sem, c0, c1, c2]) rfl ⟨rfl, set3 (bel1 HB1.out)⟩
theorem typed_num (s : ByteArray) (w : World) (hne : ¬ s.toList = []) (R : ByteArray) (PF : ∀ u : World, Calls Tryz.prog 73 #[.string s, .string ⟨#[39]⟩] u fun e w' => e = .returned (.tuple #[.string R, .bool false]) ∧ w' = u) (v : Int) (PP : ∀ u : World, Calls Tryz.prog 203 #[.string s] u fun e w' => e = .returned (.tuple #[.int .i64 v, .bool true]) ∧ Below u.heap.size u w') (hg : gd v = true) : Calls Tryz.prog 160 #[.string s] w fun e w' => e = .returned (.agg #[.int .i64 1, .int .i64 v, .string ⟨#[]⟩]) ∧ Below w.heap.size w w' := by
 have hne2 : (s.toList == []) = false := by simpa using hne
 have HB0 : Hid (Below (w.alloc (.cells #[.int .i64 0, .int .i64 0, .string ⟨#[]⟩] 62)).heap.size (w.alloc (.cells #[.int .i64 0, .int .i64 0, .string ⟨#[]⟩] 62)) (w.alloc (.cells #[.int .i64 0, .int .i64 0, .string ⟨#[]⟩] 62))) := Below.refl _ _
 have OF := fun u => of_any v true u
 rw [show ofV v true = .agg #[.int .i64 1, .int .i64 v, .string ⟨#[]⟩] by simp [ofV, hg]] at OF
 go_enter Tryz.func160, Tryz.ntmps160
 go_wp2_with (first | (go_at_call 73; refine (PF _).mono ?_; rintro e w' ⟨rfl, hw⟩; obtain rfl := hw.symm; clear hw) | (go_at_call 203; refine (PP _).mono ?_; rintro e w1 ⟨rfl, hb⟩; have HB1 : Hid (Below (w.alloc (.cells #[.int .i64 0, .int .i64 0, .string ⟨#[]⟩] 62)).heap.size (w.alloc (.cells #[.int .i64 0, .int .i64 0, .string ⟨#[]⟩] 62)) w1) := bel_step HB0.out hb; obtain ⟨⟨c0, c1, c2⟩, f0, f1, f2⟩ := rescell HB1.out; clear hb) | (go_at_call 204; refine (OF _).mono ?_; rintro e w2 ⟨rfl, hb⟩; have HB2 : Hid (Below (w.alloc (.cells #[.int .i64 0, .int .i64 0, .string ⟨#[]⟩] 62)).heap.size (w.alloc (.cells #[.int .i64 0, .int .i64 0, .string ⟨#[]⟩] 62)) w2) := bel_step HB1.out hb; obtain ⟨⟨c0, c1, c2⟩, f0, f1, f2⟩ := rescell HB2.out; clear hb))
 exact bodyPost_ret (v := .agg #[.int .i64 1, .int .i64 v, .string ⟨#[]⟩]) (by simp [results, Tryz.results160, go_sem, c0, c1, c2]) rfl ⟨rfl, set3 (bel1 HB2.out)⟩
theorem typed_truth (s : ByteArray) (w : World) (hne : ¬ s.toList = []) (R : ByteArray) (PF : ∀ u : World, Calls Tryz.prog 73 #[.string s, .string ⟨#[39]⟩] u fun e w' => e = .returned (.tuple #[.string R, .bool false]) ∧ w' = u) (v : Int) (PP : ∀ u : World, Calls Tryz.prog 203 #[.string s] u fun e w' => e = .returned (.tuple #[.int .i64 v, .bool false]) ∧ Below u.heap.size u w') (b : Bool) (PT : ∀ u : World, Calls Tryz.prog 205 #[.string s] u fun e w' => e = .returned (.tuple #[.bool b, .bool true]) ∧ Below u.heap.size u w') : Calls Tryz.prog 160 #[.string s] w fun e w' => e = .returned (.agg #[.int .i64 3, .int .i64 (if b = true then 1 else 0), .string ⟨#[]⟩]) ∧ Below w.heap.size w w' := by
 have hne2 : (s.toList == []) = false := by simpa using hne
 have HB0 : Hid (Below (w.alloc (.cells #[.int .i64 0, .int .i64 0, .string ⟨#[]⟩] 62)).heap.size (w.alloc (.cells #[.int .i64 0, .int .i64 0, .string ⟨#[]⟩] 62)) (w.alloc (.cells #[.int .i64 0, .int .i64 0, .string ⟨#[]⟩] 62))) := Below.refl _ _
 have TV := fun u => tvalue_any b u
 generalize (if b = true then (1 : Int) else 0) = z at *
 go_enter Tryz.func160, Tryz.ntmps160
 go_wp2_with (first | (go_at_call 73; refine (PF _).mono ?_; rintro e w' ⟨rfl, hw⟩; obtain rfl := hw.symm; clear hw) | (go_at_call 203; refine (PP _).mono ?_; rintro e w1 ⟨rfl, hb⟩; have HB1 : Hid (Below (w.alloc (.cells #[.int .i64 0, .int .i64 0, .string ⟨#[]⟩] 62)).heap.size (w.alloc (.cells #[.int .i64 0, .int .i64 0, .string ⟨#[]⟩] 62)) w1) := bel_step HB0.out hb; obtain ⟨⟨c0, c1, c2⟩, f0, f1, f2⟩ := rescell HB1.out; clear hb) | (go_at_call 205; refine (PT _).mono ?_; rintro e w2 ⟨rfl, hb⟩; have HB2 : Hid (Below (w.alloc (.cells #[.int .i64 0, .int .i64 0, .string ⟨#[]⟩] 62)).heap.size (w.alloc (.cells #[.int .i64 0, .int .i64 0, .string ⟨#[]⟩] 62)) w2) := bel_step HB1.out hb; obtain ⟨⟨c0, c1, c2⟩, f0, f1, f2⟩ := rescell HB2.out; clear hb) | (go_at_call 206; refine (TV _).mono ?_; rintro e w3 ⟨rfl, hb⟩; have HB3 : Hid (Below (w.alloc (.cells #[.int .i64 0, .int .i64 0, .string ⟨#[]⟩] 62)).heap.size (w.alloc (.cells #[.int .i64 0, .int .i64 0, .string ⟨#[]⟩] 62)) w3) := bel_step HB2.out hb; obtain ⟨⟨c0, c1, c2⟩, f0, f1, f2⟩ := rescell HB3.out; clear hb))
 exact bodyPost_ret (v := .agg #[.int .i64 3, .int .i64 z, .string ⟨#[]⟩]) (by simp [results, Tryz.results160, go_sem, c0, c1, c2]) rfl ⟨rfl, set3 (bel1 HB3.out)⟩
theorem typed_fault (s : ByteArray) (w : World) (hne : ¬ s.toList = []) (R : ByteArray) (PF : ∀ u : World, Calls Tryz.prog 73 #[.string s, .string ⟨#[39]⟩] u fun e w' => e = .returned (.tuple #[.string R, .bool false]) ∧ w' = u) (v : Int) (PP : ∀ u : World, Calls Tryz.prog 203 #[.string s] u fun e w' => e = .returned (.tuple #[.int .i64 v, .bool false]) ∧ Below u.heap.size u w') (b : Bool) (PT : ∀ u : World, Calls Tryz.prog 205 #[.string s] u fun e w' => e = .returned (.tuple #[.bool b, .bool false]) ∧ Below u.heap.size u w') (f : Int) (PL : ∀ u : World, Below (w.alloc (.cells #[.int .i64 0, .int .i64 0, .string ⟨#[]⟩] 62)).heap.size (w.alloc (.cells #[.int .i64 0, .int .i64 0, .string ⟨#[]⟩] 62)) u → Calls Tryz.prog 207 #[.string s] u fun e w' => e = .returned (.tuple #[.int .i64 f, .bool true]) ∧ w' = u) (hk : knB f = true) : Calls Tryz.prog 160 #[.string s] w fun e w' => e = .returned (.agg #[.int .i64 4, .int .i64 f, .string ⟨#[]⟩]) ∧ Below w.heap.size w w' := by
 have hne2 : (s.toList == []) = false := by simpa using hne
 have HB0 : Hid (Below (w.alloc (.cells #[.int .i64 0, .int .i64 0, .string ⟨#[]⟩] 62)).heap.size (w.alloc (.cells #[.int .i64 0, .int .i64 0, .string ⟨#[]⟩] 62)) (w.alloc (.cells #[.int .i64 0, .int .i64 0, .string ⟨#[]⟩] 62))) := Below.refl _ _
 have BD := fun u => bad_any f u
 rw [show badN f = f by simp [badN, hk]] at BD
 go_enter Tryz.func160, Tryz.ntmps160
 go_wp2_with (first | (go_at_call 73; refine (PF _).mono ?_; rintro e w' ⟨rfl, hw⟩; obtain rfl := hw.symm; clear hw) | (go_at_call 203; refine (PP _).mono ?_; rintro e w1 ⟨rfl, hb⟩; have HB1 : Hid (Below (w.alloc (.cells #[.int .i64 0, .int .i64 0, .string ⟨#[]⟩] 62)).heap.size (w.alloc (.cells #[.int .i64 0, .int .i64 0, .string ⟨#[]⟩] 62)) w1) := bel_step HB0.out hb; obtain ⟨⟨c0, c1, c2⟩, f0, f1, f2⟩ := rescell HB1.out; clear hb) | (go_at_call 205; refine (PT _).mono ?_; rintro e w2 ⟨rfl, hb⟩; have HB2 : Hid (Below (w.alloc (.cells #[.int .i64 0, .int .i64 0, .string ⟨#[]⟩] 62)).heap.size (w.alloc (.cells #[.int .i64 0, .int .i64 0, .string ⟨#[]⟩] 62)) w2) := bel_step HB1.out hb; obtain ⟨⟨c0, c1, c2⟩, f0, f1, f2⟩ := rescell HB2.out; clear hb) | (go_at_call 207; refine (PL _ HB2.out).mono ?_; rintro e w' ⟨rfl, hw⟩; obtain rfl := hw.symm; clear hw) | (go_at_call 208; refine (BD _).mono ?_; rintro e w3 ⟨rfl, hb⟩; have HB3 : Hid (Below (w.alloc (.cells #[.int .i64 0, .int .i64 0, .string ⟨#[]⟩] 62)).heap.size (w.alloc (.cells #[.int .i64 0, .int .i64 0, .string ⟨#[]⟩] 62)) w3) := bel_step HB2.out hb; obtain ⟨⟨c0, c1, c2⟩, f0, f1, f2⟩ := rescell HB3.out; clear hb))
 exact bodyPost_ret (v := .agg #[.int .i64 4, .int .i64 f, .string ⟨#[]⟩]) (by simp [results, Tryz.results160, go_sem, c0, c1, c2]) rfl ⟨rfl, set3 (bel1 HB3.out)⟩
theorem typed_text (s : ByteArray) (w : World) (hne : ¬ s.toList = []) (R : ByteArray) (PF : ∀ u : World, Calls Tryz.prog 73 #[.string s, .string ⟨#[39]⟩] u fun e w' => e = .returned (.tuple #[.string R, .bool false]) ∧ w' = u) (v : Int) (PP : ∀ u : World, Calls Tryz.prog 203 #[.string s] u fun e w' => e = .returned (.tuple #[.int .i64 v, .bool false]) ∧ Below u.heap.size u w') (b : Bool) (PT : ∀ u : World, Calls Tryz.prog 205 #[.string s] u fun e w' => e = .returned (.tuple #[.bool b, .bool false]) ∧ Below u.heap.size u w') (f : Int) (PL : ∀ u : World, Below (w.alloc (.cells #[.int .i64 0, .int .i64 0, .string ⟨#[]⟩] 62)).heap.size (w.alloc (.cells #[.int .i64 0, .int .i64 0, .string ⟨#[]⟩] 62)) u → Calls Tryz.prog 207 #[.string s] u fun e w' => e = .returned (.tuple #[.int .i64 f, .bool false]) ∧ w' = u) : Calls Tryz.prog 160 #[.string s] w fun e w' => e = .returned (.agg #[.int .i64 2, .int .i64 0, .string s]) ∧ Below w.heap.size w w' := by
 have hne2 : (s.toList == []) = false := by simpa using hne
 have HB0 : Hid (Below (w.alloc (.cells #[.int .i64 0, .int .i64 0, .string ⟨#[]⟩] 62)).heap.size (w.alloc (.cells #[.int .i64 0, .int .i64 0, .string ⟨#[]⟩] 62)) (w.alloc (.cells #[.int .i64 0, .int .i64 0, .string ⟨#[]⟩] 62))) := Below.refl _ _
 go_enter Tryz.func160, Tryz.ntmps160
 go_wp2_with (first | (go_at_call 73; refine (PF _).mono ?_; rintro e w' ⟨rfl, hw⟩; obtain rfl := hw.symm; clear hw) | (go_at_call 203; refine (PP _).mono ?_; rintro e w1 ⟨rfl, hb⟩; have HB1 : Hid (Below (w.alloc (.cells #[.int .i64 0, .int .i64 0, .string ⟨#[]⟩] 62)).heap.size (w.alloc (.cells #[.int .i64 0, .int .i64 0, .string ⟨#[]⟩] 62)) w1) := bel_step HB0.out hb; obtain ⟨⟨c0, c1, c2⟩, f0, f1, f2⟩ := rescell HB1.out; clear hb) | (go_at_call 205; refine (PT _).mono ?_; rintro e w2 ⟨rfl, hb⟩; have HB2 : Hid (Below (w.alloc (.cells #[.int .i64 0, .int .i64 0, .string ⟨#[]⟩] 62)).heap.size (w.alloc (.cells #[.int .i64 0, .int .i64 0, .string ⟨#[]⟩] 62)) w2) := bel_step HB1.out hb; obtain ⟨⟨c0, c1, c2⟩, f0, f1, f2⟩ := rescell HB2.out; clear hb) | (go_at_call 207; refine (PL _ HB2.out).mono ?_; rintro e w' ⟨rfl, hw⟩; obtain rfl := hw.symm; clear hw) | (go_at_call 202; refine (words_any _ _).mono ?_; rintro e w3 ⟨rfl, hb⟩; have HB3 : Hid (Below (w.alloc (.cells #[.int .i64 0, .int .i64 0, .string ⟨#[]⟩] 62)).heap.size (w.alloc (.cells #[.int .i64 0, .int .i64 0, .string ⟨#[]⟩] 62)) w3) := bel_step HB2.out hb; obtain ⟨⟨c0, c1, c2⟩, f0, f1, f2⟩ := rescell HB3.out; clear hb))
 exact bodyPost_ret (v := .agg #[.int .i64 2, .int .i64 0, .string s]) (by simp [results, Tryz.results160, go_sem, c0, c1, c2]) rfl ⟨rfl, set3 (bel1 HB3.out)⟩
end Go.Proofs.YtnibldnfbikipaaGreatDoor
