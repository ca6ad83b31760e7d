/- NParse, NPrint, ACut, NLives, NRDig, NRPrint. -/
import Derived.Lib.AppendIntMem
import Derived.Lib.LaidTab
import Derived.Test.YtnibldnfbikipaaGreatDoorNCutBy
set_option linter.unusedVariables false
set_option linter.unusedSimpArgs false
set_option maxHeartbeats 16000000
set_option maxRecDepth 100000
namespace Go.Proofs.YtnibldnfbikipaaGreatDoor
open Go.RowKit
def str (l : List UInt8) : Value := .string ⟨l.toArray⟩
theorem size_mk (l : List UInt8) : (⟨l.toArray⟩ : ByteArray).size = l.length := by
 show l.toArray.size = _
 simp
theorem prefix_str (l : List UInt8) (w : World) : Calls Tryz.prog 73 #[.string ⟨l.toArray⟩, .string ⟨#[45]⟩] w fun e w' => e = .returned (.tuple #[.string ⟨(body l).toArray⟩, .bool (dash l)]) ∧ w' = w := prefix_any ⟨l.toArray⟩ w
theorem cut_str (l : List UInt8) (w : World) (hl : l.length ≤ 9223372036854775807) : Calls Tryz.prog 247 #[.string ⟨l.toArray⟩, .string ⟨#[46]⟩] w fun e w' => e = .returned (.tuple #[.string ⟨(fstP l).toArray⟩, .string ⟨(sndP l).toArray⟩, .bool (hasP l)]) ∧ Below w.heap.size w w' :=
 cut_any ⟨l.toArray⟩ w (by rw [size_mk]; exact hl)
theorem count_str (l : List UInt8) (m : Nat) (hm : m ≤ 12) (w : World) (hl : l.length ≤ 9223372036854775807) : Calls Tryz.prog 248 #[.string ⟨l.toArray⟩, .int .i64 m] w fun e w' => e = .returned (two (countF l m)) ∧ Below w.heap.size w w' :=
 count_any ⟨l.toArray⟩ m hm w (by rw [size_mk]; exact hl)
theorem body_len (l : List UInt8) : (body l).length ≤ l.length := by unfold body; split <;> simp
theorem fst_len (l : List UInt8) : (fstP l).length ≤ l.length := by unfold fstP; exact (List.takeWhile_sublist _).length_le
theorem snd_len (l : List UInt8) : (sndP l).length ≤ l.length := by
 unfold sndP
 have := (List.dropWhile_sublist (l := l) (fun x => x != 46)).length_le
 simp; omega
theorem digs_iff (l : List UInt8) (a b : Nat) : digs l a b = true ↔ l.all isD = true ∧ a ≤ l.length ∧ l.length ≤ b := by
 unfold digs
 simp only [Bool.and_eq_true, decide_eq_true_eq]
 constructor
 ·rintro ⟨⟨h1, h2⟩, h3⟩; exact ⟨h1, h2, h3⟩
 ·rintro ⟨h1, h2, h3⟩; exact ⟨⟨h1, h2⟩, h3⟩
theorem count_yes {l : List UInt8} {m : Nat} (h : digs l 1 m = true) : countF l m = (((numD l : Nat) : Int), true) := if_pos h
theorem count_no {l : List UInt8} {m : Nat} (h : ¬ digs l 1 m = true) : countF l m = (0, false) := if_neg h
theorem parse_no1 {A0 A1 A2 A3 : ByteArray} {d p : Bool} {w : World}
  (PF : ∀ u : World, Calls Tryz.prog 73 #[.string A0, .string ⟨#[45]⟩] u fun e w' => e = .returned (.tuple #[.string A1, .bool d]) ∧ w' = u)
  (CU : ∀ u : World, Calls Tryz.prog 247 #[.string A1, .string ⟨#[46]⟩] u fun e w' => e = .returned (.tuple #[.string A2, .string A3, .bool p]) ∧ Below u.heap.size u w')
  (C1 : ∀ u : World, Calls Tryz.prog 248 #[.string A2, .int .i64 12] u fun e w' => e = .returned (.tuple #[.int .i64 0, .bool false]) ∧ Below u.heap.size u w')  :
  Calls Tryz.prog 203 #[.string A0] w fun e w' => e = .returned (two (0, false)) ∧ Below w.heap.size w w' := by
 go_enter Tryz.func203, Tryz.ntmps203
 go_wp2_with fail
 refine (PF _).mono ?_
 rintro e w' ⟨rfl, hw⟩
 obtain rfl := hw.symm
 clear hw
 go_wp2_with fail
 refine (CU _).mono ?_
 rintro e w1 ⟨rfl, hb1⟩
 go_wp2_with fail
 refine (C1 _).mono ?_
 rintro e w2 ⟨rfl, hb2⟩
 go_wp2
 go_ret2
 exact ⟨rfl, hb1.trans (hb2.mono hb1.size)⟩
theorem parse_whole {A0 A1 A2 A3 : ByteArray} {d : Bool} {W : Nat} {w : World}
  (PF : ∀ u : World, Calls Tryz.prog 73 #[.string A0, .string ⟨#[45]⟩] u fun e w' => e = .returned (.tuple #[.string A1, .bool d]) ∧ w' = u)
  (CU : ∀ u : World, Calls Tryz.prog 247 #[.string A1, .string ⟨#[46]⟩] u fun e w' => e = .returned (.tuple #[.string A2, .string A3, .bool false]) ∧ Below u.heap.size u w')
  (C1 : ∀ u : World, Calls Tryz.prog 248 #[.string A2, .int .i64 12] u fun e w' => e = .returned (.tuple #[.int .i64 (W : Nat), .bool true]) ∧ Below u.heap.size u w')
  (hW : W < 1000000000000) :
  Calls Tryz.prog 203 #[.string A0] w fun e w' => e = .returned (two (ans (sgnI ((W : Int) * 10000) d))) ∧ Below w.heap.size w w' := by
 go_enter Tryz.func203, Tryz.ntmps203
 go_wp2_with fail
 refine (PF _).mono ?_
 rintro e w' ⟨rfl, hw⟩
 obtain rfl := hw.symm
 clear hw
 go_wp2_with fail
 refine (CU _).mono ?_
 rintro e w1 ⟨rfl, hb1⟩
 go_wp2_with fail
 refine (C1 _).mono ?_
 rintro e w2 ⟨rfl, hb2⟩
 go_wp2_with fail
 refine (signed_any _ _ (by omega) (by omega) _).mono ?_
 rintro e w' ⟨rfl, hw⟩
 obtain rfl := hw.symm
 clear hw
 go_wp2_with fail
 refine (answer_any _ _).mono ?_
 rintro e w' ⟨rfl, hw⟩
 obtain rfl := hw.symm
 clear hw
 unfold two
 go_wp2
 go_ret2
 exact ⟨rfl, hb1.trans (hb2.mono hb1.size)⟩
theorem parse_no2 {A0 A1 A2 A3 : ByteArray} {d : Bool} {W : Nat} {w : World}
  (PF : ∀ u : World, Calls Tryz.prog 73 #[.string A0, .string ⟨#[45]⟩] u fun e w' => e = .returned (.tuple #[.string A1, .bool d]) ∧ w' = u)
  (CU : ∀ u : World, Calls Tryz.prog 247 #[.string A1, .string ⟨#[46]⟩] u fun e w' => e = .returned (.tuple #[.string A2, .string A3, .bool true]) ∧ Below u.heap.size u w')
  (C1 : ∀ u : World, Calls Tryz.prog 248 #[.string A2, .int .i64 12] u fun e w' => e = .returned (.tuple #[.int .i64 (W : Nat), .bool true]) ∧ Below u.heap.size u w')
  (C2 : ∀ u : World, Calls Tryz.prog 248 #[.string A3, .int .i64 4] u fun e w' => e = .returned (.tuple #[.int .i64 0, .bool false]) ∧ Below u.heap.size u w')  :
  Calls Tryz.prog 203 #[.string A0] w fun e w' => e = .returned (two (0, false)) ∧ Below w.heap.size w w' := by
 go_enter Tryz.func203, Tryz.ntmps203
 go_wp2_with fail
 refine (PF _).mono ?_
 rintro e w' ⟨rfl, hw⟩
 obtain rfl := hw.symm
 clear hw
 go_wp2_with fail
 refine (CU _).mono ?_
 rintro e w1 ⟨rfl, hb1⟩
 go_wp2_with fail
 refine (C1 _).mono ?_
 rintro e w2 ⟨rfl, hb2⟩
 go_wp2_with fail
 refine (C2 _).mono ?_
 rintro e w3 ⟨rfl, hb3⟩
 go_wp2
 go_ret2
 exact ⟨rfl, (hb1.trans (hb2.mono hb1.size)).trans (hb3.mono (Nat.le_trans hb1.size hb2.size))⟩
theorem parse_point {A0 A1 A2 A3 : ByteArray} {d : Bool} {W R : Nat} {T : Int} {w : World}
  (PF : ∀ u : World, Calls Tryz.prog 73 #[.string A0, .string ⟨#[45]⟩] u fun e w' => e = .returned (.tuple #[.string A1, .bool d]) ∧ w' = u)
  (CU : ∀ u : World, Calls Tryz.prog 247 #[.string A1, .string ⟨#[46]⟩] u fun e w' => e = .returned (.tuple #[.string A2, .string A3, .bool true]) ∧ Below u.heap.size u w')
  (C1 : ∀ u : World, Calls Tryz.prog 248 #[.string A2, .int .i64 12] u fun e w' => e = .returned (.tuple #[.int .i64 (W : Nat), .bool true]) ∧ Below u.heap.size u w')
  (C2 : ∀ u : World, Calls Tryz.prog 248 #[.string A3, .int .i64 4] u fun e w' => e = .returned (.tuple #[.int .i64 (R : Nat), .bool true]) ∧ Below u.heap.size u w')
  (hW : W < 1000000000000) (h4 : A3.size ≤ 4) (TN : ∀ u : World, Calls Tryz.prog 249 #[.int .i64 (4 - (A3.size : Int))] u fun e w' => e = .returned (.int .i64 T) ∧ w' = u)
  (hP : 0 ≤ (R : Int) * T ∧ (R : Int) * T ≤ 100000000) :
  Calls Tryz.prog 203 #[.string A0] w fun e w' => e = .returned (two (ans (sgnI ((W : Int) * 10000 + (R : Int) * T) d))) ∧ Below w.heap.size w w' := by
 go_enter Tryz.func203, Tryz.ntmps203
 go_wp2_with fail
 refine (PF _).mono ?_
 rintro e w' ⟨rfl, hw⟩
 obtain rfl := hw.symm
 clear hw
 go_wp2_with fail
 refine (CU _).mono ?_
 rintro e w1 ⟨rfl, hb1⟩
 go_wp2_with fail
 refine (C1 _).mono ?_
 rintro e w2 ⟨rfl, hb2⟩
 go_wp2_with fail
 refine (C2 _).mono ?_
 rintro e w3 ⟨rfl, hb3⟩
 go_wp2_with fail
 refine (TN _).mono ?_
 rintro e w' ⟨rfl, hw⟩
 obtain rfl := hw.symm
 clear hw
 go_wp2_with fail
 refine (signed_any _ _ (by omega) (by omega) _).mono ?_
 rintro e w' ⟨rfl, hw⟩
 obtain rfl := hw.symm
 clear hw
 go_wp2_with fail
 refine (answer_any _ _).mono ?_
 rintro e w' ⟨rfl, hw⟩
 obtain rfl := hw.symm
 clear hw
 unfold two
 go_wp2
 go_ret2
 exact ⟨rfl, (hb1.trans (hb2.mono hb1.size)).trans (hb3.mono (Nat.le_trans hb1.size hb2.size))⟩
theorem parse_any (l : List UInt8) (w : World) (hl : l.length ≤ 9223372036854775807) :
  Calls Tryz.prog 203 #[.string ⟨l.toArray⟩] w fun e w' => e = .returned (two (parseF l)) ∧ Below w.heap.size w w' := by
 have PF := fun u => prefix_str l u
 have CU := fun u => cut_str (body l) u (by have := body_len l; omega)
 have C1 := fun u => count_str (fstP (body l)) 12 (by decide) u (by have := body_len l; have := fst_len (body l); omega)
 have C2 := fun u => count_str (sndP (body l)) 4 (by decide) u (by have := body_len l; have := snd_len (body l); omega)
 have hsz := size_mk (sndP (body l))
 unfold parseF restN
 generalize dash l = d at *
 generalize body l = bl at *
 by_cases h1 : digs (fstP bl) 1 12 = true
 ·have hd1 := (digs_iff _ _ _).1 h1
  have hW := num_bound _ 12 hd1.1 hd1.2.2
  rw [count_yes h1] at C1
  cases hp : hasP bl
  ·rw [hp] at CU
   rw [if_pos ⟨h1, fun h => by cases h⟩, if_neg (by decide), Nat.add_zero]
   have := parse_whole PF CU C1 hW (w := w)
   rw [Int.natCast_mul]
   exact this
  ·rw [hp] at CU
   by_cases h2 : digs (sndP bl) 1 4 = true
   ·have hd2 := (digs_iff _ _ _).1 h2
    have hR := numD_lt _ hd2.1
    rw [count_yes h2] at C2
    rw [if_pos ⟨h1, fun _ => h2⟩, if_pos rfl]
    have hR2 : numD (sndP bl) < 10000 := by
     have : (10 : Nat) ^ (sndP bl).length ≤ 10 ^ 4 := Nat.pow_le_pow_right (by decide) hd2.2.2
     omega
    have hT2 : (10 : Int) ^ (4 - (sndP bl).length) ≤ 10000 := by
     have : ∀ j : Nat, j ≤ 4 → (10 : Int) ^ j ≤ 10000 := by decide
     exact this _ (by omega)
    have hT := ten_le (4 - (sndP bl).length) (by omega)
    have TN : ∀ u : World, Calls Tryz.prog 249 #[.int .i64 (4 - ((⟨(sndP bl).toArray⟩ : ByteArray).size : Int))] u fun e w' => e = .returned (.int .i64 (10 ^ (4 - (sndP bl).length))) ∧ w' = u := fun u => by
     have := tens_any (4 - (sndP bl).length) (by omega) u
     rw [show ((4 - (sndP bl).length : Nat) : Int) = 4 - ((⟨(sndP bl).toArray⟩ : ByteArray).size : Int) by omega] at this
     exact this
    have hP : 0 ≤ (numD (sndP bl) : Int) * 10 ^ (4 - (sndP bl).length) ∧ (numD (sndP bl) : Int) * 10 ^ (4 - (sndP bl).length) ≤ 100000000 :=
     ⟨Int.mul_nonneg (by omega) (by omega), Int.mul_le_mul (c := 10000) (d := 10000) (by omega) hT2 (by omega) (by omega)⟩
    have := parse_point PF CU C1 C2 hW (by omega) TN hP (w := w)
    rw [Int.natCast_add, Int.natCast_mul, Int.natCast_mul, Int.natCast_pow]
    exact this
   ·rw [count_no h2] at C2
    rw [if_neg (fun h => h2 (h.2 rfl))]
    exact parse_no2 PF CU C1 C2
 ·rw [count_no h1] at C1
  rw [if_neg (fun h => h1 h.1)]
  exact parse_no1 PF CU C1
def PTab (w : World) : Prop := Lib.TabIs Tryz.prog w "internal/strconv.uint64pow10" .u64 Lib.pow10Tab
theorem PTab.below {w w' : World} (h : PTab w) (hb : Below w.heap.size w w') : PTab w' := Lib.tabBelow_of_tabIs h w' hb
theorem grow_below (w : World) (k : Nat) (os : Array Obj) : Below w.heap.size w (Sort.grow (w.drewN k) os) := by
 have h := drewN_below w k
 have hk : (w.drewN k).heap.size = w.heap.size ∧ ∀ i, i < w.heap.size → (w.drewN k).heap[i]? = w.heap[i]? := by
  refine ⟨?_, h.block⟩
  clear h
  induction k with
  | zero => rw [World.drewN_zero]
  | succ n ih => exact ih
 refine ⟨h.os, h.tape, h.output, ?_, fun i hi => ?_⟩
 ·show w.heap.size ≤ ((w.drewN k).heap ++ os).size
  simp only [Array.size_append]; omega
 ·show ((w.drewN k).heap ++ os)[i]? = _
  rw [Array.getElem?_append_left (by omega)]
  exact hk.2 i hi
theorem itoa_any (n : Nat) (hn : n ≤ 9223372036854775807) (w : World) (T : PTab w) :
  Calls Tryz.prog 221 #[.int .i64 n] w fun e w' => e = .returned (.string ⟨(Lib.decDigits n).toArray⟩) ∧ Below w.heap.size w w' := by
 have h := Tryz.strconv_Itoa n (by omega) (by omega) w T
 refine h.mono ?_
 rintro e w' ⟨rfl, k, os, rfl⟩
 refine ⟨?_, grow_below w k os⟩
 unfold Lib.itoa
 rw [if_neg (by omega), Int.toNat_natCast]
theorem app_mk (a b : List UInt8) : (⟨a.toArray⟩ : ByteArray) ++ ⟨b.toArray⟩ = ⟨(a ++ b).toArray⟩ := by
 apply ByteArray.ext
 simp
theorem drop_mk (a : List UInt8) : (⟨a.toArray⟩ : ByteArray).extract 1 (⟨a.toArray⟩ : ByteArray).size = ⟨(a.drop 1).toArray⟩ := by
 apply ByteArray.ext
 simp only [size_mk]
 simp
 exact List.take_of_length_le (by simp)
theorem abs_tdiv (n : Int) : absI (n.tdiv 10000) = ((n.natAbs / 10000 : Nat) : Int) := by
 have h : (n.tdiv 10000).natAbs = n.natAbs / 10000 := Int.natAbs_tdiv n 10000
 unfold absI
 split <;> omega
theorem abs_tmod (n : Int) : absI (n.tmod 10000) = ((n.natAbs % 10000 : Nat) : Int) := by
 have h := Int.natAbs_tmod n 10000
 unfold absI
 have : ((10000 : Int).natAbs) = 10000 := rfl
 rw [this] at h
 split <;> omega
theorem print_core {n q r : Int} {Q R : Nat} {w : World} (hn : -9223372036854775808 ≤ n ∧ n ≤ 9223372036854775807) (hq : n.tdiv 10000 = q) (hr : n.tmod 10000 = r) (hq1 : -922337203685477 ≤ q ∧ q ≤ 922337203685477) (hR : R < 10000) (hQ : Q ≤ 922337203685477) (T : PTab w)
  (S1 : ∀ u : World, Calls Tryz.prog 222 #[.int .i64 q] u fun e w' => e = .returned (.int .i64 Q) ∧ w' = u)
  (S2 : ∀ u : World, Calls Tryz.prog 222 #[.int .i64 r] u fun e w' => e = .returned (.int .i64 R) ∧ w' = u) {A1 A2 A3 A4 : ByteArray}
  (I1 : ∀ u : World, PTab u → Calls Tryz.prog 221 #[.int .i64 Q] u fun e w' => e = .returned (.string A1) ∧ Below u.heap.size u w')
  (I2 : ∀ u : World, PTab u → Calls Tryz.prog 221 #[.int .i64 (10000 + (R : Int))] u fun e w' => e = .returned (.string A2) ∧ Below u.heap.size u w')
  (hs1 : A1.size ≤ 20) (hs4 : A4.size ≤ 4) (hs2 : ((⟨#[45]⟩ : ByteArray) ++ A1).size ≤ 21) (hs3 : ((⟨#[46]⟩ : ByteArray) ++ A4).size ≤ 5) (hone : ∀ b : UInt8, (⟨#[b]⟩ : ByteArray).size = 1) (h5 : A2.size = 5) (hA3 : A2.extract 1 5 = A3)
  (TR : ∀ u : World, Calls Tryz.prog 223 #[.string A3, .string ⟨#[48]⟩] u fun e w' => e = .returned (.string A4) ∧ w' = u) :
  Calls Tryz.prog 178 #[.int .i64 n] w fun e w' => e = .returned (.string (if R = 0 then (if n < 0 then (⟨#[45]⟩ : ByteArray) ++ A1 else A1) else ((if n < 0 then (⟨#[45]⟩ : ByteArray) ++ A1 else A1) ++ (⟨#[46]⟩ ++ A4)))) ∧ Below w.heap.size w w' := by
 have HT : Hid (PTab w) := T
 clear T
 generalize hX : (if R = 0 then (if n < 0 then (⟨#[45]⟩ : ByteArray) ++ A1 else A1) else ((if n < 0 then (⟨#[45]⟩ : ByteArray) ++ A1 else A1) ++ (⟨#[46]⟩ ++ A4))) = X
 by_cases hneg : n < 0
 ·rw [if_pos hneg] at hX
  by_cases h0 : R = 0
  ·rw [if_pos h0] at hX
   have HX : Hid _ := hX
   clear hX
   subst h0
   go_enter Tryz.func178, Tryz.ntmps178
   go_wp2_with fail
   refine (S1 _).mono ?_
   rintro e w' ⟨rfl, hw⟩
   obtain rfl := hw.symm
   clear hw
   go_wp2_with fail
   refine (I1 _ HT.out).mono ?_
   rintro e w1 ⟨rfl, hb1⟩
   have HB1 : Hid _ := hb1
   have HT1 : Hid (PTab w1) := HT.out.below hb1
   clear hb1
   go_wp2_with fail
   refine (S2 _).mono ?_
   rintro e w' ⟨rfl, hw⟩
   obtain rfl := hw.symm
   clear hw
   go_wp2
   go_ret
   exact ⟨by rw [← HX.out]; rfl, HB1.out⟩
  ·rw [if_neg h0] at hX
   have HX : Hid _ := hX
   clear hX
   have h1 : (0 : Int) < (R : Int) := by omega
   go_enter Tryz.func178, Tryz.ntmps178
   go_wp2_with fail
   refine (S1 _).mono ?_
   rintro e w' ⟨rfl, hw⟩
   obtain rfl := hw.symm
   clear hw
   go_wp2_with fail
   refine (I1 _ HT.out).mono ?_
   rintro e w1 ⟨rfl, hb1⟩
   have HB1 : Hid _ := hb1
   have HT1 : Hid (PTab w1) := HT.out.below hb1
   clear hb1
   go_wp2_with fail
   refine (S2 _).mono ?_
   rintro e w' ⟨rfl, hw⟩
   obtain rfl := hw.symm
   clear hw
   go_wp2_with fail
   refine (I2 _ HT1.out).mono ?_
   rintro e w2 ⟨rfl, hb2⟩
   have HB2 : Hid _ := hb2
   clear hb2
   go_wp2_with fail
   refine (TR _).mono ?_
   rintro e w' ⟨rfl, hw⟩
   obtain rfl := hw.symm
   clear hw
   go_wp2
   go_ret
   exact ⟨by rw [← HX.out]; rfl, HB1.out.trans (HB2.out.mono HB1.out.size)⟩
 ·rw [if_neg hneg] at hX
  by_cases h0 : R = 0
  ·rw [if_pos h0] at hX
   have HX : Hid _ := hX
   clear hX
   subst h0
   go_enter Tryz.func178, Tryz.ntmps178
   go_wp2_with fail
   refine (S1 _).mono ?_
   rintro e w' ⟨rfl, hw⟩
   obtain rfl := hw.symm
   clear hw
   go_wp2_with fail
   refine (I1 _ HT.out).mono ?_
   rintro e w1 ⟨rfl, hb1⟩
   have HB1 : Hid _ := hb1
   have HT1 : Hid (PTab w1) := HT.out.below hb1
   clear hb1
   go_wp2_with fail
   refine (S2 _).mono ?_
   rintro e w' ⟨rfl, hw⟩
   obtain rfl := hw.symm
   clear hw
   go_wp2
   go_ret
   exact ⟨by rw [← HX.out]; rfl, HB1.out⟩
  ·rw [if_neg h0] at hX
   have HX : Hid _ := hX
   clear hX
   have h1 : (0 : Int) < (R : Int) := by omega
   go_enter Tryz.func178, Tryz.ntmps178
   go_wp2_with fail
   refine (S1 _).mono ?_
   rintro e w' ⟨rfl, hw⟩
   obtain rfl := hw.symm
   clear hw
   go_wp2_with fail
   refine (I1 _ HT.out).mono ?_
   rintro e w1 ⟨rfl, hb1⟩
   have HB1 : Hid _ := hb1
   have HT1 : Hid (PTab w1) := HT.out.below hb1
   clear hb1
   go_wp2_with fail
   refine (S2 _).mono ?_
   rintro e w' ⟨rfl, hw⟩
   obtain rfl := hw.symm
   clear hw
   go_wp2_with fail
   refine (I2 _ HT1.out).mono ?_
   rintro e w2 ⟨rfl, hb2⟩
   have HB2 : Hid _ := hb2
   clear hb2
   go_wp2_with fail
   refine (TR _).mono ?_
   rintro e w' ⟨rfl, hw⟩
   obtain rfl := hw.symm
   clear hw
   go_wp2
   go_ret
   exact ⟨by rw [← HX.out]; rfl, HB1.out.trans (HB2.out.mono HB1.out.size)⟩
end Go.Proofs.YtnibldnfbikipaaGreatDoor
namespace Go.Proofs.YtnibldnfbikipaaGreatDoor
open Go.RowKit Go.Shelf
def cutF (c : UInt8) (l : List UInt8) : List UInt8 × List UInt8 × Bool := match Ad.at_ c l with
 | none => (l, [], false)
 | some p => (p.1, p.2, true)
theorem at_index (c : UInt8) : ∀ l : List UInt8, (Lib.indexByte l c = -1 → Ad.at_ c l = none) ∧ (∀ i : Nat, Lib.indexByte l c = i → Ad.at_ c l = some (l.take i, l.drop (i + 1)))
 | [] => ⟨fun _ => rfl, fun i h => by simp [Lib.indexByte] at h⟩
 | b :: l => by
  have ih := at_index c l
  have hge := Lib.indexByte_ge l c
  unfold Lib.indexByte Ad.at_
  by_cases hb : b = c
  ·subst hb
   refine ⟨fun h => by simp at h, fun i h => ?_⟩
   simp at h
   obtain rfl : i = 0 := by omega
   rw [if_pos rfl]
   rfl
  ·have e1 : (b == c) = false := by simpa using hb
   rw [e1, if_neg hb]
   simp only [Bool.false_eq_true, if_false]
   by_cases hn : Lib.indexByte l c = -1
   ·rw [hn]
    refine ⟨fun _ => ?_, fun i h => by simp at h⟩
    rw [ih.1 hn]
    rfl
   ·have e3 : (Lib.indexByte l c == -1) = false := by simpa using hn
    rw [e3]
    refine ⟨fun h => by simp at h; omega, fun i h => ?_⟩
    simp at h
    obtain ⟨k, rfl⟩ : ∃ k, i = k + 1 := ⟨i - 1, by omega⟩
    rw [ih.2 k (by omega)]
    rfl
theorem cutc (c : UInt8) (l : List UInt8) : Lib.cut l [c] = cutF c l := by
 have hi := Lib.index_one l c
 have hge := Lib.indexByte_ge l c
 unfold Lib.cut cutF
 rw [hi]
 split
 ·rw [(at_index c l).2 (Lib.indexByte l c).toNat (by omega)]
  rfl
 ·rw [(at_index c l).1 (by omega)]
theorem cutF_none {c : UInt8} {l : List UInt8} (h : Ad.at_ c l = none) : cutF c l = (l, [], false) := by unfold cutF; rw [h]
theorem cutF_some {c : UInt8} {l a b : List UInt8} (h : Ad.at_ c l = some (a, b)) : cutF c l = (a, b, true) := by unfold cutF; rw [h]
theorem scut_any (c : UInt8) (s : ByteArray) (w : World) (hs : s.size ≤ 9223372036854775807) :
  Calls Tryz.prog 271 #[.string s, .string ⟨#[c]⟩] w fun e w' => e = .returned (.tuple #[.string ⟨(cutF c s.data.toList).1.toArray⟩, .string ⟨(cutF c s.data.toList).2.1.toArray⟩, .bool (cutF c s.data.toList).2.2]) ∧ ∃ n, w' = w.drewN n := by
 have hcut := cutc c s.data.toList
 have IX := fun u => Tryz.stringslite_Index_one s c u
 have hone := Lib.index_one s.data.toList c
 obtain ⟨sp, hsp⟩ : ∃ sp : ByteArray, sp = ⟨#[c]⟩ := ⟨_, rfl⟩
 have hp : sp.size = 1 := by rw [hsp]; rfl
 have hl : sp.data.toList = [c] := by rw [hsp]
 rcases Lib.indexB_cases s sp with hix | ⟨i, hix, hroom⟩
 ·obtain ⟨e1, e2, e3⟩ := Lib.cutB_miss s sp hix
  rw [hl, hcut] at e1 e2 e3
  rw [e1, e2, e3]
  replace hix : Lib.index s.data.toList [c] = -1 := by rw [← hl]; exact hix
  rw [show Lib.indexByte s.data.toList c = -1 from hone.symm.trans hix] at IX
  rw [← hsp] at IX ⊢
  clear hix hone hcut e1 e2 e3 hl hsp
  go_enter Tryz.func271, Tryz.ntmps271
  go_wp2_with (go_at_call 279; refine (IX _).mono ?_; rintro e w' ⟨rfl, hw⟩; obtain rfl := hw.symm; clear hw)
  go_ret3
  exact ⟨rfl, 0, rfl⟩
 ·obtain ⟨e1, e2, e3⟩ := Lib.cutB_hit s sp i hix
  rw [hl, hcut] at e1 e2 e3
  rw [e1, e2, e3]
  replace hix : Lib.index s.data.toList [c] = i := by rw [← hl]; exact hix
  rw [show Lib.indexByte s.data.toList c = i from hone.symm.trans hix] at IX
  have hroom' : i + 1 ≤ s.size := by rw [hp] at hroom; exact hroom
  rw [hp]
  have c1 : (0 : Int) ≤ ↑i := by omega
  have c2 : (↑i : Int) ≤ ↑s.size := by omega
  have c3 : (0 : Int) ≤ ↑i + 1 := by omega
  have c4 : (↑i + 1 : Int) ≤ ↑s.size := by omega
  rw [← hsp] at IX ⊢
  clear hix hone hcut e1 e2 e3 hroom hl hsp
  go_enter Tryz.func271, Tryz.ntmps271
  go_wp2_with (go_at_call 279; refine (IX _).mono ?_; rintro e w' ⟨rfl, hw⟩; obtain rfl := hw.symm; clear hw)
  go_region
  go_wp2
  go_ret3
  exact ⟨rfl, 1, rfl⟩
theorem cutc_any (c : UInt8) (l : List UInt8) (w : World) (hl : l.length ≤ 9223372036854775807) :
  Calls Tryz.prog 247 #[.string ⟨l.toArray⟩, .string ⟨#[c]⟩] w fun e w' => e = .returned (.tuple #[.string ⟨(cutF c l).1.toArray⟩, .string ⟨(cutF c l).2.1.toArray⟩, .bool (cutF c l).2.2]) ∧ Below w.heap.size w w' := by
 have C := fun u => scut_any c ⟨l.toArray⟩ u (by rw [size_mk]; exact hl)
 simp only [List.toList_toArray] at C
 generalize (⟨l.toArray⟩ : ByteArray) = A at *
 generalize (⟨#[c]⟩ : ByteArray) = B at *
 generalize cutF c l = R at *
 go_enter Tryz.func247, Tryz.ntmps247
 go_wp2_with (go_at_call 271; refine (C _).mono ?_; rintro e w' ⟨rfl, n, rfl⟩)
 go_ret3
 exact ⟨rfl, drewN_below w _⟩
theorem strip_lib (c : UInt8) (l : List UInt8) : Lib.trimPrefix l [c] = (Ad.strip c l).2 ∧ Lib.hasPrefix l [c] = (Ad.strip c l).1 := by
 unfold Lib.trimPrefix Lib.hasPrefix
 cases l with
 | nil => exact ⟨rfl, rfl⟩
 | cons b l =>
  rw [Ad.strip_cons]
  by_cases h : b = c
  ·subst h
   simp [List.isPrefixOf]
  ·have h2 : ¬ c = b := fun e => h e.symm
   simp [List.isPrefixOf, h, h2]
theorem strip_any (c : UInt8) (l : List UInt8) (w : World) :
  Calls Tryz.prog 73 #[.string ⟨l.toArray⟩, .string ⟨#[c]⟩] w fun e w' => e = .returned (.tuple #[.string ⟨(Ad.strip c l).2.toArray⟩, .bool (Ad.strip c l).1]) ∧ w' = w := by
 have h := Tryz.strings_CutPrefix ⟨l.toArray⟩ ⟨#[c]⟩ w
 obtain ⟨h1, h2⟩ := strip_lib c l
 rw [show (⟨#[c]⟩ : ByteArray).data.toList = [c] from rfl, show (⟨l.toArray⟩ : ByteArray).data.toList = l from rfl, h1, h2] at h
 exact h
end Go.Proofs.YtnibldnfbikipaaGreatDoor
namespace Go.Proofs.YtnibldnfbikipaaGreatDoor
open Go.RowKit
theorem tail_len (r : Nat) (h : r < 10000) : (tailP r).length ≤ 4 := by
 by_cases h0 : r = 0
 ·rw [h0, tail_zero]; simp
 ·exact ((digs_iff _ _ _).1 (tail_facts r h h0).1).2.2
theorem print_any (n : Int) (hn : -9223372036854775808 ≤ n ∧ n ≤ 9223372036854775807) (w : World) (T : PTab w) :
  Calls Tryz.prog 178 #[.int .i64 n] w fun e w' => e = .returned (.string ⟨(printF n).toArray⟩) ∧ Below w.heap.size w w' := by
 have hQ : n.natAbs / 10000 ≤ 922337203685477 := by omega
 have hR : n.natAbs % 10000 < 10000 := by omega
 have aq := abs_tdiv n
 have ar := abs_tmod n
 have bq : -922337203685477 ≤ n.tdiv 10000 ∧ n.tdiv 10000 ≤ 922337203685477 := by unfold absI at aq; split at aq <;> omega
 have br : -10000 ≤ n.tmod 10000 ∧ n.tmod 10000 ≤ 10000 := by unfold absI at ar; split at ar <;> omega
 have S1 := fun u => size_any (n.tdiv 10000) (by omega) (by omega) u
 have S2 := fun u => size_any (n.tmod 10000) (by omega) (by omega) u
 rw [aq] at S1
 rw [ar] at S2
 have l1 := (dec_len 15 (n.natAbs / 10000) (by decide) (by omega)).2
 have d5 := dec_five (n.natAbs % 10000) hR
 have l5 : (Lib.decDigits (10000 + n.natAbs % 10000)).length = 5 := by rw [d5]; rfl
 have tl := tail_len (n.natAbs % 10000) hR
 have hX : ∀ X, X = (if n.natAbs % 10000 = 0 then (if n < 0 then (⟨#[45]⟩ : ByteArray) ++ ⟨(Lib.decDigits (n.natAbs / 10000)).toArray⟩ else ⟨(Lib.decDigits (n.natAbs / 10000)).toArray⟩)
   else ((if n < 0 then (⟨#[45]⟩ : ByteArray) ++ ⟨(Lib.decDigits (n.natAbs / 10000)).toArray⟩ else ⟨(Lib.decDigits (n.natAbs / 10000)).toArray⟩) ++ (⟨#[46]⟩ ++ ⟨(tailP (n.natAbs % 10000)).toArray⟩))) → X = ⟨(printF n).toArray⟩ := by
  rintro X rfl
  unfold printF
  have e45 : (⟨#[45]⟩ : ByteArray) = ⟨([45] : List UInt8).toArray⟩ := rfl
  have e46 : (⟨#[46]⟩ : ByteArray) = ⟨([46] : List UInt8).toArray⟩ := rfl
  rw [e45, e46]
  by_cases h0 : n.natAbs % 10000 = 0 <;> by_cases hneg : n < 0 <;> simp only [h0, hneg, if_true, if_false, app_mk] <;> simp
 have hX' := hX _ rfl
 rw [← hX']
 refine print_core (q := n.tdiv 10000) (r := n.tmod 10000) (A2 := ⟨(Lib.decDigits (10000 + n.natAbs % 10000)).toArray⟩) (A3 := ⟨((Lib.decDigits (10000 + n.natAbs % 10000)).drop 1).toArray⟩) hn rfl rfl bq hR hQ T S1 S2 (fun u hu => itoa_any _ (by omega) u hu) (fun u hu => ?_) ?_ ?_ ?_ ?_ (fun _ => rfl) ?_ ?_ (fun u => ?_)
 ·have := itoa_any (10000 + n.natAbs % 10000) (by omega) u hu
  rw [Int.natCast_add] at this
  exact this
 ·rw [size_mk]; omega
 ·rw [size_mk]; exact tl
 ·rw [show (⟨#[45]⟩ : ByteArray) = ⟨([45] : List UInt8).toArray⟩ from rfl, app_mk, size_mk]; simp; omega
 ·rw [show (⟨#[46]⟩ : ByteArray) = ⟨([46] : List UInt8).toArray⟩ from rfl, app_mk, size_mk]; simp; omega
 ·rw [size_mk]; exact l5
 ·have := drop_mk (Lib.decDigits (10000 + n.natAbs % 10000))
  rw [size_mk, l5] at this
  exact this
 ·exact Tryz.strings_TrimRight_one ⟨((Lib.decDigits (10000 + n.natAbs % 10000)).drop 1).toArray⟩ 48 (by decide) u (by rw [size_mk]; simp; omega)
theorem all_at (s : ByteArray) (k : Nat) (h : k < s.size) (hall : s.data.toList.all isD = true) : isD s[k] = true := by
 rw [byte_at s k h (by rw [size_list]; exact h)]
 exact List.all_eq_true.1 hall _ (List.getElem_mem _)
theorem all_step (s : ByteArray) (k : Nat) (h : k < s.size) (ha : (s.data.toList.take k).all isD = true) (hb : isD s[k] = true) : (s.data.toList.take (k + 1)).all isD = true := by
 rw [take_snoc _ _ (by rw [size_list]; exact h), List.all_append, ha, ← byte_at s k h (by rw [size_list]; exact h)]
 simp [hb]
theorem rdigits_any (s : ByteArray) (m : Nat) (hm : m ≤ 12) (w : World) (hs : s.size ≤ 9223372036854775807) :
  Calls Tryz.prog 238 #[.string s, .int .i64 1, .int .i64 m] w fun e w' => e = .returned (.bool (digs s.data.toList 1 m)) ∧ w' = w := by
 have hl := size_list s
 generalize hr : digs s.data.toList 1 m = r
 have HR : Hid (digs s.data.toList 1 m = r) := hr
 clear hr
 go_enter Tryz.func238, Tryz.ntmps238
 go_wp2
 go_loop [7] (fun i => ∃ k : Nat, k ≤ s.size ∧ i = .int .i64 k ∧ Hid ((s.data.toList.take k).all isD = true)) (fun i => s.size - (intOf i).toNat)
 case atStart => exact ⟨0, Nat.zero_le _, rfl, by simp [Hid]⟩
 case round =>
  obtain ⟨k, hk, rfl, ha⟩ := hrel
  by_cases hlt : k < s.size
  ·cases hd : isD s[k]
   ·have HE : Hid (r = false) := by
     show _ = _
     rw [← HR.out]
     unfold digs
     cases hh : s.data.toList.all isD
     ·rfl
     ·rw [all_at s k hlt hh] at hd; cases hd
    simp only [isD, Bool.and_eq_false_iff, decide_eq_false_iff_not] at hd
    by_cases hb1 : (s[k].toNat : Int) < 48
    ·go_wp2
     go_ret
     exact ⟨by rw [HE.out]; rfl, rfl⟩
    ·have hb2 : 57 < (s[k].toNat : Int) := by omega
     go_wp2
     go_ret
     exact ⟨by rw [HE.out]; rfl, rfl⟩
   ·have ha' : Hid ((s.data.toList.take (k + 1)).all isD = true) := all_step s k hlt ha.out hd
    simp only [isD, Bool.and_eq_true, decide_eq_true_eq] at hd
    have hb1 : ¬ (s[k].toNat : Int) < 48 := by omega
    have hb2 : ¬ 57 < (s[k].toNat : Int) := by omega
    go_wp2
    go_round
    case rel => exact ⟨k + 1, by omega, by go_num, ha'⟩
    case measure => simp [intOf]; omega
  ·have e : s.data.toList.take k = s.data.toList := List.take_of_length_le (by omega)
   have HE : Hid (r = (decide (1 ≤ s.size) && decide (s.size ≤ m))) := by
    show _ = _
    rw [← HR.out]
    unfold digs
    have := ha.out
    rw [e] at this
    rw [this, hl]
    simp
   by_cases h1 : (1 : Int) ≤ (s.size : Int)
   ·go_wp2
    go_ret
    refine ⟨?_, rfl⟩
    rw [HE.out]
    simp
    omega
   ·go_wp2
    go_ret
    refine ⟨?_, rfl⟩
    rw [HE.out]
    simp
    omega
theorem conv96 (w : World) (z : Int) : (convert 96 9 (.slice (some ⟨w.heap.size, 0, none⟩) 1 1)).run Tryz.prog (w.alloc (.cells #[.int .u8 z] 5)) = .ok (.string ⟨#[UInt8.ofNat z.toNat]⟩) (w.alloc (.cells #[.int .u8 z] 5)) := by
 have hl : (loadCells ⟨w.heap.size, 0, none⟩ 1).run Tryz.prog (w.alloc (.cells #[.int .u8 z] 5)) = .ok (([z] : List Int).map (Value.int .u8)).toArray (w.alloc (.cells #[.int .u8 z] 5)) := by
  refine run_loadCells_list (P := Tryz.prog) _ ⟨w.heap.size, 0, none⟩ [.int .u8 z] fun j u hj => ?_
  match j, hj with
  | 0, hj =>
   cases hj
   simp only [World.cell?]
   rw [show ((⟨w.heap.size, 0, none⟩ : Addr).add 0) = ⟨w.heap.size, 0, none⟩ from rfl, heap_alloc_new]
   rfl
 rw [run_convert_bytes_string _ 96 9 5 _ 1 1 Tryz.underlying96 Tryz.underlying5 Tryz.underlying9, run_bytesToString _ _ 1 1 _ hl, foldl_push_bytes]
 rfl
theorem dec_two (m : Nat) (h : ¬ m / 10 = 0) : Lib.decDigits m = Lib.decDigits (m / 10) ++ [UInt8.ofNat (48 + m % 10)] := by
 rw [Lib.decDigits, dif_neg (by omega)]
theorem rDigits_any (n : Nat) (hn : n < 18446744073709551616) (w : World) :
  Calls Tryz.prog 186 #[.int .u64 n] w fun e w' => e = .returned (.string ⟨(Lib.decDigits n).toArray⟩) ∧ Below w.heap.size w w' := by
 have hlen := (dec_len 20 n (by decide) (by omega)).2
 generalize hr : (⟨(Lib.decDigits n).toArray⟩ : ByteArray) = r
 have HR : Hid ((⟨(Lib.decDigits n).toArray⟩ : ByteArray) = r) := hr
 clear hr
 go_enter Tryz.func186, Tryz.ntmps186
 go_wp2
 go_loopw [0, 3] (fun u0 u3 wr => ∃ (m : Nat) (t : ByteArray), u0 = .int .u64 m ∧ u3 = .string t ∧ m < 18446744073709551616 ∧ t.size ≤ 20 ∧ Hid (Below w.heap.size w wr ∧ ∃ L : List UInt8, t = ⟨L.toArray⟩ ∧ Lib.decDigits n = Lib.decDigits m ++ L)) (fun u0 _ _ => (intOf u0).toNat)
 case atStart => exact ⟨n, ⟨#[]⟩, rfl, rfl, hn, by decide, Below.refl _ _, [], rfl, by simp⟩
 case round =>
  obtain ⟨m, t, rfl, rfl, hm, ht, hH⟩ := hrel
  have hcv := conv96 wr (48 + (m : Int) % 10)
  have hne : Hid ((⟨#[UInt8.ofNat (48 + (m : Int) % 10).toNat]⟩ : ByteArray) ++ t = ⟨([UInt8.ofNat (48 + m % 10)] ++ (t.data.toList)).toArray⟩) := by
   show _ = _
   rw [show (48 + (m : Int) % 10).toNat = 48 + m % 10 by omega]
   exact app_mk [UInt8.ofNat (48 + m % 10)] t.data.toList
  generalize hX : (⟨#[UInt8.ofNat (48 + (m : Int) % 10).toNat]⟩ : ByteArray) = X at *
  have hXs : X.size = 1 := by rw [← hX]; rfl
  clear hX
  have hsz : (X ++ t).size ≤ 21 := by rw [ByteArray.size_append]; omega
  by_cases hz : m / 10 = 0
  ·have hz' : (m : Int) / 10 = 0 := by omega
   have HE : Hid (r = X ++ t) := by
    obtain ⟨_, L, rfl, e⟩ := hH.out
    show _ = _
    rw [← HR.out, hne.out, e, Lib.decDigits_one (by omega)]
    rw [show m % 10 = m by omega]
   go_wp2
   go_ret
   exact ⟨by rw [HE.out]; rfl, hH.out.1.alloc (hH.out.1.size) _⟩
  ·have hz' : ((m : Int) / 10 == 0) = false := by simp; omega
   have HL : Hid (∃ L : List UInt8, X ++ t = ⟨L.toArray⟩ ∧ Lib.decDigits n = Lib.decDigits (m / 10) ++ L) := by
    obtain ⟨_, L, rfl, e⟩ := hH.out
    refine ⟨_, hne.out, ?_⟩
    rw [e, dec_two m hz]
    simp
   have hs2 : (X ++ t).size ≤ 20 := by
    obtain ⟨L, e1, e2⟩ := HL.out
    rw [e1, size_mk]
    have := congrArg List.length e2
    simp at this
    have := (dec_len 20 (m / 10) (by decide) (by omega)).1
    omega
   go_wp2
   go_roundw
   case rel => exact ⟨m / 10, X ++ t, by go_num, rfl, by omega, hs2, hH.out.1.alloc (hH.out.1.size) _, HL.out⟩
   case measure => simp [intOf]; omega
def lenOf (v : Value) : Nat := match v with | .string t => t.size | _ => 0
theorem ext_list (t : ByteArray) (k : Nat) (h : k ≤ t.size) : (t.extract 0 k).data.toList = t.data.toList.take k ∧ (t.extract 0 k).size = k := by
 have e : (t.extract 0 k).data.toList = t.data.toList.take k := by
  rw [ByteArray.data_extract]
  simp
 refine ⟨e, ?_⟩
 rw [← size_list, e, List.length_take, size_list]
 omega
theorem mk_list (t : ByteArray) : (⟨t.data.toList.toArray⟩ : ByteArray) = t := by
 cases t
 simp
end Go.Proofs.YtnibldnfbikipaaGreatDoor
