/- NCut, NParse, NPrint. -/
import Derived.Lib.AppendIntMem
import Derived.Lib.CutLaws
import Derived.Lib.LaidTab
import Derived.Shelf.Strings.Cut
import Derived.Test.YtljmklbbngpllaaGreatDoorNStrNd
import Derived.Test.YtljmklbbngpllaaGreatDoorShelfNd
set_option linter.unusedVariables false
set_option linter.unusedSimpArgs false
set_option maxHeartbeats 16000000
set_option maxRecDepth 100000
namespace Go.Proofs.YtljmklbbngpllaaGreatDoor
open Go.RowKit Go.Shelf
theorem aAx : ∀ l : List UInt8, (Lib.indexByte l 46 = -1 → jT l = l ∧ fO l = [] ∧ sV l = false) ∧ (∀ i : Nat, Lib.indexByte l 46 = i → jT l = l.take i ∧ fO l = l.drop (i + 1) ∧ sV l = true)
 | [] => ⟨fun _ => ⟨rfl, rfl, rfl⟩, fun i h => by simp [Lib.indexByte] at h⟩
 | b :: l => by
  have ih := aAx l
  have hge := Lib.indexByte_ge l 46
  unfold Lib.indexByte
  by_cases hb : b = 46
  ·subst hb
   refine ⟨fun h => by simp at h, fun i h => ?_⟩
   simp at h
   obtain rfl : i = 0 := by omega
   exact ⟨rfl, rfl, rfl⟩
  ·have e1 : (b == 46) = false := by simpa using hb
   have e2 : (b != 46) = true := by simpa using hb
   rw [e1]
   unfold jT fO sV at *
   simp only [List.takeWhile_cons, List.dropWhile_cons, e2, if_true, Bool.false_eq_true, if_false]
   by_cases hn : Lib.indexByte l 46 = -1
   ·rw [hn]
    refine ⟨fun _ => ?_, fun i h => by simp at h⟩
    obtain ⟨a1, a2, a3⟩ := ih.1 hn
    rw [a1, a2, a3]
    exact ⟨rfl, rfl, rfl⟩
   ·have e3 : (Lib.indexByte l 46 == -1) = false := by simpa using hn
    rw [e3]
    refine ⟨fun h => by simp at h; omega, fun i h => ?_⟩
    simp at h
    obtain ⟨k, rfl⟩ : ∃ k, i = k + 1 := ⟨i - 1, by omega⟩
    obtain ⟨a1, a2, a3⟩ := ih.2 k (by omega)
    rw [a1, a2, a3]
    exact ⟨rfl, rfl, rfl⟩
theorem aKm (l : List UInt8) : Lib.cut l [46] = (jT l, fO l, sV l) := by
 have hi := Lib.index_one l 46
 have hge := Lib.indexByte_ge l 46
 unfold Lib.cut
 rw [hi]
 split
 ·obtain ⟨a1, a2, a3⟩ := (aAx l).2 (Lib.indexByte l 46).toNat (by omega)
  rw [a1, a2, a3]
  rfl
 ·obtain ⟨a1, a2, a3⟩ := (aAx l).1 (by omega)
  rw [a1, a2, a3]
def pnt : ByteArray := ⟨#[46]⟩
theorem aCz (s : ByteArray) (w : World) (hs : s.size ≤ 9223372036854775807) :
  Calls Tryz.prog 217 #[.string s, .string ⟨#[46]⟩] w fun e w' => e = .returned (.tuple #[.string ⟨(jT s.data.toList).toArray⟩, .string ⟨(fO s.data.toList).toArray⟩, .bool (sV s.data.toList)]) ∧ ∃ n, w' = w.drewN n := by
 have hcut := aKm s.data.toList
 have IX := fun u => Tryz.stringslite_Index_one s 46 u
 have hone := Lib.index_one s.data.toList 46
 rcases Lib.indexB_cases s pnt with hix | ⟨i, hix, hroom⟩
 ·obtain ⟨e1, e2, e3⟩ := Lib.cutB_miss s pnt hix
  rw [show pnt.data.toList = [46] from rfl, hcut] at e1 e2 e3
  simp only at e1 e2 e3
  rw [e1, e2, e3]
  rw [show Lib.indexByte s.data.toList 46 = -1 from hone.symm.trans hix] at IX
  clear hix hone hcut e1 e2 e3
  go_enter Tryz.func217, Tryz.ntmps217
  go_wp2_with (go_at_call 235; refine (IX _).mono ?_; rintro e w' ⟨rfl, hw⟩; obtain rfl := hw.symm; clear hw)
  go_ret3
  exact ⟨rfl, 0, rfl⟩
 ·obtain ⟨e1, e2, e3⟩ := Lib.cutB_hit s pnt i hix
  rw [show pnt.data.toList = [46] from rfl, hcut] at e1 e2 e3
  simp only at e1 e2 e3
  rw [e1, e2, e3]
  rw [show Lib.indexByte s.data.toList 46 = i from hone.symm.trans hix] at IX
  have hroom' : i + 1 ≤ s.size := hroom
  have hp : pnt.size = 1 := rfl
  rw [hp]
  have c1 : (0 : Int) ≤ ↑i := by omega
  have c2 : (↑i : Int) ≤ ↑s.size := by omega
  have c3 : (0 : Int) ≤ ↑i + 1 := by omega
  have c4 : (↑i + 1 : Int) ≤ ↑s.size := by omega
  clear hix hone hcut e1 e2 e3 hroom
  go_enter Tryz.func217, Tryz.ntmps217
  go_wp2_with (go_at_call 235; refine (IX _).mono ?_; rintro e w' ⟨rfl, hw⟩; obtain rfl := hw.symm; clear hw)
  go_region
  go_wp2
  go_ret3
  exact ⟨rfl, 1, rfl⟩
theorem fC (w : World) : ∀ n, Below w.heap.size w (w.drewN n)
 | 0 => by rw [World.drewN_zero]; exact Below.refl _ _
 | n + 1 => by
  have := fC w n
  exact ⟨this.os, this.tape, this.output, this.size, this.block⟩
theorem aGz (s : ByteArray) (w : World) (hs : s.size ≤ 9223372036854775807) :
  Calls Tryz.prog 186 #[.string s, .string ⟨#[46]⟩] w fun e w' => e = .returned (.tuple #[.string ⟨(jT s.data.toList).toArray⟩, .string ⟨(fO s.data.toList).toArray⟩, .bool (sV s.data.toList)]) ∧ Below w.heap.size w w' := by
 go_enter Tryz.func186, Tryz.ntmps186
 go_wp2_with (go_at_call 217; refine (aCz _ _ hs).mono ?_; rintro e w' ⟨rfl, n, rfl⟩)
 go_ret3
 exact ⟨rfl, fC w _⟩
theorem aJF (l : List UInt8) : Lib.trimPrefix l [45] = body l ∧ Lib.hasPrefix l [45] = dash l := by
 unfold Lib.trimPrefix Lib.hasPrefix body dash
 cases l with
 | nil => exact ⟨rfl, rfl⟩
 | cons b l =>
  have e : ([45] : List UInt8).isPrefixOf (b :: l) = (some b == some 45) := by
   by_cases h : b = 45
   ·subst h; rfl
   ·have h2 : ¬ 45 = b := fun e => h e.symm
    have e1 : ((45 : UInt8) == b) = false := by simpa using h2
    have e2 : (b == 45) = false := by simpa using h
    simp [List.isPrefixOf, e1, e2]
  rw [e]
  exact ⟨rfl, rfl⟩
theorem aAy (s : ByteArray) (w : World) :
  Calls Tryz.prog 33 #[.string s, .string ⟨#[45]⟩] w fun e w' => e = .returned (.tuple #[.string ⟨(body s.data.toList).toArray⟩, .bool (dash s.data.toList)]) ∧ w' = w := by
 have h := Tryz.strings_CutPrefix s ⟨#[45]⟩ w
 obtain ⟨h1, h2⟩ := aJF s.data.toList
 rw [show (⟨#[45]⟩ : ByteArray).data.toList = [45] from rfl, h1, h2] at h
 exact h
theorem iW (w : World) (s : ByteArray) (pos : Nat) : Below w.heap.size w (w.iter s pos) := (Below.refl _ _).alloc (Nat.le_refl _) _
theorem tL (l : List UInt8) (pos : Nat) (h : pos < l.length) : l.take (pos + 1) = l.take pos ++ [l[pos]] := by
 rw [List.take_add_one, List.getElem?_eq_getElem h]
 rfl
theorem byte_at (s : ByteArray) (pos : Nat) (h : pos < s.size) (h2 : pos < s.data.toList.length) : s[pos] = s.data.toList[pos] := by
 simp
 rfl
theorem cZ (s : ByteArray) : s.data.toList.length = s.size := by
 simp only [Array.length_toList]
 rfl
theorem aJG : ∀ k : Nat, k ≤ 12 → 10 ^ k ≤ 1000000000000 := by decide
theorem tN (l : List UInt8) (k : Nat) (h : l.all isD = true) (hk : l.length ≤ 12) : fM l < 1000000000000 :=
 Nat.lt_of_lt_of_le (vF l h) (aJG _ hk)
theorem aCA (s : ByteArray) (m : Nat) (hm : m ≤ 12) (w : World) (hs : s.size ≤ 9223372036854775807) :
  Calls Tryz.prog 187 #[.string s, .int .i64 m] w fun e w' => e = .returned (two (fP s.data.toList m)) ∧ Below w.heap.size w w' := by
 have hl := cZ s
 by_cases h1 : s.size < 1
 ·rw [show fP s.data.toList m = (0, false) by simp [fP, jS]; omega]
  unfold two
  go_enter Tryz.func187, Tryz.ntmps187
  go_wp2
  go_ret2
  exact ⟨rfl, Below.refl _ _⟩
 by_cases h2 : m < s.size
 ·rw [show fP s.data.toList m = (0, false) by simp [fP, jS]; omega]
  unfold two
  go_enter Tryz.func187, Tryz.ntmps187
  go_wp2
  go_ret2
  exact ⟨rfl, Below.refl _ _⟩
 have hF : ∀ h : s.data.toList.all isD = true, fP s.data.toList m = (((fM s.data.toList : Nat) : Int), true) := fun h => by
  unfold fP jS
  rw [if_pos (by rw [h]; simp; omega)]
 have hN : s.data.toList.all isD = false → fP s.data.toList m = (0, false) := fun h => by
  unfold fP jS
  rw [if_neg (by rw [h]; simp)]
 generalize fP s.data.toList m = r at *
 have HF : Hid (s.data.toList.all isD = true → r = (((fM s.data.toList : Nat) : Int), true)) := hF
 have HN : Hid (s.data.toList.all isD = false → r = (0, false)) := hN
 clear hF hN
 have hsz : 1 ≤ s.size ∧ s.size ≤ m := by omega
 go_enter Tryz.func187, Tryz.ntmps187
 go_wp2
 go_loopw [6] (fun n wr => ∃ (pos N : Nat), wr = w.iter s pos ∧ n = .int .i64 N ∧ pos ≤ s.size ∧ N < 1000000000000 ∧ Hid ((s.data.toList.take pos).all isD = true ∧ N = fM (s.data.toList.take pos))) (fun _ wr => s.size - wr.iterPos w.heap.size)
 case atStart => exact ⟨0, 0, rfl, rfl, Nat.zero_le _, by omega, rfl, rfl⟩
 case round =>
  obtain ⟨pos, N, rfl, rfl, hp, hN, hH⟩ := hrel
  by_cases hlt : pos < s.size
  ·have hb := byte_at s pos hlt (by omega)
   have ht := tL s.data.toList pos (by omega)
   have hlast : s.data.toList.all isD = true → isD (s[pos]) = true := fun h => by
    rw [hb]
    exact List.all_eq_true.1 h _ (List.getElem_mem _)
   by_cases ha : (s[pos]'hlt).toNat < 128
   ·have hnx : ∀ ty, (Instr.next (.pointer (some ⟨w.heap.size, 0, none⟩)) true ty).run Tryz.prog (w.iter s pos) = _ := fun ty => run_next_ascii w s pos ty hlt ha
    cases hd : isD (s[pos]'hlt)
    ·have hE : Hid (r = (0, false)) := HN.out (by
      cases hh : s.data.toList.all isD
      ·rfl
      ·rw [hlast hh] at hd; cases hd)
     clear hlast ht hb
     simp only [isD, Bool.and_eq_false_iff, decide_eq_false_iff_not] at hd
     generalize (s[pos]'hlt).toNat = c at *
     by_cases hc : (c : Int) < 48
     ·go_wp2
      go_ret2
      exact ⟨by rw [hE.out]; rfl, iW _ _ _⟩
     ·go_wp2
      go_ret2
      exact ⟨by rw [hE.out]; rfl, iW _ _ _⟩
    ·have hA : Hid ((s.data.toList.take (pos + 1)).all isD = true ∧ N * 10 + ((s[pos]'hlt).toNat - 48) = fM (s.data.toList.take (pos + 1))) := by
      rw [ht, List.all_append, hH.out.1]
      refine ⟨by simp [← hb, hd], ?_⟩
      rw [oV, ← hH.out.2, ← hb]
      simp [fM, lQ]
     have hB := tN (s.data.toList.take (pos + 1)) 12 hA.out.1 (by simp; omega)
     rw [← hA.out.2] at hB
     clear hlast ht hb
     simp only [isD, Bool.and_eq_true, decide_eq_true_eq] at hd
     generalize (s[pos]'hlt).toNat = c at *
     have g1 : ¬ (c : Int) < 48 := by omega
     have g2 : ¬ (57 : Int) < c := by omega
     go_wp2
     go_roundw
     case rel => exact ⟨pos + 1, N * 10 + (c - 48), rfl, by go_num, by omega, hB, hA.out⟩
     case measure => simp; omega
   ·have hnx : ∀ ty, (Instr.next (.pointer (some ⟨w.heap.size, 0, none⟩)) true ty).run Tryz.prog (w.iter s pos) = _ := fun ty => run_next_any w s pos ty hlt
    have hh := decode_high s pos hlt (by omega)
    have hE : Hid (r = (0, false)) := HN.out (by
      cases hh : s.data.toList.all isD
      ·rfl
      ·have := hlast hh; simp [isD] at this; omega)
    clear hlast ht hb
    generalize (Utf8.decode s pos).1 = c at *
    generalize (Utf8.decode s pos).2 = v at *
    have g1 : ¬ (c : Int) < 48 := by omega
    have g2 : (57 : Int) < c := by omega
    go_wp2
    go_ret2
    exact ⟨by rw [hE.out]; rfl, iW _ _ _⟩
  ·have hnx : ∀ ty, (Instr.next (.pointer (some ⟨w.heap.size, 0, none⟩)) true ty).run Tryz.prog (w.iter s pos) = _ := fun ty => run_next_end w s pos ty hlt
   have hE : Hid (r = (((N : Nat) : Int), true)) := by
    have e : s.data.toList.take pos = s.data.toList := List.take_of_length_le (by omega)
    have := hH.out
    rw [e] at this
    rw [this.2]
    exact HF.out this.1
   go_wp2
   go_ret2
   exact ⟨by rw [hE.out]; rfl, iW _ _ _⟩
end Go.Proofs.YtljmklbbngpllaaGreatDoor
namespace Go.Proofs.YtljmklbbngpllaaGreatDoor
open Go.RowKit
def str (l : List UInt8) : Value := .string ⟨l.toArray⟩
theorem size_mk (l : List UInt8) : (⟨l.toArray⟩ : ByteArray).size = l.length := by
 show l.toArray.size = _
 simp
theorem aAz (l : List UInt8) (w : World) : Calls Tryz.prog 33 #[.string ⟨l.toArray⟩, .string ⟨#[45]⟩] w fun e w' => e = .returned (.tuple #[.string ⟨(body l).toArray⟩, .bool (dash l)]) ∧ w' = w := aAy ⟨l.toArray⟩ w
theorem aGA (l : List UInt8) (w : World) (hl : l.length ≤ 9223372036854775807) : Calls Tryz.prog 186 #[.string ⟨l.toArray⟩, .string ⟨#[46]⟩] w fun e w' => e = .returned (.tuple #[.string ⟨(jT l).toArray⟩, .string ⟨(fO l).toArray⟩, .bool (sV l)]) ∧ Below w.heap.size w w' :=
 aGz ⟨l.toArray⟩ w (by rw [size_mk]; exact hl)
theorem tO (l : List UInt8) (m : Nat) (hm : m ≤ 12) (w : World) (hl : l.length ≤ 9223372036854775807) : Calls Tryz.prog 187 #[.string ⟨l.toArray⟩, .int .i64 m] w fun e w' => e = .returned (two (fP l m)) ∧ Below w.heap.size w w' :=
 aCA ⟨l.toArray⟩ m hm w (by rw [size_mk]; exact hl)
theorem qK (l : List UInt8) : (body l).length ≤ l.length := by unfold body; split <;> simp
theorem aGB (l : List UInt8) : (jT l).length ≤ l.length := by unfold jT; exact (List.takeWhile_sublist _).length_le
theorem aGC (l : List UInt8) : (fO l).length ≤ l.length := by
 unfold fO
 have := (List.dropWhile_sublist (l := l) (fun x => x != 46)).length_le
 simp; omega
theorem mO (l : List UInt8) (a b : Nat) : jS l a b = true ↔ l.all isD = true ∧ a ≤ l.length ∧ l.length ≤ b := by
 unfold jS
 simp only [Bool.and_eq_true, decide_eq_true_eq]
 constructor
 ·rintro ⟨⟨h1, h2⟩, h3⟩; exact ⟨h1, h2, h3⟩
 ·rintro ⟨h1, h2, h3⟩; exact ⟨⟨h1, h2⟩, h3⟩
theorem tQ {l : List UInt8} {m : Nat} (h : jS l 1 m = true) : fP l m = (((fM l : Nat) : Int), true) := if_pos h
theorem xI {l : List UInt8} {m : Nat} (h : ¬ jS l 1 m = true) : fP l m = (0, false) := if_neg h
theorem aCB {A0 A1 A2 A3 : ByteArray} {d p : Bool} {w : World}
  (PF : ∀ u : World, Calls Tryz.prog 33 #[.string A0, .string ⟨#[45]⟩] u fun e w' => e = .returned (.tuple #[.string A1, .bool d]) ∧ w' = u)
  (CU : ∀ u : World, Calls Tryz.prog 186 #[.string A1, .string ⟨#[46]⟩] u fun e w' => e = .returned (.tuple #[.string A2, .string A3, .bool p]) ∧ Below u.heap.size u w')
  (C1 : ∀ u : World, Calls Tryz.prog 187 #[.string A2, .int .i64 12] u fun e w' => e = .returned (.tuple #[.int .i64 0, .bool false]) ∧ Below u.heap.size u w')  :
  Calls Tryz.prog 145 #[.string A0] w fun e w' => e = .returned (two (0, false)) ∧ Below w.heap.size w w' := by
 go_enter Tryz.func145, Tryz.ntmps145
 go_wp2_with fail
 refine (PF _).mono ?_
 rintro e w' ⟨rfl, hw⟩
 obtain rfl := hw.symm
 clear hw
 go_wp2_with fail
 refine (CU _).mono ?_
 rintro e w1 ⟨rfl, hb1⟩
 go_wp2_with fail
 refine (C1 _).mono ?_
 rintro e w2 ⟨rfl, hb2⟩
 go_wp2
 go_ret2
 exact ⟨rfl, hb1.trans (hb2.mono hb1.size)⟩
theorem xJ {A0 A1 A2 A3 : ByteArray} {d : Bool} {W : Nat} {w : World}
  (PF : ∀ u : World, Calls Tryz.prog 33 #[.string A0, .string ⟨#[45]⟩] u fun e w' => e = .returned (.tuple #[.string A1, .bool d]) ∧ w' = u)
  (CU : ∀ u : World, Calls Tryz.prog 186 #[.string A1, .string ⟨#[46]⟩] u fun e w' => e = .returned (.tuple #[.string A2, .string A3, .bool false]) ∧ Below u.heap.size u w')
  (C1 : ∀ u : World, Calls Tryz.prog 187 #[.string A2, .int .i64 12] u fun e w' => e = .returned (.tuple #[.int .i64 (W : Nat), .bool true]) ∧ Below u.heap.size u w')
  (hW : W < 1000000000000) :
  Calls Tryz.prog 145 #[.string A0] w fun e w' => e = .returned (two (ans (aCx ((W : Int) * 10000) d))) ∧ Below w.heap.size w w' := by
 go_enter Tryz.func145, Tryz.ntmps145
 go_wp2_with fail
 refine (PF _).mono ?_
 rintro e w' ⟨rfl, hw⟩
 obtain rfl := hw.symm
 clear hw
 go_wp2_with fail
 refine (CU _).mono ?_
 rintro e w1 ⟨rfl, hb1⟩
 go_wp2_with fail
 refine (C1 _).mono ?_
 rintro e w2 ⟨rfl, hb2⟩
 go_wp2_with fail
 refine (qH _ _ (by omega) (by omega) _).mono ?_
 rintro e w' ⟨rfl, hw⟩
 obtain rfl := hw.symm
 clear hw
 go_wp2_with fail
 refine (qG _ _).mono ?_
 rintro e w' ⟨rfl, hw⟩
 obtain rfl := hw.symm
 clear hw
 unfold two
 go_wp2
 go_ret2
 exact ⟨rfl, hb1.trans (hb2.mono hb1.size)⟩
theorem aCC {A0 A1 A2 A3 : ByteArray} {d : Bool} {W : Nat} {w : World}
  (PF : ∀ u : World, Calls Tryz.prog 33 #[.string A0, .string ⟨#[45]⟩] u fun e w' => e = .returned (.tuple #[.string A1, .bool d]) ∧ w' = u)
  (CU : ∀ u : World, Calls Tryz.prog 186 #[.string A1, .string ⟨#[46]⟩] u fun e w' => e = .returned (.tuple #[.string A2, .string A3, .bool true]) ∧ Below u.heap.size u w')
  (C1 : ∀ u : World, Calls Tryz.prog 187 #[.string A2, .int .i64 12] u fun e w' => e = .returned (.tuple #[.int .i64 (W : Nat), .bool true]) ∧ Below u.heap.size u w')
  (C2 : ∀ u : World, Calls Tryz.prog 187 #[.string A3, .int .i64 4] u fun e w' => e = .returned (.tuple #[.int .i64 0, .bool false]) ∧ Below u.heap.size u w')  :
  Calls Tryz.prog 145 #[.string A0] w fun e w' => e = .returned (two (0, false)) ∧ Below w.heap.size w w' := by
 go_enter Tryz.func145, Tryz.ntmps145
 go_wp2_with fail
 refine (PF _).mono ?_
 rintro e w' ⟨rfl, hw⟩
 obtain rfl := hw.symm
 clear hw
 go_wp2_with fail
 refine (CU _).mono ?_
 rintro e w1 ⟨rfl, hb1⟩
 go_wp2_with fail
 refine (C1 _).mono ?_
 rintro e w2 ⟨rfl, hb2⟩
 go_wp2_with fail
 refine (C2 _).mono ?_
 rintro e w3 ⟨rfl, hb3⟩
 go_wp2
 go_ret2
 exact ⟨rfl, (hb1.trans (hb2.mono hb1.size)).trans (hb3.mono (Nat.le_trans hb1.size hb2.size))⟩
theorem xK {A0 A1 A2 A3 : ByteArray} {d : Bool} {W R : Nat} {T : Int} {w : World}
  (PF : ∀ u : World, Calls Tryz.prog 33 #[.string A0, .string ⟨#[45]⟩] u fun e w' => e = .returned (.tuple #[.string A1, .bool d]) ∧ w' = u)
  (CU : ∀ u : World, Calls Tryz.prog 186 #[.string A1, .string ⟨#[46]⟩] u fun e w' => e = .returned (.tuple #[.string A2, .string A3, .bool true]) ∧ Below u.heap.size u w')
  (C1 : ∀ u : World, Calls Tryz.prog 187 #[.string A2, .int .i64 12] u fun e w' => e = .returned (.tuple #[.int .i64 (W : Nat), .bool true]) ∧ Below u.heap.size u w')
  (C2 : ∀ u : World, Calls Tryz.prog 187 #[.string A3, .int .i64 4] u fun e w' => e = .returned (.tuple #[.int .i64 (R : Nat), .bool true]) ∧ Below u.heap.size u w')
  (hW : W < 1000000000000) (h4 : A3.size ≤ 4) (TN : ∀ u : World, Calls Tryz.prog 188 #[.int .i64 (4 - (A3.size : Int))] u fun e w' => e = .returned (.int .i64 T) ∧ w' = u)
  (hP : 0 ≤ (R : Int) * T ∧ (R : Int) * T ≤ 100000000) :
  Calls Tryz.prog 145 #[.string A0] w fun e w' => e = .returned (two (ans (aCx ((W : Int) * 10000 + (R : Int) * T) d))) ∧ Below w.heap.size w w' := by
 go_enter Tryz.func145, Tryz.ntmps145
 go_wp2_with fail
 refine (PF _).mono ?_
 rintro e w' ⟨rfl, hw⟩
 obtain rfl := hw.symm
 clear hw
 go_wp2_with fail
 refine (CU _).mono ?_
 rintro e w1 ⟨rfl, hb1⟩
 go_wp2_with fail
 refine (C1 _).mono ?_
 rintro e w2 ⟨rfl, hb2⟩
 go_wp2_with fail
 refine (C2 _).mono ?_
 rintro e w3 ⟨rfl, hb3⟩
 go_wp2_with fail
 refine (TN _).mono ?_
 rintro e w' ⟨rfl, hw⟩
 obtain rfl := hw.symm
 clear hw
 go_wp2_with fail
 refine (qH _ _ (by omega) (by omega) _).mono ?_
 rintro e w' ⟨rfl, hw⟩
 obtain rfl := hw.symm
 clear hw
 go_wp2_with fail
 refine (qG _ _).mono ?_
 rintro e w' ⟨rfl, hw⟩
 obtain rfl := hw.symm
 clear hw
 unfold two
 go_wp2
 go_ret2
 exact ⟨rfl, (hb1.trans (hb2.mono hb1.size)).trans (hb3.mono (Nat.le_trans hb1.size hb2.size))⟩
theorem aCD (l : List UInt8) (w : World) (hl : l.length ≤ 9223372036854775807) :
  Calls Tryz.prog 145 #[.string ⟨l.toArray⟩] w fun e w' => e = .returned (two (bZ l)) ∧ Below w.heap.size w w' := by
 have PF := fun u => aAz l u
 have CU := fun u => aGA (body l) u (by have := qK l; omega)
 have C1 := fun u => tO (jT (body l)) 12 (by decide) u (by have := qK l; have := aGB (body l); omega)
 have C2 := fun u => tO (fO (body l)) 4 (by decide) u (by have := qK l; have := aGC (body l); omega)
 have hsz := size_mk (fO (body l))
 unfold bZ aIl
 generalize dash l = d at *
 generalize body l = bl at *
 by_cases h1 : jS (jT bl) 1 12 = true
 ·have hd1 := (mO _ _ _).1 h1
  have hW := tN _ 12 hd1.1 hd1.2.2
  rw [tQ h1] at C1
  cases hp : sV bl
  ·rw [hp] at CU
   rw [if_pos ⟨h1, fun h => by cases h⟩, if_neg (by decide), Nat.add_zero]
   have := xJ PF CU C1 hW (w := w)
   rw [Int.natCast_mul]
   exact this
  ·rw [hp] at CU
   by_cases h2 : jS (fO bl) 1 4 = true
   ·have hd2 := (mO _ _ _).1 h2
    have hR := vF _ hd2.1
    rw [tQ h2] at C2
    rw [if_pos ⟨h1, fun _ => h2⟩, if_pos rfl]
    have hR2 : fM (fO bl) < 10000 := by
     have : (10 : Nat) ^ (fO bl).length ≤ 10 ^ 4 := Nat.pow_le_pow_right (by decide) hd2.2.2
     omega
    have hT2 : (10 : Int) ^ (4 - (fO bl).length) ≤ 10000 := by
     have : ∀ j : Nat, j ≤ 4 → (10 : Int) ^ j ≤ 10000 := by decide
     exact this _ (by omega)
    have hT := aEb (4 - (fO bl).length) (by omega)
    have TN : ∀ u : World, Calls Tryz.prog 188 #[.int .i64 (4 - ((⟨(fO bl).toArray⟩ : ByteArray).size : Int))] u fun e w' => e = .returned (.int .i64 (10 ^ (4 - (fO bl).length))) ∧ w' = u := fun u => by
     have := aEc (4 - (fO bl).length) (by omega) u
     rw [show ((4 - (fO bl).length : Nat) : Int) = 4 - ((⟨(fO bl).toArray⟩ : ByteArray).size : Int) by omega] at this
     exact this
    have hP : 0 ≤ (fM (fO bl) : Int) * 10 ^ (4 - (fO bl).length) ∧ (fM (fO bl) : Int) * 10 ^ (4 - (fO bl).length) ≤ 100000000 :=
     ⟨Int.mul_nonneg (by omega) (by omega), Int.mul_le_mul (c := 10000) (d := 10000) (by omega) hT2 (by omega) (by omega)⟩
    have := xK PF CU C1 C2 hW (by omega) TN hP (w := w)
    rw [Int.natCast_add, Int.natCast_mul, Int.natCast_mul, Int.natCast_pow]
    exact this
   ·rw [xI h2] at C2
    rw [if_neg (fun h => h2 (h.2 rfl))]
    exact aCC PF CU C1 C2
 ·rw [xI h1] at C1
  rw [if_neg (fun h => h1 h.1)]
  exact aCB PF CU C1
def lG (w : World) : Prop := Lib.TabIs Tryz.prog w "internal/strconv.uint64pow10" .u64 Lib.pow10Tab
theorem lG.below {w w' : World} (h : lG w) (hb : Below w.heap.size w w') : lG w' := Lib.tabBelow_of_tabIs h w' hb
theorem qL (w : World) (k : Nat) (os : Array Obj) : Below w.heap.size w (Sort.grow (w.drewN k) os) := by
 have h := fC w k
 have hk : (w.drewN k).heap.size = w.heap.size ∧ ∀ i, i < w.heap.size → (w.drewN k).heap[i]? = w.heap[i]? := by
  refine ⟨?_, h.block⟩
  clear h
  induction k with
  | zero => rw [World.drewN_zero]
  | succ n ih => exact ih
 refine ⟨h.os, h.tape, h.output, ?_, fun i hi => ?_⟩
 ·show w.heap.size ≤ ((w.drewN k).heap ++ os).size
  simp only [Array.size_append]; omega
 ·show ((w.drewN k).heap ++ os)[i]? = _
  rw [Array.getElem?_append_left (by omega)]
  exact hk.2 i hi
theorem qM (n : Nat) (hn : n ≤ 9223372036854775807) (w : World) (T : lG w) :
  Calls Tryz.prog 170 #[.int .i64 n] w fun e w' => e = .returned (.string ⟨(Lib.decDigits n).toArray⟩) ∧ Below w.heap.size w w' := by
 have h := Tryz.strconv_Itoa n (by omega) (by omega) w T
 refine h.mono ?_
 rintro e w' ⟨rfl, k, os, rfl⟩
 refine ⟨?_, qL w k os⟩
 unfold Lib.itoa
 rw [if_neg (by omega), Int.toNat_natCast]
theorem nW (a b : List UInt8) : (⟨a.toArray⟩ : ByteArray) ++ ⟨b.toArray⟩ = ⟨(a ++ b).toArray⟩ := by
 apply ByteArray.ext
 simp
theorem drop_mk (a : List UInt8) : (⟨a.toArray⟩ : ByteArray).extract 1 (⟨a.toArray⟩ : ByteArray).size = ⟨(a.drop 1).toArray⟩ := by
 apply ByteArray.ext
 simp only [size_mk]
 simp
 exact List.take_of_length_le (by simp)
theorem aEe (n : Int) : vE (n.tdiv 10000) = ((n.natAbs / 10000 : Nat) : Int) := by
 have h : (n.tdiv 10000).natAbs = n.natAbs / 10000 := Int.natAbs_tdiv n 10000
 unfold vE
 split <;> omega
theorem aEf (n : Int) : vE (n.tmod 10000) = ((n.natAbs % 10000 : Nat) : Int) := by
 have h := Int.natAbs_tmod n 10000
 unfold vE
 have : ((10000 : Int).natAbs) = 10000 := rfl
 rw [this] at h
 split <;> omega
theorem aAA {n q r : Int} {Q R : Nat} {w : World} (hn : -9223372036854775808 ≤ n ∧ n ≤ 9223372036854775807) (hq : n.tdiv 10000 = q) (hr : n.tmod 10000 = r) (hq1 : -922337203685477 ≤ q ∧ q ≤ 922337203685477) (hR : R < 10000) (hQ : Q ≤ 922337203685477) (T : lG w)
  (S1 : ∀ u : World, Calls Tryz.prog 171 #[.int .i64 q] u fun e w' => e = .returned (.int .i64 Q) ∧ w' = u)
  (S2 : ∀ u : World, Calls Tryz.prog 171 #[.int .i64 r] u fun e w' => e = .returned (.int .i64 R) ∧ w' = u) {A1 A2 A3 A4 : ByteArray}
  (I1 : ∀ u : World, lG u → Calls Tryz.prog 170 #[.int .i64 Q] u fun e w' => e = .returned (.string A1) ∧ Below u.heap.size u w')
  (I2 : ∀ u : World, lG u → Calls Tryz.prog 170 #[.int .i64 (10000 + (R : Int))] u fun e w' => e = .returned (.string A2) ∧ Below u.heap.size u w')
  (hs1 : A1.size ≤ 20) (hs4 : A4.size ≤ 4) (hs2 : ((⟨#[45]⟩ : ByteArray) ++ A1).size ≤ 21) (hs3 : ((⟨#[46]⟩ : ByteArray) ++ A4).size ≤ 5) (hone : ∀ b : UInt8, (⟨#[b]⟩ : ByteArray).size = 1) (h5 : A2.size = 5) (hA3 : A2.extract 1 5 = A3)
  (TR : ∀ u : World, Calls Tryz.prog 172 #[.string A3, .string ⟨#[48]⟩] u fun e w' => e = .returned (.string A4) ∧ w' = u) :
  Calls Tryz.prog 130 #[.int .i64 n] w fun e w' => e = .returned (.string (if R = 0 then (if n < 0 then (⟨#[45]⟩ : ByteArray) ++ A1 else A1) else ((if n < 0 then (⟨#[45]⟩ : ByteArray) ++ A1 else A1) ++ (⟨#[46]⟩ ++ A4)))) ∧ Below w.heap.size w w' := by
 have HT : Hid (lG w) := T
 clear T
 generalize hX : (if R = 0 then (if n < 0 then (⟨#[45]⟩ : ByteArray) ++ A1 else A1) else ((if n < 0 then (⟨#[45]⟩ : ByteArray) ++ A1 else A1) ++ (⟨#[46]⟩ ++ A4))) = X
 by_cases hneg : n < 0
 ·rw [if_pos hneg] at hX
  by_cases h0 : R = 0
  ·rw [if_pos h0] at hX
   have HX : Hid _ := hX
   clear hX
   subst h0
   go_enter Tryz.func130, Tryz.ntmps130
   go_wp2_with fail
   refine (S1 _).mono ?_
   rintro e w' ⟨rfl, hw⟩
   obtain rfl := hw.symm
   clear hw
   go_wp2_with fail
   refine (I1 _ HT.out).mono ?_
   rintro e w1 ⟨rfl, hb1⟩
   have HB1 : Hid _ := hb1
   have HT1 : Hid (lG w1) := HT.out.below hb1
   clear hb1
   go_wp2_with fail
   refine (S2 _).mono ?_
   rintro e w' ⟨rfl, hw⟩
   obtain rfl := hw.symm
   clear hw
   go_wp2
   go_ret
   exact ⟨by rw [← HX.out]; rfl, HB1.out⟩
  ·rw [if_neg h0] at hX
   have HX : Hid _ := hX
   clear hX
   have h1 : (0 : Int) < (R : Int) := by omega
   go_enter Tryz.func130, Tryz.ntmps130
   go_wp2_with fail
   refine (S1 _).mono ?_
   rintro e w' ⟨rfl, hw⟩
   obtain rfl := hw.symm
   clear hw
   go_wp2_with fail
   refine (I1 _ HT.out).mono ?_
   rintro e w1 ⟨rfl, hb1⟩
   have HB1 : Hid _ := hb1
   have HT1 : Hid (lG w1) := HT.out.below hb1
   clear hb1
   go_wp2_with fail
   refine (S2 _).mono ?_
   rintro e w' ⟨rfl, hw⟩
   obtain rfl := hw.symm
   clear hw
   go_wp2_with fail
   refine (I2 _ HT1.out).mono ?_
   rintro e w2 ⟨rfl, hb2⟩
   have HB2 : Hid _ := hb2
   clear hb2
   go_wp2_with fail
   refine (TR _).mono ?_
   rintro e w' ⟨rfl, hw⟩
   obtain rfl := hw.symm
   clear hw
   go_wp2
   go_ret
   exact ⟨by rw [← HX.out]; rfl, HB1.out.trans (HB2.out.mono HB1.out.size)⟩
 ·rw [if_neg hneg] at hX
  by_cases h0 : R = 0
  ·rw [if_pos h0] at hX
   have HX : Hid _ := hX
   clear hX
   subst h0
   go_enter Tryz.func130, Tryz.ntmps130
   go_wp2_with fail
   refine (S1 _).mono ?_
   rintro e w' ⟨rfl, hw⟩
   obtain rfl := hw.symm
   clear hw
   go_wp2_with fail
   refine (I1 _ HT.out).mono ?_
   rintro e w1 ⟨rfl, hb1⟩
   have HB1 : Hid _ := hb1
   have HT1 : Hid (lG w1) := HT.out.below hb1
   clear hb1
   go_wp2_with fail
   refine (S2 _).mono ?_
   rintro e w' ⟨rfl, hw⟩
   obtain rfl := hw.symm
   clear hw
   go_wp2
   go_ret
   exact ⟨by rw [← HX.out]; rfl, HB1.out⟩
  ·rw [if_neg h0] at hX
   have HX : Hid _ := hX
   clear hX
   have h1 : (0 : Int) < (R : Int) := by omega
   go_enter Tryz.func130, Tryz.ntmps130
   go_wp2_with fail
   refine (S1 _).mono ?_
   rintro e w' ⟨rfl, hw⟩
   obtain rfl := hw.symm
   clear hw
   go_wp2_with fail
   refine (I1 _ HT.out).mono ?_
   rintro e w1 ⟨rfl, hb1⟩
   have HB1 : Hid _ := hb1
   have HT1 : Hid (lG w1) := HT.out.below hb1
   clear hb1
   go_wp2_with fail
   refine (S2 _).mono ?_
   rintro e w' ⟨rfl, hw⟩
   obtain rfl := hw.symm
   clear hw
   go_wp2_with fail
   refine (I2 _ HT1.out).mono ?_
   rintro e w2 ⟨rfl, hb2⟩
   have HB2 : Hid _ := hb2
   clear hb2
   go_wp2_with fail
   refine (TR _).mono ?_
   rintro e w' ⟨rfl, hw⟩
   obtain rfl := hw.symm
   clear hw
   go_wp2
   go_ret
   exact ⟨by rw [← HX.out]; rfl, HB1.out.trans (HB2.out.mono HB1.out.size)⟩
end Go.Proofs.YtljmklbbngpllaaGreatDoor
