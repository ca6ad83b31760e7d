/- ACut, NLives, NRDig, NRPrint, VKind, VFuns, VName. -/
import Derived.Lib.IndexLaws
import Derived.Test.YtljmklbbngpllaaGreatDoorNPrintBk
set_option linter.unusedVariables false
set_option linter.unusedSimpArgs false
set_option maxHeartbeats 16000000
set_option maxRecDepth 100000
namespace Go.Proofs.YtljmklbbngpllaaGreatDoor
open Go.RowKit Go.Shelf
def gU (c : UInt8) (l : List UInt8) : List UInt8 × List UInt8 × Bool := match Ad.at_ c l with
 | none => (l, [], false)
 | some p => (p.1, p.2, true)
theorem kS (c : UInt8) : ∀ l : List UInt8, (Lib.indexByte l c = -1 → Ad.at_ c l = none) ∧ (∀ i : Nat, Lib.indexByte l c = i → Ad.at_ c l = some (l.take i, l.drop (i + 1)))
 | [] => ⟨fun _ => rfl, fun i h => by simp [Lib.indexByte] at h⟩
 | b :: l => by
  have ih := kS c l
  have hge := Lib.indexByte_ge l c
  unfold Lib.indexByte Ad.at_
  by_cases hb : b = c
  ·subst hb
   refine ⟨fun h => by simp at h, fun i h => ?_⟩
   simp at h
   obtain rfl : i = 0 := by omega
   rw [if_pos rfl]
   rfl
  ·have e1 : (b == c) = false := by simpa using hb
   rw [e1, if_neg hb]
   simp only [Bool.false_eq_true, if_false]
   by_cases hn : Lib.indexByte l c = -1
   ·rw [hn]
    refine ⟨fun _ => ?_, fun i h => by simp at h⟩
    rw [ih.1 hn]
    rfl
   ·have e3 : (Lib.indexByte l c == -1) = false := by simpa using hn
    rw [e3]
    refine ⟨fun h => by simp at h; omega, fun i h => ?_⟩
    simp at h
    obtain ⟨k, rfl⟩ : ∃ k, i = k + 1 := ⟨i - 1, by omega⟩
    rw [ih.2 k (by omega)]
    rfl
theorem aLc (c : UInt8) (l : List UInt8) : Lib.cut l [c] = gU c l := by
 have hi := Lib.index_one l c
 have hge := Lib.indexByte_ge l c
 unfold Lib.cut gU
 rw [hi]
 split
 ·rw [(kS c l).2 (Lib.indexByte l c).toNat (by omega)]
  rfl
 ·rw [(kS c l).1 (by omega)]
theorem lD {c : UInt8} {l : List UInt8} (h : Ad.at_ c l = none) : gU c l = (l, [], false) := by unfold gU; rw [h]
theorem lF {c : UInt8} {l a b : List UInt8} (h : Ad.at_ c l = some (a, b)) : gU c l = (a, b, true) := by unfold gU; rw [h]
theorem aEN (c : UInt8) (s : ByteArray) (w : World) (hs : s.size ≤ 9223372036854775807) :
  Calls Tryz.prog 217 #[.string s, .string ⟨#[c]⟩] w fun e w' => e = .returned (.tuple #[.string ⟨(gU c s.data.toList).1.toArray⟩, .string ⟨(gU c s.data.toList).2.1.toArray⟩, .bool (gU c s.data.toList).2.2]) ∧ ∃ n, w' = w.drewN n := by
 have hcut := aLc c s.data.toList
 have IX := fun u => Tryz.stringslite_Index_one s c u
 have hone := Lib.index_one s.data.toList c
 obtain ⟨sp, hsp⟩ : ∃ sp : ByteArray, sp = ⟨#[c]⟩ := ⟨_, rfl⟩
 have hp : sp.size = 1 := by rw [hsp]; rfl
 have hl : sp.data.toList = [c] := by rw [hsp]
 rcases Lib.indexB_cases s sp with hix | ⟨i, hix, hroom⟩
 ·obtain ⟨e1, e2, e3⟩ := Lib.cutB_miss s sp hix
  rw [hl, hcut] at e1 e2 e3
  rw [e1, e2, e3]
  replace hix : Lib.index s.data.toList [c] = -1 := by rw [← hl]; exact hix
  rw [show Lib.indexByte s.data.toList c = -1 from hone.symm.trans hix] at IX
  rw [← hsp] at IX ⊢
  clear hix hone hcut e1 e2 e3 hl hsp
  go_enter Tryz.func217, Tryz.ntmps217
  go_wp2_with (go_at_call 235; refine (IX _).mono ?_; rintro e w' ⟨rfl, hw⟩; obtain rfl := hw.symm; clear hw)
  go_ret3
  exact ⟨rfl, 0, rfl⟩
 ·obtain ⟨e1, e2, e3⟩ := Lib.cutB_hit s sp i hix
  rw [hl, hcut] at e1 e2 e3
  rw [e1, e2, e3]
  replace hix : Lib.index s.data.toList [c] = i := by rw [← hl]; exact hix
  rw [show Lib.indexByte s.data.toList c = i from hone.symm.trans hix] at IX
  have hroom' : i + 1 ≤ s.size := by rw [hp] at hroom; exact hroom
  rw [hp]
  have c1 : (0 : Int) ≤ ↑i := by omega
  have c2 : (↑i : Int) ≤ ↑s.size := by omega
  have c3 : (0 : Int) ≤ ↑i + 1 := by omega
  have c4 : (↑i + 1 : Int) ≤ ↑s.size := by omega
  rw [← hsp] at IX ⊢
  clear hix hone hcut e1 e2 e3 hroom hl hsp
  go_enter Tryz.func217, Tryz.ntmps217
  go_wp2_with (go_at_call 235; refine (IX _).mono ?_; rintro e w' ⟨rfl, hw⟩; obtain rfl := hw.symm; clear hw)
  go_region
  go_wp2
  go_ret3
  exact ⟨rfl, 1, rfl⟩
theorem rC (c : UInt8) (l : List UInt8) (w : World) (hl : l.length ≤ 9223372036854775807) :
  Calls Tryz.prog 186 #[.string ⟨l.toArray⟩, .string ⟨#[c]⟩] w fun e w' => e = .returned (.tuple #[.string ⟨(gU c l).1.toArray⟩, .string ⟨(gU c l).2.1.toArray⟩, .bool (gU c l).2.2]) ∧ Below w.heap.size w w' := by
 have C := fun u => aEN c ⟨l.toArray⟩ u (by rw [size_mk]; exact hl)
 simp only [List.toList_toArray] at C
 generalize (⟨l.toArray⟩ : ByteArray) = A at *
 generalize (⟨#[c]⟩ : ByteArray) = B at *
 generalize gU c l = R at *
 go_enter Tryz.func186, Tryz.ntmps186
 go_wp2_with (go_at_call 217; refine (C _).mono ?_; rintro e w' ⟨rfl, n, rfl⟩)
 go_ret3
 exact ⟨rfl, fM w _⟩
theorem aDb (c : UInt8) (l : List UInt8) : Lib.trimPrefix l [c] = (Ad.strip c l).2 ∧ Lib.hasPrefix l [c] = (Ad.strip c l).1 := by
 unfold Lib.trimPrefix Lib.hasPrefix
 cases l with
 | nil => exact ⟨rfl, rfl⟩
 | cons b l =>
  rw [Ad.dB]
  by_cases h : b = c
  ·subst h
   simp [List.isPrefixOf]
  ·have h2 : ¬ c = b := fun e => h e.symm
   simp [List.isPrefixOf, h, h2]
theorem lG (c : UInt8) (l : List UInt8) (w : World) :
  Calls Tryz.prog 33 #[.string ⟨l.toArray⟩, .string ⟨#[c]⟩] w fun e w' => e = .returned (.tuple #[.string ⟨(Ad.strip c l).2.toArray⟩, .bool (Ad.strip c l).1]) ∧ w' = w := by
 have h := Tryz.strings_CutPrefix ⟨l.toArray⟩ ⟨#[c]⟩ w
 obtain ⟨h1, h2⟩ := aDb c l
 rw [show (⟨#[c]⟩ : ByteArray).data.toList = [c] from rfl, show (⟨l.toArray⟩ : ByteArray).data.toList = l from rfl, h1, h2] at h
 exact h
end Go.Proofs.YtljmklbbngpllaaGreatDoor
namespace Go.Proofs.YtljmklbbngpllaaGreatDoor
open Go.RowKit
theorem rD (r : Nat) (h : r < 10000) : (kQ r).length ≤ 4 := by
 by_cases h0 : r = 0
 ·rw [h0, aC5]; simp
 ·exact ((nL _ _ _).1 (qX r h h0).1).2.2
theorem uV (n : Int) (hn : -9223372036854775808 ≤ n ∧ n ≤ 9223372036854775807) (w : World) (T : mH w) :
  Calls Tryz.prog 130 #[.int .i64 n] w fun e w' => e = .returned (.string ⟨(iX n).toArray⟩) ∧ Below w.heap.size w w' := by
 have hQ : n.natAbs / 10000 ≤ 922337203685477 := by omega
 have hR : n.natAbs % 10000 < 10000 := by omega
 have aq := aEL n
 have ar := aEM n
 have bq : -922337203685477 ≤ n.tdiv 10000 ∧ n.tdiv 10000 ≤ 922337203685477 := by unfold vY at aq; split at aq <;> omega
 have br : -10000 ≤ n.tmod 10000 ∧ n.tmod 10000 ≤ 10000 := by unfold vY at ar; split at ar <;> omega
 have S1 := fun u => yG (n.tdiv 10000) (by omega) (by omega) u
 have S2 := fun u => yG (n.tmod 10000) (by omega) (by omega) u
 rw [aq] at S1
 rw [ar] at S2
 have l1 := (jM 15 (n.natAbs / 10000) (by decide) (by omega)).2
 have d5 := qW (n.natAbs % 10000) hR
 have l5 : (Lib.decDigits (10000 + n.natAbs % 10000)).length = 5 := by rw [d5]; rfl
 have tl := rD (n.natAbs % 10000) hR
 have hX : ∀ X, X = (if n.natAbs % 10000 = 0 then (if n < 0 then (⟨#[45]⟩ : ByteArray) ++ ⟨(Lib.decDigits (n.natAbs / 10000)).toArray⟩ else ⟨(Lib.decDigits (n.natAbs / 10000)).toArray⟩)
   else ((if n < 0 then (⟨#[45]⟩ : ByteArray) ++ ⟨(Lib.decDigits (n.natAbs / 10000)).toArray⟩ else ⟨(Lib.decDigits (n.natAbs / 10000)).toArray⟩) ++ (⟨#[46]⟩ ++ ⟨(kQ (n.natAbs % 10000)).toArray⟩))) → X = ⟨(iX n).toArray⟩ := by
  rintro X rfl
  unfold iX
  have e45 : (⟨#[45]⟩ : ByteArray) = ⟨([45] : List UInt8).toArray⟩ := rfl
  have e46 : (⟨#[46]⟩ : ByteArray) = ⟨([46] : List UInt8).toArray⟩ := rfl
  rw [e45, e46]
  by_cases h0 : n.natAbs % 10000 = 0 <;> by_cases hneg : n < 0 <;> simp only [h0, hneg, if_true, if_false, kR] <;> simp
 have hX' := hX _ rfl
 rw [← hX']
 refine aAY (q := n.tdiv 10000) (r := n.tmod 10000) (A2 := ⟨(Lib.decDigits (10000 + n.natAbs % 10000)).toArray⟩) (A3 := ⟨((Lib.decDigits (10000 + n.natAbs % 10000)).drop 1).toArray⟩) hn rfl rfl bq hR hQ T S1 S2 (fun u hu => rA _ (by omega) u hu) (fun u hu => ?_) ?_ ?_ ?_ ?_ (fun _ => rfl) ?_ ?_ (fun u => ?_)
 ·have := rA (10000 + n.natAbs % 10000) (by omega) u hu
  rw [Int.natCast_add] at this
  exact this
 ·rw [size_mk]; omega
 ·rw [size_mk]; exact tl
 ·rw [show (⟨#[45]⟩ : ByteArray) = ⟨([45] : List UInt8).toArray⟩ from rfl, kR, size_mk]; simp; omega
 ·rw [show (⟨#[46]⟩ : ByteArray) = ⟨([46] : List UInt8).toArray⟩ from rfl, kR, size_mk]; simp; omega
 ·rw [size_mk]; exact l5
 ·have := drop_mk (Lib.decDigits (10000 + n.natAbs % 10000))
  rw [size_mk, l5] at this
  exact this
 ·exact Tryz.strings_TrimRight_one ⟨((Lib.decDigits (10000 + n.natAbs % 10000)).drop 1).toArray⟩ 48 (by decide) u (by rw [size_mk]; simp; omega)
theorem wB (w : World) (z : Int) : (convert 134 9 (.slice (some ⟨w.heap.size, 0, none⟩) 1 1)).run Tryz.prog (w.alloc (.cells #[.int .u8 z] 5)) = .ok (.string ⟨#[UInt8.ofNat z.toNat]⟩) (w.alloc (.cells #[.int .u8 z] 5)) := by
 have hl : (loadCells ⟨w.heap.size, 0, none⟩ 1).run Tryz.prog (w.alloc (.cells #[.int .u8 z] 5)) = .ok (([z] : List Int).map (Value.int .u8)).toArray (w.alloc (.cells #[.int .u8 z] 5)) := by
  refine run_loadCells_list (P := Tryz.prog) _ ⟨w.heap.size, 0, none⟩ [.int .u8 z] fun j u hj => ?_
  match j, hj with
  | 0, hj =>
   cases hj
   simp only [World.cell?]
   rw [show ((⟨w.heap.size, 0, none⟩ : Addr).add 0) = ⟨w.heap.size, 0, none⟩ from rfl, heap_alloc_new]
   rfl
 rw [run_convert_bytes_string _ 134 9 5 _ 1 1 Tryz.underlying134 Tryz.underlying5 Tryz.underlying9, run_bytesToString _ _ 1 1 _ hl, foldl_push_bytes]
 rfl
theorem wC (m : Nat) (h : ¬ m / 10 = 0) : Lib.decDigits m = Lib.decDigits (m / 10) ++ [UInt8.ofNat (48 + m % 10)] := by
 rw [Lib.decDigits, dif_neg (by omega)]
theorem pW (n : Nat) (hn : n < 18446744073709551616) (w : World) :
  Calls Tryz.prog 184 #[.int .u64 n] w fun e w' => e = .returned (.string ⟨(Lib.decDigits n).toArray⟩) ∧ Below w.heap.size w w' := by
 have hlen := (jM 20 n (by decide) (by omega)).2
 generalize hr : (⟨(Lib.decDigits n).toArray⟩ : ByteArray) = r
 have HR : Hid ((⟨(Lib.decDigits n).toArray⟩ : ByteArray) = r) := hr
 clear hr
 go_enter Tryz.func184, Tryz.ntmps184
 go_wp2
 go_loopw [0, 3] (fun u0 u3 wr => ∃ (m : Nat) (t : ByteArray), u0 = .int .u64 m ∧ u3 = .string t ∧ m < 18446744073709551616 ∧ t.size ≤ 20 ∧ Hid (Below w.heap.size w wr ∧ ∃ L : List UInt8, t = ⟨L.toArray⟩ ∧ Lib.decDigits n = Lib.decDigits m ++ L)) (fun u0 _ _ => (intOf u0).toNat)
 case atStart => exact ⟨n, ⟨#[]⟩, rfl, rfl, hn, by decide, Below.refl _ _, [], rfl, by simp⟩
 case round =>
  obtain ⟨m, t, rfl, rfl, hm, ht, hH⟩ := hrel
  have hcv := wB wr (48 + (m : Int) % 10)
  have hne : Hid ((⟨#[UInt8.ofNat (48 + (m : Int) % 10).toNat]⟩ : ByteArray) ++ t = ⟨([UInt8.ofNat (48 + m % 10)] ++ (t.data.toList)).toArray⟩) := by
   show _ = _
   rw [show (48 + (m : Int) % 10).toNat = 48 + m % 10 by omega]
   exact kR [UInt8.ofNat (48 + m % 10)] t.data.toList
  generalize hX : (⟨#[UInt8.ofNat (48 + (m : Int) % 10).toNat]⟩ : ByteArray) = X at *
  have hXs : X.size = 1 := by rw [← hX]; rfl
  clear hX
  have hsz : (X ++ t).size ≤ 21 := by rw [ByteArray.size_append]; omega
  by_cases hz : m / 10 = 0
  ·have hz' : (m : Int) / 10 = 0 := by omega
   have HE : Hid (r = X ++ t) := by
    obtain ⟨_, L, rfl, e⟩ := hH.out
    show _ = _
    rw [← HR.out, hne.out, e, Lib.decDigits_one (by omega)]
    rw [show m % 10 = m by omega]
   go_wp2
   go_ret
   exact ⟨by rw [HE.out]; rfl, hH.out.1.alloc (hH.out.1.size) _⟩
  ·have hz' : ((m : Int) / 10 == 0) = false := by simp; omega
   have HL : Hid (∃ L : List UInt8, X ++ t = ⟨L.toArray⟩ ∧ Lib.decDigits n = Lib.decDigits (m / 10) ++ L) := by
    obtain ⟨_, L, rfl, e⟩ := hH.out
    refine ⟨_, hne.out, ?_⟩
    rw [e, wC m hz]
    simp
   have hs2 : (X ++ t).size ≤ 20 := by
    obtain ⟨L, e1, e2⟩ := HL.out
    rw [e1, size_mk]
    have := congrArg List.length e2
    simp at this
    have := (jM 20 (m / 10) (by decide) (by omega)).1
    omega
   go_wp2
   go_roundw
   case rel => exact ⟨m / 10, X ++ t, by go_num, rfl, by omega, hs2, hH.out.1.alloc (hH.out.1.size) _, HL.out⟩
   case measure => simp [intOf]; omega
theorem lH (t : ByteArray) : (⟨t.data.toList.toArray⟩ : ByteArray) = t := by
 cases t
 simp
theorem rE (n : Int) (s : ByteArray) (w : World) : Calls Tryz.prog 165 #[.agg #[.int .i64 0, .int .i64 n, .string s]] w fun e w' => e = .returned (.iface 206 (.agg #[])) ∧ Below w.heap.size w w' := by
 go_enter Tryz.func165, Tryz.ntmps165
 go_wp2
 go_ret
 exact ⟨rfl, (Below.refl _ _).alloc (Nat.le_refl _) _⟩
theorem yL (n : Int) (s : ByteArray) (w : World) : Calls Tryz.prog 165 #[.agg #[.int .i64 1, .int .i64 n, .string s]] w fun e w' => e = .returned (.iface 183 (.int .i64 n)) ∧ Below w.heap.size w w' := by
 go_enter Tryz.func165, Tryz.ntmps165
 go_wp2
 go_ret
 exact ⟨rfl, (Below.refl _ _).alloc (Nat.le_refl _) _⟩
theorem yM (n : Int) (s : ByteArray) (w : World) : Calls Tryz.prog 165 #[.agg #[.int .i64 2, .int .i64 n, .string s]] w fun e w' => e = .returned (.iface 184 (.string s)) ∧ Below w.heap.size w w' := by
 go_enter Tryz.func165, Tryz.ntmps165
 go_wp2
 go_ret
 exact ⟨rfl, (Below.refl _ _).alloc (Nat.le_refl _) _⟩
theorem uW (n : Int) (s : ByteArray) (w : World) : Calls Tryz.prog 165 #[.agg #[.int .i64 3, .int .i64 n, .string s]] w fun e w' => e = .returned (.iface 185 (.bool (n != 0))) ∧ Below w.heap.size w w' := by
 go_enter Tryz.func165, Tryz.ntmps165
 go_wp2
 go_ret
 exact ⟨rfl, (Below.refl _ _).alloc (Nat.le_refl _) _⟩
theorem yN (n : Int) (s : ByteArray) (w : World) : Calls Tryz.prog 165 #[.agg #[.int .i64 4, .int .i64 n, .string s]] w fun e w' => e = .returned (.iface 186 (.int .i64 n)) ∧ Below w.heap.size w w' := by
 go_enter Tryz.func165, Tryz.ntmps165
 go_wp2
 go_ret
 exact ⟨rfl, (Below.refl _ _).alloc (Nat.le_refl _) _⟩
theorem uX (k n : Int) (s : ByteArray) (w : World) (h0 : (k == 0) = false) (h1 : (k == 1) = false) (h2 : (k == 2) = false) (h3 : (k == 3) = false) (h4 : (k == 4) = false) : Calls Tryz.prog 165 #[.agg #[.int .i64 k, .int .i64 n, .string s]] w fun e w' => e = .returned (.iface 207 (.int .i64 n)) ∧ Below w.heap.size w w' := by
 go_enter Tryz.func165, Tryz.ntmps165
 go_wp2
 go_ret
 exact ⟨rfl, (Below.refl _ _).alloc (Nat.le_refl _) _⟩
theorem aAZ (b : Bool) (w : World) : Calls Tryz.prog 239 #[.bool b] w fun e w' => e = .returned (.int .i64 (if b = true then 1 else 0)) ∧ w' = w := by
 cases b
 all_goals
  go_enter Tryz.func239, Tryz.ntmps239
  go_wp2
  go_ret
  exact ⟨rfl, rfl⟩
def knB (n : Int) : Bool := decide (1 ≤ n) && decide (n ≤ 8)
theorem gK (n : Int) (w : World) : Calls Tryz.prog 191 #[.int .i64 n] w fun e w' => e = .returned (.bool (knB n)) ∧ w' = w := by
 go_enter Tryz.func191, Tryz.ntmps191
 go_wp2
 all_goals (go_ret; rename_i h; refine ⟨?_, rfl⟩; congr 2; simp [knB]; try omega)
theorem aEO (W : World) (v : Value) : (Instr.typeAssert (.iface 206 v) 20 206 true).run Tryz.prog W = .ok (.tuple #[v, .bool true]) W := by kernel_rfl
theorem aEP (W : World) (v : Value) : (Instr.typeAssert (.iface 206 v) 20 183 true).run Tryz.prog W = .ok (.tuple #[.int .i64 0, .bool false]) W := by kernel_rfl
theorem aEQ (W : World) (v : Value) : (Instr.typeAssert (.iface 206 v) 20 184 true).run Tryz.prog W = .ok (.tuple #[.string ByteArray.empty, .bool false]) W := by kernel_rfl
theorem aER (W : World) (v : Value) : (Instr.typeAssert (.iface 206 v) 20 185 true).run Tryz.prog W = .ok (.tuple #[.bool false, .bool false]) W := by kernel_rfl
theorem aES (W : World) (v : Value) : (Instr.typeAssert (.iface 206 v) 20 186 true).run Tryz.prog W = .ok (.tuple #[.int .i64 0, .bool false]) W := by kernel_rfl
theorem aET (W : World) (v : Value) : (Instr.typeAssert (.iface 183 v) 20 206 true).run Tryz.prog W = .ok (.tuple #[.agg #[], .bool false]) W := by kernel_rfl
theorem yO (W : World) (v : Value) : (Instr.typeAssert (.iface 183 v) 20 183 true).run Tryz.prog W = .ok (.tuple #[v, .bool true]) W := by kernel_rfl
theorem aEU (W : World) (v : Value) : (Instr.typeAssert (.iface 183 v) 20 184 true).run Tryz.prog W = .ok (.tuple #[.string ByteArray.empty, .bool false]) W := by kernel_rfl
theorem aEV (W : World) (v : Value) : (Instr.typeAssert (.iface 183 v) 20 185 true).run Tryz.prog W = .ok (.tuple #[.bool false, .bool false]) W := by kernel_rfl
theorem aEW (W : World) (v : Value) : (Instr.typeAssert (.iface 183 v) 20 186 true).run Tryz.prog W = .ok (.tuple #[.int .i64 0, .bool false]) W := by kernel_rfl
theorem aEX (W : World) (v : Value) : (Instr.typeAssert (.iface 184 v) 20 206 true).run Tryz.prog W = .ok (.tuple #[.agg #[], .bool false]) W := by kernel_rfl
theorem yP (W : World) (v : Value) : (Instr.typeAssert (.iface 184 v) 20 183 true).run Tryz.prog W = .ok (.tuple #[.int .i64 0, .bool false]) W := by kernel_rfl
theorem yQ (W : World) (v : Value) : (Instr.typeAssert (.iface 184 v) 20 184 true).run Tryz.prog W = .ok (.tuple #[v, .bool true]) W := by kernel_rfl
theorem aEY (W : World) (v : Value) : (Instr.typeAssert (.iface 184 v) 20 185 true).run Tryz.prog W = .ok (.tuple #[.bool false, .bool false]) W := by kernel_rfl
theorem aEZ (W : World) (v : Value) : (Instr.typeAssert (.iface 184 v) 20 186 true).run Tryz.prog W = .ok (.tuple #[.int .i64 0, .bool false]) W := by kernel_rfl
theorem aE0 (W : World) (v : Value) : (Instr.typeAssert (.iface 185 v) 20 206 true).run Tryz.prog W = .ok (.tuple #[.agg #[], .bool false]) W := by kernel_rfl
theorem yR (W : World) (v : Value) : (Instr.typeAssert (.iface 185 v) 20 183 true).run Tryz.prog W = .ok (.tuple #[.int .i64 0, .bool false]) W := by kernel_rfl
theorem yS (W : World) (v : Value) : (Instr.typeAssert (.iface 185 v) 20 184 true).run Tryz.prog W = .ok (.tuple #[.string ByteArray.empty, .bool false]) W := by kernel_rfl
theorem yT (W : World) (v : Value) : (Instr.typeAssert (.iface 185 v) 20 185 true).run Tryz.prog W = .ok (.tuple #[v, .bool true]) W := by kernel_rfl
theorem aE1 (W : World) (v : Value) : (Instr.typeAssert (.iface 185 v) 20 186 true).run Tryz.prog W = .ok (.tuple #[.int .i64 0, .bool false]) W := by kernel_rfl
theorem aE2 (W : World) (v : Value) : (Instr.typeAssert (.iface 186 v) 20 206 true).run Tryz.prog W = .ok (.tuple #[.agg #[], .bool false]) W := by kernel_rfl
theorem yU (W : World) (v : Value) : (Instr.typeAssert (.iface 186 v) 20 183 true).run Tryz.prog W = .ok (.tuple #[.int .i64 0, .bool false]) W := by kernel_rfl
theorem yV (W : World) (v : Value) : (Instr.typeAssert (.iface 186 v) 20 184 true).run Tryz.prog W = .ok (.tuple #[.string ByteArray.empty, .bool false]) W := by kernel_rfl
theorem yX (W : World) (v : Value) : (Instr.typeAssert (.iface 186 v) 20 185 true).run Tryz.prog W = .ok (.tuple #[.bool false, .bool false]) W := by kernel_rfl
theorem yY (W : World) (v : Value) : (Instr.typeAssert (.iface 186 v) 20 186 true).run Tryz.prog W = .ok (.tuple #[v, .bool true]) W := by kernel_rfl
theorem aE3 (W : World) (v : Value) : (Instr.typeAssert (.iface 207 v) 20 206 true).run Tryz.prog W = .ok (.tuple #[.agg #[], .bool false]) W := by kernel_rfl
theorem yZ (W : World) (v : Value) : (Instr.typeAssert (.iface 207 v) 20 183 true).run Tryz.prog W = .ok (.tuple #[.int .i64 0, .bool false]) W := by kernel_rfl
theorem zA (W : World) (v : Value) : (Instr.typeAssert (.iface 207 v) 20 184 true).run Tryz.prog W = .ok (.tuple #[.string ByteArray.empty, .bool false]) W := by kernel_rfl
theorem zC (W : World) (v : Value) : (Instr.typeAssert (.iface 207 v) 20 185 true).run Tryz.prog W = .ok (.tuple #[.bool false, .bool false]) W := by kernel_rfl
theorem zD (W : World) (v : Value) : (Instr.typeAssert (.iface 207 v) 20 186 true).run Tryz.prog W = .ok (.tuple #[.int .i64 0, .bool false]) W := by kernel_rfl
theorem rF {W w1 : World} (hb : Below W.heap.size W w1) : (∀ b o, b < W.heap.size → w1.cell? ⟨b, o, none⟩ = W.cell? ⟨b, o, none⟩) ∧ (∀ b o, b < W.heap.size → w1.frozen? ⟨b, o, none⟩ = W.frozen? ⟨b, o, none⟩) :=
 ⟨fun b o h => hb.cell (p := ⟨b, o, none⟩) h, fun b o h => hb.frozen (p := ⟨b, o, none⟩) h⟩
theorem zF (n : Int) (s : ByteArray) (w : World) : Calls Tryz.prog 125 #[.agg #[.int .i64 0, .int .i64 n, .string s]] w fun e w' => e = .returned (.string ⟨#[]⟩) ∧ Below w.heap.size w w' := by
 have uE := aEP
 have wD := aEQ
 have zG := aER
 have aA0 := aES
 go_enter Tryz.func125, Tryz.ntmps125
 go_wp2_with (first | (go_at_call 165; refine (rE _ _ _).mono ?_; rintro e w1 ⟨rfl, hb⟩; have HB : Hid (Below w.heap.size w w1) := aS hb; obtain ⟨hc, hf⟩ := rF hb; have hz := hb.size; simp at hz; clear hb))
 all_goals (go_ret; exact ⟨rfl, HB.out⟩)
theorem aDc (n : Int) (s : ByteArray) (w : World) (X : ByteArray) (P : ∀ u : World, Below w.heap.size w u → Calls Tryz.prog 130 #[.int .i64 n] u fun e w' => e = .returned (.string X) ∧ Below u.heap.size u w') : Calls Tryz.prog 125 #[.agg #[.int .i64 1, .int .i64 n, .string s]] w fun e w' => e = .returned (.string X) ∧ Below w.heap.size w w' := by
 have uE := yO
 have wD := aEU
 have zG := aEV
 have aA0 := aEW
 go_enter Tryz.func125, Tryz.ntmps125
 go_wp2_with (first | (go_at_call 165; refine (yL _ _ _).mono ?_; rintro e w1 ⟨rfl, hb⟩; have HB : Hid (Below w.heap.size w w1) := aS hb; obtain ⟨hc, hf⟩ := rF hb; have hz := hb.size; simp at hz; clear hb) | (go_at_call 130; refine (P _ HB.out).mono ?_; rintro e w2 ⟨rfl, hb⟩; have HB2 : Hid (Below w.heap.size w w2) := aJ HB.out hb; clear hb))
 go_ret
 exact ⟨rfl, HB2.out⟩
theorem aDd (n : Int) (s : ByteArray) (w : World) : Calls Tryz.prog 125 #[.agg #[.int .i64 2, .int .i64 n, .string s]] w fun e w' => e = .returned (.string s) ∧ Below w.heap.size w w' := by
 have uE := yP
 have wD := yQ
 have zG := aEY
 have aA0 := aEZ
 go_enter Tryz.func125, Tryz.ntmps125
 go_wp2_with (first | (go_at_call 165; refine (yM _ _ _).mono ?_; rintro e w1 ⟨rfl, hb⟩; have HB : Hid (Below w.heap.size w w1) := aS hb; obtain ⟨hc, hf⟩ := rF hb; have hz := hb.size; simp at hz; clear hb))
 all_goals (go_ret; exact ⟨rfl, HB.out⟩)
theorem aDe (b : Bool) (w : World) : Calls Tryz.prog 166 #[.bool b] w fun e w' => e = .returned (.string (if b = true then ⟨#[84, 82, 85, 69]⟩ else ⟨#[70, 65, 76, 83, 69]⟩)) ∧ w' = w := by
 cases b
 all_goals
  go_enter Tryz.func166, Tryz.ntmps166
  go_wp2
  go_ret
  exact ⟨rfl, rfl⟩
theorem aA1 (n : Int) (s : ByteArray) (w : World) (b : Bool) (KB : ∀ u : World, Calls Tryz.prog 165 #[.agg #[.int .i64 3, .int .i64 n, .string s]] u fun e w' => e = .returned (.iface 185 (.bool b)) ∧ Below u.heap.size u w') : Calls Tryz.prog 125 #[.agg #[.int .i64 3, .int .i64 n, .string s]] w fun e w' => e = .returned (.string (if b = true then ⟨#[84, 82, 85, 69]⟩ else ⟨#[70, 65, 76, 83, 69]⟩)) ∧ Below w.heap.size w w' := by
 cases b
 all_goals
  have uE := yR
  have wD := yS
  have zG := yT
  have aA0 := aE1
  go_enter Tryz.func125, Tryz.ntmps125
  go_wp2_with (first | (go_at_call 165; refine (KB _).mono ?_; rintro e w1 ⟨rfl, hb⟩; have HB : Hid (Below w.heap.size w w1) := aS hb; obtain ⟨hc, hf⟩ := rF hb; have hz := hb.size; simp at hz; clear hb) | (go_at_call 166; refine (aDe _ _).mono ?_; rintro e w' ⟨rfl, hw⟩; obtain rfl := hw.symm; clear hw))
  all_goals (go_ret; exact ⟨rfl, HB.out⟩)
theorem aDf (n : Int) (s : ByteArray) (w : World) (X : ByteArray) (P : ∀ u : World, Below w.heap.size w u → Calls Tryz.prog 167 #[.int .i64 n] u fun e w' => e = .returned (.string X) ∧ w' = u) : Calls Tryz.prog 125 #[.agg #[.int .i64 4, .int .i64 n, .string s]] w fun e w' => e = .returned (.string X) ∧ Below w.heap.size w w' := by
 have uE := yU
 have wD := yV
 have zG := yX
 have aA0 := yY
 go_enter Tryz.func125, Tryz.ntmps125
 go_wp2_with (first | (go_at_call 165; refine (yN _ _ _).mono ?_; rintro e w1 ⟨rfl, hb⟩; have HB : Hid (Below w.heap.size w w1) := aS hb; obtain ⟨hc, hf⟩ := rF hb; have hz := hb.size; simp at hz; clear hb) | (go_at_call 167; refine (P _ HB.out).mono ?_; rintro e w' ⟨rfl, hw⟩; obtain rfl := hw.symm; clear hw))
 all_goals (go_ret; exact ⟨rfl, HB.out⟩)
theorem aA2 (k n : Int) (s : ByteArray) (w : World) (h0 : (k == 0) = false) (h1 : (k == 1) = false) (h2 : (k == 2) = false) (h3 : (k == 3) = false) (h4 : (k == 4) = false) : Calls Tryz.prog 125 #[.agg #[.int .i64 k, .int .i64 n, .string s]] w fun e w' => e = .returned (.string ⟨#[]⟩) ∧ Below w.heap.size w w' := by
 have uE := yZ
 have wD := zA
 have zG := zC
 have aA0 := zD
 go_enter Tryz.func125, Tryz.ntmps125
 go_wp2_with (first | (go_at_call 165; refine (uX _ _ _ _ h0 h1 h2 h3 h4).mono ?_; rintro e w1 ⟨rfl, hb⟩; have HB : Hid (Below w.heap.size w w1) := aS hb; obtain ⟨hc, hf⟩ := rF hb; have hz := hb.size; simp at hz; clear hb))
 all_goals (go_ret; exact ⟨rfl, HB.out⟩)
def fnm : Nat → ByteArray
 | 1 => ⟨#[35, 68, 73, 86, 47, 48, 33]⟩
 | 2 => ⟨#[35, 86, 65, 76, 85, 69, 33]⟩
 | 3 => ⟨#[35, 82, 69, 70, 33]⟩
 | 4 => ⟨#[35, 78, 65, 77, 69, 63]⟩
 | 5 => ⟨#[35, 78, 85, 77, 33]⟩
 | 6 => ⟨#[35, 78, 47, 65]⟩
 | 7 => ⟨#[35, 67, 89, 67, 76, 69, 33]⟩
 | 8 => ⟨#[35, 76, 73, 78, 75, 33]⟩
 | _ => ⟨#[]⟩
def fnB (n : Int) : ByteArray := if knB n = true then fnm n.toNat else ⟨#[]⟩
def rG (w : World) : Prop := ∀ i, i < 9 → w.cell? ⟨1, i, none⟩ = some (.string (fnm i))
theorem rG.kept {w w' : World} (h : rG w) (hk : ∀ i, i < w.heap.size → w'.heap[i]? = w.heap[i]?) : rG w' := fun i hi => by
 rw [← h i hi]
 exact World.cell?_of_block (hk _ (World.block_lt_of_cell? w _ (h i hi)))
theorem rG.below {w w' : World} (h : rG w) (hb : Below w.heap.size w w') : rG w' := h.kept hb.block
theorem aJt (n : Int) : knB n = true ↔ n = 1 ∨ n = 2 ∨ n = 3 ∨ n = 4 ∨ n = 5 ∨ n = 6 ∨ n = 7 ∨ n = 8 := by
 simp [knB]; omega
theorem oO (n : Int) (w : World) (T : rG w) : Calls Tryz.prog 167 #[.int .i64 n] w fun e w' => e = .returned (.string (fnB n)) ∧ w' = w := by
 cases hk : knB n
 ·have e : fnB n = ⟨#[]⟩ := by simp [fnB, hk]
  rw [e]
  have K := fun u => gK n u
  rw [hk] at K
  go_enter Tryz.func167, Tryz.ntmps167
  go_wp2_with (go_at_call 191; refine (K _).mono ?_; rintro e w' ⟨rfl, hw⟩; obtain rfl := hw.symm; clear hw)
  go_ret
  exact ⟨rfl, rfl⟩
 ·have K := fun u => gK n u
  rw [hk] at K
  have e : fnB n = fnm n.toNat := by simp [fnB, hk]
  rw [e]
  have h1 := T 1 (by decide); have h2 := T 2 (by decide); have h3 := T 3 (by decide); have h4 := T 4 (by decide)
  have h5 := T 5 (by decide); have h6 := T 6 (by decide); have h7 := T 7 (by decide); have h8 := T 8 (by decide)
  clear T e
  rw [aJt] at hk
  rcases hk with rfl | rfl | rfl | rfl | rfl | rfl | rfl | rfl
  all_goals
   go_enter Tryz.func167, Tryz.ntmps167
   go_wp2_with (go_at_call 191; refine (K _).mono ?_; rintro e w' ⟨rfl, hw⟩; obtain rfl := hw.symm; clear hw)
   go_ret
   exact ⟨rfl, rfl⟩
def aE4 : Array Value := #[.string (fnm 0), .string (fnm 1), .string (fnm 2), .string (fnm 3), .string (fnm 4), .string (fnm 5), .string (fnm 6), .string (fnm 7), .string (fnm 8)]
theorem uY (w : World) : Calls Tryz.prog 137 #[] w fun e w' => e = .returned (.agg aE4) ∧ Below w.heap.size w w' := by
 go_enter Tryz.func137, Tryz.ntmps137
 go_wp2
 exact bodyPost_ret (v := .agg aE4) (by simp [results, Tryz.results137, go_sem]; rfl) rfl ⟨rfl, (Below.refl _ _).alloc (Nat.le_refl _) _⟩
def emB (s : ByteArray) : Bool := decide (s.toList = [])
theorem gP (s : ByteArray) : (s.toList = [] ∧ emB s = true) ∨ (¬ s.toList = [] ∧ emB s = false) := by
 by_cases h : s.toList = [] <;> simp [emB, h]
theorem lI {w w1 : World} {a b c : Value} (hb : Below (w.alloc (.cells #[a, b, c] 23)).heap.size (w.alloc (.cells #[a, b, c] 23)) w1) :
  (∀ o, (w1.alloc o).cell? ⟨w.heap.size, 0, none⟩ = some a ∧ (w1.alloc o).cell? ⟨w.heap.size, 1, none⟩ = some b ∧ (w1.alloc o).cell? ⟨w.heap.size, 2, none⟩ = some c)
   ∧ (w1.cell? ⟨w.heap.size, 0, none⟩ = some a ∧ w1.cell? ⟨w.heap.size, 1, none⟩ = some b ∧ w1.cell? ⟨w.heap.size, 2, none⟩ = some c) := by
 have h0 : w1.heap[w.heap.size]? = some (.cells #[a, b, c] 23 (0, 0)) := by
  rw [hb.block _ (by simp)]
  exact heap_alloc_new w _
 refine ⟨fun o => ?_, by simp [World.cell?, h0]⟩
 have h1 : (w1.alloc o).heap[w.heap.size]? = some (.cells #[a, b, c] 23 (0, 0)) := by
  have hz := hb.size
  simp at hz
  rw [Below.heap_alloc w1 o _ (by omega)]
  exact h0
 simp [World.cell?, h1]
theorem nM (n : Int) : (n = 0 ∧ (n == 0) = true) ∨ (¬ n = 0 ∧ (n == 0) = false) := by
 by_cases h : n = 0 <;> simp [h]
theorem uZ (n : Int) : (n = 0 ∧ ((n == 0) || (n == 1)) = true) ∨ (n = 1 ∧ ((n == 0) || (n == 1)) = true) ∨ ((n == 0) = false ∧ (n == 1) = false) := by
 by_cases h : n = 0
 ·simp [h]
 ·by_cases g : n = 1 <;> simp [h, g]
def uF (s : ByteArray) : Bool := decide (s.size ≤ 255)
theorem lJ (s : ByteArray) : ((s.size : Int) ≤ 255 ∧ uF s = true) ∨ (¬ (s.size : Int) ≤ 255 ∧ uF s = false) := by
 by_cases h : s.size ≤ 255
 ·left; simp [uF, h]; omega
 ·right; simp [uF, h]; omega
theorem aE5 (n : Int) : (1 ≤ n ∧ n ≤ 8 ∧ knB n = true) ∨ (¬ 1 ≤ n ∧ knB n = false) ∨ (1 ≤ n ∧ ¬ n ≤ 8 ∧ knB n = false) := by
 by_cases h : 1 ≤ n <;> by_cases g : n ≤ 8 <;> simp [knB, h, g]
end Go.Proofs.YtljmklbbngpllaaGreatDoor
