/- ACut, NLives, NRPrint, VKind, VFuns, VName. -/
import Derived.Lib.IndexLaws
import Derived.Test.YtljmklbbngpllaaGreatDoorNPrintNd
set_option linter.unusedVariables false
set_option linter.unusedSimpArgs false
set_option maxHeartbeats 16000000
set_option maxRecDepth 100000
namespace Go.Proofs.YtljmklbbngpllaaGreatDoor
open Go.RowKit Go.Shelf
def gI (c : UInt8) (l : List UInt8) : List UInt8 × List UInt8 × Bool := match Ad.at_ c l with
 | none => (l, [], false)
 | some p => (p.1, p.2, true)
theorem jV (c : UInt8) : ∀ l : List UInt8, (Lib.indexByte l c = -1 → Ad.at_ c l = none) ∧ (∀ i : Nat, Lib.indexByte l c = i → Ad.at_ c l = some (l.take i, l.drop (i + 1)))
 | [] => ⟨fun _ => rfl, fun i h => by simp [Lib.indexByte] at h⟩
 | b :: l => by
  have ih := jV c l
  have hge := Lib.indexByte_ge l c
  unfold Lib.indexByte Ad.at_
  by_cases hb : b = c
  ·subst hb
   refine ⟨fun h => by simp at h, fun i h => ?_⟩
   simp at h
   obtain rfl : i = 0 := by omega
   rw [if_pos rfl]
   rfl
  ·have e1 : (b == c) = false := by simpa using hb
   rw [e1, if_neg hb]
   simp only [Bool.false_eq_true, if_false]
   by_cases hn : Lib.indexByte l c = -1
   ·rw [hn]
    refine ⟨fun _ => ?_, fun i h => by simp at h⟩
    rw [ih.1 hn]
    rfl
   ·have e3 : (Lib.indexByte l c == -1) = false := by simpa using hn
    rw [e3]
    refine ⟨fun h => by simp at h; omega, fun i h => ?_⟩
    simp at h
    obtain ⟨k, rfl⟩ : ∃ k, i = k + 1 := ⟨i - 1, by omega⟩
    rw [ih.2 k (by omega)]
    rfl
theorem aKn (c : UInt8) (l : List UInt8) : Lib.cut l [c] = gI c l := by
 have hi := Lib.index_one l c
 have hge := Lib.indexByte_ge l c
 unfold Lib.cut gI
 rw [hi]
 split
 ·rw [(jV c l).2 (Lib.indexByte l c).toNat (by omega)]
  rfl
 ·rw [(jV c l).1 (by omega)]
theorem kK {c : UInt8} {l : List UInt8} (h : Ad.at_ c l = none) : gI c l = (l, [], false) := by unfold gI; rw [h]
theorem kL {c : UInt8} {l a b : List UInt8} (h : Ad.at_ c l = some (a, b)) : gI c l = (a, b, true) := by unfold gI; rw [h]
theorem aEg (c : UInt8) (s : ByteArray) (w : World) (hs : s.size ≤ 9223372036854775807) :
  Calls Tryz.prog 217 #[.string s, .string ⟨#[c]⟩] w fun e w' => e = .returned (.tuple #[.string ⟨(gI c s.data.toList).1.toArray⟩, .string ⟨(gI c s.data.toList).2.1.toArray⟩, .bool (gI c s.data.toList).2.2]) ∧ ∃ n, w' = w.drewN n := by
 have hcut := aKn c s.data.toList
 have IX := fun u => Tryz.stringslite_Index_one s c u
 have hone := Lib.index_one s.data.toList c
 obtain ⟨sp, hsp⟩ : ∃ sp : ByteArray, sp = ⟨#[c]⟩ := ⟨_, rfl⟩
 have hp : sp.size = 1 := by rw [hsp]; rfl
 have hl : sp.data.toList = [c] := by rw [hsp]
 rcases Lib.indexB_cases s sp with hix | ⟨i, hix, hroom⟩
 ·obtain ⟨e1, e2, e3⟩ := Lib.cutB_miss s sp hix
  rw [hl, hcut] at e1 e2 e3
  rw [e1, e2, e3]
  replace hix : Lib.index s.data.toList [c] = -1 := by rw [← hl]; exact hix
  rw [show Lib.indexByte s.data.toList c = -1 from hone.symm.trans hix] at IX
  rw [← hsp] at IX ⊢
  clear hix hone hcut e1 e2 e3 hl hsp
  go_enter Tryz.func217, Tryz.ntmps217
  go_wp2_with (go_at_call 235; refine (IX _).mono ?_; rintro e w' ⟨rfl, hw⟩; obtain rfl := hw.symm; clear hw)
  go_ret3
  exact ⟨rfl, 0, rfl⟩
 ·obtain ⟨e1, e2, e3⟩ := Lib.cutB_hit s sp i hix
  rw [hl, hcut] at e1 e2 e3
  rw [e1, e2, e3]
  replace hix : Lib.index s.data.toList [c] = i := by rw [← hl]; exact hix
  rw [show Lib.indexByte s.data.toList c = i from hone.symm.trans hix] at IX
  have hroom' : i + 1 ≤ s.size := by rw [hp] at hroom; exact hroom
  rw [hp]
  have c1 : (0 : Int) ≤ ↑i := by omega
  have c2 : (↑i : Int) ≤ ↑s.size := by omega
  have c3 : (0 : Int) ≤ ↑i + 1 := by omega
  have c4 : (↑i + 1 : Int) ≤ ↑s.size := by omega
  rw [← hsp] at IX ⊢
  clear hix hone hcut e1 e2 e3 hroom hl hsp
  go_enter Tryz.func217, Tryz.ntmps217
  go_wp2_with (go_at_call 235; refine (IX _).mono ?_; rintro e w' ⟨rfl, hw⟩; obtain rfl := hw.symm; clear hw)
  go_region
  go_wp2
  go_ret3
  exact ⟨rfl, 1, rfl⟩
theorem qN (c : UInt8) (l : List UInt8) (w : World) (hl : l.length ≤ 9223372036854775807) :
  Calls Tryz.prog 186 #[.string ⟨l.toArray⟩, .string ⟨#[c]⟩] w fun e w' => e = .returned (.tuple #[.string ⟨(gI c l).1.toArray⟩, .string ⟨(gI c l).2.1.toArray⟩, .bool (gI c l).2.2]) ∧ Below w.heap.size w w' := by
 have C := fun u => aEg c ⟨l.toArray⟩ u (by rw [size_mk]; exact hl)
 simp only [List.toList_toArray] at C
 generalize (⟨l.toArray⟩ : ByteArray) = A at *
 generalize (⟨#[c]⟩ : ByteArray) = B at *
 generalize gI c l = R at *
 go_enter Tryz.func186, Tryz.ntmps186
 go_wp2_with (go_at_call 217; refine (C _).mono ?_; rintro e w' ⟨rfl, n, rfl⟩)
 go_ret3
 exact ⟨rfl, fC w _⟩
theorem aCE (c : UInt8) (l : List UInt8) : Lib.trimPrefix l [c] = (Ad.strip c l).2 ∧ Lib.hasPrefix l [c] = (Ad.strip c l).1 := by
 unfold Lib.trimPrefix Lib.hasPrefix
 cases l with
 | nil => exact ⟨rfl, rfl⟩
 | cons b l =>
  rw [Ad.bV]
  by_cases h : b = c
  ·subst h
   simp [List.isPrefixOf]
  ·have h2 : ¬ c = b := fun e => h e.symm
   simp [List.isPrefixOf, h, h2]
theorem kM (c : UInt8) (l : List UInt8) (w : World) :
  Calls Tryz.prog 33 #[.string ⟨l.toArray⟩, .string ⟨#[c]⟩] w fun e w' => e = .returned (.tuple #[.string ⟨(Ad.strip c l).2.toArray⟩, .bool (Ad.strip c l).1]) ∧ w' = w := by
 have h := Tryz.strings_CutPrefix ⟨l.toArray⟩ ⟨#[c]⟩ w
 obtain ⟨h1, h2⟩ := aCE c l
 rw [show (⟨#[c]⟩ : ByteArray).data.toList = [c] from rfl, show (⟨l.toArray⟩ : ByteArray).data.toList = l from rfl, h1, h2] at h
 exact h
end Go.Proofs.YtljmklbbngpllaaGreatDoor
namespace Go.Proofs.YtljmklbbngpllaaGreatDoor
open Go.RowKit
theorem qO (r : Nat) (h : r < 10000) : (jU r).length ≤ 4 := by
 by_cases h0 : r = 0
 ·rw [h0, aCy]; simp
 ·exact ((mO _ _ _).1 (qJ r h h0).1).2.2
theorem tT (n : Int) (hn : -9223372036854775808 ≤ n ∧ n ≤ 9223372036854775807) (w : World) (T : lG w) :
  Calls Tryz.prog 130 #[.int .i64 n] w fun e w' => e = .returned (.string ⟨(iE n).toArray⟩) ∧ Below w.heap.size w w' := by
 have hQ : n.natAbs / 10000 ≤ 922337203685477 := by omega
 have hR : n.natAbs % 10000 < 10000 := by omega
 have aq := aEe n
 have ar := aEf n
 have bq : -922337203685477 ≤ n.tdiv 10000 ∧ n.tdiv 10000 ≤ 922337203685477 := by unfold vE at aq; split at aq <;> omega
 have br : -10000 ≤ n.tmod 10000 ∧ n.tmod 10000 ≤ 10000 := by unfold vE at ar; split at ar <;> omega
 have S1 := fun u => xG (n.tdiv 10000) (by omega) (by omega) u
 have S2 := fun u => xG (n.tmod 10000) (by omega) (by omega) u
 rw [aq] at S1
 rw [ar] at S2
 have l1 := (vG 15 (n.natAbs / 10000) (by decide) (by omega)).2
 have d5 := qI (n.natAbs % 10000) hR
 have l5 : (Lib.decDigits (10000 + n.natAbs % 10000)).length = 5 := by rw [d5]; rfl
 have tl := qO (n.natAbs % 10000) hR
 have hX : ∀ X, X = (if n.natAbs % 10000 = 0 then (if n < 0 then (⟨#[45]⟩ : ByteArray) ++ ⟨(Lib.decDigits (n.natAbs / 10000)).toArray⟩ else ⟨(Lib.decDigits (n.natAbs / 10000)).toArray⟩)
   else ((if n < 0 then (⟨#[45]⟩ : ByteArray) ++ ⟨(Lib.decDigits (n.natAbs / 10000)).toArray⟩ else ⟨(Lib.decDigits (n.natAbs / 10000)).toArray⟩) ++ (⟨#[46]⟩ ++ ⟨(jU (n.natAbs % 10000)).toArray⟩))) → X = ⟨(iE n).toArray⟩ := by
  rintro X rfl
  unfold iE
  have e45 : (⟨#[45]⟩ : ByteArray) = ⟨([45] : List UInt8).toArray⟩ := rfl
  have e46 : (⟨#[46]⟩ : ByteArray) = ⟨([46] : List UInt8).toArray⟩ := rfl
  rw [e45, e46]
  by_cases h0 : n.natAbs % 10000 = 0 <;> by_cases hneg : n < 0 <;> simp only [h0, hneg, if_true, if_false, nW] <;> simp
 have hX' := hX _ rfl
 rw [← hX']
 refine aAA (q := n.tdiv 10000) (r := n.tmod 10000) (A2 := ⟨(Lib.decDigits (10000 + n.natAbs % 10000)).toArray⟩) (A3 := ⟨((Lib.decDigits (10000 + n.natAbs % 10000)).drop 1).toArray⟩) hn rfl rfl bq hR hQ T S1 S2 (fun u hu => qM _ (by omega) u hu) (fun u hu => ?_) ?_ ?_ ?_ ?_ (fun _ => rfl) ?_ ?_ (fun u => ?_)
 ·have := qM (10000 + n.natAbs % 10000) (by omega) u hu
  rw [Int.natCast_add] at this
  exact this
 ·rw [size_mk]; omega
 ·rw [size_mk]; exact tl
 ·rw [show (⟨#[45]⟩ : ByteArray) = ⟨([45] : List UInt8).toArray⟩ from rfl, nW, size_mk]; simp; omega
 ·rw [show (⟨#[46]⟩ : ByteArray) = ⟨([46] : List UInt8).toArray⟩ from rfl, nW, size_mk]; simp; omega
 ·rw [size_mk]; exact l5
 ·have := drop_mk (Lib.decDigits (10000 + n.natAbs % 10000))
  rw [size_mk, l5] at this
  exact this
 ·exact Tryz.strings_TrimRight_one ⟨((Lib.decDigits (10000 + n.natAbs % 10000)).drop 1).toArray⟩ 48 (by decide) u (by rw [size_mk]; simp; omega)
theorem pY (t : ByteArray) : (⟨t.data.toList.toArray⟩ : ByteArray) = t := by
 cases t
 simp
theorem qP (n : Int) (s : ByteArray) (w : World) : Calls Tryz.prog 165 #[.agg #[.int .i64 0, .int .i64 n, .string s]] w fun e w' => e = .returned (.iface 206 (.agg #[])) ∧ Below w.heap.size w w' := by
 go_enter Tryz.func165, Tryz.ntmps165
 go_wp2
 go_ret
 exact ⟨rfl, (Below.refl _ _).alloc (Nat.le_refl _) _⟩
theorem xL (n : Int) (s : ByteArray) (w : World) : Calls Tryz.prog 165 #[.agg #[.int .i64 1, .int .i64 n, .string s]] w fun e w' => e = .returned (.iface 183 (.int .i64 n)) ∧ Below w.heap.size w w' := by
 go_enter Tryz.func165, Tryz.ntmps165
 go_wp2
 go_ret
 exact ⟨rfl, (Below.refl _ _).alloc (Nat.le_refl _) _⟩
theorem xM (n : Int) (s : ByteArray) (w : World) : Calls Tryz.prog 165 #[.agg #[.int .i64 2, .int .i64 n, .string s]] w fun e w' => e = .returned (.iface 184 (.string s)) ∧ Below w.heap.size w w' := by
 go_enter Tryz.func165, Tryz.ntmps165
 go_wp2
 go_ret
 exact ⟨rfl, (Below.refl _ _).alloc (Nat.le_refl _) _⟩
theorem tV (n : Int) (s : ByteArray) (w : World) : Calls Tryz.prog 165 #[.agg #[.int .i64 3, .int .i64 n, .string s]] w fun e w' => e = .returned (.iface 185 (.bool (n != 0))) ∧ Below w.heap.size w w' := by
 go_enter Tryz.func165, Tryz.ntmps165
 go_wp2
 go_ret
 exact ⟨rfl, (Below.refl _ _).alloc (Nat.le_refl _) _⟩
theorem xO (n : Int) (s : ByteArray) (w : World) : Calls Tryz.prog 165 #[.agg #[.int .i64 4, .int .i64 n, .string s]] w fun e w' => e = .returned (.iface 186 (.int .i64 n)) ∧ Below w.heap.size w w' := by
 go_enter Tryz.func165, Tryz.ntmps165
 go_wp2
 go_ret
 exact ⟨rfl, (Below.refl _ _).alloc (Nat.le_refl _) _⟩
theorem tX (k n : Int) (s : ByteArray) (w : World) (h0 : (k == 0) = false) (h1 : (k == 1) = false) (h2 : (k == 2) = false) (h3 : (k == 3) = false) (h4 : (k == 4) = false) : Calls Tryz.prog 165 #[.agg #[.int .i64 k, .int .i64 n, .string s]] w fun e w' => e = .returned (.iface 207 (.int .i64 n)) ∧ Below w.heap.size w w' := by
 go_enter Tryz.func165, Tryz.ntmps165
 go_wp2
 go_ret
 exact ⟨rfl, (Below.refl _ _).alloc (Nat.le_refl _) _⟩
theorem aAB (b : Bool) (w : World) : Calls Tryz.prog 239 #[.bool b] w fun e w' => e = .returned (.int .i64 (if b = true then 1 else 0)) ∧ w' = w := by
 cases b
 all_goals
  go_enter Tryz.func239, Tryz.ntmps239
  go_wp2
  go_ret
  exact ⟨rfl, rfl⟩
def knB (n : Int) : Bool := decide (1 ≤ n) && decide (n ≤ 8)
theorem fQ (n : Int) (w : World) : Calls Tryz.prog 191 #[.int .i64 n] w fun e w' => e = .returned (.bool (knB n)) ∧ w' = w := by
 go_enter Tryz.func191, Tryz.ntmps191
 go_wp2
 all_goals (go_ret; rename_i h; refine ⟨?_, rfl⟩; congr 2; simp [knB]; try omega)
theorem aEh (W : World) (v : Value) : (Instr.typeAssert (.iface 206 v) 20 206 true).run Tryz.prog W = .ok (.tuple #[v, .bool true]) W := by kernel_rfl
theorem aEi (W : World) (v : Value) : (Instr.typeAssert (.iface 206 v) 20 183 true).run Tryz.prog W = .ok (.tuple #[.int .i64 0, .bool false]) W := by kernel_rfl
theorem aEj (W : World) (v : Value) : (Instr.typeAssert (.iface 206 v) 20 184 true).run Tryz.prog W = .ok (.tuple #[.string ByteArray.empty, .bool false]) W := by kernel_rfl
theorem aEk (W : World) (v : Value) : (Instr.typeAssert (.iface 206 v) 20 185 true).run Tryz.prog W = .ok (.tuple #[.bool false, .bool false]) W := by kernel_rfl
theorem aEl (W : World) (v : Value) : (Instr.typeAssert (.iface 206 v) 20 186 true).run Tryz.prog W = .ok (.tuple #[.int .i64 0, .bool false]) W := by kernel_rfl
theorem aEm (W : World) (v : Value) : (Instr.typeAssert (.iface 183 v) 20 206 true).run Tryz.prog W = .ok (.tuple #[.agg #[], .bool false]) W := by kernel_rfl
theorem xP (W : World) (v : Value) : (Instr.typeAssert (.iface 183 v) 20 183 true).run Tryz.prog W = .ok (.tuple #[v, .bool true]) W := by kernel_rfl
theorem aEn (W : World) (v : Value) : (Instr.typeAssert (.iface 183 v) 20 184 true).run Tryz.prog W = .ok (.tuple #[.string ByteArray.empty, .bool false]) W := by kernel_rfl
theorem aEo (W : World) (v : Value) : (Instr.typeAssert (.iface 183 v) 20 185 true).run Tryz.prog W = .ok (.tuple #[.bool false, .bool false]) W := by kernel_rfl
theorem aEp (W : World) (v : Value) : (Instr.typeAssert (.iface 183 v) 20 186 true).run Tryz.prog W = .ok (.tuple #[.int .i64 0, .bool false]) W := by kernel_rfl
theorem aEq (W : World) (v : Value) : (Instr.typeAssert (.iface 184 v) 20 206 true).run Tryz.prog W = .ok (.tuple #[.agg #[], .bool false]) W := by kernel_rfl
theorem xQ (W : World) (v : Value) : (Instr.typeAssert (.iface 184 v) 20 183 true).run Tryz.prog W = .ok (.tuple #[.int .i64 0, .bool false]) W := by kernel_rfl
theorem xR (W : World) (v : Value) : (Instr.typeAssert (.iface 184 v) 20 184 true).run Tryz.prog W = .ok (.tuple #[v, .bool true]) W := by kernel_rfl
theorem aEr (W : World) (v : Value) : (Instr.typeAssert (.iface 184 v) 20 185 true).run Tryz.prog W = .ok (.tuple #[.bool false, .bool false]) W := by kernel_rfl
theorem aEs (W : World) (v : Value) : (Instr.typeAssert (.iface 184 v) 20 186 true).run Tryz.prog W = .ok (.tuple #[.int .i64 0, .bool false]) W := by kernel_rfl
theorem aEt (W : World) (v : Value) : (Instr.typeAssert (.iface 185 v) 20 206 true).run Tryz.prog W = .ok (.tuple #[.agg #[], .bool false]) W := by kernel_rfl
theorem xS (W : World) (v : Value) : (Instr.typeAssert (.iface 185 v) 20 183 true).run Tryz.prog W = .ok (.tuple #[.int .i64 0, .bool false]) W := by kernel_rfl
theorem xU (W : World) (v : Value) : (Instr.typeAssert (.iface 185 v) 20 184 true).run Tryz.prog W = .ok (.tuple #[.string ByteArray.empty, .bool false]) W := by kernel_rfl
theorem xV (W : World) (v : Value) : (Instr.typeAssert (.iface 185 v) 20 185 true).run Tryz.prog W = .ok (.tuple #[v, .bool true]) W := by kernel_rfl
theorem aEu (W : World) (v : Value) : (Instr.typeAssert (.iface 185 v) 20 186 true).run Tryz.prog W = .ok (.tuple #[.int .i64 0, .bool false]) W := by kernel_rfl
theorem aEv (W : World) (v : Value) : (Instr.typeAssert (.iface 186 v) 20 206 true).run Tryz.prog W = .ok (.tuple #[.agg #[], .bool false]) W := by kernel_rfl
theorem xW (W : World) (v : Value) : (Instr.typeAssert (.iface 186 v) 20 183 true).run Tryz.prog W = .ok (.tuple #[.int .i64 0, .bool false]) W := by kernel_rfl
theorem xX (W : World) (v : Value) : (Instr.typeAssert (.iface 186 v) 20 184 true).run Tryz.prog W = .ok (.tuple #[.string ByteArray.empty, .bool false]) W := by kernel_rfl
theorem xY (W : World) (v : Value) : (Instr.typeAssert (.iface 186 v) 20 185 true).run Tryz.prog W = .ok (.tuple #[.bool false, .bool false]) W := by kernel_rfl
theorem xZ (W : World) (v : Value) : (Instr.typeAssert (.iface 186 v) 20 186 true).run Tryz.prog W = .ok (.tuple #[v, .bool true]) W := by kernel_rfl
theorem aEw (W : World) (v : Value) : (Instr.typeAssert (.iface 207 v) 20 206 true).run Tryz.prog W = .ok (.tuple #[.agg #[], .bool false]) W := by kernel_rfl
theorem yA (W : World) (v : Value) : (Instr.typeAssert (.iface 207 v) 20 183 true).run Tryz.prog W = .ok (.tuple #[.int .i64 0, .bool false]) W := by kernel_rfl
theorem yB (W : World) (v : Value) : (Instr.typeAssert (.iface 207 v) 20 184 true).run Tryz.prog W = .ok (.tuple #[.string ByteArray.empty, .bool false]) W := by kernel_rfl
theorem yC (W : World) (v : Value) : (Instr.typeAssert (.iface 207 v) 20 185 true).run Tryz.prog W = .ok (.tuple #[.bool false, .bool false]) W := by kernel_rfl
theorem yD (W : World) (v : Value) : (Instr.typeAssert (.iface 207 v) 20 186 true).run Tryz.prog W = .ok (.tuple #[.int .i64 0, .bool false]) W := by kernel_rfl
theorem qQ {W w1 : World} (hb : Below W.heap.size W w1) : (∀ b o, b < W.heap.size → w1.cell? ⟨b, o, none⟩ = W.cell? ⟨b, o, none⟩) ∧ (∀ b o, b < W.heap.size → w1.frozen? ⟨b, o, none⟩ = W.frozen? ⟨b, o, none⟩) :=
 ⟨fun b o h => hb.cell (p := ⟨b, o, none⟩) h, fun b o h => hb.frozen (p := ⟨b, o, none⟩) h⟩
theorem yE (n : Int) (s : ByteArray) (w : World) : Calls Tryz.prog 125 #[.agg #[.int .i64 0, .int .i64 n, .string s]] w fun e w' => e = .returned (.string ⟨#[]⟩) ∧ Below w.heap.size w w' := by
 have sW := aEi
 have vH := aEj
 have yF := aEk
 have aAC := aEl
 go_enter Tryz.func125, Tryz.ntmps125
 go_wp2_with (first | (go_at_call 165; refine (qP _ _ _).mono ?_; rintro e w1 ⟨rfl, hb⟩; have HB : Hid (Below w.heap.size w w1) := aR hb; obtain ⟨hc, hf⟩ := qQ hb; have hz := hb.size; simp at hz; clear hb))
 all_goals (go_ret; exact ⟨rfl, HB.out⟩)
theorem aCF (n : Int) (s : ByteArray) (w : World) (X : ByteArray) (P : ∀ u : World, Below w.heap.size w u → Calls Tryz.prog 130 #[.int .i64 n] u fun e w' => e = .returned (.string X) ∧ Below u.heap.size u w') : Calls Tryz.prog 125 #[.agg #[.int .i64 1, .int .i64 n, .string s]] w fun e w' => e = .returned (.string X) ∧ Below w.heap.size w w' := by
 have sW := xP
 have vH := aEn
 have yF := aEo
 have aAC := aEp
 go_enter Tryz.func125, Tryz.ntmps125
 go_wp2_with (first | (go_at_call 165; refine (xL _ _ _).mono ?_; rintro e w1 ⟨rfl, hb⟩; have HB : Hid (Below w.heap.size w w1) := aR hb; obtain ⟨hc, hf⟩ := qQ hb; have hz := hb.size; simp at hz; clear hb) | (go_at_call 130; refine (P _ HB.out).mono ?_; rintro e w2 ⟨rfl, hb⟩; have HB2 : Hid (Below w.heap.size w w2) := aG HB.out hb; clear hb))
 go_ret
 exact ⟨rfl, HB2.out⟩
theorem aCG (n : Int) (s : ByteArray) (w : World) : Calls Tryz.prog 125 #[.agg #[.int .i64 2, .int .i64 n, .string s]] w fun e w' => e = .returned (.string s) ∧ Below w.heap.size w w' := by
 have sW := xQ
 have vH := xR
 have yF := aEr
 have aAC := aEs
 go_enter Tryz.func125, Tryz.ntmps125
 go_wp2_with (first | (go_at_call 165; refine (xM _ _ _).mono ?_; rintro e w1 ⟨rfl, hb⟩; have HB : Hid (Below w.heap.size w w1) := aR hb; obtain ⟨hc, hf⟩ := qQ hb; have hz := hb.size; simp at hz; clear hb))
 all_goals (go_ret; exact ⟨rfl, HB.out⟩)
theorem aCH (b : Bool) (w : World) : Calls Tryz.prog 166 #[.bool b] w fun e w' => e = .returned (.string (if b = true then ⟨#[84, 82, 85, 69]⟩ else ⟨#[70, 65, 76, 83, 69]⟩)) ∧ w' = w := by
 cases b
 all_goals
  go_enter Tryz.func166, Tryz.ntmps166
  go_wp2
  go_ret
  exact ⟨rfl, rfl⟩
theorem aAD (n : Int) (s : ByteArray) (w : World) (b : Bool) (KB : ∀ u : World, Calls Tryz.prog 165 #[.agg #[.int .i64 3, .int .i64 n, .string s]] u fun e w' => e = .returned (.iface 185 (.bool b)) ∧ Below u.heap.size u w') : Calls Tryz.prog 125 #[.agg #[.int .i64 3, .int .i64 n, .string s]] w fun e w' => e = .returned (.string (if b = true then ⟨#[84, 82, 85, 69]⟩ else ⟨#[70, 65, 76, 83, 69]⟩)) ∧ Below w.heap.size w w' := by
 cases b
 all_goals
  have sW := xS
  have vH := xU
  have yF := xV
  have aAC := aEu
  go_enter Tryz.func125, Tryz.ntmps125
  go_wp2_with (first | (go_at_call 165; refine (KB _).mono ?_; rintro e w1 ⟨rfl, hb⟩; have HB : Hid (Below w.heap.size w w1) := aR hb; obtain ⟨hc, hf⟩ := qQ hb; have hz := hb.size; simp at hz; clear hb) | (go_at_call 166; refine (aCH _ _).mono ?_; rintro e w' ⟨rfl, hw⟩; obtain rfl := hw.symm; clear hw))
  all_goals (go_ret; exact ⟨rfl, HB.out⟩)
theorem aCI (n : Int) (s : ByteArray) (w : World) (X : ByteArray) (P : ∀ u : World, Below w.heap.size w u → Calls Tryz.prog 167 #[.int .i64 n] u fun e w' => e = .returned (.string X) ∧ w' = u) : Calls Tryz.prog 125 #[.agg #[.int .i64 4, .int .i64 n, .string s]] w fun e w' => e = .returned (.string X) ∧ Below w.heap.size w w' := by
 have sW := xW
 have vH := xX
 have yF := xY
 have aAC := xZ
 go_enter Tryz.func125, Tryz.ntmps125
 go_wp2_with (first | (go_at_call 165; refine (xO _ _ _).mono ?_; rintro e w1 ⟨rfl, hb⟩; have HB : Hid (Below w.heap.size w w1) := aR hb; obtain ⟨hc, hf⟩ := qQ hb; have hz := hb.size; simp at hz; clear hb) | (go_at_call 167; refine (P _ HB.out).mono ?_; rintro e w' ⟨rfl, hw⟩; obtain rfl := hw.symm; clear hw))
 all_goals (go_ret; exact ⟨rfl, HB.out⟩)
theorem aAE (k n : Int) (s : ByteArray) (w : World) (h0 : (k == 0) = false) (h1 : (k == 1) = false) (h2 : (k == 2) = false) (h3 : (k == 3) = false) (h4 : (k == 4) = false) : Calls Tryz.prog 125 #[.agg #[.int .i64 k, .int .i64 n, .string s]] w fun e w' => e = .returned (.string ⟨#[]⟩) ∧ Below w.heap.size w w' := by
 have sW := yA
 have vH := yB
 have yF := yC
 have aAC := yD
 go_enter Tryz.func125, Tryz.ntmps125
 go_wp2_with (first | (go_at_call 165; refine (tX _ _ _ _ h0 h1 h2 h3 h4).mono ?_; rintro e w1 ⟨rfl, hb⟩; have HB : Hid (Below w.heap.size w w1) := aR hb; obtain ⟨hc, hf⟩ := qQ hb; have hz := hb.size; simp at hz; clear hb))
 all_goals (go_ret; exact ⟨rfl, HB.out⟩)
def fnm : Nat → ByteArray
 | 1 => ⟨#[35, 68, 73, 86, 47, 48, 33]⟩
 | 2 => ⟨#[35, 86, 65, 76, 85, 69, 33]⟩
 | 3 => ⟨#[35, 82, 69, 70, 33]⟩
 | 4 => ⟨#[35, 78, 65, 77, 69, 63]⟩
 | 5 => ⟨#[35, 78, 85, 77, 33]⟩
 | 6 => ⟨#[35, 78, 47, 65]⟩
 | 7 => ⟨#[35, 67, 89, 67, 76, 69, 33]⟩
 | 8 => ⟨#[35, 76, 73, 78, 75, 33]⟩
 | _ => ⟨#[]⟩
def fnB (n : Int) : ByteArray := if knB n = true then fnm n.toNat else ⟨#[]⟩
def qR (w : World) : Prop := ∀ i, i < 9 → w.cell? ⟨1, i, none⟩ = some (.string (fnm i))
theorem qR.kept {w w' : World} (h : qR w) (hk : ∀ i, i < w.heap.size → w'.heap[i]? = w.heap[i]?) : qR w' := fun i hi => by
 rw [← h i hi]
 exact World.cell?_of_block (hk _ (World.block_lt_of_cell? w _ (h i hi)))
theorem qR.below {w w' : World} (h : qR w) (hb : Below w.heap.size w w') : qR w' := h.kept hb.block
theorem aIC (n : Int) : knB n = true ↔ n = 1 ∨ n = 2 ∨ n = 3 ∨ n = 4 ∨ n = 5 ∨ n = 6 ∨ n = 7 ∨ n = 8 := by
 simp [knB]; omega
theorem nX (n : Int) (w : World) (T : qR w) : Calls Tryz.prog 167 #[.int .i64 n] w fun e w' => e = .returned (.string (fnB n)) ∧ w' = w := by
 cases hk : knB n
 ·have e : fnB n = ⟨#[]⟩ := by simp [fnB, hk]
  rw [e]
  have K := fun u => fQ n u
  rw [hk] at K
  go_enter Tryz.func167, Tryz.ntmps167
  go_wp2_with (go_at_call 191; refine (K _).mono ?_; rintro e w' ⟨rfl, hw⟩; obtain rfl := hw.symm; clear hw)
  go_ret
  exact ⟨rfl, rfl⟩
 ·have K := fun u => fQ n u
  rw [hk] at K
  have e : fnB n = fnm n.toNat := by simp [fnB, hk]
  rw [e]
  have h1 := T 1 (by decide); have h2 := T 2 (by decide); have h3 := T 3 (by decide); have h4 := T 4 (by decide)
  have h5 := T 5 (by decide); have h6 := T 6 (by decide); have h7 := T 7 (by decide); have h8 := T 8 (by decide)
  clear T e
  rw [aIC] at hk
  rcases hk with rfl | rfl | rfl | rfl | rfl | rfl | rfl | rfl
  all_goals
   go_enter Tryz.func167, Tryz.ntmps167
   go_wp2_with (go_at_call 191; refine (K _).mono ?_; rintro e w' ⟨rfl, hw⟩; obtain rfl := hw.symm; clear hw)
   go_ret
   exact ⟨rfl, rfl⟩
def aEx : Array Value := #[.string (fnm 0), .string (fnm 1), .string (fnm 2), .string (fnm 3), .string (fnm 4), .string (fnm 5), .string (fnm 6), .string (fnm 7), .string (fnm 8)]
theorem nY (w : World) : Calls Tryz.prog 137 #[] w fun e w' => e = .returned (.agg aEx) ∧ Below w.heap.size w w' := by
 go_enter Tryz.func137, Tryz.ntmps137
 go_wp2
 exact bodyPost_ret (v := .agg aEx) (by simp [results, Tryz.results137, go_sem]; rfl) rfl ⟨rfl, (Below.refl _ _).alloc (Nat.le_refl _) _⟩
def emB (s : ByteArray) : Bool := decide (s.toList = [])
theorem mP (s : ByteArray) : (s.toList = [] ∧ emB s = true) ∨ (¬ s.toList = [] ∧ emB s = false) := by
 by_cases h : s.toList = [] <;> simp [emB, h]
theorem kN {w w1 : World} {a b c : Value} (hb : Below (w.alloc (.cells #[a, b, c] 23)).heap.size (w.alloc (.cells #[a, b, c] 23)) w1) :
  (∀ o, (w1.alloc o).cell? ⟨w.heap.size, 0, none⟩ = some a ∧ (w1.alloc o).cell? ⟨w.heap.size, 1, none⟩ = some b ∧ (w1.alloc o).cell? ⟨w.heap.size, 2, none⟩ = some c)
   ∧ (w1.cell? ⟨w.heap.size, 0, none⟩ = some a ∧ w1.cell? ⟨w.heap.size, 1, none⟩ = some b ∧ w1.cell? ⟨w.heap.size, 2, none⟩ = some c) := by
 have h0 : w1.heap[w.heap.size]? = some (.cells #[a, b, c] 23 (0, 0)) := by
  rw [hb.block _ (by simp)]
  exact heap_alloc_new w _
 refine ⟨fun o => ?_, by simp [World.cell?, h0]⟩
 have h1 : (w1.alloc o).heap[w.heap.size]? = some (.cells #[a, b, c] 23 (0, 0)) := by
  have hz := hb.size
  simp at hz
  rw [Below.heap_alloc w1 o _ (by omega)]
  exact h0
 simp [World.cell?, h1]
theorem yG (n : Int) : (n = 0 ∧ (n == 0) = true) ∨ (¬ n = 0 ∧ (n == 0) = false) := by
 by_cases h : n = 0 <;> simp [h]
theorem aCJ (n : Int) : (n = 0 ∧ ((n == 0) || (n == 1)) = true) ∨ (n = 1 ∧ ((n == 0) || (n == 1)) = true) ∨ ((n == 0) = false ∧ (n == 1) = false) := by
 by_cases h : n = 0
 ·simp [h]
 ·by_cases g : n = 1 <;> simp [h, g]
def vI (s : ByteArray) : Bool := decide (s.size ≤ 255)
theorem nZ (s : ByteArray) : ((s.size : Int) ≤ 255 ∧ vI s = true) ∨ (¬ (s.size : Int) ≤ 255 ∧ vI s = false) := by
 by_cases h : s.size ≤ 255
 ·left; simp [vI, h]; omega
 ·right; simp [vI, h]; omega
end Go.Proofs.YtljmklbbngpllaaGreatDoor
