/- ACut, NLives, NRDig, NRPrint, NRPrint2, VKind. -/
import Derived.Lib.IndexLaws
import Derived.Test.YtnibldnfbikipaaGreatDoorNPrintFp
set_option linter.unusedVariables false
set_option linter.unusedSimpArgs false
set_option maxHeartbeats 16000000
set_option maxRecDepth 100000
namespace Go.Proofs.YtnibldnfbikipaaGreatDoor
open Go.RowKit Go.Shelf
def cutF (c : UInt8) (l : List UInt8) : List UInt8 × List UInt8 × Bool := match Ad.at_ c l with
 | none => (l, [], false)
 | some p => (p.1, p.2, true)
theorem at_index (c : UInt8) : ∀ l : List UInt8, (Lib.indexByte l c = -1 → Ad.at_ c l = none) ∧ (∀ i : Nat, Lib.indexByte l c = i → Ad.at_ c l = some (l.take i, l.drop (i + 1)))
 | [] => ⟨fun _ => rfl, fun i h => by simp [Lib.indexByte] at h⟩
 | b :: l => by
  have ih := at_index c l
  have hge := Lib.indexByte_ge l c
  unfold Lib.indexByte Ad.at_
  by_cases hb : b = c
  ·subst hb
   refine ⟨fun h => by simp at h, fun i h => ?_⟩
   simp at h
   obtain rfl : i = 0 := by omega
   rw [if_pos rfl]
   rfl
  ·have e1 : (b == c) = false := by simpa using hb
   rw [e1, if_neg hb]
   simp only [Bool.false_eq_true, if_false]
   by_cases hn : Lib.indexByte l c = -1
   ·rw [hn]
    refine ⟨fun _ => ?_, fun i h => by simp at h⟩
    rw [ih.1 hn]
    rfl
   ·have e3 : (Lib.indexByte l c == -1) = false := by simpa using hn
    rw [e3]
    refine ⟨fun h => by simp at h; omega, fun i h => ?_⟩
    simp at h
    obtain ⟨k, rfl⟩ : ∃ k, i = k + 1 := ⟨i - 1, by omega⟩
    rw [ih.2 k (by omega)]
    rfl
theorem cutc (c : UInt8) (l : List UInt8) : Lib.cut l [c] = cutF c l := by
 have hi := Lib.index_one l c
 have hge := Lib.indexByte_ge l c
 unfold Lib.cut cutF
 rw [hi]
 split
 ·rw [(at_index c l).2 (Lib.indexByte l c).toNat (by omega)]
  rfl
 ·rw [(at_index c l).1 (by omega)]
theorem cutF_none {c : UInt8} {l : List UInt8} (h : Ad.at_ c l = none) : cutF c l = (l, [], false) := by unfold cutF; rw [h]
theorem cutF_some {c : UInt8} {l a b : List UInt8} (h : Ad.at_ c l = some (a, b)) : cutF c l = (a, b, true) := by unfold cutF; rw [h]
theorem scut_any (c : UInt8) (s : ByteArray) (w : World) (hs : s.size ≤ 9223372036854775807) :
  Calls Tryz.prog 271 #[.string s, .string ⟨#[c]⟩] w fun e w' => e = .returned (.tuple #[.string ⟨(cutF c s.data.toList).1.toArray⟩, .string ⟨(cutF c s.data.toList).2.1.toArray⟩, .bool (cutF c s.data.toList).2.2]) ∧ ∃ n, w' = w.drewN n := by
 have hcut := cutc c s.data.toList
 have IX := fun u => Tryz.stringslite_Index_one s c u
 have hone := Lib.index_one s.data.toList c
 obtain ⟨sp, hsp⟩ : ∃ sp : ByteArray, sp = ⟨#[c]⟩ := ⟨_, rfl⟩
 have hp : sp.size = 1 := by rw [hsp]; rfl
 have hl : sp.data.toList = [c] := by rw [hsp]
 rcases Lib.indexB_cases s sp with hix | ⟨i, hix, hroom⟩
 ·obtain ⟨e1, e2, e3⟩ := Lib.cutB_miss s sp hix
  rw [hl, hcut] at e1 e2 e3
  rw [e1, e2, e3]
  replace hix : Lib.index s.data.toList [c] = -1 := by rw [← hl]; exact hix
  rw [show Lib.indexByte s.data.toList c = -1 from hone.symm.trans hix] at IX
  rw [← hsp] at IX ⊢
  clear hix hone hcut e1 e2 e3 hl hsp
  go_enter Tryz.func271, Tryz.ntmps271
  go_wp2_with (go_at_call 279; refine (IX _).mono ?_; rintro e w' ⟨rfl, hw⟩; obtain rfl := hw.symm; clear hw)
  go_ret3
  exact ⟨rfl, 0, rfl⟩
 ·obtain ⟨e1, e2, e3⟩ := Lib.cutB_hit s sp i hix
  rw [hl, hcut] at e1 e2 e3
  rw [e1, e2, e3]
  replace hix : Lib.index s.data.toList [c] = i := by rw [← hl]; exact hix
  rw [show Lib.indexByte s.data.toList c = i from hone.symm.trans hix] at IX
  have hroom' : i + 1 ≤ s.size := by rw [hp] at hroom; exact hroom
  rw [hp]
  have c1 : (0 : Int) ≤ ↑i := by omega
  have c2 : (↑i : Int) ≤ ↑s.size := by omega
  have c3 : (0 : Int) ≤ ↑i + 1 := by omega
  have c4 : (↑i + 1 : Int) ≤ ↑s.size := by omega
  rw [← hsp] at IX ⊢
  clear hix hone hcut e1 e2 e3 hroom hl hsp
  go_enter Tryz.func271, Tryz.ntmps271
  go_wp2_with (go_at_call 279; refine (IX _).mono ?_; rintro e w' ⟨rfl, hw⟩; obtain rfl := hw.symm; clear hw)
  go_region
  go_wp2
  go_ret3
  exact ⟨rfl, 1, rfl⟩
theorem cutc_any (c : UInt8) (l : List UInt8) (w : World) (hl : l.length ≤ 9223372036854775807) :
  Calls Tryz.prog 247 #[.string ⟨l.toArray⟩, .string ⟨#[c]⟩] w fun e w' => e = .returned (.tuple #[.string ⟨(cutF c l).1.toArray⟩, .string ⟨(cutF c l).2.1.toArray⟩, .bool (cutF c l).2.2]) ∧ Below w.heap.size w w' := by
 have C := fun u => scut_any c ⟨l.toArray⟩ u (by rw [size_mk]; exact hl)
 simp only [List.toList_toArray] at C
 generalize (⟨l.toArray⟩ : ByteArray) = A at *
 generalize (⟨#[c]⟩ : ByteArray) = B at *
 generalize cutF c l = R at *
 go_enter Tryz.func247, Tryz.ntmps247
 go_wp2_with (go_at_call 271; refine (C _).mono ?_; rintro e w' ⟨rfl, n, rfl⟩)
 go_ret3
 exact ⟨rfl, drewN_below w _⟩
theorem strip_lib (c : UInt8) (l : List UInt8) : Lib.trimPrefix l [c] = (Ad.strip c l).2 ∧ Lib.hasPrefix l [c] = (Ad.strip c l).1 := by
 unfold Lib.trimPrefix Lib.hasPrefix
 cases l with
 | nil => exact ⟨rfl, rfl⟩
 | cons b l =>
  rw [Ad.strip_cons]
  by_cases h : b = c
  ·subst h
   simp [List.isPrefixOf]
  ·have h2 : ¬ c = b := fun e => h e.symm
   simp [List.isPrefixOf, h, h2]
theorem strip_any (c : UInt8) (l : List UInt8) (w : World) :
  Calls Tryz.prog 73 #[.string ⟨l.toArray⟩, .string ⟨#[c]⟩] w fun e w' => e = .returned (.tuple #[.string ⟨(Ad.strip c l).2.toArray⟩, .bool (Ad.strip c l).1]) ∧ w' = w := by
 have h := Tryz.strings_CutPrefix ⟨l.toArray⟩ ⟨#[c]⟩ w
 obtain ⟨h1, h2⟩ := strip_lib c l
 rw [show (⟨#[c]⟩ : ByteArray).data.toList = [c] from rfl, show (⟨l.toArray⟩ : ByteArray).data.toList = l from rfl, h1, h2] at h
 exact h
end Go.Proofs.YtnibldnfbikipaaGreatDoor
namespace Go.Proofs.YtnibldnfbikipaaGreatDoor
open Go.RowKit
theorem tail_len (r : Nat) (h : r < 10000) : (tailP r).length ≤ 4 := by
 by_cases h0 : r = 0
 ·rw [h0, tail_zero]; simp
 ·exact ((digs_iff _ _ _).1 (tail_facts r h h0).1).2.2
theorem print_any (n : Int) (hn : -9223372036854775808 ≤ n ∧ n ≤ 9223372036854775807) (w : World) (T : PTab w) :
  Calls Tryz.prog 178 #[.int .i64 n] w fun e w' => e = .returned (.string ⟨(printF n).toArray⟩) ∧ Below w.heap.size w w' := by
 have hQ : n.natAbs / 10000 ≤ 922337203685477 := by omega
 have hR : n.natAbs % 10000 < 10000 := by omega
 have aq := abs_tdiv n
 have ar := abs_tmod n
 have bq : -922337203685477 ≤ n.tdiv 10000 ∧ n.tdiv 10000 ≤ 922337203685477 := by unfold absI at aq; split at aq <;> omega
 have br : -10000 ≤ n.tmod 10000 ∧ n.tmod 10000 ≤ 10000 := by unfold absI at ar; split at ar <;> omega
 have S1 := fun u => size_any (n.tdiv 10000) (by omega) (by omega) u
 have S2 := fun u => size_any (n.tmod 10000) (by omega) (by omega) u
 rw [aq] at S1
 rw [ar] at S2
 have l1 := (dec_len 15 (n.natAbs / 10000) (by decide) (by omega)).2
 have d5 := dec_five (n.natAbs % 10000) hR
 have l5 : (Lib.decDigits (10000 + n.natAbs % 10000)).length = 5 := by rw [d5]; rfl
 have tl := tail_len (n.natAbs % 10000) hR
 have hX : ∀ X, X = (if n.natAbs % 10000 = 0 then (if n < 0 then (⟨#[45]⟩ : ByteArray) ++ ⟨(Lib.decDigits (n.natAbs / 10000)).toArray⟩ else ⟨(Lib.decDigits (n.natAbs / 10000)).toArray⟩)
   else ((if n < 0 then (⟨#[45]⟩ : ByteArray) ++ ⟨(Lib.decDigits (n.natAbs / 10000)).toArray⟩ else ⟨(Lib.decDigits (n.natAbs / 10000)).toArray⟩) ++ (⟨#[46]⟩ ++ ⟨(tailP (n.natAbs % 10000)).toArray⟩))) → X = ⟨(printF n).toArray⟩ := by
  rintro X rfl
  unfold printF
  have e45 : (⟨#[45]⟩ : ByteArray) = ⟨([45] : List UInt8).toArray⟩ := rfl
  have e46 : (⟨#[46]⟩ : ByteArray) = ⟨([46] : List UInt8).toArray⟩ := rfl
  rw [e45, e46]
  by_cases h0 : n.natAbs % 10000 = 0 <;> by_cases hneg : n < 0 <;> simp only [h0, hneg, if_true, if_false, app_mk] <;> simp
 have hX' := hX _ rfl
 rw [← hX']
 refine print_core (q := n.tdiv 10000) (r := n.tmod 10000) (A2 := ⟨(Lib.decDigits (10000 + n.natAbs % 10000)).toArray⟩) (A3 := ⟨((Lib.decDigits (10000 + n.natAbs % 10000)).drop 1).toArray⟩) hn rfl rfl bq hR hQ T S1 S2 (fun u hu => itoa_any _ (by omega) u hu) (fun u hu => ?_) ?_ ?_ ?_ ?_ (fun _ => rfl) ?_ ?_ (fun u => ?_)
 ·have := itoa_any (10000 + n.natAbs % 10000) (by omega) u hu
  rw [Int.natCast_add] at this
  exact this
 ·rw [size_mk]; omega
 ·rw [size_mk]; exact tl
 ·rw [show (⟨#[45]⟩ : ByteArray) = ⟨([45] : List UInt8).toArray⟩ from rfl, app_mk, size_mk]; simp; omega
 ·rw [show (⟨#[46]⟩ : ByteArray) = ⟨([46] : List UInt8).toArray⟩ from rfl, app_mk, size_mk]; simp; omega
 ·rw [size_mk]; exact l5
 ·have := drop_mk (Lib.decDigits (10000 + n.natAbs % 10000))
  rw [size_mk, l5] at this
  exact this
 ·exact Tryz.strings_TrimRight_one ⟨((Lib.decDigits (10000 + n.natAbs % 10000)).drop 1).toArray⟩ 48 (by decide) u (by rw [size_mk]; simp; omega)
theorem conv96 (w : World) (z : Int) : (convert 96 9 (.slice (some ⟨w.heap.size, 0, none⟩) 1 1)).run Tryz.prog (w.alloc (.cells #[.int .u8 z] 5)) = .ok (.string ⟨#[UInt8.ofNat z.toNat]⟩) (w.alloc (.cells #[.int .u8 z] 5)) := by
 have hl : (loadCells ⟨w.heap.size, 0, none⟩ 1).run Tryz.prog (w.alloc (.cells #[.int .u8 z] 5)) = .ok (([z] : List Int).map (Value.int .u8)).toArray (w.alloc (.cells #[.int .u8 z] 5)) := by
  refine run_loadCells_list (P := Tryz.prog) _ ⟨w.heap.size, 0, none⟩ [.int .u8 z] fun j u hj => ?_
  match j, hj with
  | 0, hj =>
   cases hj
   simp only [World.cell?]
   rw [show ((⟨w.heap.size, 0, none⟩ : Addr).add 0) = ⟨w.heap.size, 0, none⟩ from rfl, heap_alloc_new]
   rfl
 rw [run_convert_bytes_string _ 96 9 5 _ 1 1 Tryz.underlying96 Tryz.underlying5 Tryz.underlying9, run_bytesToString _ _ 1 1 _ hl, foldl_push_bytes]
 rfl
theorem dec_two (m : Nat) (h : ¬ m / 10 = 0) : Lib.decDigits m = Lib.decDigits (m / 10) ++ [UInt8.ofNat (48 + m % 10)] := by
 rw [Lib.decDigits, dif_neg (by omega)]
theorem rDigits_any (n : Nat) (hn : n < 18446744073709551616) (w : World) :
  Calls Tryz.prog 186 #[.int .u64 n] w fun e w' => e = .returned (.string ⟨(Lib.decDigits n).toArray⟩) ∧ Below w.heap.size w w' := by
 have hlen := (dec_len 20 n (by decide) (by omega)).2
 generalize hr : (⟨(Lib.decDigits n).toArray⟩ : ByteArray) = r
 have HR : Hid ((⟨(Lib.decDigits n).toArray⟩ : ByteArray) = r) := hr
 clear hr
 go_enter Tryz.func186, Tryz.ntmps186
 go_wp2
 go_loopw [0, 3] (fun u0 u3 wr => ∃ (m : Nat) (t : ByteArray), u0 = .int .u64 m ∧ u3 = .string t ∧ m < 18446744073709551616 ∧ t.size ≤ 20 ∧ Hid (Below w.heap.size w wr ∧ ∃ L : List UInt8, t = ⟨L.toArray⟩ ∧ Lib.decDigits n = Lib.decDigits m ++ L)) (fun u0 _ _ => (intOf u0).toNat)
 case atStart => exact ⟨n, ⟨#[]⟩, rfl, rfl, hn, by decide, Below.refl _ _, [], rfl, by simp⟩
 case round =>
  obtain ⟨m, t, rfl, rfl, hm, ht, hH⟩ := hrel
  have hcv := conv96 wr (48 + (m : Int) % 10)
  have hne : Hid ((⟨#[UInt8.ofNat (48 + (m : Int) % 10).toNat]⟩ : ByteArray) ++ t = ⟨([UInt8.ofNat (48 + m % 10)] ++ (t.data.toList)).toArray⟩) := by
   show _ = _
   rw [show (48 + (m : Int) % 10).toNat = 48 + m % 10 by omega]
   exact app_mk [UInt8.ofNat (48 + m % 10)] t.data.toList
  generalize hX : (⟨#[UInt8.ofNat (48 + (m : Int) % 10).toNat]⟩ : ByteArray) = X at *
  have hXs : X.size = 1 := by rw [← hX]; rfl
  clear hX
  have hsz : (X ++ t).size ≤ 21 := by rw [ByteArray.size_append]; omega
  by_cases hz : m / 10 = 0
  ·have hz' : (m : Int) / 10 = 0 := by omega
   have HE : Hid (r = X ++ t) := by
    obtain ⟨_, L, rfl, e⟩ := hH.out
    show _ = _
    rw [← HR.out, hne.out, e, Lib.decDigits_one (by omega)]
    rw [show m % 10 = m by omega]
   go_wp2
   go_ret
   exact ⟨by rw [HE.out]; rfl, hH.out.1.alloc (hH.out.1.size) _⟩
  ·have hz' : ((m : Int) / 10 == 0) = false := by simp; omega
   have HL : Hid (∃ L : List UInt8, X ++ t = ⟨L.toArray⟩ ∧ Lib.decDigits n = Lib.decDigits (m / 10) ++ L) := by
    obtain ⟨_, L, rfl, e⟩ := hH.out
    refine ⟨_, hne.out, ?_⟩
    rw [e, dec_two m hz]
    simp
   have hs2 : (X ++ t).size ≤ 20 := by
    obtain ⟨L, e1, e2⟩ := HL.out
    rw [e1, size_mk]
    have := congrArg List.length e2
    simp at this
    have := (dec_len 20 (m / 10) (by decide) (by omega)).1
    omega
   go_wp2
   go_roundw
   case rel => exact ⟨m / 10, X ++ t, by go_num, rfl, by omega, hs2, hH.out.1.alloc (hH.out.1.size) _, HL.out⟩
   case measure => simp [intOf]; omega
def lenOf (v : Value) : Nat := match v with | .string t => t.size | _ => 0
theorem list_last (t : ByteArray) (k : Nat) (h : t.size = k + 1) : t.data.toList = t.data.toList.take k ++ [t[k]'(by omega)] := by
 have hl := size_list t
 have h1 := take_snoc t.data.toList k (by omega)
 rw [← byte_at t k (by omega) (by omega)] at h1
 rw [← h1, List.take_of_length_le (by omega)]
theorem ext_list (t : ByteArray) (k : Nat) (h : k ≤ t.size) : (t.extract 0 k).data.toList = t.data.toList.take k ∧ (t.extract 0 k).size = k := by
 have e : (t.extract 0 k).data.toList = t.data.toList.take k := by
  rw [ByteArray.data_extract]
  simp
 refine ⟨e, ?_⟩
 rw [← size_list, e, List.length_take, size_list]
 omega
theorem mk_list (t : ByteArray) : (⟨t.data.toList.toArray⟩ : ByteArray) = t := by
 cases t
 simp
theorem rprint_neg {n : Int} {U : Int} {A1 A2 A3 : ByteArray} {L0 : List UInt8} {w : World} (hn : -9223372036854775808 ≤ n ∧ n ≤ 9223372036854775807) (hneg : n < 0) (hU : -(n + 1) + 1 = U) (bU : 0 ≤ U ∧ U ≤ 9223372036854775808)
  (D1 : ∀ u : World, Calls Tryz.prog 186 #[.int .u64 (U / 10000)] u fun e w' => e = .returned (.string A1) ∧ Below u.heap.size u w')
  (D2 : ∀ u : World, Calls Tryz.prog 186 #[.int .u64 (U % 10000 + 10000)] u fun e w' => e = .returned (.string A2) ∧ Below u.heap.size u w')
  (hs1 : A1.size ≤ 20) (h5 : A2.size = 5) (hA3 : A2.extract 1 5 = A3) (h3 : A3.size = 4) (hL : Hid (A3.data.toList = L0)) (hs2 : ((⟨#[45]⟩ : ByteArray) ++ A1).size ≤ 21) :
  Calls Tryz.prog 182 #[.int .i64 n] w fun e w' => e = .returned (.string (((⟨#[45]⟩ : ByteArray) ++ A1) ++ ⟨(if (Lib.trimRightB L0 48) = [] then [] else 46 :: Lib.trimRightB L0 48).toArray⟩)) ∧ Below w.heap.size w w' := by
 generalize hX : (((⟨#[45]⟩ : ByteArray) ++ A1) ++ ⟨(if (Lib.trimRightB L0 48) = [] then [] else 46 :: Lib.trimRightB L0 48).toArray⟩) = X
 have HX : Hid (((⟨#[45]⟩ : ByteArray) ++ A1) ++ ⟨(if (Lib.trimRightB L0 48) = [] then [] else 46 :: Lib.trimRightB L0 48).toArray⟩ = X) := hX
 clear hX
 have hone : ∀ b : UInt8, (⟨#[b]⟩ : ByteArray).size = 1 := fun _ => rfl
 go_enter Tryz.func182, Tryz.ntmps182
 go_wp2_with fail
 refine (D1 _).mono ?_
 rintro e w1 ⟨rfl, hb1⟩
 have HB1 : Hid (Below w.heap.size w w1) := hb1
 clear hb1
 go_wp2_with fail
 refine (D2 _).mono ?_
 rintro e w2 ⟨rfl, hb2⟩
 have HB2 : Hid (Below w.heap.size w w2) := HB1.out.trans (hb2.mono HB1.out.size)
 clear hb2
 go_wp2
 go_loop [6] (fun u6 => ∃ t : ByteArray, u6 = .string t ∧ t.size ≤ 4 ∧ Hid (Lib.trimRightB t.data.toList 48 = Lib.trimRightB L0 48)) (fun u6 => lenOf u6)
 case atStart => exact ⟨A3, rfl, by omega, by rw [hL.out]; rfl⟩
 case round =>
  obtain ⟨t, rfl, ht, hH⟩ := hrel
  by_cases h0 : t.size = 0
  ·have ht0 : t = ⟨#[]⟩ := by
    have := size_list t
    rw [h0] at this
    have e := List.eq_nil_of_length_eq_zero this
    rw [← mk_list t, e]
   subst ht0
   have HE : Hid (X = ((⟨#[45]⟩ : ByteArray) ++ A1)) := by
    show _ = _
    rw [← HX.out, ← hH.out]
    show ((⟨#[45]⟩ : ByteArray) ++ A1) ++ ⟨(if Lib.trimRightB [] 48 = [] then [] else 46 :: Lib.trimRightB [] 48).toArray⟩ = _
    rw [trim_nil, if_pos rfl]
    rw [← mk_list ((⟨#[45]⟩ : ByteArray) ++ A1)]
    exact (app_mk _ []).trans (by simp)
   go_wp2
   go_ret
   exact ⟨by rw [HE.out]; rfl, HB2.out⟩
  ·obtain ⟨k, hk⟩ : ∃ k, t.size = k + 1 := ⟨t.size - 1, by omega⟩
   have hp : (0 : Int) < (t.size : Int) := by omega
   have hlast := list_last t k hk
   by_cases hb : (t[k]'(by omega)).toNat = 48
   ·have hb' : ((((t[k]'(by omega)).toNat : Nat) : Int) == 48) = true := by simp [hb]
    have ex := ext_list t k (by omega)
    have HN : Hid (Lib.trimRightB (t.extract 0 k).data.toList 48 = Lib.trimRightB L0 48) := by
     show _ = _
     rw [← hH.out, hlast, trim_cons_end, if_pos (by apply UInt8.toNat_inj.1; rw [hb]; rfl), ex.1]
    clear hlast
    go_wp2
    go_round
    case rel => exact ⟨t.extract 0 k, rfl, by omega, HN.out⟩
    case measure => simp [lenOf]; omega
   ·have hb' : ((((t[k]'(by omega)).toNat : Nat) : Int) == 48) = false := by simp; omega
    have htr : Lib.trimRightB L0 48 = t.data.toList := by
     rw [← hH.out]
     conv => lhs; rw [hlast]
     rw [trim_cons_end, if_neg (by intro e; rw [e] at hb; exact hb rfl)]
     exact hlast.symm
    have HE : Hid (X = ((⟨#[45]⟩ : ByteArray) ++ A1) ++ ((⟨#[46]⟩ : ByteArray) ++ t)) := by
     show _ = _
     rw [← HX.out, htr, if_neg (by intro e; have := size_list t; rw [e] at this; simp at this; omega)]
     have := app_mk [46] t.data.toList
     rw [mk_list] at this
     rw [show (⟨#[46]⟩ : ByteArray) = ⟨([46] : List UInt8).toArray⟩ from rfl, this]
     rfl
    have hte : t.toList ≠ [] := by
     intro e
     have := size_list t
     rw [← Lib.toList_data, e] at this
     exact h0 this.symm
    have hs6 : ((⟨#[46]⟩ : ByteArray) ++ t).size ≤ 5 := by rw [ByteArray.size_append, hone]; omega
    clear hlast htr
    go_wp2
    ·go_ret
     exact ⟨by rw [HE.out]; rfl, HB2.out⟩
    ·rename_i hbad
     exact absurd hbad (by simp [hte])
theorem rprint_pos {n : Int} {U : Int} {A1 A2 A3 : ByteArray} {L0 : List UInt8} {w : World} (hn : -9223372036854775808 ≤ n ∧ n ≤ 9223372036854775807) (hneg : ¬ n < 0) (hU : n = U) (bU : 0 ≤ U ∧ U ≤ 9223372036854775808)
  (D1 : ∀ u : World, Calls Tryz.prog 186 #[.int .u64 (U / 10000)] u fun e w' => e = .returned (.string A1) ∧ Below u.heap.size u w')
  (D2 : ∀ u : World, Calls Tryz.prog 186 #[.int .u64 (U % 10000 + 10000)] u fun e w' => e = .returned (.string A2) ∧ Below u.heap.size u w')
  (hs1 : A1.size ≤ 20) (h5 : A2.size = 5) (hA3 : A2.extract 1 5 = A3) (h3 : A3.size = 4) (hL : Hid (A3.data.toList = L0)) (hs2 : ((⟨#[45]⟩ : ByteArray) ++ A1).size ≤ 21) :
  Calls Tryz.prog 182 #[.int .i64 n] w fun e w' => e = .returned (.string (A1 ++ ⟨(if (Lib.trimRightB L0 48) = [] then [] else 46 :: Lib.trimRightB L0 48).toArray⟩)) ∧ Below w.heap.size w w' := by
 subst hU
 generalize hX : (A1 ++ ⟨(if (Lib.trimRightB L0 48) = [] then [] else 46 :: Lib.trimRightB L0 48).toArray⟩) = X
 have HX : Hid (A1 ++ ⟨(if (Lib.trimRightB L0 48) = [] then [] else 46 :: Lib.trimRightB L0 48).toArray⟩ = X) := hX
 clear hX
 have hone : ∀ b : UInt8, (⟨#[b]⟩ : ByteArray).size = 1 := fun _ => rfl
 go_enter Tryz.func182, Tryz.ntmps182
 go_wp2_with fail
 refine (D1 _).mono ?_
 rintro e w1 ⟨rfl, hb1⟩
 have HB1 : Hid (Below w.heap.size w w1) := hb1
 clear hb1
 go_wp2_with fail
 refine (D2 _).mono ?_
 rintro e w2 ⟨rfl, hb2⟩
 have HB2 : Hid (Below w.heap.size w w2) := HB1.out.trans (hb2.mono HB1.out.size)
 clear hb2
 go_wp2
 go_loop [6] (fun u6 => ∃ t : ByteArray, u6 = .string t ∧ t.size ≤ 4 ∧ Hid (Lib.trimRightB t.data.toList 48 = Lib.trimRightB L0 48)) (fun u6 => lenOf u6)
 case atStart => exact ⟨A3, rfl, by omega, by rw [hL.out]; rfl⟩
 case round =>
  obtain ⟨t, rfl, ht, hH⟩ := hrel
  by_cases h0 : t.size = 0
  ·have ht0 : t = ⟨#[]⟩ := by
    have := size_list t
    rw [h0] at this
    have e := List.eq_nil_of_length_eq_zero this
    rw [← mk_list t, e]
   subst ht0
   have HE : Hid (X = A1) := by
    show _ = _
    rw [← HX.out, ← hH.out]
    show A1 ++ ⟨(if Lib.trimRightB [] 48 = [] then [] else 46 :: Lib.trimRightB [] 48).toArray⟩ = _
    rw [trim_nil, if_pos rfl]
    rw [← mk_list A1]
    exact (app_mk _ []).trans (by simp)
   go_wp2
   go_ret
   exact ⟨by rw [HE.out]; rfl, HB2.out⟩
  ·obtain ⟨k, hk⟩ : ∃ k, t.size = k + 1 := ⟨t.size - 1, by omega⟩
   have hp : (0 : Int) < (t.size : Int) := by omega
   have hlast := list_last t k hk
   by_cases hb : (t[k]'(by omega)).toNat = 48
   ·have hb' : ((((t[k]'(by omega)).toNat : Nat) : Int) == 48) = true := by simp [hb]
    have ex := ext_list t k (by omega)
    have HN : Hid (Lib.trimRightB (t.extract 0 k).data.toList 48 = Lib.trimRightB L0 48) := by
     show _ = _
     rw [← hH.out, hlast, trim_cons_end, if_pos (by apply UInt8.toNat_inj.1; rw [hb]; rfl), ex.1]
    clear hlast
    go_wp2
    go_round
    case rel => exact ⟨t.extract 0 k, rfl, by omega, HN.out⟩
    case measure => simp [lenOf]; omega
   ·have hb' : ((((t[k]'(by omega)).toNat : Nat) : Int) == 48) = false := by simp; omega
    have htr : Lib.trimRightB L0 48 = t.data.toList := by
     rw [← hH.out]
     conv => lhs; rw [hlast]
     rw [trim_cons_end, if_neg (by intro e; rw [e] at hb; exact hb rfl)]
     exact hlast.symm
    have HE : Hid (X = A1 ++ ((⟨#[46]⟩ : ByteArray) ++ t)) := by
     show _ = _
     rw [← HX.out, htr, if_neg (by intro e; have := size_list t; rw [e] at this; simp at this; omega)]
     have := app_mk [46] t.data.toList
     rw [mk_list] at this
     rw [show (⟨#[46]⟩ : ByteArray) = ⟨([46] : List UInt8).toArray⟩ from rfl, this]
     rfl
    have hte : t.toList ≠ [] := by
     intro e
     have := size_list t
     rw [← Lib.toList_data, e] at this
     exact h0 this.symm
    have hs6 : ((⟨#[46]⟩ : ByteArray) ++ t).size ≤ 5 := by rw [ByteArray.size_append, hone]; omega
    clear hlast htr
    go_wp2
    ·go_ret
     exact ⟨by rw [HE.out]; rfl, HB2.out⟩
    ·rename_i hbad
     exact absurd hbad (by simp [hte])
theorem tail_empty (r : Nat) (h : r < 10000) : (tailP r = []) ↔ r = 0 := by
 constructor
 ·intro e
  by_cases h0 : r = 0
  ·exact h0
  ·have := ((digs_iff _ _ _).1 (tail_facts r h h0).1).2.1
   rw [e] at this
   simp at this
 ·rintro rfl
  exact tail_zero
theorem rprint_any (n : Int) (hn : -9223372036854775808 ≤ n ∧ n ≤ 9223372036854775807) (w : World) :
  Calls Tryz.prog 182 #[.int .i64 n] w fun e w' => e = .returned (.string ⟨(printF n).toArray⟩) ∧ Below w.heap.size w w' := by
 have hQ : n.natAbs / 10000 ≤ 922337203685477 := by omega
 have hR : n.natAbs % 10000 < 10000 := by omega
 have D1 := fun u => rDigits_any (n.natAbs / 10000) (by omega) u
 have D2 := fun u => rDigits_any (10000 + n.natAbs % 10000) (by omega) u
 rw [show ((n.natAbs / 10000 : Nat) : Int) = (n.natAbs : Int) / 10000 by omega] at D1
 rw [show ((10000 + n.natAbs % 10000 : Nat) : Int) = (n.natAbs : Int) % 10000 + 10000 by omega] at D2
 have l1 := (dec_len 15 (n.natAbs / 10000) (by decide) (by omega)).2
 have d5 := dec_five (n.natAbs % 10000) hR
 have l5 : (Lib.decDigits (10000 + n.natAbs % 10000)).length = 5 := by rw [d5]; rfl
 have te := tail_empty (n.natAbs % 10000) hR
 have h3 : (⟨((Lib.decDigits (10000 + n.natAbs % 10000)).drop 1).toArray⟩ : ByteArray).size = 4 := by rw [size_mk, List.length_drop, l5]
 have hA : (⟨(Lib.decDigits (10000 + n.natAbs % 10000)).toArray⟩ : ByteArray).extract 1 5 = ⟨((Lib.decDigits (10000 + n.natAbs % 10000)).drop 1).toArray⟩ := by
  have := drop_mk (Lib.decDigits (10000 + n.natAbs % 10000))
  rw [size_mk, l5] at this
  exact this
 have hs2 : ((⟨#[45]⟩ : ByteArray) ++ ⟨(Lib.decDigits (n.natAbs / 10000)).toArray⟩).size ≤ 21 := by
  rw [show (⟨#[45]⟩ : ByteArray) = ⟨([45] : List UInt8).toArray⟩ from rfl, app_mk, size_mk]; simp; omega
 have ht : Lib.trimRightB ((Lib.decDigits (10000 + n.natAbs % 10000)).drop 1) 48 = tailP (n.natAbs % 10000) := rfl
 by_cases hneg : n < 0
 ·have h := rprint_neg (w := w) (U := n.natAbs) (L0 := (Lib.decDigits (10000 + n.natAbs % 10000)).drop 1) hn hneg (by omega) (by omega) D1 D2 (by rw [size_mk]; omega) (by rw [size_mk]; exact l5) hA h3 rfl hs2
  rw [ht] at h
  refine h.mono ?_
  rintro e w' ⟨rfl, hb⟩
  refine ⟨?_, hb⟩
  congr 2
  rw [show (⟨#[45]⟩ : ByteArray) = ⟨([45] : List UInt8).toArray⟩ from rfl, app_mk, app_mk]
  unfold printF
  rw [if_pos hneg]
  by_cases h0 : n.natAbs % 10000 = 0
  ·rw [if_pos (te.2 h0), if_pos h0]
  ·rw [if_neg (fun h => h0 (te.1 h)), if_neg h0]
 ·have h := rprint_pos (w := w) (U := n.natAbs) (L0 := (Lib.decDigits (10000 + n.natAbs % 10000)).drop 1) hn hneg (by omega) (by omega) D1 D2 (by rw [size_mk]; omega) (by rw [size_mk]; exact l5) hA h3 rfl hs2
  rw [ht] at h
  refine h.mono ?_
  rintro e w' ⟨rfl, hb⟩
  refine ⟨?_, hb⟩
  congr 2
  rw [app_mk]
  unfold printF
  rw [if_neg hneg]
  by_cases h0 : n.natAbs % 10000 = 0
  ·rw [if_pos (te.2 h0), if_pos h0]; rfl
  ·rw [if_neg (fun h => h0 (te.1 h)), if_neg h0]; rfl
theorem kind_blank (n : Int) (s : ByteArray) (w : World) : Calls Tryz.prog 216 #[.agg #[.int .i64 0, .int .i64 n, .string s]] w fun e w' => e = .returned (.iface 248 (.agg #[])) ∧ Below w.heap.size w w' := by
 go_enter Tryz.func216, Tryz.ntmps216
 go_wp2
 go_ret
 exact ⟨rfl, (Below.refl _ _).alloc (Nat.le_refl _) _⟩
theorem kind_num (n : Int) (s : ByteArray) (w : World) : Calls Tryz.prog 216 #[.agg #[.int .i64 1, .int .i64 n, .string s]] w fun e w' => e = .returned (.iface 226 (.int .i64 n)) ∧ Below w.heap.size w w' := by
 go_enter Tryz.func216, Tryz.ntmps216
 go_wp2
 go_ret
 exact ⟨rfl, (Below.refl _ _).alloc (Nat.le_refl _) _⟩
theorem kind_str (n : Int) (s : ByteArray) (w : World) : Calls Tryz.prog 216 #[.agg #[.int .i64 2, .int .i64 n, .string s]] w fun e w' => e = .returned (.iface 227 (.string s)) ∧ Below w.heap.size w w' := by
 go_enter Tryz.func216, Tryz.ntmps216
 go_wp2
 go_ret
 exact ⟨rfl, (Below.refl _ _).alloc (Nat.le_refl _) _⟩
theorem kind_bool (n : Int) (s : ByteArray) (w : World) : Calls Tryz.prog 216 #[.agg #[.int .i64 3, .int .i64 n, .string s]] w fun e w' => e = .returned (.iface 213 (.bool (n != 0))) ∧ Below w.heap.size w w' := by
 go_enter Tryz.func216, Tryz.ntmps216
 go_wp2
 go_ret
 exact ⟨rfl, (Below.refl _ _).alloc (Nat.le_refl _) _⟩
theorem kind_bad (n : Int) (s : ByteArray) (w : World) : Calls Tryz.prog 216 #[.agg #[.int .i64 4, .int .i64 n, .string s]] w fun e w' => e = .returned (.iface 217 (.int .i64 n)) ∧ Below w.heap.size w w' := by
 go_enter Tryz.func216, Tryz.ntmps216
 go_wp2
 go_ret
 exact ⟨rfl, (Below.refl _ _).alloc (Nat.le_refl _) _⟩
theorem kind_none (k n : Int) (s : ByteArray) (w : World) (h0 : (k == 0) = false) (h1 : (k == 1) = false) (h2 : (k == 2) = false) (h3 : (k == 3) = false) (h4 : (k == 4) = false) : Calls Tryz.prog 216 #[.agg #[.int .i64 k, .int .i64 n, .string s]] w fun e w' => e = .returned (.iface 250 (.int .i64 n)) ∧ Below w.heap.size w w' := by
 go_enter Tryz.func216, Tryz.ntmps216
 go_wp2
 go_ret
 exact ⟨rfl, (Below.refl _ _).alloc (Nat.le_refl _) _⟩
theorem tcount_any (b : Bool) (w : World) : Calls Tryz.prog 253 #[.bool b] w fun e w' => e = .returned (.int .i64 (if b = true then 1 else 0)) ∧ w' = w := by
 cases b
 all_goals
  go_enter Tryz.func253, Tryz.ntmps253
  go_wp2
  go_ret
  exact ⟨rfl, rfl⟩
def knB (n : Int) : Bool := decide (1 ≤ n) && decide (n ≤ 8)
theorem known_any (n : Int) (w : World) : Calls Tryz.prog 254 #[.int .i64 n] w fun e w' => e = .returned (.bool (knB n)) ∧ w' = w := by
 go_enter Tryz.func254, Tryz.ntmps254
 go_wp2
 all_goals (go_ret; rename_i h; refine ⟨?_, rfl⟩; congr 2; simp [knB]; try omega)
theorem ta_46_46 (W : World) (v : Value) : (Instr.typeAssert (.iface 248 v) 20 248 true).run Tryz.prog W = .ok (.tuple #[v, .bool true]) W := by kernel_rfl
theorem ta_46_47 (W : World) (v : Value) : (Instr.typeAssert (.iface 248 v) 20 226 true).run Tryz.prog W = .ok (.tuple #[.int .i64 0, .bool false]) W := by kernel_rfl
theorem ta_46_48 (W : World) (v : Value) : (Instr.typeAssert (.iface 248 v) 20 227 true).run Tryz.prog W = .ok (.tuple #[.string ByteArray.empty, .bool false]) W := by kernel_rfl
theorem ta_46_51 (W : World) (v : Value) : (Instr.typeAssert (.iface 248 v) 20 213 true).run Tryz.prog W = .ok (.tuple #[.bool false, .bool false]) W := by kernel_rfl
theorem ta_46_53 (W : World) (v : Value) : (Instr.typeAssert (.iface 248 v) 20 217 true).run Tryz.prog W = .ok (.tuple #[.int .i64 0, .bool false]) W := by kernel_rfl
theorem ta_47_46 (W : World) (v : Value) : (Instr.typeAssert (.iface 226 v) 20 248 true).run Tryz.prog W = .ok (.tuple #[.agg #[], .bool false]) W := by kernel_rfl
theorem ta_47_47 (W : World) (v : Value) : (Instr.typeAssert (.iface 226 v) 20 226 true).run Tryz.prog W = .ok (.tuple #[v, .bool true]) W := by kernel_rfl
theorem ta_47_48 (W : World) (v : Value) : (Instr.typeAssert (.iface 226 v) 20 227 true).run Tryz.prog W = .ok (.tuple #[.string ByteArray.empty, .bool false]) W := by kernel_rfl
theorem ta_47_51 (W : World) (v : Value) : (Instr.typeAssert (.iface 226 v) 20 213 true).run Tryz.prog W = .ok (.tuple #[.bool false, .bool false]) W := by kernel_rfl
theorem ta_47_53 (W : World) (v : Value) : (Instr.typeAssert (.iface 226 v) 20 217 true).run Tryz.prog W = .ok (.tuple #[.int .i64 0, .bool false]) W := by kernel_rfl
theorem ta_48_46 (W : World) (v : Value) : (Instr.typeAssert (.iface 227 v) 20 248 true).run Tryz.prog W = .ok (.tuple #[.agg #[], .bool false]) W := by kernel_rfl
theorem ta_48_47 (W : World) (v : Value) : (Instr.typeAssert (.iface 227 v) 20 226 true).run Tryz.prog W = .ok (.tuple #[.int .i64 0, .bool false]) W := by kernel_rfl
theorem ta_48_48 (W : World) (v : Value) : (Instr.typeAssert (.iface 227 v) 20 227 true).run Tryz.prog W = .ok (.tuple #[v, .bool true]) W := by kernel_rfl
theorem ta_48_51 (W : World) (v : Value) : (Instr.typeAssert (.iface 227 v) 20 213 true).run Tryz.prog W = .ok (.tuple #[.bool false, .bool false]) W := by kernel_rfl
theorem ta_48_53 (W : World) (v : Value) : (Instr.typeAssert (.iface 227 v) 20 217 true).run Tryz.prog W = .ok (.tuple #[.int .i64 0, .bool false]) W := by kernel_rfl
theorem ta_51_46 (W : World) (v : Value) : (Instr.typeAssert (.iface 213 v) 20 248 true).run Tryz.prog W = .ok (.tuple #[.agg #[], .bool false]) W := by kernel_rfl
theorem ta_51_47 (W : World) (v : Value) : (Instr.typeAssert (.iface 213 v) 20 226 true).run Tryz.prog W = .ok (.tuple #[.int .i64 0, .bool false]) W := by kernel_rfl
theorem ta_51_48 (W : World) (v : Value) : (Instr.typeAssert (.iface 213 v) 20 227 true).run Tryz.prog W = .ok (.tuple #[.string ByteArray.empty, .bool false]) W := by kernel_rfl
theorem ta_51_51 (W : World) (v : Value) : (Instr.typeAssert (.iface 213 v) 20 213 true).run Tryz.prog W = .ok (.tuple #[v, .bool true]) W := by kernel_rfl
theorem ta_51_53 (W : World) (v : Value) : (Instr.typeAssert (.iface 213 v) 20 217 true).run Tryz.prog W = .ok (.tuple #[.int .i64 0, .bool false]) W := by kernel_rfl
theorem ta_53_46 (W : World) (v : Value) : (Instr.typeAssert (.iface 217 v) 20 248 true).run Tryz.prog W = .ok (.tuple #[.agg #[], .bool false]) W := by kernel_rfl
theorem ta_53_47 (W : World) (v : Value) : (Instr.typeAssert (.iface 217 v) 20 226 true).run Tryz.prog W = .ok (.tuple #[.int .i64 0, .bool false]) W := by kernel_rfl
theorem ta_53_48 (W : World) (v : Value) : (Instr.typeAssert (.iface 217 v) 20 227 true).run Tryz.prog W = .ok (.tuple #[.string ByteArray.empty, .bool false]) W := by kernel_rfl
theorem ta_53_51 (W : World) (v : Value) : (Instr.typeAssert (.iface 217 v) 20 213 true).run Tryz.prog W = .ok (.tuple #[.bool false, .bool false]) W := by kernel_rfl
theorem ta_53_53 (W : World) (v : Value) : (Instr.typeAssert (.iface 217 v) 20 217 true).run Tryz.prog W = .ok (.tuple #[v, .bool true]) W := by kernel_rfl
theorem ta_76_46 (W : World) (v : Value) : (Instr.typeAssert (.iface 250 v) 20 248 true).run Tryz.prog W = .ok (.tuple #[.agg #[], .bool false]) W := by kernel_rfl
theorem ta_76_47 (W : World) (v : Value) : (Instr.typeAssert (.iface 250 v) 20 226 true).run Tryz.prog W = .ok (.tuple #[.int .i64 0, .bool false]) W := by kernel_rfl
theorem ta_76_48 (W : World) (v : Value) : (Instr.typeAssert (.iface 250 v) 20 227 true).run Tryz.prog W = .ok (.tuple #[.string ByteArray.empty, .bool false]) W := by kernel_rfl
theorem ta_76_51 (W : World) (v : Value) : (Instr.typeAssert (.iface 250 v) 20 213 true).run Tryz.prog W = .ok (.tuple #[.bool false, .bool false]) W := by kernel_rfl
theorem ta_76_53 (W : World) (v : Value) : (Instr.typeAssert (.iface 250 v) 20 217 true).run Tryz.prog W = .ok (.tuple #[.int .i64 0, .bool false]) W := by kernel_rfl
end Go.Proofs.YtnibldnfbikipaaGreatDoor
