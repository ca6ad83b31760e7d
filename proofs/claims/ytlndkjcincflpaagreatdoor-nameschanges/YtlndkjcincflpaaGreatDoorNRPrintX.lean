/- ACut, NLives, NRDig, NRPrint. -/
import Derived.Test.YtlndkjcincflpaaGreatDoorNLoopX
import Derived.Test.YtlndkjcincflpaaGreatDoorNPrintX
set_option linter.unusedVariables false
set_option linter.unusedSimpArgs false
namespace Go.Proofs.YtlndkjcincflpaaGreatDoor
open Go.RowKit Go.Shelf
set_option maxRecDepth 100000
def cutF (c : UInt8) (l : List UInt8) : List UInt8 × List UInt8 × Bool := match Ad.at_ c l with
  | none => (l, [], false)
  | some p => (p.1, p.2, true)
theorem at_index (c : UInt8) : ∀ l : List UInt8, (Lib.indexByte l c = -1 → Ad.at_ c l = none) ∧ (∀ i : Nat, Lib.indexByte l c = i → Ad.at_ c l = some (l.take i, l.drop (i + 1)))
  | [] => ⟨fun _ => rfl, fun i h => by simp [Lib.indexByte] at h⟩
  | b :: l => by
    have ih := at_index c l
    have hge := Lib.indexByte_ge l c
    unfold Lib.indexByte Ad.at_
    by_cases hb : b = c
    · subst hb
      refine ⟨fun h => by simp at h, fun i h => ?_⟩
      simp at h
      obtain rfl : i = 0 := by omega
      rw [if_pos rfl]
      rfl
    · have e1 : (b == c) = false := by simpa using hb
      rw [e1, if_neg hb]
      simp only [Bool.false_eq_true, if_false]
      by_cases hn : Lib.indexByte l c = -1
      · rw [hn]
        refine ⟨fun _ => ?_, fun i h => by simp at h⟩
        rw [ih.1 hn]
        rfl
      · have e3 : (Lib.indexByte l c == -1) = false := by simpa using hn
        rw [e3]
        refine ⟨fun h => by simp at h; omega, fun i h => ?_⟩
        simp at h
        obtain ⟨k, rfl⟩ : ∃ k, i = k + 1 := ⟨i - 1, by omega⟩
        rw [ih.2 k (by omega)]
        rfl
theorem cutc (c : UInt8) (l : List UInt8) : Lib.cut l [c] = cutF c l := by
  have hi := Lib.index_one l c
  have hge := Lib.indexByte_ge l c
  unfold Lib.cut cutF
  rw [hi]
  split
  · rw [(at_index c l).2 (Lib.indexByte l c).toNat (by omega)]
    rfl
  · rw [(at_index c l).1 (by omega)]
theorem cutF_none {c : UInt8} {l : List UInt8} (h : Ad.at_ c l = none) : cutF c l = (l, [], false) := by unfold cutF; rw [h]
theorem cutF_some {c : UInt8} {l a b : List UInt8} (h : Ad.at_ c l = some (a, b)) : cutF c l = (a, b, true) := by unfold cutF; rw [h]
set_option maxHeartbeats 2000000 in
theorem scut_any (c : UInt8) (s : ByteArray) (w : World) (hs : s.size ≤ 9223372036854775807) :
    Calls Tryz.prog 222 #[.string s, .string ⟨#[c]⟩] w fun e w' => e = .returned (.tuple #[.string ⟨(cutF c s.data.toList).1.toArray⟩, .string ⟨(cutF c s.data.toList).2.1.toArray⟩, .bool (cutF c s.data.toList).2.2]) ∧ ∃ n, w' = w.drewN n := by
  have hcut := cutc c s.data.toList
  have IX := fun u => Tryz.stringslite_Index_one s c u
  have hone := Lib.index_one s.data.toList c
  obtain ⟨sp, hsp⟩ : ∃ sp : ByteArray, sp = ⟨#[c]⟩ := ⟨_, rfl⟩
  have hp : sp.size = 1 := by rw [hsp]; rfl
  have hl : sp.data.toList = [c] := by rw [hsp]
  rcases Lib.indexB_cases s sp with hix | ⟨i, hix, hroom⟩
  · obtain ⟨e1, e2, e3⟩ := Lib.cutB_miss s sp hix
    rw [hl, hcut] at e1 e2 e3
    rw [e1, e2, e3]
    replace hix : Lib.index s.data.toList [c] = -1 := by rw [← hl]; exact hix
    rw [show Lib.indexByte s.data.toList c = -1 from hone.symm.trans hix] at IX
    rw [← hsp] at IX ⊢
    clear hix hone hcut e1 e2 e3 hl hsp
    go_enter Tryz.func222, Tryz.ntmps222
    go_wp2_with (go_at_call 219; refine (IX _).mono ?_; rintro e w' ⟨rfl, hw⟩; obtain rfl := hw.symm; clear hw)
    go_ret3
    exact ⟨rfl, 0, rfl⟩
  · obtain ⟨e1, e2, e3⟩ := Lib.cutB_hit s sp i hix
    rw [hl, hcut] at e1 e2 e3
    rw [e1, e2, e3]
    replace hix : Lib.index s.data.toList [c] = i := by rw [← hl]; exact hix
    rw [show Lib.indexByte s.data.toList c = i from hone.symm.trans hix] at IX
    have hroom' : i + 1 ≤ s.size := by rw [hp] at hroom; exact hroom
    rw [hp]
    have c1 : (0 : Int) ≤ ↑i := by omega
    have c2 : (↑i : Int) ≤ ↑s.size := by omega
    have c3 : (0 : Int) ≤ ↑i + 1 := by omega
    have c4 : (↑i + 1 : Int) ≤ ↑s.size := by omega
    rw [← hsp] at IX ⊢
    clear hix hone hcut e1 e2 e3 hroom hl hsp
    go_enter Tryz.func222, Tryz.ntmps222
    go_wp2_with (go_at_call 219; refine (IX _).mono ?_; rintro e w' ⟨rfl, hw⟩; obtain rfl := hw.symm; clear hw)
    go_region
    go_wp2
    go_ret3
    exact ⟨rfl, 1, rfl⟩
set_option maxHeartbeats 2000000 in
theorem cutc_any (c : UInt8) (l : List UInt8) (w : World) (hl : l.length ≤ 9223372036854775807) :
    Calls Tryz.prog 194 #[.string ⟨l.toArray⟩, .string ⟨#[c]⟩] w fun e w' => e = .returned (.tuple #[.string ⟨(cutF c l).1.toArray⟩, .string ⟨(cutF c l).2.1.toArray⟩, .bool (cutF c l).2.2]) ∧ Below w.heap.size w w' := by
  have C := fun u => scut_any c ⟨l.toArray⟩ u (by rw [size_mk]; exact hl)
  simp only [List.toList_toArray] at C
  generalize (⟨l.toArray⟩ : ByteArray) = A at *
  generalize (⟨#[c]⟩ : ByteArray) = B at *
  generalize cutF c l = R at *
  go_enter Tryz.func194, Tryz.ntmps194
  go_wp2_with (go_at_call 222; refine (C _).mono ?_; rintro e w' ⟨rfl, n, rfl⟩)
  go_ret3
  exact ⟨rfl, drewN_below w _⟩
theorem strip_lib (c : UInt8) (l : List UInt8) : Lib.trimPrefix l [c] = (Ad.strip c l).2 ∧ Lib.hasPrefix l [c] = (Ad.strip c l).1 := by
  unfold Lib.trimPrefix Lib.hasPrefix
  cases l with
  | nil => exact ⟨rfl, rfl⟩
  | cons b l =>
    rw [Ad.strip_cons]
    by_cases h : b = c
    · subst h
      simp [List.isPrefixOf]
    · have h2 : ¬ c = b := fun e => h e.symm
      simp [List.isPrefixOf, h, h2]
theorem strip_any (c : UInt8) (l : List UInt8) (w : World) :
    Calls Tryz.prog 156 #[.string ⟨l.toArray⟩, .string ⟨#[c]⟩] w fun e w' => e = .returned (.tuple #[.string ⟨(Ad.strip c l).2.toArray⟩, .bool (Ad.strip c l).1]) ∧ w' = w := by
  have h := Tryz.strings_CutPrefix ⟨l.toArray⟩ ⟨#[c]⟩ w
  obtain ⟨h1, h2⟩ := strip_lib c l
  rw [show (⟨#[c]⟩ : ByteArray).data.toList = [c] from rfl, show (⟨l.toArray⟩ : ByteArray).data.toList = l from rfl, h1, h2] at h
  exact h
end Go.Proofs.YtlndkjcincflpaaGreatDoor

namespace Go.Proofs.YtlndkjcincflpaaGreatDoor
open Go.RowKit
set_option maxRecDepth 100000

theorem tail_len (r : Nat) (h : r < 10000) : (tailP r).length ≤ 4 := by
  by_cases h0 : r = 0
  · rw [h0, tail_zero]; simp
  · exact ((digs_iff _ _ _).1 (tail_facts r h h0).1).2.2
theorem print_any (n : Int) (hn : -9223372036854775808 ≤ n ∧ n ≤ 9223372036854775807) (w : World) (T : PTab w) :
    Calls Tryz.prog 112 #[.int .i64 n] w fun e w' => e = .returned (.string ⟨(printF n).toArray⟩) ∧ Below w.heap.size w w' := by
  have hQ : n.natAbs / 10000 ≤ 922337203685477 := by omega
  have hR : n.natAbs % 10000 < 10000 := by omega
  have aq := abs_tdiv n
  have ar := abs_tmod n
  have bq : -922337203685477 ≤ n.tdiv 10000 ∧ n.tdiv 10000 ≤ 922337203685477 := by unfold absI at aq; split at aq <;> omega
  have br : -10000 ≤ n.tmod 10000 ∧ n.tmod 10000 ≤ 10000 := by unfold absI at ar; split at ar <;> omega
  have S1 := fun u => size_any (n.tdiv 10000) (by omega) (by omega) u
  have S2 := fun u => size_any (n.tmod 10000) (by omega) (by omega) u
  rw [aq] at S1
  rw [ar] at S2
  have l1 := (dec_len 15 (n.natAbs / 10000) (by decide) (by omega)).2
  have d5 := dec_five (n.natAbs % 10000) hR
  have l5 : (Lib.decDigits (10000 + n.natAbs % 10000)).length = 5 := by rw [d5]; rfl
  have tl := tail_len (n.natAbs % 10000) hR
  have hX : ∀ X, X = (if n.natAbs % 10000 = 0 then (if n < 0 then (⟨#[45]⟩ : ByteArray) ++ ⟨(Lib.decDigits (n.natAbs / 10000)).toArray⟩ else ⟨(Lib.decDigits (n.natAbs / 10000)).toArray⟩)
      else ((if n < 0 then (⟨#[45]⟩ : ByteArray) ++ ⟨(Lib.decDigits (n.natAbs / 10000)).toArray⟩ else ⟨(Lib.decDigits (n.natAbs / 10000)).toArray⟩) ++ (⟨#[46]⟩ ++ ⟨(tailP (n.natAbs % 10000)).toArray⟩))) → X = ⟨(printF n).toArray⟩ := by
    rintro X rfl
    unfold printF
    have e45 : (⟨#[45]⟩ : ByteArray) = ⟨([45] : List UInt8).toArray⟩ := rfl
    have e46 : (⟨#[46]⟩ : ByteArray) = ⟨([46] : List UInt8).toArray⟩ := rfl
    rw [e45, e46]
    by_cases h0 : n.natAbs % 10000 = 0 <;> by_cases hneg : n < 0 <;> simp only [h0, hneg, if_true, if_false, app_mk] <;> simp
  have hX' := hX _ rfl
  rw [← hX']
  refine print_core (q := n.tdiv 10000) (r := n.tmod 10000) (A2 := ⟨(Lib.decDigits (10000 + n.natAbs % 10000)).toArray⟩) (A3 := ⟨((Lib.decDigits (10000 + n.natAbs % 10000)).drop 1).toArray⟩) hn rfl rfl bq hR hQ T S1 S2 (fun u hu => itoa_any _ (by omega) u hu) (fun u hu => ?_) ?_ ?_ ?_ ?_ (fun _ => rfl) ?_ ?_ (fun u => ?_)
  · have := itoa_any (10000 + n.natAbs % 10000) (by omega) u hu
    rw [Int.natCast_add] at this
    exact this
  · rw [size_mk]; omega
  · rw [size_mk]; exact tl
  · rw [show (⟨#[45]⟩ : ByteArray) = ⟨([45] : List UInt8).toArray⟩ from rfl, app_mk, size_mk]; simp; omega
  · rw [show (⟨#[46]⟩ : ByteArray) = ⟨([46] : List UInt8).toArray⟩ from rfl, app_mk, size_mk]; simp; omega
  · rw [size_mk]; exact l5
  · have := drop_mk (Lib.decDigits (10000 + n.natAbs % 10000))
    rw [size_mk, l5] at this
    exact this
  · exact Tryz.strings_TrimRight_one ⟨((Lib.decDigits (10000 + n.natAbs % 10000)).drop 1).toArray⟩ 48 (by decide) u (by rw [size_mk]; simp; omega)

end Go.Proofs.YtlndkjcincflpaaGreatDoor

namespace Go.Proofs.YtlndkjcincflpaaGreatDoor
open Go.RowKit
set_option maxRecDepth 100000

theorem all_at (s : ByteArray) (k : Nat) (h : k < s.size) (hall : s.data.toList.all isD = true) : isD s[k] = true := by
  rw [byte_at s k h (by rw [size_list]; exact h)]
  exact List.all_eq_true.1 hall _ (List.getElem_mem _)
theorem all_step (s : ByteArray) (k : Nat) (h : k < s.size) (ha : (s.data.toList.take k).all isD = true) (hb : isD s[k] = true) : (s.data.toList.take (k + 1)).all isD = true := by
  rw [take_snoc _ _ (by rw [size_list]; exact h), List.all_append, ha, ← byte_at s k h (by rw [size_list]; exact h)]
  simp [hb]

set_option maxHeartbeats 1000000 in
theorem rdigits_any (s : ByteArray) (m : Nat) (hm : m ≤ 12) (w : World) (hs : s.size ≤ 9223372036854775807) :
    Calls Tryz.prog 200 #[.string s, .int .i64 1, .int .i64 m] w fun e w' => e = .returned (.bool (digs s.data.toList 1 m)) ∧ w' = w := by
  have hl := size_list s
  generalize hr : digs s.data.toList 1 m = r
  have HR : Hid (digs s.data.toList 1 m = r) := hr
  clear hr
  go_enter Tryz.func200, Tryz.ntmps200
  go_wp2
  go_loop [7] (fun i => ∃ k : Nat, k ≤ s.size ∧ i = .int .i64 k ∧ Hid ((s.data.toList.take k).all isD = true)) (fun i => s.size - (intOf i).toNat)
  case atStart => exact ⟨0, Nat.zero_le _, rfl, by simp [Hid]⟩
  case round =>
    obtain ⟨k, hk, rfl, ha⟩ := hrel
    by_cases hlt : k < s.size
    · cases hd : isD s[k]
      · have HE : Hid (r = false) := by
          show _ = _
          rw [← HR.out]
          unfold digs
          cases hh : s.data.toList.all isD
          · rfl
          · rw [all_at s k hlt hh] at hd; cases hd
        simp only [isD, Bool.and_eq_false_iff, decide_eq_false_iff_not] at hd
        by_cases hb1 : (s[k].toNat : Int) < 48
        · go_wp2
          go_ret
          exact ⟨by rw [HE.out]; rfl, rfl⟩
        · have hb2 : 57 < (s[k].toNat : Int) := by omega
          go_wp2
          go_ret
          exact ⟨by rw [HE.out]; rfl, rfl⟩
      · have ha' : Hid ((s.data.toList.take (k + 1)).all isD = true) := all_step s k hlt ha.out hd
        simp only [isD, Bool.and_eq_true, decide_eq_true_eq] at hd
        have hb1 : ¬ (s[k].toNat : Int) < 48 := by omega
        have hb2 : ¬ 57 < (s[k].toNat : Int) := by omega
        go_wp2
        go_round
        case rel => exact ⟨k + 1, by omega, by go_num, ha'⟩
        case measure => simp [intOf]; omega
    · have e : s.data.toList.take k = s.data.toList := List.take_of_length_le (by omega)
      have HE : Hid (r = (decide (1 ≤ s.size) && decide (s.size ≤ m))) := by
        show _ = _
        rw [← HR.out]
        unfold digs
        have := ha.out
        rw [e] at this
        rw [this, hl]
        simp
      by_cases h1 : (1 : Int) ≤ (s.size : Int)
      · go_wp2
        go_ret
        refine ⟨?_, rfl⟩
        rw [HE.out]
        simp
        omega
      · go_wp2
        go_ret
        refine ⟨?_, rfl⟩
        rw [HE.out]
        simp
        omega
theorem conv98 (w : World) (z : Int) : (convert 98 9 (.slice (some ⟨w.heap.size, 0, none⟩) 1 1)).run Tryz.prog (w.alloc (.cells #[.int .u8 z] 5)) = .ok (.string ⟨#[UInt8.ofNat z.toNat]⟩) (w.alloc (.cells #[.int .u8 z] 5)) := by
  have hl : (loadCells ⟨w.heap.size, 0, none⟩ 1).run Tryz.prog (w.alloc (.cells #[.int .u8 z] 5)) = .ok (([z] : List Int).map (Value.int .u8)).toArray (w.alloc (.cells #[.int .u8 z] 5)) := by
    refine run_loadCells_list (P := Tryz.prog) _ ⟨w.heap.size, 0, none⟩ [.int .u8 z] fun j u hj => ?_
    match j, hj with
    | 0, hj =>
      cases hj
      simp only [World.cell?]
      rw [show ((⟨w.heap.size, 0, none⟩ : Addr).add 0) = ⟨w.heap.size, 0, none⟩ from rfl, heap_alloc_new]
      rfl
  rw [run_convert_bytes_string _ 98 9 5 _ 1 1 Tryz.underlying98 Tryz.underlying5 Tryz.underlying9, run_bytesToString _ _ 1 1 _ hl, foldl_push_bytes]
  rfl
theorem dec_two (m : Nat) (h : ¬ m / 10 = 0) : Lib.decDigits m = Lib.decDigits (m / 10) ++ [UInt8.ofNat (48 + m % 10)] := by
  rw [Lib.decDigits, dif_neg (by omega)]
set_option maxHeartbeats 1000000 in
theorem rDigits_any (n : Nat) (hn : n < 18446744073709551616) (w : World) :
    Calls Tryz.prog 154 #[.int .u64 n] w fun e w' => e = .returned (.string ⟨(Lib.decDigits n).toArray⟩) ∧ Below w.heap.size w w' := by
  have hlen := (dec_len 20 n (by decide) (by omega)).2
  generalize hr : (⟨(Lib.decDigits n).toArray⟩ : ByteArray) = r
  have HR : Hid ((⟨(Lib.decDigits n).toArray⟩ : ByteArray) = r) := hr
  clear hr
  go_enter Tryz.func154, Tryz.ntmps154
  go_wp2
  go_loopw [0, 3] (fun u0 u3 wr => ∃ (m : Nat) (t : ByteArray), u0 = .int .u64 m ∧ u3 = .string t ∧ m < 18446744073709551616 ∧ t.size ≤ 20 ∧ Hid (Below w.heap.size w wr ∧ ∃ L : List UInt8, t = ⟨L.toArray⟩ ∧ Lib.decDigits n = Lib.decDigits m ++ L)) (fun u0 _ _ => (intOf u0).toNat)
  case atStart => exact ⟨n, ⟨#[]⟩, rfl, rfl, hn, by decide, Below.refl _ _, [], rfl, by simp⟩
  case round =>
    obtain ⟨m, t, rfl, rfl, hm, ht, hH⟩ := hrel
    have hcv := conv98 wr (48 + (m : Int) % 10)
    have hne : Hid ((⟨#[UInt8.ofNat (48 + (m : Int) % 10).toNat]⟩ : ByteArray) ++ t = ⟨([UInt8.ofNat (48 + m % 10)] ++ (t.data.toList)).toArray⟩) := by
      show _ = _
      rw [show (48 + (m : Int) % 10).toNat = 48 + m % 10 by omega]
      exact app_mk [UInt8.ofNat (48 + m % 10)] t.data.toList
    generalize hX : (⟨#[UInt8.ofNat (48 + (m : Int) % 10).toNat]⟩ : ByteArray) = X at *
    have hXs : X.size = 1 := by rw [← hX]; rfl
    clear hX
    have hsz : (X ++ t).size ≤ 21 := by rw [ByteArray.size_append]; omega
    by_cases hz : m / 10 = 0
    · have hz' : (m : Int) / 10 = 0 := by omega
      have HE : Hid (r = X ++ t) := by
        obtain ⟨_, L, rfl, e⟩ := hH.out
        show _ = _
        rw [← HR.out, hne.out, e, Lib.decDigits_one (by omega)]
        rw [show m % 10 = m by omega]
      go_wp2
      go_ret
      exact ⟨by rw [HE.out]; rfl, hH.out.1.alloc (hH.out.1.size) _⟩
    · have hz' : ((m : Int) / 10 == 0) = false := by simp; omega
      have HL : Hid (∃ L : List UInt8, X ++ t = ⟨L.toArray⟩ ∧ Lib.decDigits n = Lib.decDigits (m / 10) ++ L) := by
        obtain ⟨_, L, rfl, e⟩ := hH.out
        refine ⟨_, hne.out, ?_⟩
        rw [e, dec_two m hz]
        simp
      have hs2 : (X ++ t).size ≤ 20 := by
        obtain ⟨L, e1, e2⟩ := HL.out
        rw [e1, size_mk]
        have := congrArg List.length e2
        simp at this
        have := (dec_len 20 (m / 10) (by decide) (by omega)).1
        omega
      go_wp2
      go_roundw
      case rel => exact ⟨m / 10, X ++ t, by go_num, rfl, by omega, hs2, hH.out.1.alloc (hH.out.1.size) _, HL.out⟩
      case measure => simp [intOf]; omega
end Go.Proofs.YtlndkjcincflpaaGreatDoor

namespace Go.Proofs.YtlndkjcincflpaaGreatDoor
open Go.RowKit
set_option maxRecDepth 100000

def lenOf (v : Value) : Nat := match v with | .string t => t.size | _ => 0
theorem ext_list (t : ByteArray) (k : Nat) (h : k ≤ t.size) : (t.extract 0 k).data.toList = t.data.toList.take k ∧ (t.extract 0 k).size = k := by
  have e : (t.extract 0 k).data.toList = t.data.toList.take k := by
    rw [ByteArray.data_extract]
    simp
  refine ⟨e, ?_⟩
  rw [← size_list, e, List.length_take, size_list]
  omega
theorem mk_list (t : ByteArray) : (⟨t.data.toList.toArray⟩ : ByteArray) = t := by
  cases t
  simp

end Go.Proofs.YtlndkjcincflpaaGreatDoor
