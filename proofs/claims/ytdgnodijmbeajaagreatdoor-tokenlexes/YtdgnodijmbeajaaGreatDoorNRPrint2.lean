import Derived.Test.YtdgnodijmbeajaaGreatDoorNLives
/- The contracts of the reference's digits and Digits. -/
namespace Go.Proofs.YtdgnodijmbeajaaGreatDoor
set_option linter.unusedSimpArgs false
open Go.RowKit
set_option linter.unusedVariables false
set_option maxRecDepth 100000

theorem all_at (s : ByteArray) (k : Nat) (h : k < s.size) (hall : s.data.toList.all isD = true) : isD s[k] = true := by
  rw [byte_at s k h (by rw [size_list]; exact h)]
  exact List.all_eq_true.1 hall _ (List.getElem_mem _)
theorem all_step (s : ByteArray) (k : Nat) (h : k < s.size) (ha : (s.data.toList.take k).all isD = true) (hb : isD s[k] = true) : (s.data.toList.take (k + 1)).all isD = true := by
  rw [take_snoc _ _ (by rw [size_list]; exact h), List.all_append, ha, ← byte_at s k h (by rw [size_list]; exact h)]
  simp [hb]

set_option maxHeartbeats 1000000 in
theorem rdigits_any (s : ByteArray) (m : Nat) (hm : m ≤ 12) (w : World) (hs : s.size ≤ 9223372036854775807) :
    Calls Tryz.prog 61 #[.string s, .int .i64 1, .int .i64 m] w fun e w' => e = .returned (.bool (digs s.data.toList 1 m)) ∧ w' = w := by
  have hl := size_list s
  generalize hr : digs s.data.toList 1 m = r
  have HR : Hid (digs s.data.toList 1 m = r) := hr
  clear hr
  go_enter Tryz.func61, Tryz.ntmps61
  go_wp2
  go_loop [7] (fun i => ∃ k : Nat, k ≤ s.size ∧ i = .int .i64 k ∧ Hid ((s.data.toList.take k).all isD = true)) (fun i => s.size - (intOf i).toNat)
  case atStart => exact ⟨0, Nat.zero_le _, rfl, by simp [Hid]⟩
  case round =>
    obtain ⟨k, hk, rfl, ha⟩ := hrel
    by_cases hlt : k < s.size
    · cases hd : isD s[k]
      · have HE : Hid (r = false) := by
          show _ = _
          rw [← HR.out]
          unfold digs
          cases hh : s.data.toList.all isD
          · rfl
          · rw [all_at s k hlt hh] at hd; cases hd
        simp only [isD, Bool.and_eq_false_iff, decide_eq_false_iff_not] at hd
        by_cases hb1 : (s[k].toNat : Int) < 48
        · go_wp2
          go_ret
          exact ⟨by rw [HE.out]; rfl, rfl⟩
        · have hb2 : 57 < (s[k].toNat : Int) := by omega
          go_wp2
          go_ret
          exact ⟨by rw [HE.out]; rfl, rfl⟩
      · have ha' : Hid ((s.data.toList.take (k + 1)).all isD = true) := all_step s k hlt ha.out hd
        simp only [isD, Bool.and_eq_true, decide_eq_true_eq] at hd
        have hb1 : ¬ (s[k].toNat : Int) < 48 := by omega
        have hb2 : ¬ 57 < (s[k].toNat : Int) := by omega
        go_wp2
        go_round
        case rel => exact ⟨k + 1, by omega, by go_num, ha'⟩
        case measure => simp [intOf]; omega
    · have e : s.data.toList.take k = s.data.toList := List.take_of_length_le (by omega)
      have HE : Hid (r = (decide (1 ≤ s.size) && decide (s.size ≤ m))) := by
        show _ = _
        rw [← HR.out]
        unfold digs
        have := ha.out
        rw [e] at this
        rw [this, hl]
        simp
      by_cases h1 : (1 : Int) ≤ (s.size : Int)
      · go_wp2
        go_ret
        refine ⟨?_, rfl⟩
        rw [HE.out]
        simp
        omega
      · go_wp2
        go_ret
        refine ⟨?_, rfl⟩
        rw [HE.out]
        simp
        omega
theorem conv50 (w : World) (z : Int) : (convert 50 9 (.slice (some ⟨w.heap.size, 0, none⟩) 1 1)).run Tryz.prog (w.alloc (.cells #[.int .u8 z] 5)) = .ok (.string ⟨#[UInt8.ofNat z.toNat]⟩) (w.alloc (.cells #[.int .u8 z] 5)) := by
  have hl : (loadCells ⟨w.heap.size, 0, none⟩ 1).run Tryz.prog (w.alloc (.cells #[.int .u8 z] 5)) = .ok (([z] : List Int).map (Value.int .u8)).toArray (w.alloc (.cells #[.int .u8 z] 5)) := by
    refine run_loadCells_list (P := Tryz.prog) _ ⟨w.heap.size, 0, none⟩ [.int .u8 z] fun j u hj => ?_
    match j, hj with
    | 0, hj =>
      cases hj
      simp only [World.cell?]
      rw [show ((⟨w.heap.size, 0, none⟩ : Addr).add 0) = ⟨w.heap.size, 0, none⟩ from rfl, heap_alloc_new]
      rfl
  rw [run_convert_bytes_string _ 50 9 5 _ 1 1 Tryz.underlying50 Tryz.underlying5 Tryz.underlying9, run_bytesToString _ _ 1 1 _ hl, foldl_push_bytes]
  rfl
theorem dec_two (m : Nat) (h : ¬ m / 10 = 0) : Lib.decDigits m = Lib.decDigits (m / 10) ++ [UInt8.ofNat (48 + m % 10)] := by
  rw [Lib.decDigits, dif_neg (by omega)]
set_option maxHeartbeats 1000000 in
theorem rDigits_any (n : Nat) (hn : n < 18446744073709551616) (w : World) :
    Calls Tryz.prog 78 #[.int .u64 n] w fun e w' => e = .returned (.string ⟨(Lib.decDigits n).toArray⟩) ∧ Below w.heap.size w w' := by
  have hlen := (dec_len 20 n (by decide) (by omega)).2
  generalize hr : (⟨(Lib.decDigits n).toArray⟩ : ByteArray) = r
  have HR : Hid ((⟨(Lib.decDigits n).toArray⟩ : ByteArray) = r) := hr
  clear hr
  go_enter Tryz.func78, Tryz.ntmps78
  go_wp2
  go_loopw [0, 3] (fun u0 u3 wr => ∃ (m : Nat) (t : ByteArray), u0 = .int .u64 m ∧ u3 = .string t ∧ m < 18446744073709551616 ∧ t.size ≤ 20 ∧ Hid (Below w.heap.size w wr ∧ ∃ L : List UInt8, t = ⟨L.toArray⟩ ∧ Lib.decDigits n = Lib.decDigits m ++ L)) (fun u0 _ _ => (intOf u0).toNat)
  case atStart => exact ⟨n, ⟨#[]⟩, rfl, rfl, hn, by decide, Below.refl _ _, [], rfl, by simp⟩
  case round =>
    obtain ⟨m, t, rfl, rfl, hm, ht, hH⟩ := hrel
    have hcv := conv50 wr (48 + (m : Int) % 10)
    have hne : Hid ((⟨#[UInt8.ofNat (48 + (m : Int) % 10).toNat]⟩ : ByteArray) ++ t = ⟨([UInt8.ofNat (48 + m % 10)] ++ (t.data.toList)).toArray⟩) := by
      show _ = _
      rw [show (48 + (m : Int) % 10).toNat = 48 + m % 10 by omega]
      exact app_mk [UInt8.ofNat (48 + m % 10)] t.data.toList
    generalize hX : (⟨#[UInt8.ofNat (48 + (m : Int) % 10).toNat]⟩ : ByteArray) = X at *
    have hXs : X.size = 1 := by rw [← hX]; rfl
    clear hX
    have hsz : (X ++ t).size ≤ 21 := by rw [ByteArray.size_append]; omega
    by_cases hz : m / 10 = 0
    · have hz' : (m : Int) / 10 = 0 := by omega
      have HE : Hid (r = X ++ t) := by
        obtain ⟨_, L, rfl, e⟩ := hH.out
        show _ = _
        rw [← HR.out, hne.out, e, Lib.decDigits_one (by omega)]
        rw [show m % 10 = m by omega]
      go_wp2
      go_ret
      exact ⟨by rw [HE.out]; rfl, hH.out.1.alloc (hH.out.1.size) _⟩
    · have hz' : ((m : Int) / 10 == 0) = false := by simp; omega
      have HL : Hid (∃ L : List UInt8, X ++ t = ⟨L.toArray⟩ ∧ Lib.decDigits n = Lib.decDigits (m / 10) ++ L) := by
        obtain ⟨_, L, rfl, e⟩ := hH.out
        refine ⟨_, hne.out, ?_⟩
        rw [e, dec_two m hz]
        simp
      have hs2 : (X ++ t).size ≤ 20 := by
        obtain ⟨L, e1, e2⟩ := HL.out
        rw [e1, size_mk]
        have := congrArg List.length e2
        simp at this
        have := (dec_len 20 (m / 10) (by decide) (by omega)).1
        omega
      go_wp2
      go_roundw
      case rel => exact ⟨m / 10, X ++ t, by go_num, rfl, by omega, hs2, hH.out.1.alloc (hH.out.1.size) _, HL.out⟩
      case measure => simp [intOf]; omega
end Go.Proofs.YtdgnodijmbeajaaGreatDoor

/- The contract of the reference's Print. -/
namespace Go.Proofs.YtdgnodijmbeajaaGreatDoor
set_option linter.unusedSimpArgs false
open Go.RowKit
set_option linter.unusedVariables false
set_option maxRecDepth 100000

def lenOf (v : Value) : Nat := match v with | .string t => t.size | _ => 0
theorem list_last (t : ByteArray) (k : Nat) (h : t.size = k + 1) : t.data.toList = t.data.toList.take k ++ [t[k]'(by omega)] := by
  have hl := size_list t
  have h1 := take_snoc t.data.toList k (by omega)
  rw [← byte_at t k (by omega) (by omega)] at h1
  rw [← h1, List.take_of_length_le (by omega)]
theorem ext_list (t : ByteArray) (k : Nat) (h : k ≤ t.size) : (t.extract 0 k).data.toList = t.data.toList.take k ∧ (t.extract 0 k).size = k := by
  have e : (t.extract 0 k).data.toList = t.data.toList.take k := by
    rw [ByteArray.data_extract]
    simp
  refine ⟨e, ?_⟩
  rw [← size_list, e, List.length_take, size_list]
  omega
theorem mk_list (t : ByteArray) : (⟨t.data.toList.toArray⟩ : ByteArray) = t := by
  cases t
  simp

set_option maxHeartbeats 1000000 in
theorem rprint_neg {n : Int} {U : Int} {A1 A2 A3 : ByteArray} {L0 : List UInt8} {w : World} (hn : -9223372036854775808 ≤ n ∧ n ≤ 9223372036854775807) (hneg : n < 0) (hU : -(n + 1) + 1 = U) (bU : 0 ≤ U ∧ U ≤ 9223372036854775808)
    (D1 : ∀ u : World, Calls Tryz.prog 78 #[.int .u64 (U / 10000)] u fun e w' => e = .returned (.string A1) ∧ Below u.heap.size u w')
    (D2 : ∀ u : World, Calls Tryz.prog 78 #[.int .u64 (U % 10000 + 10000)] u fun e w' => e = .returned (.string A2) ∧ Below u.heap.size u w')
    (hs1 : A1.size ≤ 20) (h5 : A2.size = 5) (hA3 : A2.extract 1 5 = A3) (h3 : A3.size = 4) (hL : Hid (A3.data.toList = L0)) (hs2 : ((⟨#[45]⟩ : ByteArray) ++ A1).size ≤ 21) :
    Calls Tryz.prog 46 #[.int .i64 n] w fun e w' => e = .returned (.string (((⟨#[45]⟩ : ByteArray) ++ A1) ++ ⟨(if (Lib.trimRightB L0 48) = [] then [] else 46 :: Lib.trimRightB L0 48).toArray⟩)) ∧ Below w.heap.size w w' := by
  generalize hX : (((⟨#[45]⟩ : ByteArray) ++ A1) ++ ⟨(if (Lib.trimRightB L0 48) = [] then [] else 46 :: Lib.trimRightB L0 48).toArray⟩) = X
  have HX : Hid (((⟨#[45]⟩ : ByteArray) ++ A1) ++ ⟨(if (Lib.trimRightB L0 48) = [] then [] else 46 :: Lib.trimRightB L0 48).toArray⟩ = X) := hX
  clear hX
  have hone : ∀ b : UInt8, (⟨#[b]⟩ : ByteArray).size = 1 := fun _ => rfl
  go_enter Tryz.func46, Tryz.ntmps46
  go_wp2_with fail
  refine (D1 _).mono ?_
  rintro e w1 ⟨rfl, hb1⟩
  have HB1 : Hid (Below w.heap.size w w1) := hb1
  clear hb1
  go_wp2_with fail
  refine (D2 _).mono ?_
  rintro e w2 ⟨rfl, hb2⟩
  have HB2 : Hid (Below w.heap.size w w2) := HB1.out.trans (hb2.mono HB1.out.size)
  clear hb2
  go_wp2
  go_loop [6] (fun u6 => ∃ t : ByteArray, u6 = .string t ∧ t.size ≤ 4 ∧ Hid (Lib.trimRightB t.data.toList 48 = Lib.trimRightB L0 48)) (fun u6 => lenOf u6)
  case atStart => exact ⟨A3, rfl, by omega, by rw [hL.out]; rfl⟩
  case round =>
    obtain ⟨t, rfl, ht, hH⟩ := hrel
    by_cases h0 : t.size = 0
    · have ht0 : t = ⟨#[]⟩ := by
        have := size_list t
        rw [h0] at this
        have e := List.eq_nil_of_length_eq_zero this
        rw [← mk_list t, e]
      subst ht0
      have HE : Hid (X = ((⟨#[45]⟩ : ByteArray) ++ A1)) := by
        show _ = _
        rw [← HX.out, ← hH.out]
        show ((⟨#[45]⟩ : ByteArray) ++ A1) ++ ⟨(if Lib.trimRightB [] 48 = [] then [] else 46 :: Lib.trimRightB [] 48).toArray⟩ = _
        rw [trim_nil, if_pos rfl]
        rw [← mk_list ((⟨#[45]⟩ : ByteArray) ++ A1)]
        exact (app_mk _ []).trans (by simp)
      go_wp2
      go_ret
      exact ⟨by rw [HE.out]; rfl, HB2.out⟩
    · obtain ⟨k, hk⟩ : ∃ k, t.size = k + 1 := ⟨t.size - 1, by omega⟩
      have hp : (0 : Int) < (t.size : Int) := by omega
      have hlast := list_last t k hk
      by_cases hb : (t[k]'(by omega)).toNat = 48
      · have hb' : ((((t[k]'(by omega)).toNat : Nat) : Int) == 48) = true := by simp [hb]
        have ex := ext_list t k (by omega)
        have HN : Hid (Lib.trimRightB (t.extract 0 k).data.toList 48 = Lib.trimRightB L0 48) := by
          show _ = _
          rw [← hH.out, hlast, trim_cons_end, if_pos (by apply UInt8.toNat_inj.1; rw [hb]; rfl), ex.1]
        clear hlast
        go_wp2
        go_round
        case rel => exact ⟨t.extract 0 k, rfl, by omega, HN.out⟩
        case measure => simp [lenOf]; omega
      · have hb' : ((((t[k]'(by omega)).toNat : Nat) : Int) == 48) = false := by simp; omega
        have htr : Lib.trimRightB L0 48 = t.data.toList := by
          rw [← hH.out]
          conv => lhs; rw [hlast]
          rw [trim_cons_end, if_neg (by intro e; rw [e] at hb; exact hb rfl)]
          exact hlast.symm
        have HE : Hid (X = ((⟨#[45]⟩ : ByteArray) ++ A1) ++ ((⟨#[46]⟩ : ByteArray) ++ t)) := by
          show _ = _
          rw [← HX.out, htr, if_neg (by intro e; have := size_list t; rw [e] at this; simp at this; omega)]
          have := app_mk [46] t.data.toList
          rw [mk_list] at this
          rw [show (⟨#[46]⟩ : ByteArray) = ⟨([46] : List UInt8).toArray⟩ from rfl, this]
          rfl
        have hte : t.toList ≠ [] := by
          intro e
          have := size_list t
          rw [← Lib.toList_data, e] at this
          exact h0 this.symm
        have hs6 : ((⟨#[46]⟩ : ByteArray) ++ t).size ≤ 5 := by rw [ByteArray.size_append, hone]; omega
        clear hlast htr
        go_wp2
        · go_ret
          exact ⟨by rw [HE.out]; rfl, HB2.out⟩
        · rename_i hbad
          exact absurd hbad (by simp [hte])
set_option maxHeartbeats 1000000 in
theorem rprint_pos {n : Int} {U : Int} {A1 A2 A3 : ByteArray} {L0 : List UInt8} {w : World} (hn : -9223372036854775808 ≤ n ∧ n ≤ 9223372036854775807) (hneg : ¬ n < 0) (hU : n = U) (bU : 0 ≤ U ∧ U ≤ 9223372036854775808)
    (D1 : ∀ u : World, Calls Tryz.prog 78 #[.int .u64 (U / 10000)] u fun e w' => e = .returned (.string A1) ∧ Below u.heap.size u w')
    (D2 : ∀ u : World, Calls Tryz.prog 78 #[.int .u64 (U % 10000 + 10000)] u fun e w' => e = .returned (.string A2) ∧ Below u.heap.size u w')
    (hs1 : A1.size ≤ 20) (h5 : A2.size = 5) (hA3 : A2.extract 1 5 = A3) (h3 : A3.size = 4) (hL : Hid (A3.data.toList = L0)) (hs2 : ((⟨#[45]⟩ : ByteArray) ++ A1).size ≤ 21) :
    Calls Tryz.prog 46 #[.int .i64 n] w fun e w' => e = .returned (.string (A1 ++ ⟨(if (Lib.trimRightB L0 48) = [] then [] else 46 :: Lib.trimRightB L0 48).toArray⟩)) ∧ Below w.heap.size w w' := by
  subst hU
  generalize hX : (A1 ++ ⟨(if (Lib.trimRightB L0 48) = [] then [] else 46 :: Lib.trimRightB L0 48).toArray⟩) = X
  have HX : Hid (A1 ++ ⟨(if (Lib.trimRightB L0 48) = [] then [] else 46 :: Lib.trimRightB L0 48).toArray⟩ = X) := hX
  clear hX
  have hone : ∀ b : UInt8, (⟨#[b]⟩ : ByteArray).size = 1 := fun _ => rfl
  go_enter Tryz.func46, Tryz.ntmps46
  go_wp2_with fail
  refine (D1 _).mono ?_
  rintro e w1 ⟨rfl, hb1⟩
  have HB1 : Hid (Below w.heap.size w w1) := hb1
  clear hb1
  go_wp2_with fail
  refine (D2 _).mono ?_
  rintro e w2 ⟨rfl, hb2⟩
  have HB2 : Hid (Below w.heap.size w w2) := HB1.out.trans (hb2.mono HB1.out.size)
  clear hb2
  go_wp2
  go_loop [6] (fun u6 => ∃ t : ByteArray, u6 = .string t ∧ t.size ≤ 4 ∧ Hid (Lib.trimRightB t.data.toList 48 = Lib.trimRightB L0 48)) (fun u6 => lenOf u6)
  case atStart => exact ⟨A3, rfl, by omega, by rw [hL.out]; rfl⟩
  case round =>
    obtain ⟨t, rfl, ht, hH⟩ := hrel
    by_cases h0 : t.size = 0
    · have ht0 : t = ⟨#[]⟩ := by
        have := size_list t
        rw [h0] at this
        have e := List.eq_nil_of_length_eq_zero this
        rw [← mk_list t, e]
      subst ht0
      have HE : Hid (X = A1) := by
        show _ = _
        rw [← HX.out, ← hH.out]
        show A1 ++ ⟨(if Lib.trimRightB [] 48 = [] then [] else 46 :: Lib.trimRightB [] 48).toArray⟩ = _
        rw [trim_nil, if_pos rfl]
        rw [← mk_list A1]
        exact (app_mk _ []).trans (by simp)
      go_wp2
      go_ret
      exact ⟨by rw [HE.out]; rfl, HB2.out⟩
    · obtain ⟨k, hk⟩ : ∃ k, t.size = k + 1 := ⟨t.size - 1, by omega⟩
      have hp : (0 : Int) < (t.size : Int) := by omega
      have hlast := list_last t k hk
      by_cases hb : (t[k]'(by omega)).toNat = 48
      · have hb' : ((((t[k]'(by omega)).toNat : Nat) : Int) == 48) = true := by simp [hb]
        have ex := ext_list t k (by omega)
        have HN : Hid (Lib.trimRightB (t.extract 0 k).data.toList 48 = Lib.trimRightB L0 48) := by
          show _ = _
          rw [← hH.out, hlast, trim_cons_end, if_pos (by apply UInt8.toNat_inj.1; rw [hb]; rfl), ex.1]
        clear hlast
        go_wp2
        go_round
        case rel => exact ⟨t.extract 0 k, rfl, by omega, HN.out⟩
        case measure => simp [lenOf]; omega
      · have hb' : ((((t[k]'(by omega)).toNat : Nat) : Int) == 48) = false := by simp; omega
        have htr : Lib.trimRightB L0 48 = t.data.toList := by
          rw [← hH.out]
          conv => lhs; rw [hlast]
          rw [trim_cons_end, if_neg (by intro e; rw [e] at hb; exact hb rfl)]
          exact hlast.symm
        have HE : Hid (X = A1 ++ ((⟨#[46]⟩ : ByteArray) ++ t)) := by
          show _ = _
          rw [← HX.out, htr, if_neg (by intro e; have := size_list t; rw [e] at this; simp at this; omega)]
          have := app_mk [46] t.data.toList
          rw [mk_list] at this
          rw [show (⟨#[46]⟩ : ByteArray) = ⟨([46] : List UInt8).toArray⟩ from rfl, this]
          rfl
        have hte : t.toList ≠ [] := by
          intro e
          have := size_list t
          rw [← Lib.toList_data, e] at this
          exact h0 this.symm
        have hs6 : ((⟨#[46]⟩ : ByteArray) ++ t).size ≤ 5 := by rw [ByteArray.size_append, hone]; omega
        clear hlast htr
        go_wp2
        · go_ret
          exact ⟨by rw [HE.out]; rfl, HB2.out⟩
        · rename_i hbad
          exact absurd hbad (by simp [hte])
end Go.Proofs.YtdgnodijmbeajaaGreatDoor

/- The contract of the reference's Print, whole. -/
namespace Go.Proofs.YtdgnodijmbeajaaGreatDoor
set_option linter.unusedSimpArgs false
open Go.RowKit
set_option linter.unusedVariables false
set_option maxRecDepth 100000

theorem tail_empty (r : Nat) (h : r < 10000) : (tailP r = []) ↔ r = 0 := by
  constructor
  · intro e
    by_cases h0 : r = 0
    · exact h0
    · have := ((digs_iff _ _ _).1 (tail_facts r h h0).1).2.1
      rw [e] at this
      simp at this
  · rintro rfl
    exact tail_zero
theorem rprint_any (n : Int) (hn : -9223372036854775808 ≤ n ∧ n ≤ 9223372036854775807) (w : World) :
    Calls Tryz.prog 46 #[.int .i64 n] w fun e w' => e = .returned (.string ⟨(printF n).toArray⟩) ∧ Below w.heap.size w w' := by
  have hQ : n.natAbs / 10000 ≤ 922337203685477 := by omega
  have hR : n.natAbs % 10000 < 10000 := by omega
  have D1 := fun u => rDigits_any (n.natAbs / 10000) (by omega) u
  have D2 := fun u => rDigits_any (10000 + n.natAbs % 10000) (by omega) u
  rw [show ((n.natAbs / 10000 : Nat) : Int) = (n.natAbs : Int) / 10000 by omega] at D1
  rw [show ((10000 + n.natAbs % 10000 : Nat) : Int) = (n.natAbs : Int) % 10000 + 10000 by omega] at D2
  have l1 := (dec_len 15 (n.natAbs / 10000) (by decide) (by omega)).2
  have d5 := dec_five (n.natAbs % 10000) hR
  have l5 : (Lib.decDigits (10000 + n.natAbs % 10000)).length = 5 := by rw [d5]; rfl
  have te := tail_empty (n.natAbs % 10000) hR
  have h3 : (⟨((Lib.decDigits (10000 + n.natAbs % 10000)).drop 1).toArray⟩ : ByteArray).size = 4 := by rw [size_mk, List.length_drop, l5]
  have hA : (⟨(Lib.decDigits (10000 + n.natAbs % 10000)).toArray⟩ : ByteArray).extract 1 5 = ⟨((Lib.decDigits (10000 + n.natAbs % 10000)).drop 1).toArray⟩ := by
    have := drop_mk (Lib.decDigits (10000 + n.natAbs % 10000))
    rw [size_mk, l5] at this
    exact this
  have hs2 : ((⟨#[45]⟩ : ByteArray) ++ ⟨(Lib.decDigits (n.natAbs / 10000)).toArray⟩).size ≤ 21 := by
    rw [show (⟨#[45]⟩ : ByteArray) = ⟨([45] : List UInt8).toArray⟩ from rfl, app_mk, size_mk]; simp; omega
  have ht : Lib.trimRightB ((Lib.decDigits (10000 + n.natAbs % 10000)).drop 1) 48 = tailP (n.natAbs % 10000) := rfl
  by_cases hneg : n < 0
  · have h := rprint_neg (w := w) (U := n.natAbs) (L0 := (Lib.decDigits (10000 + n.natAbs % 10000)).drop 1) hn hneg (by omega) (by omega) D1 D2 (by rw [size_mk]; omega) (by rw [size_mk]; exact l5) hA h3 rfl hs2
    rw [ht] at h
    refine h.mono ?_
    rintro e w' ⟨rfl, hb⟩
    refine ⟨?_, hb⟩
    congr 2
    rw [show (⟨#[45]⟩ : ByteArray) = ⟨([45] : List UInt8).toArray⟩ from rfl, app_mk, app_mk]
    unfold printF
    rw [if_pos hneg]
    by_cases h0 : n.natAbs % 10000 = 0
    · rw [if_pos (te.2 h0), if_pos h0]
    · rw [if_neg (fun h => h0 (te.1 h)), if_neg h0]
  · have h := rprint_pos (w := w) (U := n.natAbs) (L0 := (Lib.decDigits (10000 + n.natAbs % 10000)).drop 1) hn hneg (by omega) (by omega) D1 D2 (by rw [size_mk]; omega) (by rw [size_mk]; exact l5) hA h3 rfl hs2
    rw [ht] at h
    refine h.mono ?_
    rintro e w' ⟨rfl, hb⟩
    refine ⟨?_, hb⟩
    congr 2
    rw [app_mk]
    unfold printF
    rw [if_neg hneg]
    by_cases h0 : n.natAbs % 10000 = 0
    · rw [if_pos (te.2 h0), if_pos h0]; rfl
    · rw [if_neg (fun h => h0 (te.1 h)), if_neg h0]; rfl
end Go.Proofs.YtdgnodijmbeajaaGreatDoor
