/- The contract of the reference's Print. -/
import Derived.Test.YtelpllilepkjmaaDoorNRDig
namespace Go.Proofs.YtelpllilepkjmaaDoor
open Go.RowKit
set_option linter.unusedSimpArgs false
set_option linter.unusedVariables false
set_option maxRecDepth 100000

def lenOf (v : Value) : Nat := match v with | .string t => t.size | _ => 0
theorem list_last (t : ByteArray) (k : Nat) (h : t.size = k + 1) : t.data.toList = t.data.toList.take k ++ [t[k]'(by omega)] := by
  have hl := size_list t
  have h1 := take_snoc t.data.toList k (by omega)
  rw [← byte_at t k (by omega) (by omega)] at h1
  rw [← h1, List.take_of_length_le (by omega)]
theorem ext_list (t : ByteArray) (k : Nat) (h : k ≤ t.size) : (t.extract 0 k).data.toList = t.data.toList.take k ∧ (t.extract 0 k).size = k := by
  have e : (t.extract 0 k).data.toList = t.data.toList.take k := by
    rw [ByteArray.data_extract]
    simp
  refine ⟨e, ?_⟩
  rw [← size_list, e, List.length_take, size_list]
  omega
theorem mk_list (t : ByteArray) : (⟨t.data.toList.toArray⟩ : ByteArray) = t := by
  cases t
  simp

set_option maxHeartbeats 1000000 in
theorem rprint_neg {n : Int} {U : Int} {A1 A2 A3 : ByteArray} {L0 : List UInt8} {w : World} (hn : -9223372036854775808 ≤ n ∧ n ≤ 9223372036854775807) (hneg : n < 0) (hU : -(n + 1) + 1 = U) (bU : 0 ≤ U ∧ U ≤ 9223372036854775808)
    (D1 : ∀ u : World, Calls Tryd.prog 70 #[.int .u64 (U / 10000)] u fun e w' => e = .returned (.string A1) ∧ Below u.heap.size u w')
    (D2 : ∀ u : World, Calls Tryd.prog 70 #[.int .u64 (U % 10000 + 10000)] u fun e w' => e = .returned (.string A2) ∧ Below u.heap.size u w')
    (hs1 : A1.size ≤ 20) (h5 : A2.size = 5) (hA3 : A2.extract 1 5 = A3) (h3 : A3.size = 4) (hL : Hid (A3.data.toList = L0)) (hs2 : ((⟨#[45]⟩ : ByteArray) ++ A1).size ≤ 21) :
    Calls Tryd.prog 47 #[.int .i64 n] w fun e w' => e = .returned (.string (((⟨#[45]⟩ : ByteArray) ++ A1) ++ ⟨(if (Lib.trimRightB L0 48) = [] then [] else 46 :: Lib.trimRightB L0 48).toArray⟩)) ∧ Below w.heap.size w w' := by
  generalize hX : (((⟨#[45]⟩ : ByteArray) ++ A1) ++ ⟨(if (Lib.trimRightB L0 48) = [] then [] else 46 :: Lib.trimRightB L0 48).toArray⟩) = X
  have HX : Hid (((⟨#[45]⟩ : ByteArray) ++ A1) ++ ⟨(if (Lib.trimRightB L0 48) = [] then [] else 46 :: Lib.trimRightB L0 48).toArray⟩ = X) := hX
  clear hX
  have hone : ∀ b : UInt8, (⟨#[b]⟩ : ByteArray).size = 1 := fun _ => rfl
  go_enter Tryd.func47, Tryd.ntmps47
  go_wp2_with fail
  refine (D1 _).mono ?_
  rintro e w1 ⟨rfl, hb1⟩
  have HB1 : Hid (Below w.heap.size w w1) := hb1
  clear hb1
  go_wp2_with fail
  refine (D2 _).mono ?_
  rintro e w2 ⟨rfl, hb2⟩
  have HB2 : Hid (Below w.heap.size w w2) := HB1.out.trans (hb2.mono HB1.out.size)
  clear hb2
  go_wp2
  go_loop [6] (fun u6 => ∃ t : ByteArray, u6 = .string t ∧ t.size ≤ 4 ∧ Hid (Lib.trimRightB t.data.toList 48 = Lib.trimRightB L0 48)) (fun u6 => lenOf u6)
  case atStart => exact ⟨A3, rfl, by omega, by rw [hL.out]; rfl⟩
  case round =>
    obtain ⟨t, rfl, ht, hH⟩ := hrel
    by_cases h0 : t.size = 0
    · have ht0 : t = ⟨#[]⟩ := by
        have := size_list t
        rw [h0] at this
        have e := List.eq_nil_of_length_eq_zero this
        rw [← mk_list t, e]
      subst ht0
      have HE : Hid (X = ((⟨#[45]⟩ : ByteArray) ++ A1)) := by
        show _ = _
        rw [← HX.out, ← hH.out]
        show ((⟨#[45]⟩ : ByteArray) ++ A1) ++ ⟨(if Lib.trimRightB [] 48 = [] then [] else 46 :: Lib.trimRightB [] 48).toArray⟩ = _
        rw [trim_nil, if_pos rfl]
        rw [← mk_list ((⟨#[45]⟩ : ByteArray) ++ A1)]
        exact (app_mk _ []).trans (by simp)
      go_wp2
      go_ret
      exact ⟨by rw [HE.out]; rfl, HB2.out⟩
    · obtain ⟨k, hk⟩ : ∃ k, t.size = k + 1 := ⟨t.size - 1, by omega⟩
      have hp : (0 : Int) < (t.size : Int) := by omega
      have hlast := list_last t k hk
      by_cases hb : (t[k]'(by omega)).toNat = 48
      · have hb' : ((((t[k]'(by omega)).toNat : Nat) : Int) == 48) = true := by simp [hb]
        have ex := ext_list t k (by omega)
        have HN : Hid (Lib.trimRightB (t.extract 0 k).data.toList 48 = Lib.trimRightB L0 48) := by
          show _ = _
          rw [← hH.out, hlast, trim_cons_end, if_pos (by apply UInt8.toNat_inj.1; rw [hb]; rfl), ex.1]
        clear hlast
        go_wp2
        go_round
        case rel => exact ⟨t.extract 0 k, rfl, by omega, HN.out⟩
        case measure => simp [lenOf]; omega
      · have hb' : ((((t[k]'(by omega)).toNat : Nat) : Int) == 48) = false := by simp; omega
        have htr : Lib.trimRightB L0 48 = t.data.toList := by
          rw [← hH.out]
          conv => lhs; rw [hlast]
          rw [trim_cons_end, if_neg (by intro e; rw [e] at hb; exact hb rfl)]
          exact hlast.symm
        have HE : Hid (X = ((⟨#[45]⟩ : ByteArray) ++ A1) ++ ((⟨#[46]⟩ : ByteArray) ++ t)) := by
          show _ = _
          rw [← HX.out, htr, if_neg (by intro e; have := size_list t; rw [e] at this; simp at this; omega)]
          have := app_mk [46] t.data.toList
          rw [mk_list] at this
          rw [show (⟨#[46]⟩ : ByteArray) = ⟨([46] : List UInt8).toArray⟩ from rfl, this]
          rfl
        have hte : t.toList ≠ [] := by
          intro e
          have := size_list t
          rw [← Lib.toList_data, e] at this
          exact h0 this.symm
        have hs6 : ((⟨#[46]⟩ : ByteArray) ++ t).size ≤ 5 := by rw [ByteArray.size_append, hone]; omega
        clear hlast htr
        go_wp2
        · go_ret
          exact ⟨by rw [HE.out]; rfl, HB2.out⟩
        · rename_i hbad
          exact absurd hbad (by simp [hte])
set_option maxHeartbeats 1000000 in
theorem rprint_pos {n : Int} {U : Int} {A1 A2 A3 : ByteArray} {L0 : List UInt8} {w : World} (hn : -9223372036854775808 ≤ n ∧ n ≤ 9223372036854775807) (hneg : ¬ n < 0) (hU : n = U) (bU : 0 ≤ U ∧ U ≤ 9223372036854775808)
    (D1 : ∀ u : World, Calls Tryd.prog 70 #[.int .u64 (U / 10000)] u fun e w' => e = .returned (.string A1) ∧ Below u.heap.size u w')
    (D2 : ∀ u : World, Calls Tryd.prog 70 #[.int .u64 (U % 10000 + 10000)] u fun e w' => e = .returned (.string A2) ∧ Below u.heap.size u w')
    (hs1 : A1.size ≤ 20) (h5 : A2.size = 5) (hA3 : A2.extract 1 5 = A3) (h3 : A3.size = 4) (hL : Hid (A3.data.toList = L0)) (hs2 : ((⟨#[45]⟩ : ByteArray) ++ A1).size ≤ 21) :
    Calls Tryd.prog 47 #[.int .i64 n] w fun e w' => e = .returned (.string (A1 ++ ⟨(if (Lib.trimRightB L0 48) = [] then [] else 46 :: Lib.trimRightB L0 48).toArray⟩)) ∧ Below w.heap.size w w' := by
  subst hU
  generalize hX : (A1 ++ ⟨(if (Lib.trimRightB L0 48) = [] then [] else 46 :: Lib.trimRightB L0 48).toArray⟩) = X
  have HX : Hid (A1 ++ ⟨(if (Lib.trimRightB L0 48) = [] then [] else 46 :: Lib.trimRightB L0 48).toArray⟩ = X) := hX
  clear hX
  have hone : ∀ b : UInt8, (⟨#[b]⟩ : ByteArray).size = 1 := fun _ => rfl
  go_enter Tryd.func47, Tryd.ntmps47
  go_wp2_with fail
  refine (D1 _).mono ?_
  rintro e w1 ⟨rfl, hb1⟩
  have HB1 : Hid (Below w.heap.size w w1) := hb1
  clear hb1
  go_wp2_with fail
  refine (D2 _).mono ?_
  rintro e w2 ⟨rfl, hb2⟩
  have HB2 : Hid (Below w.heap.size w w2) := HB1.out.trans (hb2.mono HB1.out.size)
  clear hb2
  go_wp2
  go_loop [6] (fun u6 => ∃ t : ByteArray, u6 = .string t ∧ t.size ≤ 4 ∧ Hid (Lib.trimRightB t.data.toList 48 = Lib.trimRightB L0 48)) (fun u6 => lenOf u6)
  case atStart => exact ⟨A3, rfl, by omega, by rw [hL.out]; rfl⟩
  case round =>
    obtain ⟨t, rfl, ht, hH⟩ := hrel
    by_cases h0 : t.size = 0
    · have ht0 : t = ⟨#[]⟩ := by
        have := size_list t
        rw [h0] at this
        have e := List.eq_nil_of_length_eq_zero this
        rw [← mk_list t, e]
      subst ht0
      have HE : Hid (X = A1) := by
        show _ = _
        rw [← HX.out, ← hH.out]
        show A1 ++ ⟨(if Lib.trimRightB [] 48 = [] then [] else 46 :: Lib.trimRightB [] 48).toArray⟩ = _
        rw [trim_nil, if_pos rfl]
        rw [← mk_list A1]
        exact (app_mk _ []).trans (by simp)
      go_wp2
      go_ret
      exact ⟨by rw [HE.out]; rfl, HB2.out⟩
    · obtain ⟨k, hk⟩ : ∃ k, t.size = k + 1 := ⟨t.size - 1, by omega⟩
      have hp : (0 : Int) < (t.size : Int) := by omega
      have hlast := list_last t k hk
      by_cases hb : (t[k]'(by omega)).toNat = 48
      · have hb' : ((((t[k]'(by omega)).toNat : Nat) : Int) == 48) = true := by simp [hb]
        have ex := ext_list t k (by omega)
        have HN : Hid (Lib.trimRightB (t.extract 0 k).data.toList 48 = Lib.trimRightB L0 48) := by
          show _ = _
          rw [← hH.out, hlast, trim_cons_end, if_pos (by apply UInt8.toNat_inj.1; rw [hb]; rfl), ex.1]
        clear hlast
        go_wp2
        go_round
        case rel => exact ⟨t.extract 0 k, rfl, by omega, HN.out⟩
        case measure => simp [lenOf]; omega
      · have hb' : ((((t[k]'(by omega)).toNat : Nat) : Int) == 48) = false := by simp; omega
        have htr : Lib.trimRightB L0 48 = t.data.toList := by
          rw [← hH.out]
          conv => lhs; rw [hlast]
          rw [trim_cons_end, if_neg (by intro e; rw [e] at hb; exact hb rfl)]
          exact hlast.symm
        have HE : Hid (X = A1 ++ ((⟨#[46]⟩ : ByteArray) ++ t)) := by
          show _ = _
          rw [← HX.out, htr, if_neg (by intro e; have := size_list t; rw [e] at this; simp at this; omega)]
          have := app_mk [46] t.data.toList
          rw [mk_list] at this
          rw [show (⟨#[46]⟩ : ByteArray) = ⟨([46] : List UInt8).toArray⟩ from rfl, this]
          rfl
        have hte : t.toList ≠ [] := by
          intro e
          have := size_list t
          rw [← Lib.toList_data, e] at this
          exact h0 this.symm
        have hs6 : ((⟨#[46]⟩ : ByteArray) ++ t).size ≤ 5 := by rw [ByteArray.size_append, hone]; omega
        clear hlast htr
        go_wp2
        · go_ret
          exact ⟨by rw [HE.out]; rfl, HB2.out⟩
        · rename_i hbad
          exact absurd hbad (by simp [hte])
end Go.Proofs.YtelpllilepkjmaaDoor
