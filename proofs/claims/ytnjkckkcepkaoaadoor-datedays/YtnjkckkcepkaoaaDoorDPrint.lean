/- The contracts of twoDigits and Print. -/
import Derived.Test.YtnjkckkcepkaoaaDoorDStr
namespace Go.Proofs.YtnjkckkcepkaoaaDoor
open Go.RowKit
set_option linter.unusedVariables false
set_option maxRecDepth 100000

theorem one_lt (b : UInt8) : (⟨#[b]⟩ : ByteArray).size = 1 := rfl
theorem one_mk (b : UInt8) : (⟨#[b]⟩ : ByteArray) = ⟨([b] : List UInt8).toArray⟩ := rfl
set_option maxHeartbeats 1000000 in
theorem twod_any (n : Nat) (hn : n < 100) (w : World) : Calls Tryd.prog 39 #[.int .i64 n] w fun e w' => e = .returned (.string ⟨(pad2 n).toArray⟩) ∧ w' = w := by
  have I := fun u => Tryd.strconv_Itoa_small n hn u
  by_cases h : n < 10
  · have hX : Hid ((⟨(pad2 n).toArray⟩ : ByteArray) = ⟨#[48]⟩ ++ ⟨(Lib.decDigits n).toArray⟩) := by
      show _ = _
      rw [one_mk, app_mk]
      unfold pad2
      rw [if_pos h]
      rfl
    have hl : (⟨(Lib.decDigits n).toArray⟩ : ByteArray).size ≤ 2 := by rw [size_mk]; exact (dec_len 2 n (by omega) (by omega)).2
    generalize (⟨(Lib.decDigits n).toArray⟩ : ByteArray) = A at *
    generalize (⟨(pad2 n).toArray⟩ : ByteArray) = X at *
    have h' : (n : Int) < 10 := by omega
    have o1 := one_lt 48
    go_enter Tryd.func39, Tryd.ntmps39
    go_wp2_with (go_at_call 38; refine (I _).mono ?_; rintro e w' ⟨rfl, hw⟩; obtain rfl := hw.symm; clear hw)
    go_ret
    exact ⟨by rw [hX.out]; rfl, rfl⟩
  · have hX : Hid ((⟨(pad2 n).toArray⟩ : ByteArray) = ⟨(Lib.decDigits n).toArray⟩) := by
      show _ = _
      unfold pad2
      rw [if_neg h]
    generalize (⟨(Lib.decDigits n).toArray⟩ : ByteArray) = A at *
    generalize (⟨(pad2 n).toArray⟩ : ByteArray) = X at *
    have h' : ¬ (n : Int) < 10 := by omega
    go_enter Tryd.func39, Tryd.ntmps39
    go_wp2_with (go_at_call 38; refine (I _).mono ?_; rintro e w' ⟨rfl, hw⟩; obtain rfl := hw.symm; clear hw)
    go_ret
    exact ⟨by rw [hX.out]; rfl, rfl⟩
set_option maxHeartbeats 1000000 in
theorem print_no {day : Int} (hg : goodD day = false) (w : World) : Calls Tryd.prog 27 #[.int .i64 day] w fun e w' => e = .returned (.string ⟨#[]⟩) ∧ w' = w := by
  have P := fun u => parts_no hg u
  unfold four at P
  go_enter Tryd.func27, Tryd.ntmps27
  go_wp2_with (go_at_call 17; refine (P _).mono ?_; rintro e w' ⟨rfl, hw⟩; obtain rfl := hw.symm; clear hw)
  go_ret
  exact ⟨rfl, rfl⟩
theorem last31 (y m : Int) : Cal.last y m ≤ 31 := (Cal.last_le y m).2
set_option maxHeartbeats 1000000 in
theorem print_core {day Y M D : Int} {A1 A2 A3 : ByteArray} {w : World} (T : PTab w)
    (P : ∀ u : World, Calls Tryd.prog 17 #[.int .i64 day] u fun e w' => e = .returned (.tuple #[.int .i64 Y, .int .i64 M, .int .i64 D, .bool true]) ∧ w' = u)
    (I : ∀ u : World, PTab u → Calls Tryd.prog 38 #[.int .i64 Y] u fun e w' => e = .returned (.string A1) ∧ Below u.heap.size u w')
    (T2 : ∀ u : World, Calls Tryd.prog 39 #[.int .i64 M] u fun e w' => e = .returned (.string A2) ∧ w' = u)
    (T3 : ∀ u : World, Calls Tryd.prog 39 #[.int .i64 D] u fun e w' => e = .returned (.string A3) ∧ w' = u)
    (h1 : A1.size ≤ 4) (h2 : A2.size ≤ 2) (h3 : A3.size ≤ 2) (ho : (⟨#[45]⟩ : ByteArray).size = 1) :
    Calls Tryd.prog 27 #[.int .i64 day] w fun e w' => e = .returned (.string (A1 ++ ⟨#[45]⟩ ++ A2 ++ ⟨#[45]⟩ ++ A3)) ∧ Below w.heap.size w w' := by
  have HT : Hid (PTab w) := T
  clear T
  have e1 : (A1 ++ ⟨#[45]⟩).size ≤ 5 := by rw [ByteArray.size_append]; omega
  have e2 : (A1 ++ ⟨#[45]⟩ ++ A2).size ≤ 7 := by rw [ByteArray.size_append]; omega
  have e3 : (A1 ++ ⟨#[45]⟩ ++ A2 ++ ⟨#[45]⟩).size ≤ 8 := by rw [ByteArray.size_append]; omega
  go_enter Tryd.func27, Tryd.ntmps27
  go_wp2_with fail
  refine (P _).mono ?_
  rintro e w' ⟨rfl, hw⟩
  obtain rfl := hw.symm
  clear hw
  go_wp2_with fail
  refine (I _ HT.out).mono ?_
  rintro e w1 ⟨rfl, hb1⟩
  have HB1 : Hid _ := hb1
  clear hb1
  go_wp2_with fail
  refine (T2 _).mono ?_
  rintro e w' ⟨rfl, hw⟩
  obtain rfl := hw.symm
  clear hw
  go_wp2_with fail
  refine (T3 _).mono ?_
  rintro e w' ⟨rfl, hw⟩
  obtain rfl := hw.symm
  clear hw
  go_wp2
  go_ret
  exact ⟨rfl, HB1.out⟩
theorem printD_mk (y m d : Nat) : ((⟨(Lib.decDigits y).toArray⟩ : ByteArray) ++ ⟨#[45]⟩ ++ ⟨(pad2 m).toArray⟩ ++ ⟨#[45]⟩ ++ ⟨(pad2 d).toArray⟩) = ⟨(printD y m d).toArray⟩ := by
  rw [one_mk, app_mk, app_mk, app_mk, app_mk]
  rfl
/-- A day's date in letters that are not negative. -/
theorem date_nat {Y M D day : Int} (h : Cal.IsDate Y M D day) : ∃ y m d : Nat, Y = y ∧ M = m ∧ D = d ∧ 1900 ≤ y ∧ y ≤ 9999 ∧ 1 ≤ m ∧ m ≤ 12 ∧ 1 ≤ d ∧ d ≤ 31 := by
  have a := h.y1; have b := h.y2; have c := h.m1; have d := h.m2; have e := h.d1; have f := h.d2
  have g := last31 Y M
  exact ⟨Y.toNat, M.toNat, D.toNat, by omega, by omega, by omega, by omega, by omega, by omega, by omega, by omega, by omega⟩
theorem print_yes {day : Int} {y m d : Nat} (h : Cal.IsDate y m d day) (w : World) (T : PTab w) : Calls Tryd.prog 27 #[.int .i64 day] w fun e w' => e = .returned (.string ⟨(printD y m d).toArray⟩) ∧ Below w.heap.size w w' := by
  have a := h.y1; have b := h.y2; have c := h.m1; have e := h.m2; have f := h.d1; have g := h.d2
  have k := last31 (y : Int) (m : Int)
  rw [← printD_mk]
  refine print_core (Y := y) (M := m) (D := d) T (fun u => parts_yes h u) (fun u hu => itoa_any y (by omega) u hu) (fun u => twod_any m (by omega) u) (fun u => twod_any d (by omega) u) ?_ ?_ ?_ rfl
  · rw [size_mk, dec_len4 y (by omega) (by omega)]; omega
  · rw [size_mk, pad2_len m (by omega)]; omega
  · rw [size_mk, pad2_len d (by omega)]; omega
end Go.Proofs.YtnjkckkcepkaoaaDoor
