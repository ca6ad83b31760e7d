/- The contracts of Parse, of both, for every text; what is printed is parsed. -/
import Derived.Test.YtnjkckkcepkaoaaDoorDParse
namespace Go.Proofs.YtnjkckkcepkaoaaDoor
open Go.RowKit
set_option linter.unusedVariables false
set_option maxRecDepth 100000

theorem byte_ne {a : UInt8} (h : ¬ a.toNat = 45) : ((a.toNat : Int) == 45) = false := by simp; omega
set_option maxHeartbeats 1000000 in
theorem parse_len {s : ByteArray} (hs : s.size ≤ 9223372036854775807) (h10 : ¬ s.size = 10) (w : World) : Calls Tryd.prog 21 #[.string s] w fun e w' => e = .returned (two (0, false)) ∧ w' = w := by
  have h : ((s.size : Int) != 10) = true := by simp; omega
  clear h10
  go_enter Tryd.func21, Tryd.ntmps21
  go_wp2
  go_ret2
  exact ⟨rfl, rfl⟩
set_option maxHeartbeats 1000000 in
theorem rparse_len {s : ByteArray} (hs : s.size ≤ 9223372036854775807) (h10 : ¬ s.size = 10) (w : World) : Calls Tryd.prog 22 #[.string s] w fun e w' => e = .returned (two (0, false)) ∧ w' = w := by
  have h : ((s.size : Int) != 10) = true := by simp; omega
  clear h10
  go_enter Tryd.func22, Tryd.ntmps22
  go_wp2
  go_ret2
  exact ⟨rfl, rfl⟩
set_option maxHeartbeats 1000000 in
theorem parse_d4 {s : ByteArray} (h10 : s.size = 10) (h4 : ¬ s[4].toNat = 45) (w : World) : Calls Tryd.prog 21 #[.string s] w fun e w' => e = .returned (two (0, false)) ∧ w' = w := by
  have h := byte_ne h4
  go_enter Tryd.func21, Tryd.ntmps21
  go_wp2
  go_ret2
  exact ⟨rfl, rfl⟩
set_option maxHeartbeats 1000000 in
theorem rparse_d4 {s : ByteArray} (h10 : s.size = 10) (h4 : ¬ s[4].toNat = 45) (w : World) : Calls Tryd.prog 22 #[.string s] w fun e w' => e = .returned (two (0, false)) ∧ w' = w := by
  have h := byte_ne h4
  go_enter Tryd.func22, Tryd.ntmps22
  go_wp2
  go_ret2
  exact ⟨rfl, rfl⟩
set_option maxHeartbeats 1000000 in
theorem parse_d7 {s : ByteArray} (h10 : s.size = 10) (h4 : s[4].toNat = 45) (h7 : ¬ s[7].toNat = 45) (w : World) : Calls Tryd.prog 21 #[.string s] w fun e w' => e = .returned (two (0, false)) ∧ w' = w := by
  have h := byte_ne h7
  go_enter Tryd.func21, Tryd.ntmps21
  go_wp2
  go_ret2
  exact ⟨rfl, rfl⟩
set_option maxHeartbeats 1000000 in
theorem rparse_d7 {s : ByteArray} (h10 : s.size = 10) (h4 : s[4].toNat = 45) (h7 : ¬ s[7].toNat = 45) (w : World) : Calls Tryd.prog 22 #[.string s] w fun e w' => e = .returned (two (0, false)) ∧ w' = w := by
  have h := byte_ne h7
  go_enter Tryd.func22, Tryd.ntmps22
  go_wp2
  go_ret2
  exact ⟨rfl, rfl⟩
theorem at_byte (s : ByteArray) (k : Nat) (h : k < s.size) (b : UInt8) : (s.data.toList[k]? == some b) = decide (s[k].toNat = b.toNat) := by
  have h2 : k < s.data.toList.length := by rw [size_list]; exact h
  rw [List.getElem?_eq_getElem h2, ← byte_at s k h h2]
  rw [Bool.eq_iff_iff]
  simp only [beq_iff_eq, Option.some.injEq, decide_eq_true_eq]
  exact ⟨fun e => by rw [e], fun e => UInt8.toNat_inj.1 e⟩
theorem form_of {s : ByteArray} (h10 : s.size = 10) : formB s.data.toList = (decide (s[4].toNat = 45) && decide (s[7].toNat = 45)) := by
  unfold formB
  have hd : decide (s.data.toList.length = 10) = true := by rw [size_list]; simp [h10]
  rw [at_byte s 4 (by omega), at_byte s 7 (by omega), hd]
  simp
theorem parseF_form {s : ByteArray} (h10 : s.size = 10) (h : formB s.data.toList = true) : parseF s.data.toList = dayF (numT (s.extract 0 4).data.toList) (numT (s.extract 5 7).data.toList) (numT (s.extract 8 10).data.toList) := by
  have e3 : (s.data.toList.drop 8).take 2 = s.data.toList.drop 8 := List.take_of_length_le (by rw [List.length_drop, size_list]; omega)
  unfold parseF
  rw [if_pos h, ext_list, ext_list, ext_list]
  simp only [List.drop_zero]
  rw [show (10 : Nat) - 8 = 2 from rfl, e3]
theorem parseF_not {l : List UInt8} (h : formB l = false) : parseF l = (0, false) := by unfold parseF; rw [h]; rfl
theorem form_len {s : ByteArray} (h : ¬ s.size = 10) : formB s.data.toList = false := by
  unfold formB
  rw [size_list]
  simp [h]
theorem parse_any (s : ByteArray) (hs : s.size ≤ 9223372036854775807) (w : World) : Calls Tryd.prog 21 #[.string s] w fun e w' => e = .returned (two (parseF s.data.toList)) ∧ Below w.heap.size w w' := by
  by_cases h10 : s.size = 10
  · have hf := form_of h10
    by_cases h4 : s[4].toNat = 45
    · by_cases h7 : s[7].toNat = 45
      · rw [parseF_form h10 (by rw [hf]; simp [h4, h7])]
        exact parse_yes h10 h4 h7 w
      · rw [parseF_not (by rw [hf]; simp [h7])]
        exact (parse_d7 h10 h4 h7 w).mono fun e w' ⟨h1, h2⟩ => ⟨h1, by rw [h2]; exact Below.refl _ _⟩
    · rw [parseF_not (by rw [hf]; simp [h4])]
      exact (parse_d4 h10 h4 w).mono fun e w' ⟨h1, h2⟩ => ⟨h1, by rw [h2]; exact Below.refl _ _⟩
  · rw [parseF_not (form_len h10)]
    exact (parse_len hs h10 w).mono fun e w' ⟨h1, h2⟩ => ⟨h1, by rw [h2]; exact Below.refl _ _⟩
theorem rparse_any (s : ByteArray) (hs : s.size ≤ 9223372036854775807) (w : World) : Calls Tryd.prog 22 #[.string s] w fun e w' => e = .returned (two (parseF s.data.toList)) ∧ Below w.heap.size w w' := by
  by_cases h10 : s.size = 10
  · have hf := form_of h10
    by_cases h4 : s[4].toNat = 45
    · by_cases h7 : s[7].toNat = 45
      · rw [parseF_form h10 (by rw [hf]; simp [h4, h7])]
        exact rparse_yes h10 h4 h7 w
      · rw [parseF_not (by rw [hf]; simp [h7])]
        exact (rparse_d7 h10 h4 h7 w).mono fun e w' ⟨h1, h2⟩ => ⟨h1, by rw [h2]; exact Below.refl _ _⟩
    · rw [parseF_not (by rw [hf]; simp [h4])]
      exact (rparse_d4 h10 h4 w).mono fun e w' ⟨h1, h2⟩ => ⟨h1, by rw [h2]; exact Below.refl _ _⟩
  · rw [parseF_not (form_len h10)]
    exact (rparse_len hs h10 w).mono fun e w' ⟨h1, h2⟩ => ⟨h1, by rw [h2]; exact Below.refl _ _⟩
/-- What is printed is parsed. -/
theorem parse_print {y m d : Nat} {day : Int} (h : Cal.IsDate y m d day) : parseF (printD y m d) = (day, true) := by
  have a := h.y1; have b := h.y2; have c := h.m1; have e := h.m2; have f := h.d1; have g := h.d2
  have k := (Cal.last_le (y : Int) (m : Int)).2
  have l1 := dec_len4 y (by omega) (by omega)
  have l2 := pad2_len m (by omega)
  have l3 := pad2_len d (by omega)
  have n1 := numT_dec y
  have n2 := pad2_num m
  have n3 := pad2_num d
  have he := h.eq
  have hi : isB y m d = true := (isB_iff _ _ _).2 ⟨a, b, f, g⟩
  unfold printD
  generalize Lib.decDigits y = A at *
  generalize pad2 m = B at *
  generalize pad2 d = C at *
  match A, l1, B, l2, C, l3 with
  | [a1, a2, a3, a4], _, [b1, b2], _, [c1, c2], _ =>
    have hf : formB ([a1, a2, a3, a4] ++ [45] ++ [b1, b2] ++ [45] ++ [c1, c2]) = true := by simp [formB]
    unfold parseF
    rw [if_pos hf]
    simp only [List.cons_append, List.nil_append, List.take_succ_cons, List.take_zero, List.drop_succ_cons, List.drop_zero]
    rw [n1, n2, n3, dayF_yes hi, he]
end Go.Proofs.YtnjkckkcepkaoaaDoor
