/- The contracts of digits and number: the number of a text of digits. -/
import Derived.Test.YtnjkckkcepkaoaaDoorDStr
namespace Go.Proofs.YtnjkckkcepkaoaaDoor
open Go.RowKit
set_option linter.unusedVariables false
set_option maxRecDepth 100000

theorem all_at (s : ByteArray) (k : Nat) (h : k < s.size) (hall : s.data.toList.all isD = true) : isD s[k] = true := by
  rw [byte_at s k h (by rw [size_list]; exact h)]
  exact List.all_eq_true.1 hall _ (List.getElem_mem _)
theorem all_step (s : ByteArray) (k : Nat) (h : k < s.size) (ha : (s.data.toList.take k).all isD = true) (hb : isD s[k] = true) : (s.data.toList.take (k + 1)).all isD = true := by
  rw [take_snoc _ _ (by rw [size_list]; exact h), List.all_append, ha, ← byte_at s k h (by rw [size_list]; exact h)]
  simp [hb]
theorem num_step (s : ByteArray) (k : Nat) (h : k < s.size) : numD (s.data.toList.take (k + 1)) = numD (s.data.toList.take k) * 10 + (s[k].toNat - 48) := by
  rw [take_snoc _ _ (by rw [size_list]; exact h), numD_append, ← byte_at s k h (by rw [size_list]; exact h)]
  simp [numD, numG]
theorem num_bd (l : List UInt8) (h : l.all isD = true) (hl : l.length ≤ 10) : numD l < 10000000000 := by
  have := numD_lt l h
  have e : (10 : Nat) ^ l.length ≤ 10 ^ 10 := Nat.pow_le_pow_right (by omega) hl
  omega
set_option maxHeartbeats 1000000 in
theorem number_any (s : ByteArray) (hs : s.size ≤ 10) (w : World) :
    Calls Tryd.prog 37 #[.string s] w fun e w' => e = .returned (.int .i64 (numT s.data.toList)) ∧ w' = w := by
  have hl := size_list s
  generalize hr : numT s.data.toList = r
  have HR : Hid (numT s.data.toList = r) := hr
  clear hr
  go_enter Tryd.func37, Tryd.ntmps37
  go_wp2
  go_loop [3, 4] (fun n i => ∃ (k : Nat) (N : Int), k ≤ s.size ∧ i = .int .i64 k ∧ n = .int .i64 N ∧ 0 ≤ N ∧ N ≤ 10000000000 ∧ Hid ((s.data.toList.take k).all isD = true ∧ N = (numD (s.data.toList.take k) : Nat))) (fun _ i => s.size - (intOf i).toNat)
  case atStart => exact ⟨0, 0, Nat.zero_le _, rfl, rfl, by omega, by omega, by simp [Hid, numD, numG]⟩
  case round =>
    obtain ⟨k, N, hk, rfl, rfl, hN1, hN2, ha⟩ := hrel
    by_cases hlt : k < s.size
    · cases hd : isD s[k]
      · have HE : Hid (r = -1) := by
          show _ = _
          rw [← HR.out]
          apply numT_no
          cases hh : s.data.toList.all isD
          · rfl
          · rw [all_at s k hlt hh] at hd; cases hd
        simp only [isD, Bool.and_eq_false_iff, decide_eq_false_iff_not] at hd
        by_cases hb1 : (s[k].toNat : Int) < 48
        · go_wp2
          go_ret
          exact ⟨by rw [HE.out]; rfl, rfl⟩
        · have hb2 : 57 < (s[k].toNat : Int) := by omega
          go_wp2
          go_ret
          exact ⟨by rw [HE.out]; rfl, rfl⟩
      · have ha' := all_step s k hlt ha.out.1 hd
        have hn' := num_step s k hlt
        have hb' := num_bd _ ha' (by simp; omega)
        simp only [isD, Bool.and_eq_true, decide_eq_true_eq] at hd
        have hb1 : ¬ (s[k].toNat : Int) < 48 := by omega
        have hb2 : ¬ 57 < (s[k].toNat : Int) := by omega
        have HN : Hid (10 * N + ((s[k].toNat : Int) - 48) = (numD (s.data.toList.take (k + 1)) : Nat)) := by
          show _ = _
          rw [hn', ha.out.2]
          omega
        have HNb : Hid (10 * N + ((s[k].toNat : Int) - 48) ≤ 10000000000) := by
          show _ ≤ _
          rw [HN.out]; omega
        have hN3 : N ≤ 1000000000 := by have := HNb.out; omega
        clear hn' hb'
        have HA : Hid ((s.data.toList.take (k + 1)).all isD = true) := ha'
        clear ha'
        go_wp2
        go_round
        case rel => exact ⟨k + 1, 10 * N + ((s[k].toNat : Int) - 48), by omega, by go_num, rfl, by omega, HNb.out, HA.out, HN.out⟩
        case measure => simp [intOf]; omega
    · have e : s.data.toList.take k = s.data.toList := List.take_of_length_le (by omega)
      have HE : Hid (r = N) := by
        show _ = _
        have hh := ha.out
        rw [e] at hh
        rw [← HR.out, numT_yes hh.1, hh.2]
      go_wp2
      go_ret
      exact ⟨by rw [HE.out]; rfl, rfl⟩
theorem conv_bytes (s : ByteArray) (w : World) : ∃ (c : Nat) (wb : World), (convert 9 47 (.string s)).run Tryd.prog w = .ok (.slice (some ⟨w.heap.size, 0, none⟩) s.size c) wb ∧
    (∀ (k : Nat) (h : k < s.size), wb.cell? ⟨w.heap.size, k, none⟩ = some (.int .u8 (s[k].toNat : Int))) ∧ Below w.heap.size w wb := by
  refine ⟨_, _, run_bytes_of_string w 9 47 5 s Tryd.underlying9 Tryd.underlying47 Tryd.underlying5, fun k h => ?_, ?_⟩
  · have h2 : k < s.data.size := h
    rw [show w.heap.size = w.drew.heap.size from rfl, World.cell?_alloc_mark, bytesRow_at _ _ _ h2]
    rfl
  · exact ((Below.refl w.heap.size w).drew).alloc (Nat.le_refl _) _
set_option maxHeartbeats 1000000 in
theorem digits_any (s : ByteArray) (hs : s.size ≤ 10) (w : World) :
    Calls Tryd.prog 36 #[.string s] w fun e w' => e = .returned (.int .i64 (numT s.data.toList)) ∧ Below w.heap.size w w' := by
  have hl := size_list s
  generalize hr : numT s.data.toList = r
  have HR : Hid (numT s.data.toList = r) := hr
  clear hr
  obtain ⟨c, wb, hrun, hcell, hbel⟩ := conv_bytes s w
  have HB : Hid (Below w.heap.size w wb) := hbel
  have HC : Hid (∀ (k : Nat) (h : k < s.size), wb.cell? ⟨w.heap.size, k, none⟩ = some (.int .u8 (s[k].toNat : Int))) := hcell
  clear hbel hcell
  go_enter Tryd.func36, Tryd.ntmps36
  go_wp2
  go_loop [3, 5, 9] (fun n _ i => ∃ (k : Nat) (N : Int), k ≤ s.size ∧ i = .int .i64 k ∧ n = .int .i64 N ∧ 0 ≤ N ∧ N ≤ 10000000000 ∧ Hid ((s.data.toList.take k).all isD = true ∧ N = (numD (s.data.toList.take k) : Nat))) (fun _ _ i => s.size - (intOf i).toNat)
  case atStart => exact ⟨0, 0, Nat.zero_le _, rfl, rfl, by omega, by omega, by simp [Hid, numD, numG]⟩
  case round =>
    obtain ⟨k, N, hk, rfl, rfl, hN1, hN2, ha⟩ := hrel
    by_cases hlt : k < s.size
    · have hck := HC.out k hlt
      cases hd : isD s[k]
      · have HE : Hid (r = -1) := by
          show _ = _
          rw [← HR.out]
          apply numT_no
          cases hh : s.data.toList.all isD
          · rfl
          · rw [all_at s k hlt hh] at hd; cases hd
        simp only [isD, Bool.and_eq_false_iff, decide_eq_false_iff_not] at hd
        by_cases hb1 : (s[k].toNat : Int) < 48
        · go_wp2
          go_ret
          exact ⟨by rw [HE.out]; rfl, HB.out⟩
        · have hb2 : 57 < (s[k].toNat : Int) := by omega
          go_wp2
          go_ret
          exact ⟨by rw [HE.out]; rfl, HB.out⟩
      · have ha' := all_step s k hlt ha.out.1 hd
        have hn' := num_step s k hlt
        have hb' := num_bd _ ha' (by simp; omega)
        simp only [isD, Bool.and_eq_true, decide_eq_true_eq] at hd
        have hb1 : ¬ (s[k].toNat : Int) < 48 := by omega
        have hb2 : ¬ 57 < (s[k].toNat : Int) := by omega
        have HN : Hid (N * 10 + ((s[k].toNat : Int) - 48) = (numD (s.data.toList.take (k + 1)) : Nat)) := by
          show _ = _
          rw [hn', ha.out.2]
          omega
        have HNb : Hid (N * 10 + ((s[k].toNat : Int) - 48) ≤ 10000000000) := by
          show _ ≤ _
          rw [HN.out]; omega
        have hN3 : N ≤ 1000000000 := by have := HNb.out; omega
        clear hn' hb'
        have HA : Hid ((s.data.toList.take (k + 1)).all isD = true) := ha'
        clear ha'
        go_wp2
        go_round
        case rel => exact ⟨k + 1, N * 10 + ((s[k].toNat : Int) - 48), by omega, by go_num, rfl, by omega, HNb.out, HA.out, HN.out⟩
        case measure => simp [intOf]; omega
    · have e : s.data.toList.take k = s.data.toList := List.take_of_length_le (by omega)
      have HE : Hid (r = N) := by
        show _ = _
        have hh := ha.out
        rw [e] at hh
        rw [← HR.out, numT_yes hh.1, hh.2]
      go_wp2
      go_ret
      exact ⟨by rw [HE.out]; rfl, HB.out⟩
end Go.Proofs.YtnjkckkcepkaoaaDoor
