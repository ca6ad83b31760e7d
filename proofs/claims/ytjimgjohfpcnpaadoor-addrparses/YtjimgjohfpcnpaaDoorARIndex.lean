/- Where a byte first stands, of the reference. -/
import Derived.Test.YtjimgjohfpcnpaaDoorARefP
namespace Go.Proofs.YtjimgjohfpcnpaaDoor
open Go.RowKit
set_option maxRecDepth 100000
set_option linter.unusedVariables false
set_option linter.unusedSimpArgs false
def idxF (c : UInt8) (l : List UInt8) : Int := match Ad.at_ c l with
  | none => -1
  | some p => (p.1.length : Nat)
theorem idx_yes {c : UInt8} (s : ByteArray) (k : Nat) (h : k < s.size) (hc : s[k] = c) (hn : ∀ x ∈ s.data.toList.take k, x ≠ c) : idxF c s.data.toList = k := by
  have hl := size_list s
  have e : s.data.toList = s.data.toList.take k ++ c :: s.data.toList.drop (k + 1) := by
    rw [← hc, byte_at s k h (by omega)]
    have := List.take_append_drop k s.data.toList
    conv => lhs; rw [← this, List.drop_eq_getElem_cons (by omega)]
  unfold idxF
  rw [e, Ad.at_app _ hn]
  simp
  omega
theorem idx_no {c : UInt8} {l : List UInt8} (hn : ∀ x ∈ l, x ≠ c) : idxF c l = -1 := by
  unfold idxF
  rw [Ad.at_none hn]
set_option maxHeartbeats 2000000 in
theorem ridx_any (s : ByteArray) (c : UInt8) (hs : s.size ≤ 9223372036854775807) (w : World) :
    Calls Tryd.prog 39 #[.string s, .int .u8 (c.toNat : Nat)] w fun e w' => e = .returned (.int .i64 (idxF c s.data.toList)) ∧ w' = w := by
  have hl := size_list s
  generalize hr : idxF c s.data.toList = r
  have HR : Hid (idxF c s.data.toList = r) := hr
  clear hr
  go_enter Tryd.func39, Tryd.ntmps39
  go_wp2
  go_loop [5] (fun i => ∃ k : Nat, k ≤ s.size ∧ i = .int .i64 k ∧ Hid (∀ x ∈ s.data.toList.take k, x ≠ c)) (fun i => s.size - (intOf i).toNat)
  case atStart => exact ⟨0, Nat.zero_le _, rfl, by intro x hx; simp at hx⟩
  case round =>
    obtain ⟨k, hk, rfl, ha⟩ := hrel
    by_cases hlt : k < s.size
    · rcases ch_facts s[k] c with ⟨h3, h4⟩ | ⟨h3, h4⟩
      · have HE : Hid (r = k) := by
          show _ = _
          rw [← HR.out]
          exact idx_yes s k hlt h3 ha.out
        clear h3
        go_wp2
        go_ret
        exact ⟨by rw [HE.out]; rfl, rfl⟩
      · have HA : Hid (∀ x ∈ s.data.toList.take (k + 1), x ≠ c) := by
          intro x hx
          rw [take_snoc _ _ (by omega)] at hx
          rcases List.mem_append.1 hx with hx | hx
          · exact ha.out x hx
          · simp only [List.mem_singleton] at hx
            rw [hx, ← byte_at s k hlt (by omega)]
            exact h3
        clear h3
        go_wp2
        go_round
        case rel => exact ⟨k + 1, by omega, by go_num, HA.out⟩
        case measure => simp [intOf]; omega
    · have HE : Hid (r = -1) := by
        show _ = _
        have hh := ha.out
        rw [List.take_of_length_le (by omega)] at hh
        rw [← HR.out]
        exact idx_no hh
      go_wp2
      go_ret
      exact ⟨by rw [HE.out]; rfl, rfl⟩
end Go.Proofs.YtjimgjohfpcnpaaDoor
