/- The contracts of files.Good and octavoref01.Good: both tell the same Bool of a name, and leave the world as it was. -/
import Derived.Test.YtjncibejdplamaaRows
import Derived.WalkKit
import Derived.WalkLawsBesides
import Derived.WalkSpells
namespace Go.Proofs.Ytjncibejdplamaa
open Go.RowKit

def okByte (c : UInt8) : Bool := decide (33 ≤ (c.toNat : Int)) && decide ((c.toNat : Int) ≤ 126)
def goodB (s : ByteArray) : Bool := decide (1 ≤ s.size) && decide (s.size ≤ 24) && s.data.toList.all okByte

theorem take_snoc (s : ByteArray) (k : Nat) (h : k < s.size) : s.data.toList.take (k + 1) = s.data.toList.take k ++ [s[k]] := by
  rw [List.take_succ_eq_append_getElem (by simpa using h)]; rfl

theorem all_bad (s : ByteArray) (k : Nat) (h : k < s.size) (hb : okByte s[k] = false) : s.data.toList.all okByte = false := by
  rw [List.all_eq_false]
  refine ⟨s[k], ?_, by simp [hb]⟩
  have : s[k] = s.data.toList[k]'(by simpa using h) := by simp [ByteArray.getElem_eq_getElem_data]
  rw [this]; exact List.getElem_mem _

theorem all_snoc (s : ByteArray) (k : Nat) (h : k < s.size) (ha : (s.data.toList.take k).all okByte = true) (hb : okByte s[k] = true) : (s.data.toList.take (k + 1)).all okByte = true := by
  rw [take_snoc s k h, List.all_append, ha]; simp [hb]

theorem ret_bool {a b : Bool} (h : a = b) : Ending.returned (.bool a) = .returned (.bool b) := by rw [h]

theorem goodB_long {s : ByteArray} (h : s.size < 1 ∨ 24 < s.size) : goodB s = false := by
  simp [goodB]; intro h1 h2; omega
theorem goodB_bad {s : ByteArray} (k : Nat) (h : k < s.size) (hb : (s[k].toNat : Int) < 33 ∨ 126 < (s[k].toNat : Int)) : goodB s = false := by
  have := all_bad s k h (by simp [okByte]; omega)
  simp only [goodB, this, Bool.and_false]
theorem goodB_all {s : ByteArray} (h1 : 1 ≤ s.size) (h2 : s.size ≤ 24) (k : Nat) (hk : s.size ≤ k) (ha : (s.data.toList.take k).all okByte = true) : goodB s = true := by
  rw [List.take_of_length_le (by simpa using hk)] at ha
  simp only [goodB, ha, h1, h2, decide_true, Bool.and_true]

set_option maxHeartbeats 400000 in
theorem good_any (s : ByteArray) (w : World) (hs : s.size ≤ maxLen) :
    Calls Try.prog 13 #[.string s] w fun e w' => e = .returned (.bool (goodB s)) ∧ w' = w := by
  unfold maxLen at hs
  by_cases h1 : s.size < 1
  · have HG : Hid (goodB s = false) := goodB_long (Or.inl h1)
    go_enter Try.func13, Try.ntmps13
    go_wp2
    go_ret
    exact ⟨ret_bool HG.out.symm, rfl⟩
  by_cases h2 : 24 < s.size
  · have HG : Hid (goodB s = false) := goodB_long (Or.inr h2)
    go_enter Try.func13, Try.ntmps13
    go_wp2
    go_ret
    exact ⟨ret_bool HG.out.symm, rfl⟩
  have d1 : decide ((s.size : Int) < 1) = false := by simp; omega
  have d2 : decide ((24 : Int) < s.size) = false := by simp; omega
  go_enter Try.func13, Try.ntmps13
  go_wp2
  go_loop [14] (fun i => ∃ k : Nat, k ≤ s.size ∧ i = .int .i64 k ∧ Hid ((s.data.toList.take k).all okByte = true)) (fun i => s.size - (intOf i).toNat)
  case atStart => exact ⟨0, Nat.zero_le _, rfl, by simp [Hid]⟩
  case round =>
    obtain ⟨k, hk, rfl, ha⟩ := hrel
    by_cases hlt : k < s.size
    · by_cases hb1 : (s[k].toNat : Int) < 33
      · have HG : Hid (goodB s = false) := goodB_bad k hlt (Or.inl hb1)
        go_wp2
        go_ret
        exact ⟨ret_bool HG.out.symm, rfl⟩
      · by_cases hb2 : 126 < (s[k].toNat : Int)
        · have HG : Hid (goodB s = false) := goodB_bad k hlt (Or.inr hb2)
          go_wp2
          go_ret
          exact ⟨ret_bool HG.out.symm, rfl⟩
        · have ha' : Hid ((s.data.toList.take (k + 1)).all okByte = true) := all_snoc s k hlt ha.out (by simp [okByte]; omega)
          go_wp2
          go_round
          case rel => exact ⟨k + 1, by omega, by go_num, ha'⟩
          case measure => simp [intOf]; omega
    · have HG : Hid (goodB s = true) := goodB_all (by omega) (by omega) k (by omega) ha.out
      go_wp2
      go_ret
      exact ⟨ret_bool HG.out.symm, rfl⟩

set_option maxHeartbeats 400000 in
theorem refGood_any (s : ByteArray) (w : World) (hs : s.size ≤ maxLen) :
    Calls Try.prog 14 #[.string s] w fun e w' => e = .returned (.bool (goodB s)) ∧ w' = w := by
  unfold maxLen at hs
  go_enter Try.func14, Try.ntmps14
  go_wp2
  go_loop [3] (fun i => ∃ k : Nat, k ≤ s.size ∧ i = .int .i64 k ∧ Hid ((s.data.toList.take k).all okByte = true)) (fun i => s.size - (intOf i).toNat)
  case atStart => exact ⟨0, Nat.zero_le _, rfl, by simp [Hid]⟩
  case round =>
    obtain ⟨k, hk, rfl, ha⟩ := hrel
    by_cases hlt : k < s.size
    · by_cases hb1 : (s[k].toNat : Int) < 33
      · have HG : Hid (goodB s = false) := goodB_bad k hlt (Or.inl hb1)
        go_wp2
        go_ret
        exact ⟨ret_bool HG.out.symm, rfl⟩
      · by_cases hb2 : 126 < (s[k].toNat : Int)
        · have HG : Hid (goodB s = false) := goodB_bad k hlt (Or.inr hb2)
          go_wp2
          go_ret
          exact ⟨ret_bool HG.out.symm, rfl⟩
        · have ha' : Hid ((s.data.toList.take (k + 1)).all okByte = true) := all_snoc s k hlt ha.out (by simp [okByte]; omega)
          go_wp2
          go_round
          case rel => exact ⟨k + 1, by omega, by go_num, ha'⟩
          case measure => simp [intOf]; omega
    · by_cases h1 : s.size < 1
      · have HG : Hid (goodB s = false) := goodB_long (Or.inl h1)
        go_wp2
        go_ret
        exact ⟨ret_bool HG.out.symm, rfl⟩
      · by_cases h2 : 24 < s.size
        · have HG : Hid (goodB s = false) := goodB_long (Or.inr h2)
          go_wp2
          go_ret
          exact ⟨ret_bool (by rw [HG.out]; simp; omega), rfl⟩
        · have HG : Hid (goodB s = true) := goodB_all (by omega) (by omega) k (by omega) ha.out
          go_wp2
          go_ret
          exact ⟨ret_bool (by rw [HG.out]; simp; omega), rfl⟩
end Go.Proofs.Ytjncibejdplamaa
