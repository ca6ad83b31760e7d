/- The characters of a text, of the program and of the reference. -/
import Derived.Test.YtelpllilepkjmaaDoorVWidth
import Derived.Maps.AppendAt
import Derived.OwnWalk
namespace Go.Proofs.YtelpllilepkjmaaDoor
open Go.RowKit
set_option maxRecDepth 100000
set_option linter.unusedVariables false
set_option linter.unusedSimpArgs false

theorem b255 (b : UInt8) : b.toNat < 256 := b.toNat_lt
set_option maxHeartbeats 2000000 in
theorem width_any (s : ByteArray) (h0 : 0 < s.size) (hs : s.size ≤ 9223372036854775807) (w : World) :
    Calls Tryd.prog 54 #[.string s] w fun e w' => e = .returned (.int .i64 ((Utf8.decode s 0).2 : Nat)) ∧ w' = w := by
  have e := Lib.decode_at s 0
  simp only [Nat.sub_zero, Nat.zero_add] at e
  have g0 := gb s 0 h0
  have k0 := b255 (s.get! 0); have k1 := b255 (s.get! 1); have k2 := b255 (s.get! 2); have k3 := b255 (s.get! 3)
  rw [e]
  have hc : (s[0]'h0).toNat < 128 ∨ (128 ≤ (s[0]'h0).toNat ∧ (s[0]'h0).toNat < 194) ∨ 244 < (s[0]'h0).toNat ∨ (194 ≤ (s[0]'h0).toNat ∧ (s[0]'h0).toNat ≤ 223) ∨ (224 ≤ (s[0]'h0).toNat ∧ (s[0]'h0).toNat ≤ 224) ∨ (225 ≤ (s[0]'h0).toNat ∧ (s[0]'h0).toNat ≤ 236) ∨ (237 ≤ (s[0]'h0).toNat ∧ (s[0]'h0).toNat ≤ 237) ∨ (238 ≤ (s[0]'h0).toNat ∧ (s[0]'h0).toNat ≤ 239) ∨ (240 ≤ (s[0]'h0).toNat ∧ (s[0]'h0).toNat ≤ 240) ∨ (241 ≤ (s[0]'h0).toNat ∧ (s[0]'h0).toNat ≤ 243) ∨ (244 ≤ (s[0]'h0).toNat ∧ (s[0]'h0).toNat ≤ 244) := by omega
  have one : ∀ X : Nat, X = 1 → (∀ W : World, Calls Tryd.prog 54 #[.string s] W fun e w' => e = .returned (.int .i64 1) ∧ w' = W) → Calls Tryd.prog 54 #[.string s] w fun e w' => e = .returned (.int .i64 (X : Nat)) ∧ w' = w := fun X hX hh => by subst hX; exact hh w
  rcases hc with h | h | h | h | h | h | h | h | h | h | h
  · refine one _ ?_ fun W => width_low s h0 (by omega) W
    unfold Lib.decodeN; rw [if_pos (by omega)]
  · refine one _ ?_ fun W => width_mid s h0 (by omega) W
    unfold Lib.decodeN
    repeat' split
    all_goals first | rfl | (exfalso; omega)
  · refine one _ ?_ fun W => width_high s h0 (by omega) W
    unfold Lib.decodeN
    repeat' split
    all_goals first | rfl | (exfalso; omega)
  · rw [← Lib.slow_C2 _ _ _ _ _ (by omega) k1 k2 k3 (by omega)]; exact width_C2 s h0 hs h w
  · rw [← Lib.slow_E0 _ _ _ _ _ (by omega) k1 k2 k3 (by omega)]; exact width_E0 s h0 hs h w
  · rw [← Lib.slow_E1 _ _ _ _ _ (by omega) k1 k2 k3 (by omega)]; exact width_Ea s h0 hs h w
  · rw [← Lib.slow_ED _ _ _ _ _ (by omega) k1 k2 k3 (by omega)]; exact width_ED s h0 hs h w
  · rw [← Lib.slow_E1 _ _ _ _ _ (by omega) k1 k2 k3 (by omega)]; exact width_Eb s h0 hs h w
  · rw [← Lib.slow_F0 _ _ _ _ _ (by omega) k1 k2 k3 (by omega)]; exact width_F0 s h0 hs h w
  · rw [← Lib.slow_F1 _ _ _ _ _ (by omega) k1 k2 k3 (by omega)]; exact width_Fa s h0 hs h w
  · rw [← Lib.slow_F4 _ _ _ _ _ (by omega) k1 k2 k3 (by omega)]; exact width_F4 s h0 hs h w

/-- A character has a byte at least, and lies in the text. -/
theorem dec_in (s : ByteArray) (pos : Nat) (h : pos < s.size) : 1 ≤ (Utf8.decode s pos).2 ∧ pos + (Utf8.decode s pos).2 ≤ s.size := by
  by_cases ha : (s[pos]'h).toNat < 128
  · rw [decode_ascii s pos h ha]; exact ⟨Nat.le_refl _, h⟩
  · exact ⟨(decode_high s pos h (by omega)).2, (decode_bytes s pos h (by omega)).1⟩
/-- The characters from a place on. -/
def chF (s : ByteArray) : Nat → Nat → List ByteArray
  | 0, _ => []
  | f + 1, pos => if pos < s.size then s.extract pos (pos + (Utf8.decode s pos).2) :: chF s f (pos + (Utf8.decode s pos).2) else []
theorem chF_fuel (s : ByteArray) : ∀ f g pos, s.size - pos ≤ f → s.size - pos ≤ g → chF s f pos = chF s g pos
  | 0, 0, _, _, _ => rfl
  | 0, g + 1, pos, h, _ => by simp [chF, show ¬ pos < s.size by omega]
  | f + 1, 0, pos, _, h => by simp [chF, show ¬ pos < s.size by omega]
  | f + 1, g + 1, pos, h1, h2 => by
    unfold chF
    by_cases h : pos < s.size
    · have := dec_in s pos h
      rw [if_pos h, if_pos h, chF_fuel s f g _ (by omega) (by omega)]
    · rw [if_neg h, if_neg h]
/-- All characters of a text. -/
def chars (s : ByteArray) : List ByteArray := chF s s.size 0
def from_ (s : ByteArray) (pos : Nat) : List ByteArray := chF s s.size pos
theorem from_step (s : ByteArray) (pos : Nat) (h : pos < s.size) : from_ s pos = s.extract pos (pos + (Utf8.decode s pos).2) :: from_ s (pos + (Utf8.decode s pos).2) := by
  unfold from_
  have := dec_in s pos h
  obtain ⟨n, hn⟩ : ∃ n, s.size = n + 1 := ⟨s.size - 1, by omega⟩
  rw [hn]
  conv => lhs; unfold chF
  rw [if_pos h, chF_fuel s n (n + 1) _ (by omega) (by omega)]
theorem from_end (s : ByteArray) (pos : Nat) (h : ¬ pos < s.size) : from_ s pos = [] := by
  unfold from_
  cases s.size <;> simp [chF, h]
theorem from_len (s : ByteArray) : ∀ (k pos : Nat), s.size - pos ≤ k → (from_ s pos).length ≤ s.size - pos
  | k, pos, hk => by
    by_cases h : pos < s.size
    · have hd := dec_in s pos h
      rw [from_step s pos h, List.length_cons]
      match k with
      | 0 => omega
      | k + 1 => have := from_len s k (pos + (Utf8.decode s pos).2) (by omega); omega
    · rw [from_end s pos h]; simp
end Go.Proofs.YtelpllilepkjmaaDoor
