/- The contract of the reference's Sum. -/
import Derived.Test.YtcheikpmhdliiaaDoorCrc
namespace Go.Proofs.YtcheikpmhdliiaaDoor
open Go.RowKit
set_option maxRecDepth 100000

def bitStep (c : Nat) : Nat := (c / 2) ^^^ (if c % 2 = 1 then 3988292384 else 0)
def bitIter : Nat → Nat → Nat
  | 0, c => c
  | k + 1, c => bitStep (bitIter k c)

theorem xor_div2 (a b : Nat) : (a ^^^ b) / 2 = (a / 2) ^^^ (b / 2) := Nat.xor_div_two_pow (n := 1)
theorem xor_mod2 (a b : Nat) : (a ^^^ b) % 2 = (a % 2) ^^^ (b % 2) := Nat.xor_mod_two_pow (n := 1)
theorem bitStep_xor (a b : Nat) : bitStep (a ^^^ b) = bitStep a ^^^ bitStep b := by
  unfold bitStep
  rw [xor_div2, xor_mod2]
  have h1 : a % 2 = 0 ∨ a % 2 = 1 := by omega
  have h2 : b % 2 = 0 ∨ b % 2 = 1 := by omega
  have e0 : (0 : Nat) ^^^ 0 = 0 := rfl
  have e1 : (0 : Nat) ^^^ 1 = 1 := rfl
  have e2 : (1 : Nat) ^^^ 0 = 1 := rfl
  have e3 : (1 : Nat) ^^^ 1 = 0 := rfl
  generalize a / 2 = p
  generalize b / 2 = q
  generalize (3988292384 : Nat) = P
  rcases h1 with h1 | h1 <;> rcases h2 with h2 | h2 <;> simp only [h1, h2, e0, e1, e2, e3, if_true, Nat.xor_zero, Nat.zero_ne_one, if_false]
  · rw [Nat.xor_assoc]
  · rw [Nat.xor_assoc, Nat.xor_comm q P, ← Nat.xor_assoc]
  · rw [Nat.xor_assoc p P, ← Nat.xor_assoc P q P, Nat.xor_comm P q, Nat.xor_assoc q P P, Nat.xor_self, Nat.xor_zero]
theorem bitIter_xor (k a b : Nat) : bitIter k (a ^^^ b) = bitIter k a ^^^ bitIter k b := by
  induction k with
  | zero => rfl
  | succ k ih => rw [bitIter, ih, bitStep_xor]; rfl
theorem bitIter_small : ∀ j, j < 16 → bitIter 4 j = tab.getD j 0 := by decide
theorem bitIter_even (m : Nat) : bitIter 4 (16 * m) = m := by
  have s : ∀ n, bitStep (2 * n) = n := by
    intro n
    unfold bitStep
    rw [show 2 * n / 2 = n by omega, if_neg (by omega), Nat.xor_zero]
  simp only [bitIter]
  rw [show 16 * m = 2 * (2 * (2 * (2 * m))) by omega, s, s, s, s]
theorem split16 (y : Nat) : y = (16 * (y / 16)) ^^^ (y % 16) := by
  have h1 : ((16 * (y / 16)) ^^^ (y % 16)) / 16 = y / 16 := by
    rw [Nat.xor_div_two_pow (n := 4), show 16 * (y / 16) / 2 ^ 4 = y / 16 by omega, show y % 16 / 2 ^ 4 = 0 by omega, Nat.xor_zero]
  have h2 : ((16 * (y / 16)) ^^^ (y % 16)) % 16 = y % 16 := by
    rw [Nat.xor_mod_two_pow (n := 4), show 16 * (y / 16) % 2 ^ 4 = 0 by omega, show y % 16 % 2 ^ 4 = y % 16 by omega, Nat.zero_xor]
  omega
theorem bitIter_half (y : Nat) : bitIter 4 y = half y := by
  conv => lhs; rw [split16 y]
  rw [bitIter_xor, bitIter_even, bitIter_small _ (Nat.mod_lt _ (by decide))]
  rfl
theorem bitIter_add (a b c : Nat) : bitIter (a + b) c = bitIter a (bitIter b c) := by
  induction a with
  | zero => rw [Nat.zero_add]; rfl
  | succ a ih => rw [Nat.succ_add, bitIter, ih]; rfl
theorem bitIter_byte (r : Nat) (x : UInt8) : bitIter 8 (r ^^^ x.toNat) = byteStep r x := by
  rw [show 8 = 4 + 4 from rfl, bitIter_add, bitIter_half, bitIter_half]
  rfl

theorem nat_mod {z : Nat} (h : z < 256) : (z : Int) % 4294967296 = (z : Int) := by omega
theorem and1 (r : Nat) (h : r < 4294967296) : bits .and .u32 (r : Int) 1 = ((r % 2 : Nat) : Int) := by
  have := u32_and_nat r 1 h (by decide)
  rw [show (1 : Nat) = 2 ^ 1 - 1 from rfl, Nat.and_two_pow_sub_one_eq_mod] at this
  exact this
/-- One turn of the reference's inner loop. -/
theorem ref_turn {C x K Y : Nat} (h : C ^^^ (x / 2 ^ K) = Y) : ((C / 2) ^^^ (if (C ^^^ (x / 2 ^ K)) % 2 = 1 then 3988292384 else 0)) ^^^ (x / 2 ^ (K + 1)) = bitStep Y := by
  unfold bitStep
  rw [← h, xor_div2, Nat.div_div_eq_div_mul, ← Nat.pow_succ]
  generalize (if (C ^^^ x / 2 ^ K) % 2 = 1 then 3988292384 else 0) = P
  rw [Nat.xor_assoc, Nat.xor_comm P, ← Nat.xor_assoc]

set_option maxHeartbeats 2000000 in
theorem refSum_some {w : World} {a : Addr} {cap : Nat} {l : List UInt8} (hl : l.length ≤ maxLen) (h : ∀ j u, (bcells l)[j]? = some u → w.cell? (a.add j) = some u) :
    Calls Tryd.prog 67 #[.slice (some a) l.length cap] w fun e w' => e = .returned (.int .u32 (sumB l)) ∧ w' = w := by
  have H : Hid (∀ j u, (bcells l)[j]? = some u → w.cell? (a.add j) = some u) := h
  have hl' : l.length ≤ 9223372036854775807 := hl
  clear h hl
  go_enter Tryd.func67, Tryd.ntmps67
  go_wp2
  go_loop [3, 10] (fun r i => ∃ k R : Nat, k ≤ l.length ∧ i = .int .i64 k ∧ r = .int .u32 R ∧ R < 4294967296 ∧ Hid (R = regAt (l.take k))) (fun _ i => l.length - (intOf i).toNat)
  case atStart => exact ⟨0, 4294967295, Nat.zero_le _, rfl, rfl, by decide, by simp [Hid, regAt]⟩
  case round =>
    obtain ⟨k, R, hk, rfl, rfl, hR, hreg⟩ := hrel
    by_cases hlt : k < l.length
    · have c0 := H.out k _ (bcells_get hlt)
      have hx : l[k].toNat < 256 := l[k].toNat_lt
      have hE : Hid (regAt (l.take (k + 1)) = bitIter 8 (R ^^^ l[k].toNat)) := by
        show _ = _
        rw [regAt_snoc l k hlt, ← hreg.out, bitIter_byte]
      generalize l[k].toNat = x at c0 hx hE
      go_wp2
      go_loop [3, 6] (fun r i => ∃ K C : Nat, K ≤ 8 ∧ i = .int .i64 K ∧ r = .int .u32 C ∧ C < 4294967296 ∧ Hid (C ^^^ (x / 2 ^ K) = bitIter K (R ^^^ x))) (fun _ i => 8 - (intOf i).toNat)
      case atStart => exact ⟨0, R, by omega, rfl, rfl, hR, by simp [Hid, bitIter]⟩
      case round =>
        obtain ⟨K, C, hK, rfl, rfl, hC, hb⟩ := hrel
        by_cases hK8 : K < 8
        · have hxs : x / 2 ^ K < 256 := Nat.lt_of_le_of_lt (Nat.div_le_self _ _) hx
          have hxor : bits .xor .u32 (C : Int) ((x : Int) / 2 ^ K % 4294967296) = ((C ^^^ (x / 2 ^ K) : Nat) : Int) := by
            rw [← u32_xor_nat C (x / 2 ^ K) hC (by omega), show (x : Int) / 2 ^ K % 4294967296 = ((x / 2 ^ K : Nat) : Int) by
              rw [show (x : Int) / 2 ^ K = ((x / 2 ^ K : Nat) : Int) by simp, nat_mod hxs]]
          have hY : C ^^^ (x / 2 ^ K) < 4294967296 := Nat.xor_lt_two_pow (n := 32) hC (by omega)
          have hN : Hid (((C / 2) ^^^ (if (C ^^^ (x / 2 ^ K)) % 2 = 1 then 3988292384 else 0)) ^^^ (x / 2 ^ (K + 1)) = bitIter (K + 1) (R ^^^ x)) := ref_turn hb.out
          clear hE hb hxs
          generalize C ^^^ (x / 2 ^ K) = Y at *
          have hand := and1 Y hY
          by_cases h1 : Y % 2 = 1
          · rw [h1] at hand
            simp only [Int.natCast_one] at hand
            have hC2 : bits .xor .u32 ((C : Int) / 2) 3988292384 = ((C / 2 ^^^ 3988292384 : Nat) : Int) := by
              rw [← u32_xor_nat (C / 2) 3988292384 (by omega) (by decide)]
              congr 1
            have hC3 : C / 2 ^^^ 3988292384 < 4294967296 := Nat.xor_lt_two_pow (n := 32) (by omega) (by decide)
            rw [if_pos h1] at hN
            clear h1 hC
            go_wp2
            go_round
            case rel => exact ⟨K + 1, _, by omega, by go_num, hC2 ▸ rfl, hC3, hN.out⟩
            case measure => simp [intOf]; omega
          · rw [show Y % 2 = 0 by omega] at hand
            simp only [Int.natCast_zero] at hand
            rw [if_neg h1, Nat.xor_zero] at hN
            clear h1
            go_wp2
            go_round
            case rel => exact ⟨K + 1, C / 2, by omega, by go_num, by go_num, by omega, hN.out⟩
            case measure => simp [intOf]; omega
        · have hN : Hid (C = regAt (l.take (k + 1))) := by
            show _ = _
            have h8 : K = 8 := by omega
            subst h8
            rw [hE.out, ← hb.out, show x / 2 ^ 8 = 0 by omega, Nat.xor_zero]
          clear hE hb
          go_wp2
          go_round
          case rel => exact ⟨k + 1, C, by omega, by go_num, rfl, hC, hN⟩
          case measure => simp [intOf]; omega
    · have hE : Hid (sumB l = R ^^^ 4294967295) := by
        show _ = _
        rw [hreg.out, List.take_of_length_le (by omega), Nat.xor_comm]; rfl
      have f1 : bits .xor .u32 (R : Int) 4294967295 = ((R ^^^ 4294967295 : Nat) : Int) := u32_xor_nat _ _ hR (by decide)
      go_wp2
      go_ret
      exact ⟨by rw [hE.out]; rfl, rfl⟩

theorem refSum_none {w : World} : Calls Tryd.prog 67 #[.slice none 0 0] w fun e w' => e = .returned (.int .u32 0) ∧ w' = w := by
  go_enter Tryd.func67, Tryd.ntmps67
  go_wp2
  refine wp_loop_rounds 1 ?_
  rw [rounds_succ]
  go_wp2
  go_ret
  exact ⟨by kernel_rfl, rfl⟩

theorem refSum_any {w : World} {v : Value} {l : List UInt8} (h : Bts w v l) : Calls Tryd.prog 67 #[v] w fun e w' => e = .returned (.int .u32 (sumB l)) ∧ w' = w := by
  rcases h with ⟨rfl, rfl⟩ | ⟨a, cap, rfl, h1, h2, h3⟩
  · exact refSum_none
  · exact refSum_some (Nat.le_trans h1 h2) h3
end Go.Proofs.YtcheikpmhdliiaaDoor
