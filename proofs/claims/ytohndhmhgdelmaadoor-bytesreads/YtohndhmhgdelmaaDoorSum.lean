/- The contract of bytes.Sum. -/
import Derived.Test.YtohndhmhgdelmaaDoorBase
import Derived.Laws.BitsAllLaws
namespace Go.Proofs.YtohndhmhgdelmaaDoor
open Go.RowKit
set_option maxRecDepth 100000

/-- Half a byte's step of the register, as the program takes it. -/
def half (r : Nat) : Nat := (r / 16) ^^^ tab.getD (r % 16) 0
def byteStep (r : Nat) (x : UInt8) : Nat := half (half (r ^^^ x.toNat))
def regAt (l : List UInt8) : Nat := l.foldl byteStep 4294967295
def sumB (l : List UInt8) : Nat := 4294967295 ^^^ regAt l

theorem tab_lt (i : Nat) : tab.getD i 0 < 2 ^ 32 := by
  by_cases h : i < 16
  · revert i; decide
  · rw [List.getD_eq_getElem?_getD, List.getElem?_eq_none (by simp [tab]; omega)]; decide
theorem half_lt {r : Nat} (h : r < 2 ^ 32) : half r < 2 ^ 32 := Nat.xor_lt_two_pow (by omega) (tab_lt _)
theorem byteStep_lt {r : Nat} (x : UInt8) (h : r < 2 ^ 32) : byteStep r x < 2 ^ 32 := half_lt (half_lt (Nat.xor_lt_two_pow h (by have := x.toNat_lt; omega)))
theorem fold_lt (l : List UInt8) : ∀ r, r < 2 ^ 32 → l.foldl byteStep r < 2 ^ 32 := by
  induction l with
  | nil => intro r h; exact h
  | cons x l ih => intro r h; exact ih _ (byteStep_lt x h)
theorem regAt_lt (l : List UInt8) : regAt l < 2 ^ 32 := fold_lt l _ (by decide)
theorem sumB_lt (l : List UInt8) : sumB l < 2 ^ 32 := Nat.xor_lt_two_pow (by decide) (regAt_lt l)
theorem regAt_snoc (l : List UInt8) (k : Nat) (h : k < l.length) : regAt (l.take (k + 1)) = byteStep (regAt (l.take k)) l[k] := by
  simp only [regAt, List.take_add_one, List.foldl_append, List.getElem?_eq_getElem h]
  rfl

theorem and15 (r : Nat) (h : r < 4294967296) : bits .and .u32 (r : Int) 15 = ((r % 16 : Nat) : Int) := by
  have := u32_and_nat r 15 h (by decide)
  rw [show (15 : Nat) = 2 ^ 4 - 1 from rfl, Nat.and_two_pow_sub_one_eq_mod] at this
  exact this
theorem shr4 (r : Nat) : (r : Int) / 16 = ((r / 16 : Nat) : Int) := by omega
theorem xor_half (r : Nat) (h : r < 4294967296) : bits .xor .u32 ((r : Int) / 16) ((tab.getD (r % 16) 0 : Nat) : Int) = ((half r : Nat) : Int) := by
  rw [shr4 r]; exact u32_xor_nat _ _ (by omega) (tab_lt _)

set_option maxHeartbeats 2000000 in
theorem sum_some {w : World} {a : Addr} {cap : Nat} {l : List UInt8} (hl : l.length ≤ maxLen) (h : ∀ j u, (bcells l)[j]? = some u → w.cell? (a.add j) = some u) (T : Tab w) :
    Calls Tryd.prog 22 #[.slice (some a) l.length cap] w fun e w' => e = .returned (.int .u32 (sumB l)) ∧ w' = w := by
  have H : Hid (∀ j u, (bcells l)[j]? = some u → w.cell? (a.add j) = some u) := h
  have HT : Hid (Tab w) := T
  unfold maxLen at hl
  clear h T
  go_enter Tryd.func22, Tryd.ntmps22
  go_wp2
  go_loop [3, 8] (fun r i => ∃ k R : Nat, k ≤ l.length ∧ i = .int .i64 k ∧ r = .int .u32 R ∧ R < 4294967296 ∧ Hid (R = regAt (l.take k))) (fun _ i => l.length - (intOf i).toNat)
  case atStart => exact ⟨0, 4294967295, Nat.zero_le _, rfl, rfl, by decide, by simp [Hid, regAt]⟩
  case round =>
    obtain ⟨k, R, hk, rfl, rfl, hR, hreg⟩ := hrel
    by_cases hlt : k < l.length
    · have c0 := H.out k _ (bcells_get hlt)
      have hx : l[k].toNat < 256 := l[k].toNat_lt
      have hE : Hid (regAt (l.take (k + 1)) = half (half (R ^^^ l[k].toNat))) := by
        show _ = _
        rw [regAt_snoc l k hlt, ← hreg.out]
        rfl
      generalize l[k].toNat = x at c0 hx hE
      have f1 : bits .xor .u32 (R : Int) (x : Int) = ((R ^^^ x : Nat) : Int) := u32_xor_nat _ _ hR (by omega)
      have hR1 : R ^^^ x < 4294967296 := Nat.xor_lt_two_pow (n := 32) hR (by omega)
      generalize R ^^^ x = R1 at f1 hR1 hE
      have f2 := and15 R1 hR1
      have c1 := HT.out (R1 % 16) (Nat.mod_lt _ (by decide))
      have f4 := xor_half R1 hR1
      have hR2 : half R1 < 4294967296 := half_lt hR1
      have m1 : R1 % 16 < 16 := Nat.mod_lt _ (by decide)
      generalize R1 % 16 = i1 at f2 c1 f4 m1
      generalize tab.getD i1 0 = t1 at c1 f4
      generalize half R1 = R2 at f4 hR2 hE
      have g2 := and15 R2 hR2
      have c2 := HT.out (R2 % 16) (Nat.mod_lt _ (by decide))
      have g4 := xor_half R2 hR2
      have hR3 : half R2 < 4294967296 := half_lt hR2
      have m2 : R2 % 16 < 16 := Nat.mod_lt _ (by decide)
      generalize R2 % 16 = i2 at g2 c2 g4 m2
      generalize tab.getD i2 0 = t2 at c2 g4
      generalize half R2 = R3 at g4 hR3 hE
      go_wp2
      go_round
      case rel => exact ⟨k + 1, R3, by omega, by go_num, rfl, hR3, hE.out.symm⟩
      case measure => simp [intOf]; omega
    · have hE : Hid (sumB l = 4294967295 ^^^ R) := by
        show _ = _
        rw [hreg.out, List.take_of_length_le (by omega)]; rfl
      have f1 : bits .xor .u32 4294967295 (R : Int) = ((4294967295 ^^^ R : Nat) : Int) := u32_xor_nat _ _ (by decide) hR
      go_wp2
      go_ret
      exact ⟨by rw [hE.out]; exact congrArg (fun z => Ending.returned (Value.int .u32 z)) f1, rfl⟩

theorem sum_none {w : World} : Calls Tryd.prog 22 #[.slice none 0 0] w fun e w' => e = .returned (.int .u32 0) ∧ w' = w := by
  go_enter Tryd.func22, Tryd.ntmps22
  go_wp2
  refine wp_loop_rounds 1 ?_
  rw [rounds_succ]
  go_wp2
  go_ret
  exact ⟨by kernel_rfl, rfl⟩

theorem sum_any {w : World} {v : Value} {l : List UInt8} (h : Bts w v l) (T : Tab w) : Calls Tryd.prog 22 #[v] w fun e w' => e = .returned (.int .u32 (sumB l)) ∧ w' = w := by
  rcases h with ⟨rfl, rfl⟩ | ⟨a, cap, rfl, h1, h2, h3⟩
  · exact sum_none
  · exact sum_some (Nat.le_trans h1 h2) h3 T
end Go.Proofs.YtohndhmhgdelmaaDoor
