import Derived.Test.YtcheikpmhdliiaaDoorBase
import Derived.Laws.BitsAllLaws
/- The contract of bytes.Sum. -/
namespace Go.Proofs.YtcheikpmhdliiaaDoor
open Go.RowKit
set_option maxRecDepth 100000

/-- Half a byte's step of the register, as the program takes it. -/
def half (r : Nat) : Nat := (r / 16) ^^^ tab.getD (r % 16) 0
def byteStep (r : Nat) (x : UInt8) : Nat := half (half (r ^^^ x.toNat))
def regAt (l : List UInt8) : Nat := l.foldl byteStep 4294967295
def sumB (l : List UInt8) : Nat := 4294967295 ^^^ regAt l

theorem tab_lt (i : Nat) : tab.getD i 0 < 2 ^ 32 := by
  by_cases h : i < 16
  · revert i; decide
  · rw [List.getD_eq_getElem?_getD, List.getElem?_eq_none (by simp [tab]; omega)]; decide
theorem half_lt {r : Nat} (h : r < 2 ^ 32) : half r < 2 ^ 32 := Nat.xor_lt_two_pow (by omega) (tab_lt _)
theorem byteStep_lt {r : Nat} (x : UInt8) (h : r < 2 ^ 32) : byteStep r x < 2 ^ 32 := half_lt (half_lt (Nat.xor_lt_two_pow h (by have := x.toNat_lt; omega)))
theorem fold_lt (l : List UInt8) : ∀ r, r < 2 ^ 32 → l.foldl byteStep r < 2 ^ 32 := by
  induction l with
  | nil => intro r h; exact h
  | cons x l ih => intro r h; exact ih _ (byteStep_lt x h)
theorem regAt_lt (l : List UInt8) : regAt l < 2 ^ 32 := fold_lt l _ (by decide)
theorem sumB_lt (l : List UInt8) : sumB l < 2 ^ 32 := Nat.xor_lt_two_pow (by decide) (regAt_lt l)
theorem regAt_snoc (l : List UInt8) (k : Nat) (h : k < l.length) : regAt (l.take (k + 1)) = byteStep (regAt (l.take k)) l[k] := by
  simp only [regAt, List.take_add_one, List.foldl_append, List.getElem?_eq_getElem h]
  rfl

theorem and15 (r : Nat) (h : r < 4294967296) : bits .and .u32 (r : Int) 15 = ((r % 16 : Nat) : Int) := by
  have := u32_and_nat r 15 h (by decide)
  rw [show (15 : Nat) = 2 ^ 4 - 1 from rfl, Nat.and_two_pow_sub_one_eq_mod] at this
  exact this
theorem shr4 (r : Nat) : (r : Int) / 16 = ((r / 16 : Nat) : Int) := by omega
theorem xor_half (r : Nat) (h : r < 4294967296) : bits .xor .u32 ((r : Int) / 16) ((tab.getD (r % 16) 0 : Nat) : Int) = ((half r : Nat) : Int) := by
  rw [shr4 r]; exact u32_xor_nat _ _ (by omega) (tab_lt _)

set_option maxHeartbeats 2000000 in
theorem sum_some {w : World} {a : Addr} {cap : Nat} {l : List UInt8} (hl : l.length ≤ maxLen) (h : ∀ j u, (bcells l)[j]? = some u → w.cell? (a.add j) = some u) (T : Tab w) :
    Calls Tryd.prog 29 #[.slice (some a) l.length cap] w fun e w' => e = .returned (.int .u32 (sumB l)) ∧ w' = w := by
  have H : Hid (∀ j u, (bcells l)[j]? = some u → w.cell? (a.add j) = some u) := h
  have HT : Hid (Tab w) := T
  unfold maxLen at hl
  clear h T
  go_enter Tryd.func29, Tryd.ntmps29
  go_wp2
  go_loop [3, 8] (fun r i => ∃ k R : Nat, k ≤ l.length ∧ i = .int .i64 k ∧ r = .int .u32 R ∧ R < 4294967296 ∧ Hid (R = regAt (l.take k))) (fun _ i => l.length - (intOf i).toNat)
  case atStart => exact ⟨0, 4294967295, Nat.zero_le _, rfl, rfl, by decide, by simp [Hid, regAt]⟩
  case round =>
    obtain ⟨k, R, hk, rfl, rfl, hR, hreg⟩ := hrel
    by_cases hlt : k < l.length
    · have c0 := H.out k _ (bcells_get hlt)
      have hx : l[k].toNat < 256 := l[k].toNat_lt
      have hE : Hid (regAt (l.take (k + 1)) = half (half (R ^^^ l[k].toNat))) := by
        show _ = _
        rw [regAt_snoc l k hlt, ← hreg.out]
        rfl
      generalize l[k].toNat = x at c0 hx hE
      have f1 : bits .xor .u32 (R : Int) (x : Int) = ((R ^^^ x : Nat) : Int) := u32_xor_nat _ _ hR (by omega)
      have hR1 : R ^^^ x < 4294967296 := Nat.xor_lt_two_pow (n := 32) hR (by omega)
      generalize R ^^^ x = R1 at f1 hR1 hE
      have f2 := and15 R1 hR1
      have c1 := HT.out (R1 % 16) (Nat.mod_lt _ (by decide))
      have f4 := xor_half R1 hR1
      have hR2 : half R1 < 4294967296 := half_lt hR1
      have m1 : R1 % 16 < 16 := Nat.mod_lt _ (by decide)
      generalize R1 % 16 = i1 at f2 c1 f4 m1
      generalize tab.getD i1 0 = t1 at c1 f4
      generalize half R1 = R2 at f4 hR2 hE
      have g2 := and15 R2 hR2
      have c2 := HT.out (R2 % 16) (Nat.mod_lt _ (by decide))
      have g4 := xor_half R2 hR2
      have hR3 : half R2 < 4294967296 := half_lt hR2
      have m2 : R2 % 16 < 16 := Nat.mod_lt _ (by decide)
      generalize R2 % 16 = i2 at g2 c2 g4 m2
      generalize tab.getD i2 0 = t2 at c2 g4
      generalize half R2 = R3 at g4 hR3 hE
      go_wp2
      go_round
      case rel => exact ⟨k + 1, R3, by omega, by go_num, rfl, hR3, hE.out.symm⟩
      case measure => simp [intOf]; omega
    · have hE : Hid (sumB l = 4294967295 ^^^ R) := by
        show _ = _
        rw [hreg.out, List.take_of_length_le (by omega)]; rfl
      have f1 : bits .xor .u32 4294967295 (R : Int) = ((4294967295 ^^^ R : Nat) : Int) := u32_xor_nat _ _ (by decide) hR
      go_wp2
      go_ret
      exact ⟨by rw [hE.out]; exact congrArg (fun z => Ending.returned (Value.int .u32 z)) f1, rfl⟩

theorem sum_none {w : World} : Calls Tryd.prog 29 #[.slice none 0 0] w fun e w' => e = .returned (.int .u32 0) ∧ w' = w := by
  go_enter Tryd.func29, Tryd.ntmps29
  go_wp2
  refine wp_loop_rounds 1 ?_
  rw [rounds_succ]
  go_wp2
  go_ret
  exact ⟨by kernel_rfl, rfl⟩

theorem sum_any {w : World} {v : Value} {l : List UInt8} (h : Bts w v l) (T : Tab w) : Calls Tryd.prog 29 #[v] w fun e w' => e = .returned (.int .u32 (sumB l)) ∧ w' = w := by
  rcases h with ⟨rfl, rfl⟩ | ⟨a, cap, rfl, h1, h2, h3⟩
  · exact sum_none
  · exact sum_some (Nat.le_trans h1 h2) h3 T
end Go.Proofs.YtcheikpmhdliiaaDoor

/- The contracts of putWord and of wordAt: four bytes, the lowest first. -/
namespace Go.Proofs.YtcheikpmhdliiaaDoor
open Go.RowKit
set_option maxRecDepth 100000

def word4 (n : Nat) : List UInt8 := [UInt8.ofNat n, UInt8.ofNat (n / 256), UInt8.ofNat (n / 65536), UInt8.ofNat (n / 16777216)]
def wordOf (l : List UInt8) (k : Nat) : Nat := (l.getD k 0).toNat + 256 * (l.getD (k + 1) 0).toNat + 65536 * (l.getD (k + 2) 0).toNat + 16777216 * (l.getD (k + 3) 0).toNat

theorem word4_cells (x : Nat) (hx : x < 4294967296) : bcells (word4 x) = [.int .u8 ((x : Int) % 256), .int .u8 ((x : Int) / 256 % 256), .int .u8 ((x : Int) / 65536 % 256), .int .u8 ((x : Int) / 16777216)] := by
  simp [bcells, word4]
  omega

set_option maxHeartbeats 1000000 in
theorem putWord_any {base : Nat} {w : World} {v : Value} {l : List UInt8} (h : Own base w v l) (hb : base ≤ w.heap.size) (x : Nat) (hx : x < 4294967296) (hl : l.length + 4 ≤ 140737488355328) :
    Calls Tryd.prog 54 #[v, .int .u32 x] w fun e w' => ∃ v', e = .returned v' ∧ Apd base w v w' v' (l ++ word4 x) := by
  have bt := lit_bts w (word4 x) (0, 0) (by simp [word4, maxLen])
  rw [word4_cells x hx] at bt
  obtain ⟨v', w', hrun, ha⟩ := own_app 24 (h.alloc _) bt (by simpa [word4] using hl) (by simp; omega)
  have HR : Hid _ := hrun
  have HA : Hid _ := ha.of_alloc
  clear hrun ha bt h hb hl
  go_enter Tryd.func54, Tryd.ntmps54
  go_wp2_with (at_builtin; refine wpList_append_run rfl _ _ 24 rfl _ _ _ _ rfl rfl HR.out ?_)
  go_ret
  exact ⟨v', rfl, HA.out⟩

theorem wordOf_lt (l : List UInt8) (k : Nat) : wordOf l k < 4294967296 := by
  have h0 := (l.getD k 0).toNat_lt
  have h1 := (l.getD (k + 1) 0).toNat_lt
  have h2 := (l.getD (k + 2) 0).toNat_lt
  have h3 := (l.getD (k + 3) 0).toNat_lt
  simp only [wordOf]
  omega

theorem wordOf_get {l : List UInt8} {k : Nat} (hk : k + 4 ≤ l.length) : wordOf l k = l[k].toNat + 256 * l[k + 1].toNat + 65536 * l[k + 2].toNat + 16777216 * l[k + 3].toNat := by
  simp only [wordOf]
  rw [List.getD_eq_getElem?_getD, List.getD_eq_getElem?_getD, List.getD_eq_getElem?_getD, List.getD_eq_getElem?_getD, List.getElem?_eq_getElem, List.getElem?_eq_getElem, List.getElem?_eq_getElem, List.getElem?_eq_getElem]
  rfl

theorem or_sum (a b i : Nat) (hb : b < 2 ^ i) (ha : 2 ^ i * a + b < 4294967296) : bits .or .u32 (b : Int) ((2 ^ i * a : Nat) : Int) = ((2 ^ i * a + b : Nat) : Int) := by
  rw [u32_or_nat _ _ (by omega) (by omega), Nat.two_pow_add_eq_or_of_lt hb, Nat.or_comm]
theorem or_word {x0 x1 x2 x3 : Nat} (b0 : x0 < 256) (b1 : x1 < 256) (b2 : x2 < 256) (b3 : x3 < 256) :
    bits .or .u32 (bits .or .u32 (bits .or .u32 (x0 : Int) ((x1 : Int) * 256)) ((x2 : Int) * 65536)) ((x3 : Int) * 16777216) = ((x0 + 256 * x1 + 65536 * x2 + 16777216 * x3 : Nat) : Int) := by
  have h1 := or_sum x1 x0 8 (by omega) (by omega)
  have h2 := or_sum x2 (2 ^ 8 * x1 + x0) 16 (by omega) (by omega)
  have h3 := or_sum x3 (2 ^ 16 * x2 + (2 ^ 8 * x1 + x0)) 24 (by omega) (by omega)
  have g1 : (x1 : Int) * 256 = ((2 ^ 8 * x1 : Nat) : Int) := by omega
  have g2 : (x2 : Int) * 65536 = ((2 ^ 16 * x2 : Nat) : Int) := by omega
  have g3 : (x3 : Int) * 16777216 = ((2 ^ 24 * x3 : Nat) : Int) := by omega
  rw [g1, g2, g3, h1, h2, h3]
  omega

set_option maxHeartbeats 2000000 in
theorem word_walk {w : World} {a : Addr} {n cap k : Nat} (hk : k + 4 ≤ n) (hn : n ≤ 9223372036854775807) {x0 x1 x2 x3 : Nat} (b0 : x0 < 256) (b1 : x1 < 256) (b2 : x2 < 256) (b3 : x3 < 256)
    (c0 : w.cell? (a.add k) = some (.int .u8 x0)) (c1 : w.cell? (a.add (k + 1)) = some (.int .u8 x1)) (c2 : w.cell? (a.add (k + 2)) = some (.int .u8 x2)) (c3 : w.cell? (a.add (k + 3)) = some (.int .u8 x3)) :
    Calls Tryd.prog 50 #[.slice (some a) n cap, .int .i64 k] w fun e w' => e = .returned (.int .u32 (x0 + 256 * x1 + 65536 * x2 + 16777216 * x3 : Nat)) ∧ w' = w.drew := by
  have k1 : IntKind.i64.wrap ((k : Int) + 1) = ((k + 1 : Nat) : Int) := by rw [IntKind.wrap_i64]; omega
  have k2 : IntKind.i64.wrap ((k : Int) + 2) = ((k + 2 : Nat) : Int) := by rw [IntKind.wrap_i64]; omega
  have k3 : IntKind.i64.wrap ((k : Int) + 3) = ((k + 3 : Nat) : Int) := by rw [IntKind.wrap_i64]; omega
  have e1 : w.cell? ⟨a.block, a.off + (k + 1), none⟩ = some (.int .u8 x1) := c1
  have e2 : w.cell? ⟨a.block, a.off + (k + 2), none⟩ = some (.int .u8 x2) := c2
  have e3 : w.cell? ⟨a.block, a.off + (k + 3), none⟩ = some (.int .u8 x3) := c3
  clear c1 c2 c3
  have i0 : k < n := by omega
  have i1 : k + 1 < n := by omega
  have i2 : k + 2 < n := by omega
  have i3 : k + 3 < n := by omega
  have j1 : (0 : Int) ≤ (k : Int) + 1 ∧ (k : Int) + 1 < (n : Int) := by omega
  have j2 : (0 : Int) ≤ (k : Int) + 2 ∧ (k : Int) + 2 < (n : Int) := by omega
  have j3 : (0 : Int) ≤ (k : Int) + 3 ∧ (k : Int) + 3 < (n : Int) := by omega
  go_enter Tryd.func50, Tryd.ntmps50
  go_wp2
  go_region
  go_wp2
  go_ret
  exact ⟨congrArg (fun z => Ending.returned (Value.int .u32 z)) (or_word b0 b1 b2 b3), rfl⟩

theorem wordAt_any {w : World} {v : Value} {l : List UInt8} (h : Bts w v l) (k : Nat) (hk : k + 4 ≤ l.length) :
    Calls Tryd.prog 50 #[v, .int .i64 k] w fun e w' => e = .returned (.int .u32 (wordOf l k)) ∧ w' = w.drew := by
  rcases h with ⟨rfl, rfl⟩ | ⟨a, cap, rfl, h1, h2, h3⟩
  · simp at hk
  have h2' : cap ≤ 9223372036854775807 := h2
  rw [wordOf_get hk]
  exact word_walk hk (by omega) (l[k].toNat_lt) (l[k + 1].toNat_lt) (l[k + 2].toNat_lt) (l[k + 3].toNat_lt) (h3 k _ (bcells_get (by omega))) (h3 (k + 1) _ (bcells_get (by omega))) (h3 (k + 2) _ (bcells_get (by omega))) (h3 (k + 3) _ (bcells_get (by omega)))
end Go.Proofs.YtcheikpmhdliiaaDoor
