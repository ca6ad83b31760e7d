/- The contracts of putWord and of wordAt: four bytes, the lowest first. -/
import Derived.Test.YtohndhmhgdelmaaDoorSum
namespace Go.Proofs.YtohndhmhgdelmaaDoor
open Go.RowKit
set_option maxRecDepth 100000

def word4 (n : Nat) : List UInt8 := [UInt8.ofNat n, UInt8.ofNat (n / 256), UInt8.ofNat (n / 65536), UInt8.ofNat (n / 16777216)]
def wordOf (l : List UInt8) (k : Nat) : Nat := (l.getD k 0).toNat + 256 * (l.getD (k + 1) 0).toNat + 65536 * (l.getD (k + 2) 0).toNat + 16777216 * (l.getD (k + 3) 0).toNat

theorem word4_cells (x : Nat) (hx : x < 4294967296) : bcells (word4 x) = [.int .u8 ((x : Int) % 256), .int .u8 ((x : Int) / 256 % 256), .int .u8 ((x : Int) / 65536 % 256), .int .u8 ((x : Int) / 16777216)] := by
  simp [bcells, word4]
  omega

set_option maxHeartbeats 1000000 in
theorem putWord_any {base : Nat} {w : World} {v : Value} {l : List UInt8} (h : Own base w v l) (hb : base ≤ w.heap.size) (x : Nat) (hx : x < 4294967296) (hl : l.length + 4 ≤ 140737488355328) :
    Calls Tryd.prog 47 #[v, .int .u32 x] w fun e w' => ∃ v', e = .returned v' ∧ Apd base w v w' v' (l ++ word4 x) := by
  have bt := lit_bts w (word4 x) (0, 0) (by simp [word4, maxLen])
  rw [word4_cells x hx] at bt
  obtain ⟨v', w', hrun, ha⟩ := own_app 29 (h.alloc _) bt (by simpa [word4] using hl) (by simp; omega)
  have HR : Hid _ := hrun
  have HA : Hid _ := ha.of_alloc
  clear hrun ha bt h hb hl
  go_enter Tryd.func47, Tryd.ntmps47
  go_wp2_with (at_builtin; refine wpList_append_run rfl _ _ 29 rfl _ _ _ _ rfl rfl HR.out ?_)
  go_ret
  exact ⟨v', rfl, HA.out⟩

theorem wordOf_lt (l : List UInt8) (k : Nat) : wordOf l k < 4294967296 := by
  have h0 := (l.getD k 0).toNat_lt
  have h1 := (l.getD (k + 1) 0).toNat_lt
  have h2 := (l.getD (k + 2) 0).toNat_lt
  have h3 := (l.getD (k + 3) 0).toNat_lt
  simp only [wordOf]
  omega

theorem wordOf_get {l : List UInt8} {k : Nat} (hk : k + 4 ≤ l.length) : wordOf l k = l[k].toNat + 256 * l[k + 1].toNat + 65536 * l[k + 2].toNat + 16777216 * l[k + 3].toNat := by
  simp only [wordOf]
  rw [List.getD_eq_getElem?_getD, List.getD_eq_getElem?_getD, List.getD_eq_getElem?_getD, List.getD_eq_getElem?_getD, List.getElem?_eq_getElem, List.getElem?_eq_getElem, List.getElem?_eq_getElem, List.getElem?_eq_getElem]
  rfl

theorem or_sum (a b i : Nat) (hb : b < 2 ^ i) (ha : 2 ^ i * a + b < 4294967296) : bits .or .u32 (b : Int) ((2 ^ i * a : Nat) : Int) = ((2 ^ i * a + b : Nat) : Int) := by
  rw [u32_or_nat _ _ (by omega) (by omega), Nat.two_pow_add_eq_or_of_lt hb, Nat.or_comm]
theorem or_word {x0 x1 x2 x3 : Nat} (b0 : x0 < 256) (b1 : x1 < 256) (b2 : x2 < 256) (b3 : x3 < 256) :
    bits .or .u32 (bits .or .u32 (bits .or .u32 (x0 : Int) ((x1 : Int) * 256)) ((x2 : Int) * 65536)) ((x3 : Int) * 16777216) = ((x0 + 256 * x1 + 65536 * x2 + 16777216 * x3 : Nat) : Int) := by
  have h1 := or_sum x1 x0 8 (by omega) (by omega)
  have h2 := or_sum x2 (2 ^ 8 * x1 + x0) 16 (by omega) (by omega)
  have h3 := or_sum x3 (2 ^ 16 * x2 + (2 ^ 8 * x1 + x0)) 24 (by omega) (by omega)
  have g1 : (x1 : Int) * 256 = ((2 ^ 8 * x1 : Nat) : Int) := by omega
  have g2 : (x2 : Int) * 65536 = ((2 ^ 16 * x2 : Nat) : Int) := by omega
  have g3 : (x3 : Int) * 16777216 = ((2 ^ 24 * x3 : Nat) : Int) := by omega
  rw [g1, g2, g3, h1, h2, h3]
  omega

set_option maxHeartbeats 2000000 in
theorem word_walk {w : World} {a : Addr} {n cap k : Nat} (hk : k + 4 ≤ n) (hn : n ≤ 9223372036854775807) {x0 x1 x2 x3 : Nat} (b0 : x0 < 256) (b1 : x1 < 256) (b2 : x2 < 256) (b3 : x3 < 256)
    (c0 : w.cell? (a.add k) = some (.int .u8 x0)) (c1 : w.cell? (a.add (k + 1)) = some (.int .u8 x1)) (c2 : w.cell? (a.add (k + 2)) = some (.int .u8 x2)) (c3 : w.cell? (a.add (k + 3)) = some (.int .u8 x3)) :
    Calls Tryd.prog 43 #[.slice (some a) n cap, .int .i64 k] w fun e w' => e = .returned (.int .u32 (x0 + 256 * x1 + 65536 * x2 + 16777216 * x3 : Nat)) ∧ w' = w.drew := by
  have k1 : IntKind.i64.wrap ((k : Int) + 1) = ((k + 1 : Nat) : Int) := by rw [IntKind.wrap_i64]; omega
  have k2 : IntKind.i64.wrap ((k : Int) + 2) = ((k + 2 : Nat) : Int) := by rw [IntKind.wrap_i64]; omega
  have k3 : IntKind.i64.wrap ((k : Int) + 3) = ((k + 3 : Nat) : Int) := by rw [IntKind.wrap_i64]; omega
  have e1 : w.cell? ⟨a.block, a.off + (k + 1), none⟩ = some (.int .u8 x1) := c1
  have e2 : w.cell? ⟨a.block, a.off + (k + 2), none⟩ = some (.int .u8 x2) := c2
  have e3 : w.cell? ⟨a.block, a.off + (k + 3), none⟩ = some (.int .u8 x3) := c3
  clear c1 c2 c3
  have i0 : k < n := by omega
  have i1 : k + 1 < n := by omega
  have i2 : k + 2 < n := by omega
  have i3 : k + 3 < n := by omega
  have j1 : (0 : Int) ≤ (k : Int) + 1 ∧ (k : Int) + 1 < (n : Int) := by omega
  have j2 : (0 : Int) ≤ (k : Int) + 2 ∧ (k : Int) + 2 < (n : Int) := by omega
  have j3 : (0 : Int) ≤ (k : Int) + 3 ∧ (k : Int) + 3 < (n : Int) := by omega
  go_enter Tryd.func43, Tryd.ntmps43
  go_wp2
  go_region
  go_wp2
  go_ret
  exact ⟨congrArg (fun z => Ending.returned (Value.int .u32 z)) (or_word b0 b1 b2 b3), rfl⟩

theorem wordAt_any {w : World} {v : Value} {l : List UInt8} (h : Bts w v l) (k : Nat) (hk : k + 4 ≤ l.length) :
    Calls Tryd.prog 43 #[v, .int .i64 k] w fun e w' => e = .returned (.int .u32 (wordOf l k)) ∧ w' = w.drew := by
  rcases h with ⟨rfl, rfl⟩ | ⟨a, cap, rfl, h1, h2, h3⟩
  · simp at hk
  have h2' : cap ≤ 9223372036854775807 := h2
  rw [wordOf_get hk]
  exact word_walk hk (by omega) (l[k].toNat_lt) (l[k + 1].toNat_lt) (l[k + 2].toNat_lt) (l[k + 3].toNat_lt) (h3 k _ (bcells_get (by omega))) (h3 (k + 1) _ (bcells_get (by omega))) (h3 (k + 2) _ (bcells_get (by omega))) (h3 (k + 3) _ (bcells_get (by omega)))
end Go.Proofs.YtohndhmhgdelmaaDoor
