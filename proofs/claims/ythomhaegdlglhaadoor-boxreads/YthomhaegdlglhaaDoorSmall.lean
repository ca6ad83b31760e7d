/- The contracts of fits, twice and wrong. -/
import Derived.Test.YthomhaegdlglhaaDoorGood
import Derived.Maps.Own
import Derived.Maps.OwnOps
import Derived.Maps.Views
namespace Go.Proofs.YthomhaegdlglhaaDoor
open Go.RowKit Go.Maps
set_option maxRecDepth 100000

theorem total_take (L : List Chk) (k : Nat) (h : k < L.length) : totalD (L.take (k + 1)) = totalD (L.take k) + L[k].2.length := by
  rw [List.take_succ_eq_append_getElem h]
  simp only [totalD, List.map_append, List.sum_append, List.map_cons, List.map_nil, List.sum_cons, List.sum_nil]
  omega
theorem total_take_le (L : List Chk) (k : Nat) : totalD (L.take k) ≤ totalD L := by
  conv => rhs; rw [← List.take_append_drop k L]
  simp only [totalD, List.map_append, List.sum_append]
  omega

set_option maxHeartbeats 1000000 in
theorem fits_some {w : World} {a : Addr} {cap : Nat} {L : List Chk} (hl : L.length ≤ maxLen)
    (h : ∀ u : World, Below w.heap.size w u → ∀ j c, L[j]? = some c → c.1.size ≤ maxLen ∧ ∃ d, u.cell? (a.add (j * 2)) = some (.string c.1) ∧ u.cell? ⟨(a.add (j * 2)).block, (a.add (j * 2)).off + 1, none⟩ = some d ∧ Bts u d c.2) :
    Calls Tryd.prog 35 #[.slice (some a) L.length cap] w fun e w' => e = .returned (.bool (decide (totalD L ≤ 131072))) ∧ Below w.heap.size w w' := by
  have hl' : L.length ≤ 9223372036854775807 := hl
  have H : Hid _ := h
  clear h hl
  go_enter Tryd.func35, Tryd.ntmps35
  go_wp2
  go_loopw [3, 8] (fun room i u => ∃ k R : Nat, i = .int .i64 k ∧ k ≤ L.length ∧ room = .int .i64 R ∧ Hid (totalD (L.take k) + R = 131072) ∧ R ≤ 131072 ∧ Below w.heap.size w u) (fun _ i _ => L.length - (intOf i).toNat)
  case atStart => exact ⟨0, 131072, rfl, by omega, rfl, by simp [Hid, totalD], by decide, Below.refl _ _⟩
  case round =>
    obtain ⟨k, R, rfl, hk, rfl, ht, hR, hb⟩ := hrel
    have hsz := hb.size
    by_cases hlt : k < L.length
    · obtain ⟨hs, d, c1, c2, hd⟩ := H.out wr hb k L[k] (List.getElem?_eq_getElem hlt)
      have hT : Hid _ := total_take L k hlt
      have hTT : Hid _ := total_take_le L (k+1)
      obtain ⟨da, dc, rfl, hd1, hd2⟩ := hd.slice
      have hd2' : dc ≤ 9223372036854775807 := hd2
      generalize L[k].1 = tag at *
      generalize L[k].2.length = n at *
      by_cases hn : n ≤ R
      · have hE : Hid (totalD (L.take (k + 1)) + (R - n) = 131072) := by
          show _ = _
          have := hT.out; have := ht.out; omega
        go_wp2
        go_roundw
        case rel => exact ⟨k + 1, R - n, by go_num, by omega, by go_num, hE, by omega, hb.alloc hsz _⟩
        case measure => simp [intOf]; omega
      · have hE : Hid (decide (totalD L ≤ 131072) = false) := by
          show _ = _
          have := hT.out; have := ht.out; have := hTT.out
          simp; omega
        go_wp2
        go_ret
        exact ⟨ret_bool hE.out.symm, hb.alloc hsz _⟩
    · have hE : Hid (decide (totalD L ≤ 131072) = true) := by
        show _ = _
        have := ht.out
        rw [List.take_of_length_le (by omega)] at this
        simp; omega
      go_wp2
      go_ret
      exact ⟨ret_bool hE.out.symm, hb⟩
set_option maxHeartbeats 1000000 in
theorem fits_none {w : World} : Calls Tryd.prog 35 #[.slice none 0 0] w fun e w' => e = .returned (.bool true) ∧ w' = w := by
  go_enter Tryd.func35, Tryd.ntmps35
  go_wp2
  go_loop [8] (fun i => i = .int .i64 0) (fun _ => 0)
  case atStart => rfl
  case round =>
    subst hrel
    go_wp2
    go_ret
    exact ⟨rfl, rfl⟩

/-- What each chunk's cells read as in every world behind this one. -/
theorem Chs.cells {w : World} {a : Addr} {cap : Nat} {L : List Chk}
    (h : ∀ j c, L[j]? = some c → c.1.size ≤ maxLen ∧ ∃ d, w.cell? (a.add (j * 2)) = some (.string c.1) ∧ w.cell? ⟨(a.add (j * 2)).block, (a.add (j * 2)).off + 1, none⟩ = some d ∧ Bts w d c.2) (hc : L.length ≤ cap) (hm : cap ≤ maxLen) :
    ∀ u : World, Below w.heap.size w u → ∀ j c, L[j]? = some c → c.1.size ≤ maxLen ∧ ∃ d, u.cell? (a.add (j * 2)) = some (.string c.1) ∧ u.cell? ⟨(a.add (j * 2)).block, (a.add (j * 2)).off + 1, none⟩ = some d ∧ Bts u d c.2 := by
  intro u hb
  have : Chs w (.slice (some a) L.length cap) L := .inr ⟨a, cap, rfl, hc, hm, h⟩
  rcases this.below hb with ⟨h1, _⟩ | ⟨a', cap', h1, _, _, h4⟩
  · cases h1
  · cases h1; exact h4

theorem fits_any {w : World} {v : Value} {L : List Chk} (h : Chs w v L) :
    Calls Tryd.prog 35 #[v] w fun e w' => e = .returned (.bool (decide (totalD L ≤ 131072))) ∧ Below w.heap.size w w' := by
  rcases h with ⟨rfl, rfl⟩ | ⟨a, cap, rfl, h1, h2, h3⟩
  · refine fits_none.mono ?_
    rintro e w' ⟨rfl, rfl⟩
    exact ⟨rfl, Below.refl _ _⟩
  · exact fits_some (Nat.le_trans h1 h2) (Chs.cells h3 h1 h2)
end Go.Proofs.YthomhaegdlglhaaDoor
