/- The reference's Texts: the very same. -/
import Derived.Test.YtmeecjedikechaaRNames
namespace Go.Proofs.Ytmeecjedikechaa
open Go.RowKit Go.Maps
set_option maxRecDepth 100000
set_option linter.unusedVariables false
set_option linter.unusedSimpArgs false
/-- A slice that reads as these texts. -/
def Txs (w : World) (v : Value) (l : List ByteArray) : Prop :=
  (v = .slice none 0 0 ∧ l = []) ∨ ∃ a cap, v = .slice (some a) l.length cap ∧ ∀ (j : Nat) (t : ByteArray), l[j]? = some t → w.cell? (a.add j) = some (.string t)
theorem OwnT.txs {w : World} {base : Nat} {v : Value} {l : List ByteArray} (h : OwnT base w v l) : Txs w v l := by
  rcases h.2 with ⟨h1, h2⟩ | ⟨g, cap, cur, h1, h2⟩
  · exact .inl ⟨h1, List.eq_nil_of_length_eq_zero h2⟩
  · refine .inr ⟨⟨g, 0, none⟩, cap, h1, fun j t ht => ?_⟩
    exact World.ownsRow.cells h (g := g) (by rw [h1]; rfl) j _ (by simp [tcells, ht])
theorem Txs.slice {w : World} {v : Value} {l : List ByteArray} (h : Txs w v l) : ∃ a c, v = .slice a l.length c ∧ ∀ (j : Nat) (t : ByteArray), l[j]? = some t → ∃ x, a = some x ∧ w.cell? (x.add j) = some (.string t) := by
  rcases h with ⟨rfl, rfl⟩ | ⟨a, cap, rfl, h⟩
  · exact ⟨none, 0, rfl, by simp⟩
  · exact ⟨some a, cap, rfl, fun j t ht => ⟨a, rfl, h j t ht⟩⟩
set_option maxHeartbeats 2000000 in
theorem texts_yes {w : World} {v u : Value} {l : List ByteArray} (h : Txs w v l) (k : Txs w u l) (hl : l.length ≤ 1000) :
    Calls Try.prog 41 #[v, u] w fun e w' => e = .returned (.bool true) ∧ Below w.heap.size w w' := by
  obtain ⟨a, c, rfl, ha⟩ := h.slice
  obtain ⟨b, d, rfl, hb⟩ := k.slice
  have HA : Hid (∀ (j : Nat) (t : ByteArray), l[j]? = some t → ∃ x, a = some x ∧ w.cell? (x.add j) = some (.string t)) := ha
  have HB : Hid (∀ (j : Nat) (t : ByteArray), l[j]? = some t → ∃ x, b = some x ∧ w.cell? (x.add j) = some (.string t)) := hb
  clear ha hb h k
  go_enter Try.func41, Try.ntmps41
  go_wp2_with fail
  go_loopw [13] (fun i wr => ∃ k : Nat, i = .int .i64 k ∧ k ≤ l.length ∧ Hid (Below w.heap.size w wr)) (fun i _ => l.length - (intOf i).toNat)
  case atStart => exact ⟨0, rfl, Nat.zero_le _, Below.refl _ _⟩
  case round =>
    obtain ⟨k, rfl, hk, HW⟩ := hrel
    by_cases hlt : k < l.length
    · obtain ⟨x, rfl, cx⟩ := HA.out k l[k] (by simp [hlt])
      obtain ⟨y, rfl, cy⟩ := HB.out k l[k] (by simp [hlt])
      have cx' : wr.cell? (x.add k) = some (.string l[k]) := (HW.out.cell (World.block_lt_of_cell? w _ cx)).trans cx
      have cy' : wr.cell? (y.add k) = some (.string l[k]) := (HW.out.cell (World.block_lt_of_cell? w _ cy)).trans cy
      generalize l[k] = t at *
      clear cx cy
      go_wp2
      go_region
      go_wp2
      go_roundw
      case rel => exact ⟨k + 1, by go_num, by omega, HW.out.drew⟩
      case measure => simp [intOf]; omega
    · go_wp2
      go_ret
      exact ⟨rfl, HW.out⟩
end Go.Proofs.Ytmeecjedikechaa
