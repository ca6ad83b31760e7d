/- Chunks in memory; no walk. -/
import Derived.Test.YthomhaegdlglhaaDoorPure
namespace Go.Proofs.YthomhaegdlglhaaDoor
open Go.RowKit

/-- A slice that reads as these chunks (of either struct type: two cells each). -/
def Chs (w : World) (v : Value) (L : List Chk) : Prop :=
  (v = .slice none 0 0 ∧ L = []) ∨ ∃ a cap, v = .slice (some a) L.length cap ∧ L.length ≤ cap ∧ cap ≤ maxLen ∧
    ∀ j c, L[j]? = some c → c.1.size ≤ maxLen ∧ ∃ d, w.cell? (a.add (j * 2)) = some (.string c.1) ∧ w.cell? ⟨(a.add (j * 2)).block, (a.add (j * 2)).off + 1, none⟩ = some d ∧ Bts w d c.2

theorem Chs.kept {w w' : World} {v : Value} {L : List Chk} (h : Chs w v L) (hk : ∀ i, i < w.heap.size → w'.heap[i]? = w.heap[i]?) : Chs w' v L := by
  rcases h with h | ⟨a, cap, h1, h2, h3, h4⟩
  · exact .inl h
  · refine .inr ⟨a, cap, h1, h2, h3, fun j c hj => ?_⟩
    obtain ⟨hs, d, c1, c2, hb⟩ := h4 j c hj
    refine ⟨hs, d, ?_, ?_, hb.kept hk⟩
    · rw [← c1]; exact World.cell?_of_block (hk _ (World.block_lt_of_cell? w _ c1))
    · rw [← c2]; exact World.cell?_of_block (hk _ (World.block_lt_of_cell? w _ c2))
theorem Chs.below {w w' : World} {v : Value} {L : List Chk} (h : Chs w v L) (hk : Below w.heap.size w w') : Chs w' v L := h.kept hk.block
theorem Chs.slice {w : World} {v : Value} {L : List Chk} (h : Chs w v L) : ∃ a c, v = .slice a L.length c ∧ L.length ≤ c ∧ c ≤ maxLen := by
  rcases h with ⟨rfl, rfl⟩ | ⟨a, cap, rfl, h1, h2, _⟩
  · exact ⟨none, 0, rfl, Nat.le_refl _, by decide⟩
  · exact ⟨_, _, rfl, h1, h2⟩
theorem Chs.alloc {w : World} {v : Value} {L : List Chk} (h : Chs w v L) (o : Obj) : Chs (w.alloc o) v L := h.kept fun i hi => Below.heap_alloc w o i hi
end Go.Proofs.YthomhaegdlglhaaDoor
