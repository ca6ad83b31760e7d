/- octavolaw01.act, kinds 1 and 5: what is lent. -/
import Derived.Test.YtjncibejdplamaaActIn
import Derived.Test.YtjncibejdplamaaByt
namespace Go.Proofs.Ytjncibejdplamaa
open Go.RowKit Go.Maps
set_option maxRecDepth 100000
set_option linter.unusedVariables false
set_option linter.unusedSimpArgs false
/-- Handed bytes that lie below base. -/
def DB (base : Nat) (w : World) (v : Value) (l : List UInt8) : Prop :=
  (v = .slice none 0 0 ∧ l = []) ∨ ∃ a cap, v = .slice (some a) l.length cap ∧ l.length ≤ cap ∧ cap ≤ maxLen ∧ (l ≠ [] → a.block < base) ∧ ∀ j u, (bcells l)[j]? = some u → w.cell? (a.add j) = some u
section
variable {base : Nat} {w w' : World} {b bm : Nat} {nm0 dat : List UInt8} {n : Int} {rb : Nat} {v : Value} {l : List UInt8}
theorem bcells_same (l : List UInt8) : Byt.bcells l = bcells l := rfl
theorem DB.bts (h : DB base w v l) : Byt.Bts w v l := by
  rcases h with h | ⟨a, c, h1, h2, h3, -, h5⟩
  · exact .inl h
  · exact .inr ⟨a, c, h1, h2, h3, h5⟩
theorem DB.src (h : DB base w v l) (hb : base ≤ rb) : SrcB w rb v l := by
  rcases h with h | ⟨a, c, h1, h2, h3, h4, h5⟩
  · exact .inl h
  · exact .inr ⟨a, c, h1, fun hl => by have := h4 hl; omega, h5⟩
theorem DB.below (h : DB base w v l) (hb : Below base w w') : DB base w' v l := by
  rcases h with h | ⟨a, c, h1, h2, h3, h4, h5⟩
  · exact .inl h
  · refine .inr ⟨a, c, h1, h2, h3, h4, fun j u hj => ?_⟩
    have hl : l ≠ [] := by rintro rfl; simp [bcells] at hj
    have hblk : (a.add j).block < base := by rw [Byt.addr_block]; exact h4 hl
    have e := h5 j u hj
    have := hb.block _ hblk
    simpa [World.cell?, this] using e
def K3 (rb g q : Nat) : Nat → Prop := fun i => i = rb ∨ i = g ∨ i = q
def LI (base b bm : Nat) (nm0 dat : List UInt8) (n : Int) (rb g q : Nat) (cs : Array Value) (l : List UInt8) (w0 w : World) : Prop :=
  AP (K3 rb g q) base b bm nm0 dat n w ∧ w.heap[g]? = some (.cells cs 31 (0, 0)) ∧ w.heap[rb]? = some rblk ∧ base ≤ w.heap.size ∧ Below base w0 w ∧ Byt.Own q w (.slice (some ⟨q, 0, none⟩) (l.length + 2) (l.length + 2)) (165 :: (l ++ [90]))
theorem lend_in (h : AP (fun i => i = rb) base b bm nm0 dat n w) (hrb : w.heap[rb]? = some rblk) (hb : base ≤ w.heap.size) (cs : Array Value) {q : Nat} (hq : w.heap.size + 1 = q) {w2 : World}
    (ho : Byt.Own q w2 (.slice (some ⟨q, 0, none⟩) (l.length + 2) (l.length + 2)) (165 :: (l ++ [90]))) (hB : Below q (w.alloc (.cells cs 31)) w2) :
    LI base b bm nm0 dat n rb w.heap.size q cs l w w2 := by
  have hl : rb < w.heap.size := lt_of_some hrb
  have hs : (w.alloc (.cells cs 31)).heap.size = q := by simp [hq]
  have hkeep : ∀ i, i < w.heap.size → w2.heap[i]? = w.heap[i]? := fun i hi => (hB.block i (by omega)).trans (Below.heap_alloc w _ i hi)
  have hq2 := (ho.lt (g := q) rfl).2
  refine ⟨h.reK hkeep fun i hi => ?_, (hB.block _ (by omega)).trans (heap_alloc_new w _), (hkeep _ hl).trans hrb, by omega, ((Below.refl base w).alloc hb _).trans (hB.mono (by omega)), ho⟩
  rcases hi with rfl | rfl | rfl
  · exact ⟨by omega, .inl rfl⟩
  · exact ⟨by omega, .inr (by omega)⟩
  · exact ⟨by omega, .inr (by omega)⟩
end
/-- What is lent is of other blocks than the world's own. -/
theorem lent_src {base b bm : Nat} {nm0 dat : List UInt8} {n : Int} {rb g q : Nat} {cs : Array Value} {l : List UInt8} {w0 w : World} (h : LI base b bm nm0 dat n rb g q cs l w0 w) (hl : l.length ≤ 140737488351232) :
    SrcB w.drew b (.slice (some ⟨q, 1, none⟩) l.length (l.length + 1)) l := by
  have hb : q ≠ b := by
    obtain ⟨s, D, F, f, hS, -⟩ := h.1
    exact fun e => hS.hb.2 (e ▸ .inr (.inr rfl))
  rcases Byt.lent_part h.2.2.2.2.2 (by omega) with ⟨h1, h2⟩ | ⟨a, cap, h1, h2, h3, h4⟩
  · simp at h1
  · simp only [Value.slice.injEq, Option.some.injEq] at h1
    obtain ⟨rfl, -, rfl⟩ := h1
    exact .inr ⟨_, _, rfl, fun _ => hb, h4⟩
end Go.Proofs.Ytjncibejdplamaa
