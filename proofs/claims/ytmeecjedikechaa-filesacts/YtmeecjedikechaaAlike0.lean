/- octavolaw01.alike, its first region: names, power and counts. -/
import Derived.Test.YtmeecjedikechaaJB
import Derived.Test.YtmeecjedikechaaSame
namespace Go.Proofs.Ytmeecjedikechaa
open Go.RowKit Go.Maps Go.Sort
set_option maxRecDepth 100000
set_option linter.unusedVariables false
set_option linter.unusedSimpArgs false
def Q0 (base b bm rb : Nat) (r : RS) (P : List PF) (w u : World) : Prop := (∃ K Kr, JB K Kr base b bm rb r P u) ∧ Below base w u
section
variable {base b bm rb : Nat} {r : RS} {P : List PF} {w u u' : World}
theorem Txs.kept {v : Value} {l : List ByteArray} (h : Txs u v l) (hk : ∀ i, i < u.heap.size → u'.heap[i]? = u.heap[i]?) : Txs u' v l := by
  rcases h with h | ⟨a, cap, h1, h2⟩
  · exact .inl h
  · refine .inr ⟨a, cap, h1, fun j t hj => ?_⟩
    have := h2 j t hj
    rw [← this]
    exact World.cell?_of_block (hk _ (World.block_lt_of_cell? u _ this))
theorem Q0.same (h : Q0 base b bm rb r P w u) (hb : Below u.heap.size u u') : Q0 base b bm rb r P w u' := by
  obtain ⟨⟨K, Kr, j⟩, b0⟩ := h
  exact ⟨⟨K, Kr, j.same hb⟩, b0.trans (hb.mono j.bas)⟩
theorem Q0.drew (h : Q0 base b bm rb r P w u) : Q0 base b bm rb r P w u.drew := h.same (Below.refl _ _).drew
theorem Q0.names (h : Q0 base b bm rb r P w u) : Calls Try.prog 24 #[ptrOf b] u fun e w' => ∃ v, e = .returned v ∧ Q0 base b bm rb r P w w' ∧ Txs w' v (P.map fun p => p.nm) := by
  obtain ⟨⟨K, Kr, s, D, F, hS, hR, hL, hK, hr, hb, hrb, hG⟩, b0⟩ := h
  refine Calls.mono (namesP hL hS hb) ?_
  rintro e w' ⟨v, rfl, h1, h2, h3⟩
  exact ⟨v, rfl, ⟨⟨K, Kr, s, D, F, h2, RefP.keep hR hr fun i hi => h3.keep i (hK i hi), hL, hK, hr, Nat.le_trans hb h3.size, hrb, hG⟩, b0.trans h3.below⟩, h1.txs⟩
theorem Q0.rnames (h : Q0 base b bm rb r P w u) {v : Value} (hv : Txs u v (P.map fun p => p.nm)) : Calls Try.prog 42 #[ptrOf rb] u fun e w' => ∃ x, e = .returned x ∧ Q0 base b bm rb r P w w' ∧ Txs w' v (P.map fun p => p.nm) ∧ Txs w' x (P.map fun p => p.nm) := by
  have h0 := h
  obtain ⟨⟨K, Kr, j⟩, b0⟩ := h
  have h16 := j.ja.le
  obtain ⟨s, D, F, hS, hR, hL, hK, hr, hb, hrb, hG⟩ := j
  refine Calls.mono (rnames_any hR (by omega)) ?_
  rintro e w' ⟨x, rfl, h1, h2⟩
  exact ⟨x, rfl, h0.same h2, hv.kept h2.block, h1.txs⟩
theorem Q0.texts (h : Q0 base b bm rb r P w u) {v x : Value} (hv : Txs u v (P.map fun p => p.nm)) (hx : Txs u x (P.map fun p => p.nm)) : Calls Try.prog 41 #[v, x] u fun e w' => e = .returned (.bool true) ∧ Q0 base b bm rb r P w w' := by
  have h16 : P.length ≤ 16 := by obtain ⟨⟨K, Kr, j⟩, b0⟩ := h; exact j.ja.le
  refine Calls.mono (texts_yes hv hx (by simp; omega)) ?_
  rintro e w' ⟨rfl, h2⟩
  exact ⟨rfl, h.same h2⟩
theorem Q0.on (h : Q0 base b bm rb r P w u) : Calls Try.prog 19 #[ptrOf b] u fun e w' => e = .returned (.bool (!r.off)) ∧ w' = u := by
  obtain ⟨⟨K, Kr, s, D, F, hS, hR, hL, _⟩, _⟩ := h
  rw [hL.off]
  exact on_any hS
theorem Q0.ops (h : Q0 base b bm rb r P w u) : Calls Try.prog 28 #[ptrOf b] u fun e w' => e = .returned (.int .i64 r.ops) ∧ w' = u := by
  obtain ⟨⟨K, Kr, s, D, F, hS, hR, hL, _⟩, _⟩ := h
  rw [hL.ops]
  exact ops_any hS
theorem Q0.written (h : Q0 base b bm rb r P w u) : Calls Try.prog 29 #[ptrOf b] u fun e w' => e = .returned (.int .i64 r.written) ∧ w' = u := by
  obtain ⟨⟨K, Kr, s, D, F, hS, hR, hL, _⟩, _⟩ := h
  rw [hL.written]
  exact written_any hS
theorem Q0.cells (h : Q0 base b bm rb r P w u) : u.cell? ⟨rb, 1, none⟩ = some (.bool r.off) ∧ u.cell? ⟨rb, 4, none⟩ = some (.int .i64 r.ops) ∧ u.cell? ⟨rb, 5, none⟩ = some (.int .i64 r.written) := by
  obtain ⟨⟨K, Kr, s, D, F, hS, hR, hL, _⟩, _⟩ := h
  obtain ⟨L, hW, _⟩ := hR
  obtain ⟨fa, fc, hB, _⟩ := hW.slice
  obtain ⟨⟨c0, c1, c2, c3, c4, c5⟩, _⟩ := rbS_cells hB
  exact ⟨c1, c4, c5⟩
end
end Go.Proofs.Ytmeecjedikechaa
