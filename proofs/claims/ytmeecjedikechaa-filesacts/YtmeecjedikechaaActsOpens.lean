/- Handed acts, opened, with bounds of their numbers; no walk. -/
import Derived.Test.YtmeecjedikechaaApartOpens
namespace Go.Proofs.Ytmeecjedikechaa
open Go.ChangeShapes Go.WideShapes Go.ChangeAt Go.WideElems Go.RowKit Go.Deep
set_option maxRecDepth 100000
set_option linter.unusedVariables false
set_option linter.unusedSimpArgs false
theorem wf_max {n : Int} (h : (Lit.int .i64 n).wf = true) : n ≤ 9223372036854775807 := by
  have h1 : IntKind.i64.min = -9223372036854775808 := rfl
  have h2 : IntKind.i64.max = 9223372036854775807 := rfl
  simp [Lit.wf] at h
  omega
section
variable {H : Type} {enc : TypeId × Value → H} {W : World} {held : Bool}
theorem act_open2 {fuel : Nat} {cs : List Value} {y : DataW H × List MemPlace} (h : DataW.trod enc Try.prog W 0 (fun _ => true) held fuel 31 cs = some y) (hw : ∀ n ∈ y.1.weights Try.prog 31, n ≤ reachBytes) : ∃ t : ActT, cs = actC t ∧ ActOk W.heap.size W t ∧ t.n ≤ 9223372036854775807 ∧ t.m ≤ 9223372036854775807 := by
  obtain ⟨xs, n, _, rfl, hl, hxl, hf⟩ := DataW.trod_struct Try.underlying31 h
  have hl6 : cs.length = 6 := hl.trans (by kernel_rfl)
  match xs, hxl, cs, hl6 with
  | [y0, y1, y2, y3, y4, y5], _, [v0, v1, v2, v3, v4, v5], _ =>
    obtain ⟨n0, e0, q0, w0⟩ := DataW.trod_int Try.underlying3 (hf 0 _ rfl)
    obtain ⟨s1, e1, q1, w1⟩ := DataW.trod_string Try.underlying9 (hf 1 _ rfl)
    obtain ⟨s2, e2, q2, w2⟩ := DataW.trod_string Try.underlying9 (hf 2 _ rfl)
    obtain ⟨n3, e3, q3, w3⟩ := DataW.trod_int Try.underlying3 (hf 3 _ rfl)
    obtain ⟨n4, e4, q4, w4⟩ := DataW.trod_int Try.underlying3 (hf 4 _ rfl)
    obtain ⟨a, c, l, rfl, hd, hl5⟩ := data_open (v := v5) (hf 5 _ rfl) (fun k hk => hw k (by simp only [DataW.weights, Try.underlying31, List.map_cons, List.map_nil, DataW.weightsEach, List.mem_append]; simp; right; right; right; right; right; exact hk))
    cases e0; cases e1; cases e2; cases e3; cases e4
    exact ⟨⟨n0, s1, s2, n3, n4, a, l.length, c, l⟩, rfl, ⟨hd, w1, w2, hl5⟩, wf_max w3, wf_max w4⟩
theorem acts_open2 {fuel : Nat} {v : Value} {x : DataW H × List MemPlace} (h : DataW.trod enc Try.prog W 0 (fun _ => true) held fuel 22 [v] = some x) (hw : ∀ n ∈ x.1.weights Try.prog 22, n ≤ reachBytes) :
    ∃ a c L, v = .slice a (List.length L) c ∧ ActsIn W.heap.size W v L ∧ ∀ t ∈ L, t.n ≤ 9223372036854775807 ∧ t.m ≤ 9223372036854775807 := by
  rcases open_slice Try.underlying22 h with ⟨hcs, hx⟩ | ⟨a, len, cap, m, n, D, Pl, hcs, hb, hl, hm, hmm, hx, hel⟩
  · simp at hcs
    exact ⟨none, 0, [], hcs, ⟨fun t ht => (by cases ht), .inl ⟨hcs, rfl⟩⟩, fun t ht => (by cases ht)⟩
  · simp only [List.cons.injEq, and_true] at hcs
    simp only [if_true] at hmm
    have hwD : ∀ i, i < len → ∀ n ∈ (D i).weights Try.prog 31, n ≤ reachBytes := fun i hi n hn => hw n (by
      rw [hx]
      simp only [DataW.weights, Try.underlying22, List.mem_cons, List.mem_append]
      exact .inr (.inl (weightsAll_mem hn (List.mem_map.2 ⟨i, List.mem_range.2 hi, rfl⟩))))
    obtain ⟨L, hL, hP⟩ := list_of (α := ActT) (P := fun i c => W.cells? 0 (a.add (i * 6)) 6 = some (actC c) ∧ ActOk W.heap.size W c ∧ c.n ≤ 9223372036854775807 ∧ c.m ≤ 9223372036854775807) len fun i hi => by
      obtain ⟨cs', k1, k2⟩ := hel i (by omega)
      rw [show Try.prog.cellsOf 31 = 6 by kernel_rfl] at k1
      obtain ⟨c, rfl, q1⟩ := act_open2 k2 (hwD i hi)
      exact ⟨c, k1, q1⟩
    have hcell : ∀ (j : Nat) (c : ActT) (i : Nat) (u : Value), L[j]? = some c → (actC c)[i]? = some u → W.cell? ((a.add (j * 6)).add i) = some u := fun j c i u hj hu => by
      have h1 := World.cells?_some (hP j c hj).1
      have hi : i < 6 := by
        rcases Nat.lt_or_ge i 6 with h | h
        · exact h
        · rw [List.getElem?_eq_none (by simpa [actC] using h)] at hu; cases hu
      rw [h1.2.2 i hi, hu]
    refine ⟨some a, cap, L, by rw [hL]; exact hcs, ⟨fun t ht => ?_, .inr ⟨a, cap, by rw [hL]; exact hcs, by omega, hm, fun h0 => ?_, fun k t hk j u hu => hcell k t j u hk hu⟩⟩, fun t ht => ?_⟩
    · obtain ⟨i, hi⟩ := List.mem_iff_getElem?.1 ht
      exact (hP i t hi).2.1
    · obtain ⟨t, r, e⟩ := List.exists_cons_of_ne_nil h0
      have := World.block_lt_of_cell? W _ (hcell 0 t 0 _ (by rw [e]; rfl) rfl)
      rw [Byt.addr_block, Byt.addr_block] at this
      exact this
    · obtain ⟨i, hi⟩ := List.mem_iff_getElem?.1 ht
      exact (hP i t hi).2.2
end
end Go.Proofs.Ytmeecjedikechaa
