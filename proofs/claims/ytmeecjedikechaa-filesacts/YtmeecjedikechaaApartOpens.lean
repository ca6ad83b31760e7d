/- Handed acts and bytes, opened; no walk. -/
import Derived.Test.YtmeecjedikechaaActMem
import Derived.ProofKit
import Derived.SizedLaws
import Derived.OpenShut
import Derived.Deep.Slices
import Derived.ChangeSame
namespace Go.Proofs.Ytmeecjedikechaa
open Go.ChangeShapes Go.WideShapes Go.ChangeAt Go.WideElems Go.RowKit Go.Deep
set_option maxRecDepth 100000
set_option linter.unusedVariables false
set_option linter.unusedSimpArgs false
theorem wf_u8 {n : Int} (h : (Lit.int .u8 n).wf = true) : 0 ≤ n ∧ n < 256 := by
  have h1 : IntKind.u8.min = 0 := rfl
  have h2 : IntKind.u8.max = 255 := rfl
  simp [Lit.wf] at h
  omega
def bytesOf (zs : List Int) (n : Nat) : List UInt8 := (zs.take n).map fun z => UInt8.ofNat z.toNat
theorem list_of {α : Type} {P : Nat → α → Prop} : ∀ (n : Nat), (∀ i, i < n → ∃ c, P i c) → ∃ L : List α, L.length = n ∧ ∀ i c, L[i]? = some c → P i c
  | 0, _ => ⟨[], rfl, fun i c h => by simp at h⟩
  | n + 1, h => by
    obtain ⟨L, h1, h2⟩ := list_of n fun i hi => h i (by omega)
    obtain ⟨c, hc⟩ := h n (by omega)
    refine ⟨L ++ [c], by simp [h1], fun i x hi => ?_⟩
    by_cases hlt : i < L.length
    · rw [List.getElem?_append_left hlt] at hi; exact h2 i x hi
    · rw [List.getElem?_append_right (by omega)] at hi
      have hi0 : i = n := by
        rcases Nat.lt_or_ge (i - L.length) 1 with h | h
        · omega
        · rw [List.getElem?_eq_none (by simpa using h)] at hi; cases hi
      subst hi0
      rw [h1] at hi
      simp at hi
      subst hi
      exact hc
theorem weightsAll_mem {H : Type} {P : Program} {e : TypeId} {d : DataW H} {n : Nat} (hn : n ∈ d.weights P e) : ∀ {ds : List (DataW H)}, d ∈ ds → n ∈ DataW.weightsAll P e ds
  | [], h => by cases h
  | x :: r, h => by
    simp only [DataW.weightsAll, List.mem_append]
    rcases List.mem_cons.1 h with rfl | h
    · exact .inl hn
    · exact .inr (weightsAll_mem hn h)
theorem byt5 : Try.prog.bytesOf 5 = 1 := by kernel_rfl
section
variable {H : Type} {enc : TypeId × Value → H} {W : World} {held : Bool}
theorem data_open {fuel : Nat} {v : Value} {x : DataW H × List MemPlace} (h : DataW.trod enc Try.prog W 0 (fun _ => true) held fuel 29 [v] = some x) (hw : ∀ n ∈ x.1.weights Try.prog 29, n ≤ reachBytes) :
    ∃ a c l, v = .slice a (List.length l) c ∧ DB W.heap.size W v l ∧ l.length ≤ 140737488351232 := by
  rcases open_ints Try.underlying29 Try.underlying5 (by kernel_rfl) h with ⟨hcs, _⟩ | ⟨x', l, c, zs, hcs, _, hl, hm, hz, hx, hcell, hwz⟩
  · simp at hcs
    exact ⟨none, 0, [], hcs, .inl ⟨hcs, rfl⟩, by simp⟩
  · simp only [List.cons.injEq, and_true] at hcs
    simp only [if_true] at hz
    have hlen : (bytesOf zs l).length = l := by simp [bytesOf]; omega
    refine ⟨some x', c, bytesOf zs l, by rw [hlen]; exact hcs, .inr ⟨x', c, by rw [hlen]; exact hcs, by omega, hm, ?_, ?_⟩, ?_⟩
    · intro hne
      have h0 : 0 < l := by
        rcases Nat.eq_zero_or_pos l with e | e
        · subst e; exact absurd (List.eq_nil_of_length_eq_zero hlen) hne
        · exact e
      have := World.block_lt_of_cell? W _ (hcell 0 (by omega))
      rw [Byt.addr_block] at this
      exact this
    · intro j u hj
      have hjn : j < l := by
        rcases Nat.lt_or_ge j l with e | e
        · exact e
        · rw [List.getElem?_eq_none (by rw [bcells_length, hlen]; exact e)] at hj; cases hj
      have hjz : j < zs.length := by omega
      have hc := hcell j hjz
      have hu : u = .int .u8 (zs.getD j 0) := by
        have hz : zs[j]? = some zs[j] := List.getElem?_eq_getElem hjz
        obtain ⟨q1, q2⟩ := wf_u8 (hwz zs[j] (List.getElem_mem _))
        simp [bcells, bytesOf, hjn, hz] at hj
        subst hj
        rw [List.getD_eq_getElem?_getD, hz]
        simp
        omega
      rw [hu, ← hc]
    · have := hw ((zs.take l).length + (zs.drop l).length) (by rw [hx]; simp [DataW.weights, Try.underlying29, byt5, lits])
      simp only [List.length_take, List.length_drop, reachBytes] at this
      omega
theorem act_open {fuel : Nat} {cs : List Value} {y : DataW H × List MemPlace} (h : DataW.trod enc Try.prog W 0 (fun _ => true) held fuel 31 cs = some y) (hw : ∀ n ∈ y.1.weights Try.prog 31, n ≤ reachBytes) : ∃ t : ActT, cs = actC t ∧ ActOk W.heap.size W t := by
  obtain ⟨xs, n, _, rfl, hl, hxl, hf⟩ := DataW.trod_struct Try.underlying31 h
  have hl6 : cs.length = 6 := hl.trans (by kernel_rfl)
  match xs, hxl, cs, hl6 with
  | [y0, y1, y2, y3, y4, y5], _, [v0, v1, v2, v3, v4, v5], _ =>
    obtain ⟨n0, e0, q0, w0⟩ := DataW.trod_int Try.underlying3 (hf 0 _ rfl)
    obtain ⟨s1, e1, q1, w1⟩ := DataW.trod_string Try.underlying9 (hf 1 _ rfl)
    obtain ⟨s2, e2, q2, w2⟩ := DataW.trod_string Try.underlying9 (hf 2 _ rfl)
    obtain ⟨n3, e3, q3, w3⟩ := DataW.trod_int Try.underlying3 (hf 3 _ rfl)
    obtain ⟨n4, e4, q4, w4⟩ := DataW.trod_int Try.underlying3 (hf 4 _ rfl)
    obtain ⟨a, c, l, rfl, hd, hl5⟩ := data_open (v := v5) (hf 5 _ rfl) (fun k hk => hw k (by simp only [DataW.weights, Try.underlying31, List.map_cons, List.map_nil, DataW.weightsEach, List.mem_append]; simp; right; right; right; right; right; exact hk))
    cases e0; cases e1; cases e2; cases e3; cases e4
    exact ⟨⟨n0, s1, s2, n3, n4, a, l.length, c, l⟩, rfl, hd, w1, w2, hl5⟩
theorem acts_open {fuel : Nat} {v : Value} {x : DataW H × List MemPlace} (h : DataW.trod enc Try.prog W 0 (fun _ => true) held fuel 22 [v] = some x) (hw : ∀ n ∈ x.1.weights Try.prog 22, n ≤ reachBytes) :
    ∃ a c L, v = .slice a (List.length L) c ∧ ActsIn W.heap.size W v L := by
  rcases open_slice Try.underlying22 h with ⟨hcs, hx⟩ | ⟨a, len, cap, m, n, D, Pl, hcs, hb, hl, hm, hmm, hx, hel⟩
  · simp at hcs
    exact ⟨none, 0, [], hcs, fun t ht => (by cases ht), .inl ⟨hcs, rfl⟩⟩
  · simp only [List.cons.injEq, and_true] at hcs
    simp only [if_true] at hmm
    have hwD : ∀ i, i < len → ∀ n ∈ (D i).weights Try.prog 31, n ≤ reachBytes := fun i hi n hn => hw n (by
      rw [hx]
      simp only [DataW.weights, Try.underlying22, List.mem_cons, List.mem_append]
      exact .inr (.inl (weightsAll_mem hn (List.mem_map.2 ⟨i, List.mem_range.2 hi, rfl⟩))))
    obtain ⟨L, hL, hP⟩ := list_of (α := ActT) (P := fun i c => W.cells? 0 (a.add (i * 6)) 6 = some (actC c) ∧ ActOk W.heap.size W c) len fun i hi => by
      obtain ⟨cs', k1, k2⟩ := hel i (by omega)
      rw [show Try.prog.cellsOf 31 = 6 by kernel_rfl] at k1
      obtain ⟨c, rfl, q1⟩ := act_open k2 (hwD i hi)
      exact ⟨c, k1, q1⟩
    have hcell : ∀ (j : Nat) (c : ActT) (i : Nat) (u : Value), L[j]? = some c → (actC c)[i]? = some u → W.cell? ((a.add (j * 6)).add i) = some u := fun j c i u hj hu => by
      have h1 := World.cells?_some (hP j c hj).1
      have hi : i < 6 := by
        rcases Nat.lt_or_ge i 6 with h | h
        · exact h
        · rw [List.getElem?_eq_none (by simpa [actC] using h)] at hu; cases hu
      rw [h1.2.2 i hi, hu]
    refine ⟨some a, cap, L, by rw [hL]; exact hcs, fun t ht => ?_, .inr ⟨a, cap, by rw [hL]; exact hcs, by omega, hm, fun h0 => ?_, fun k t hk j u hu => hcell k t j u hk hu⟩⟩
    · obtain ⟨i, hi⟩ := List.mem_iff_getElem?.1 ht
      exact (hP i t hi).2
    · obtain ⟨t, r, e⟩ := List.exists_cons_of_ne_nil h0
      have := World.block_lt_of_cell? W _ (hcell 0 t 0 _ (by rw [e]; rfl) rfl)
      rw [Byt.addr_block, Byt.addr_block] at this
      exact this
end
end Go.Proofs.Ytmeecjedikechaa
