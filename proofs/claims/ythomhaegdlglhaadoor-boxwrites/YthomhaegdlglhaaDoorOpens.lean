/- A list of chunks that is handed in, opened; no walk. -/
import Derived.Test.YthomhaegdlglhaaDoorLaw
import Derived.ProofKit
import Derived.SizedLaws
import Derived.OpenShut
import Derived.Deep.SlicePairs
namespace Go.Proofs.YthomhaegdlglhaaDoor
open Go.ChangeShapes Go.WideShapes Go.ChangeAt Go.WideElems Go.RowKit Go.Deep

theorem wf_u8 {n : Int} (h : (Lit.int .u8 n).wf = true) : 0 ≤ n ∧ n < 256 := by
  have h1 : IntKind.u8.min = 0 := rfl
  have h2 : IntKind.u8.max = 255 := rfl
  simp [Lit.wf] at h
  omega
theorem bts_row {W : World} {x : Addr} {len cap : Nat} {zs : List Int} (h1 : len ≤ cap) (h2 : cap ≤ maxLen) (hz : zs.length = cap) (hc : ∀ i, i < zs.length → W.cell? (x.add i) = some (.int .u8 (zs.getD i 0))) (hw : ∀ n ∈ zs, (Lit.int .u8 n).wf = true) :
    Bts W (.slice (some x) len cap) ((zs.take len).map fun z => UInt8.ofNat z.toNat) := by
  have hl : ((zs.take len).map fun z => UInt8.ofNat z.toNat).length = len := by simp; omega
  refine .inr ⟨x, cap, by rw [hl], by omega, h2, fun j u hj => ?_⟩
  have hjn : j < len := by
    rcases Nat.lt_or_ge j len with e | e
    · exact e
    · rw [List.getElem?_eq_none (by rw [bcells_length, hl]; exact e)] at hj; cases hj
  have hjz : j < zs.length := by omega
  have hz1 : zs[j]? = some zs[j] := List.getElem?_eq_getElem hjz
  obtain ⟨q1, q2⟩ := wf_u8 (hw zs[j] (List.getElem_mem _))
  rw [hc j hjz, List.getD_eq_getElem?_getD, hz1]
  simp [bcells, hjn, hz1] at hj
  subst hj
  simp
  omega

theorem list_of {α : Type} {P : Nat → α → Prop} : ∀ (n : Nat), (∀ i, i < n → ∃ c, P i c) → ∃ L : List α, L.length = n ∧ ∀ i c, L[i]? = some c → P i c
  | 0, _ => ⟨[], rfl, fun i c h => by simp at h⟩
  | n + 1, h => by
    obtain ⟨L, h1, h2⟩ := list_of n fun i hi => h i (by omega)
    obtain ⟨c, hc⟩ := h n (by omega)
    refine ⟨L ++ [c], by simp [h1], fun i x hi => ?_⟩
    by_cases hlt : i < L.length
    · rw [List.getElem?_append_left hlt] at hi; exact h2 i x hi
    · rw [List.getElem?_append_right (by omega)] at hi
      have hi0 : i = n := by
        rcases Nat.lt_or_ge (i - L.length) 1 with h | h
        · omega
        · rw [List.getElem?_eq_none (by simpa using h)] at hi; cases hi
      subst hi0
      rw [h1] at hi
      simp at hi
      subst hi
      exact hc

theorem mem_weightsAll {H : Type} {P : Program} {e : TypeId} {d : DataW H} {n : Nat} : ∀ {l : List (DataW H)}, d ∈ l → n ∈ d.weights P e → n ∈ DataW.weightsAll P e l
  | x :: l, hd, hn => by
    simp only [DataW.weightsAll, List.mem_append]
    rcases List.mem_cons.1 hd with rfl | hd
    · exact .inl hn
    · exact .inr (mem_weightsAll hd hn)

theorem bytes5 : Tryd.prog.bytesOf 5 = 1 := by kernel_rfl
theorem bytes49 : Tryd.prog.bytesOf 49 = 40 := by kernel_rfl
theorem under49 : ∃ f0 f1, Tryd.prog.underlying 49 = some (.struct #[f0, f1]) ∧ f0.offset = 0 ∧ f1.offset = 1 ∧ f0.type = 9 ∧ f1.type = 25 := ⟨_, _, Tryd.underlying49, rfl, rfl, rfl, rfl⟩

theorem add_two (a : Addr) (i : Nat) : (⟨(a.add (i * 2)).block, (a.add (i * 2)).off + 1, none⟩ : Addr) = a.add (i * 2 + 1) := by
  unfold Addr.add
  split
  · simp_all
  · simp_all; omega

/-- A list of chunks that is handed in. -/
theorem chs_open {H : Type} {enc : TypeId × Value → H} {W : World} {a : Option Addr} {len cap fuel : Nat} {x : DataW H × List MemPlace}
    (h : DataW.trod enc Tryd.prog W 0 (fun _ => true) true fuel 22 (Value.slice a len cap).cells.toList = some x) (hsz : ∀ n ∈ x.1.weights Tryd.prog 22, n ≤ reachBytes) :
    ∃ L, Chs W (.slice a len cap) L ∧ Sized L ∧ L.length ≤ 140737488355328 := by
  obtain ⟨f0, f1, hu, o0, o1, t0, t1⟩ := under49
  rcases open_slice_pairs Tryd.underlying22 hu (by kernel_rfl) o0 o1 (by rw [t0]; kernel_rfl) (by rw [t1]; kernel_rfl) h with ⟨hcs, _⟩ | ⟨b, l, c, m, n, V0, V1, D0, D1, P0, P1, hcs, _, hl, hm, hmm, hx, hall⟩
  · simp [Value.cells] at hcs
    obtain ⟨rfl, rfl, rfl⟩ := hcs
    exact ⟨[], .inl ⟨rfl, rfl⟩, fun c hc => by simp at hc, by simp⟩
  · simp [Value.cells] at hcs
    obtain ⟨rfl, rfl, rfl⟩ := hcs
    simp only [if_true] at hmm
    subst hmm
    have hw : ∀ i, i < len → ∀ n ∈ (D1 i).weights Tryd.prog 25, n ≤ reachBytes := fun i hi n hn => by
      refine hsz n ?_
      rw [hx]
      simp only [DataW.weights, Tryd.underlying22, List.mem_cons, List.mem_append]
      refine .inr (.inl (mem_weightsAll (d := .agg [D0 i, D1 i]) (List.mem_map.2 ⟨i, List.mem_range.2 hi, rfl⟩) ?_))
      simp only [DataW.weights, hu, List.map_cons, List.map_nil, DataW.weightsEach, List.mem_append, t0, t1]
      exact .inr (.inl hn)
    obtain ⟨L, hL, hP⟩ := list_of (α := Chk) (P := fun i c => c.1.size ≤ maxLen ∧ (∃ d, W.cell? (b.add (i * 2)) = some (.string c.1) ∧ W.cell? ⟨(b.add (i * 2)).block, (b.add (i * 2)).off + 1, none⟩ = some d ∧ Bts W d c.2) ∧ c.2.length ≤ 140737488355328) len fun i hi => by
      obtain ⟨c0, c1, g0, g1⟩ := hall i (by omega)
      rw [t0] at g0
      rw [t1] at g1
      obtain ⟨s, e0, _, hs⟩ := DataW.trod_string Tryd.underlying9 g0
      simp only [List.cons.injEq, and_true] at e0
      rw [e0] at c0
      rw [← add_two] at c1
      have hwi := hw i hi
      rcases open_ints Tryd.underlying25 Tryd.underlying5 (by kernel_rfl) g1 with ⟨hcs, _⟩ | ⟨y, l', c', zs, hcs, _, hl', hm', hz, hxx, hcell, hwz⟩
      · simp only [List.cons.injEq, and_true] at hcs
        rw [hcs] at c1
        exact ⟨(s, []), hs, ⟨_, c0, c1, .inl ⟨rfl, rfl⟩⟩, by simp⟩
      · simp only [List.cons.injEq, and_true] at hcs
        rw [hcs] at c1
        simp only [if_true] at hz
        refine ⟨(s, _), hs, ⟨_, c0, c1, bts_row hl' hm' (by omega) hcell hwz⟩, ?_⟩
        simp only [Prod.mk.injEq] at hxx
        rw [hxx.1] at hwi
        simp only [DataW.weights, Tryd.underlying25, bytes5] at hwi
        have h9 := hwi _ List.mem_cons_self
        simp only [lits, List.length_map, List.length_take, List.length_drop, reachBytes] at h9 ⊢
        omega
    have h40 := hsz ((len + (m - len)) * 40) (by
      rw [hx]
      simp only [DataW.weights, Tryd.underlying22, bytes49]
      exact List.mem_cons.2 (.inl (by simp)))
    simp only [reachBytes] at h40
    refine ⟨L, .inr ⟨b, m, by rw [hL], by omega, hm, fun j c hj => ?_⟩, fun c hc => ?_, by omega⟩
    · obtain ⟨q1, q2, _⟩ := hP j c hj
      exact ⟨q1, q2⟩
    · obtain ⟨j, hj⟩ := List.getElem?_of_mem hc
      exact (hP j c hj).2.2
end Go.Proofs.YthomhaegdlglhaaDoor
