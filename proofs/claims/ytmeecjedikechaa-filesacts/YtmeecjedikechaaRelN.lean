/- The names of both worlds. -/
import Derived.Test.YtmeecjedikechaaRel
import Derived.Test.YtmeecjedikechaaPNames
import Derived.Test.YtmeecjedikechaaRTexts
namespace Go.Proofs.Ytmeecjedikechaa
open Go.RowKit Go.Maps Go.Sort
set_option linter.unusedVariables false
set_option linter.unusedSimpArgs false
abbrev nmL (p : PF) : List UInt8 := p.nm.data.toList
theorem look_mem (nm : ByteArray) : ∀ P : List PF, (lookP nm P).isSome = true ↔ ∃ p ∈ P, p.nm = nm
  | [] => by simp [look_nil]
  | x :: P => by
    rw [look_cons]
    by_cases h : x.nm = nm
    · rw [if_pos h]; simp [h]
    · rw [if_neg h, look_mem nm P]; simp [h]
theorem srt_lt {P : List PF} (h : Srt P) : (P.map nmL).Pairwise (· < ·) := by
  refine List.pairwise_map.2 (h.imp fun {a b} hab => ?_)
  have e : ∀ x : ByteArray, x.toList = x.data.toList := ByteArray.toList_eq
  rw [e, e] at hab
  exact hab
variable {K : Nat → Prop} {base : Nat} {w : World} {b bm : Nat} {s : WS} {D : DataW Value} {F : List UInt8 → Option FileS} {r : RS} {P : List PF}
theorem Rel.isome (h : Rel s F r P) (nm : ByteArray) : (F nm.data.toList).isSome = (lookP nm P).isSome := by
  have := h.look nm
  cases hf : F nm.data.toList <;> cases hp : lookP nm P <;> rw [hf, hp] at this <;> simp at this ⊢
theorem Rel.keys (h : Rel s F r P) (hS : S K base w b bm s D F) : (P.map nmL).Perm (strKeys D) := by
  refine Collected.perm (left := fun _ => false) ⟨?_, fun x => ?_⟩ hS.own K9 Try.underlying9 (fun _ => rfl)
  · exact (srt_lt h.srt).imp fun {a b} hab e => by rw [e] at hab; exact absurd hab (List.lt_irrefl _)
  · rw [has_of_at hS.at_ x]
    have e := h.isome ⟨x.toArray⟩
    simp only at e
    rw [e, look_mem, List.mem_map]
    constructor
    · rintro ⟨p, hp, rfl⟩
      exact ⟨⟨p, hp, rfl⟩, rfl⟩
    · rintro ⟨⟨p, hp, hn⟩, -⟩
      exact ⟨p, hp, by show p.nm.data.toList = x; rw [hn]⟩
theorem Rel.size (h : Rel s F r P) (hS : S K base w b bm s D F) : Maps.size D = P.length := by
  rw [← strKeys_length hS.own.isMap, ← (h.keys hS).length_eq, List.length_map]
theorem names_eq {ss : List (List UInt8)} (hs : Srt P) (hp : ss.Perm (P.map nmL)) : ss.mergeSort (fun x y => decide (x ≤ y)) = P.map nmL := by
  have tr : ∀ a b c : List UInt8, decide (a ≤ b) = true → decide (b ≤ c) = true → decide (a ≤ c) = true := fun a b c h1 h2 => by simp only [decide_eq_true_eq] at *; exact List.le_trans h1 h2
  have to : ∀ a b : List UInt8, (decide (a ≤ b) || decide (b ≤ a)) = true := fun a b => by simp only [Bool.or_eq_true, decide_eq_true_eq]; exact List.le_total a b
  refine List.Perm.eq_of_pairwise (le := fun a b => decide (a ≤ b) = true) (fun a b _ _ h1 h2 => ?_) (List.pairwise_mergeSort tr to ss) ((srt_lt hs).imp fun {a b} hab => ?_) ((List.mergeSort_perm _ _).trans hp)
  · simp only [decide_eq_true_eq] at h1 h2
    exact List.le_antisymm h1 h2
  · simp only [decide_eq_true_eq]
    exact List.le_of_lt hab
/-- Names of the program: the reference's. -/
theorem namesP (h : Rel s F r P) (hS : S K base w b bm s D F) (hbase : base ≤ w.heap.size) :
    Calls Try.prog 24 #[ptrOf b] w fun e w' => ∃ v, e = .returned v ∧ OwnT (w.heap.size + 1) w' v (P.map fun p => p.nm) ∧ S K base w' b bm s D F ∧ Bel K base w w' := by
  refine Calls.mono (names_any hS hbase) ?_
  rintro e w' ⟨v, ss, rfl, hp, hrow, h1, h2⟩
  have hp' := hp.trans (h.keys hS).symm
  refine ⟨v, rfl, ?_, h1, h2⟩
  rw [names_eq h.srt hp', hp'.length_eq, List.length_map, List.map_map] at hrow
  unfold OwnT tcells
  rw [List.length_map, List.map_map]
  exact hrow
end Go.Proofs.Ytmeecjedikechaa
