/- A row of groups of one's own, and a group that is appended to it; no walk. -/
import Derived.Test.YtcheikpmhdliiaaDoorJFirst
namespace Go.Proofs.YtcheikpmhdliiaaDoor
open Go.RowKit

def OwnGp (lo0 base : Nat) (w : World) (v : Value) (L : List (List OpT)) : Prop :=
  ∃ gv : Nat → Value, OwnR base 22 1 w v L.length (fun j => [gv j]) ∧ ∀ j g, L[j]? = some g → ∃ lo hi, Opl lo hi w (gv j) g ∧ lo0 ≤ lo ∧ hi ≤ w.heap.size ∧ ∀ b, v.ownBlock = some b → b < lo ∨ hi ≤ b
theorem OwnGp.nil (w : World) (lo0 base : Nat) : OwnGp lo0 base w (.slice none 0 0) [] := ⟨fun _ => .slice none 0 0, OwnR.nil _ _ _ _ _, fun j o hj => by simp at hj⟩
theorem OwnGp.gps {lo0 base : Nat} {w : World} {v : Value} {L : List (List OpT)} (h : OwnGp lo0 base w v L) : Gps 0 w.heap.size w v L := by
  obtain ⟨gv, h1, h2⟩ := h
  refine ⟨gv, h1.rws.mono (Nat.zero_le _) (Nat.le_refl _), fun j g hj => ?_⟩
  obtain ⟨lo, hi, k1, _, k2, _⟩ := h2 j g hj
  exact k1.mono (Nat.zero_le _) k2
theorem OwnGp.gps2 {base : Nat} {w : World} {v : Value} {L : List (List OpT)} (h : OwnGp base base w v L) : Gps base w.heap.size w v L := by
  obtain ⟨gv, h1, h2⟩ := h
  refine ⟨gv, h1.rws, fun j g hj => ?_⟩
  obtain ⟨lo, hi, k1, k0, k2, _⟩ := h2 j g hj
  exact k1.mono k0 k2
theorem OwnGp.lt {lo0 base : Nat} {w : World} {v : Value} {L : List (List OpT)} (h : OwnGp lo0 base w v L) {g : Nat} (hg : v.ownBlock = some g) : base ≤ g ∧ g < w.heap.size := by
  obtain ⟨gv, h1, h2⟩ := h
  exact h1.lt hg
theorem OwnGp.mono {lo0 base base' : Nat} {w : World} {v : Value} {L : List (List OpT)} (h : OwnGp lo0 base w v L) (hb : base' ≤ base) : OwnGp lo0 base' w v L := by
  obtain ⟨gv, h1, h2⟩ := h
  exact ⟨gv, h1.mono hb, h2⟩
/-- All that is there stays: the row of groups, too. -/
theorem OwnGp.kept {lo0 base : Nat} {w w' : World} {v : Value} {L : List (List OpT)} (h : OwnGp lo0 base w v L) (hk : ∀ i, i < w.heap.size → w'.heap[i]? = w.heap[i]?) (hs : w.heap.size ≤ w'.heap.size) : OwnGp lo0 base w' v L := by
  obtain ⟨gv, h1, h2⟩ := h
  refine ⟨gv, h1.of_block fun g hg => hk g (h1.lt hg).2, fun j g hj => ?_⟩
  obtain ⟨lo, hi, k1, k0, k2, k3⟩ := h2 j g hj
  exact ⟨lo, hi, k1.kept fun i _ hi => hk i (by omega), k0, by omega, k3⟩
/-- Blocks ahead of it may turn. -/
theorem OwnGp.kept2 {base : Nat} {w w' : World} {v : Value} {L : List (List OpT)} (h : OwnGp base base w v L) (hk : ∀ i, base ≤ i → i < w.heap.size → w'.heap[i]? = w.heap[i]?) (hs : w.heap.size ≤ w'.heap.size) : OwnGp base base w' v L := by
  obtain ⟨gv, h1, h2⟩ := h
  refine ⟨gv, h1.of_block fun g hg => hk g (h1.lt hg).1 (h1.lt hg).2, fun j g hj => ?_⟩
  obtain ⟨lo, hi, k1, k0, k2, k3⟩ := h2 j g hj
  exact ⟨lo, hi, k1.kept fun i hi1 hi2 => hk i (by omega) (by omega), k0, by omega, k3⟩

theorem own_gp {lo0 base : Nat} {w : World} {v : Value} {L : List (List OpT)} (h : OwnGp lo0 base w v L) (hb : base ≤ w.heap.size) {lo hi : Nat} {lv : Value} {g : List OpT} (hg : Opl lo hi w lv g) (hlo : lo0 ≤ lo) (hhi : hi ≤ w.heap.size) (hne : ∀ b, v.ownBlock = some b → b < lo ∨ hi ≤ b) (hl : L.length + 1 ≤ 1099511627776) :
    ∃ v' w', (Builtin.append_ #[36, 36] 36 #[v, .slice (some ⟨w.heap.size, 0, none⟩) 1 1]).run Tryd.prog (w.alloc (.cells #[lv] 22)) = .ok v' w' ∧ OwnGp lo0 base w' v' (L ++ [g]) ∧ Below base w w' ∧ w.grownBy w' v.ownBlock := by
  obtain ⟨gv, h1, h2⟩ := h
  have ha : ∀ i, i < w.heap.size → (w.alloc (.cells #[lv] 22)).heap[i]? = w.heap[i]? := fun i hi => Below.heap_alloc w _ i hi
  have h' : OwnR base 22 1 (w.alloc (.cells #[lv] 22)) v L.length (fun j => [gv j]) := h1.of_block fun g hg => ha g (h1.lt hg).2
  obtain ⟨la, lc, elv, _, _⟩ := hg.slice
  obtain ⟨v', w', r1, r2, r3, r4, r5⟩ := row_app Tryd.underlying36 inf22 rfl (by decide) h' (b := w.heap.size) (es := [lv]) (z := (0, 0)) (heap_alloc_new w _) rfl (by intro u hu; simp at hu; rw [hu, elv]; rfl) (by omega) hl (by simp; omega)
  have hsz : w.heap.size + 1 ≤ w'.heap.size := by have := r3.size; simpa using this
  have keep : ∀ {lo hi : Nat} {c : Value} {l : List OpT}, Opl lo hi w c l → hi ≤ w.heap.size → (∀ b, v.ownBlock = some b → b < lo ∨ hi ≤ b) → Opl lo hi w' c l ∧ hi ≤ w'.heap.size ∧ ∀ b, v'.ownBlock = some b → b < lo ∨ hi ≤ b := fun {lo hi c l} k1 k2 k3 => by
    refine ⟨k1.kept fun i hi1 hi2 => ?_, by omega, fun b hb' => ?_⟩
    · refine (r3.block i (by simp; omega) (fun e => ?_)).trans (ha i (by omega))
      have := k3 i e.symm
      omega
    · rcases r5 b hb' with h | h
      · exact k3 b h
      · simp at h; omega
  refine ⟨v', w', r1, ⟨fun j => if j = L.length then lv else gv j, ?_, fun j o hj => ?_⟩, ((Below.refl base w).alloc hb _).trans r4, ⟨r3.os, r3.tape, r3.output, by omega, fun k hk hne' => (r3.block k (by simp; omega) hne').trans (ha k hk)⟩⟩
  · rw [List.length_append]
    refine (show OwnR base 22 1 w' v' (L.length + 1) _ from ?_)
    obtain ⟨xs, k1, k2⟩ := r2
    refine ⟨xs, k1, fun j i u hj hu => k2 j i u hj ?_⟩
    dsimp only at hu ⊢
    by_cases hjn : j = L.length
    · rw [if_pos hjn] at hu ⊢
      exact hu
    · rw [if_neg hjn] at hu ⊢
      exact hu
  · dsimp only
    by_cases hjn : j = L.length
    · rw [if_pos hjn]
      subst hjn
      simp at hj
      subst hj
      obtain ⟨q1, q2, q3⟩ := keep hg hhi hne
      exact ⟨lo, hi, q1, hlo, q2, q3⟩
    · rw [if_neg hjn]
      have hlt : j < L.length := by
        rcases Nat.lt_or_ge j (L ++ [g]).length with h | h
        · simp at h; omega
        · rw [List.getElem?_eq_none h] at hj; cases hj
      rw [List.getElem?_append_left hlt] at hj
      obtain ⟨lo', hi', k1, k0, k2, k3⟩ := h2 j o hj
      obtain ⟨q1, q2, q3⟩ := keep k1 k2 k3
      exact ⟨lo', hi', q1, k0, q2, q3⟩
end Go.Proofs.YtcheikpmhdliiaaDoor
