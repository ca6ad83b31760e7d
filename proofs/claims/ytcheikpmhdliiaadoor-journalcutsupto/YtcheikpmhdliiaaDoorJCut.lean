/- Of a journal that is cut anywhere: what Scan tells; no walk. -/
import Derived.Test.YtcheikpmhdliiaaDoorJAll
namespace Go.Proofs.YtcheikpmhdliiaaDoor

theorem followF_fuel : ∀ (f l k : Nat) (b : List UInt8), b.length < l → l ≤ f → followF f b k = followF l b k := by
  intro f
  induction f with
  | zero => intro l k b h1 h2; omega
  | succ f ih =>
    intro l k b h1 h2
    obtain ⟨l, rfl⟩ : ∃ l', l = l' + 1 := ⟨l - 1, by omega⟩
    rw [followF, followF]
    rcases hq : nextJ b k with _ | ⟨os, n⟩
    · rfl
    · have hb := nextJ_bound hq
      dsimp only
      rw [ih l (k + 1) (b.drop n) (by rw [List.length_drop]; omega) (by omega)]
/-- Cut anywhere: not bound, where the header is not whole; else whole groups, from the first on. -/
theorem scan_cut {id : Int} (hid : In64 id) {gs : List (List OpT)} (h : Fits 0 gs) (hk : gs.length ≤ 1000000) {n : Nat} (hn : n ≤ (jrn id gs).length) :
    (n < (beginJ id).length ∧ scanJ ((jrn id gs).take n) id = ⟨[], 0, false⟩) ∨
    ((beginJ id).length ≤ n ∧ ∃ j, j ≤ gs.length ∧ scanJ ((jrn id gs).take n) id = ⟨gs.take j, (jrn id (gs.take j)).length, true⟩ ∧ (jrn id (gs.take j)).length ≤ n ∧ (n = (jrn id gs).length → j = gs.length)) := by
  have hl := listB_two_len hid
  by_cases hc : n < (beginJ id).length
  · refine .inl ⟨hc, ?_⟩
    have e : ownJ ((jrn id gs).take n) = none := by
      unfold ownJ jrn
      rw [List.take_append_of_le_length (by omega), beginJ, first_cut (by omega) hc]
    unfold scanJ
    rw [e]
  · refine .inr ⟨by omega, ?_⟩
    have hn' : n - (beginJ id).length ≤ (flatJ 0 gs).length := by
      unfold jrn at hn
      rw [List.length_append] at hn
      omega
    have e : (jrn id gs).take n = beginJ id ++ (flatJ 0 gs).take (n - (beginJ id).length) := by
      unfold jrn
      rw [List.take_append, List.take_of_length_le (by omega)]
    have hge := flatJ_ge gs 0
    obtain ⟨j, h1, h2, h3, h4⟩ := followF_cut gs ((jrn id gs).length + 1) 0 (n - (beginJ id).length) (by unfold jrn; rw [List.length_append]; omega) (by omega) h hn'
    refine ⟨j, h1, ?_, ?_, fun hf => h4 ?_⟩
    · rw [e]
      unfold scanJ
      rw [own_head hid]
      simp only [if_true, followJ, List.drop_left]
      have hL : (beginJ id ++ (flatJ 0 gs).take (n - (beginJ id).length)).length + 1 ≤ (jrn id gs).length + 1 := by
        unfold jrn
        simp only [List.length_append, List.length_take]
        omega
      rw [← followF_fuel _ _ 0 ((flatJ 0 gs).take (n - (beginJ id).length)) (by simp only [List.length_append]; omega) hL, h2]
      simp [jrn]
    · unfold jrn
      rw [List.length_append]
      omega
    · unfold jrn at hf
      rw [List.length_append] at hf
      omega
theorem Fits_take : ∀ (gs : List (List OpT)) (k j : Nat), Fits k gs → Fits k (gs.take j) := by
  intro gs
  induction gs with
  | nil => intro k j h; simpa using h
  | cons g gs ih =>
    intro k j h
    rcases j with _ | j
    · exact trivial
    · exact ⟨h.1, ih (k + 1) j h.2⟩
theorem jrn_take {id : Int} (gs : List (List OpT)) (j : Nat) : (jrn id gs).take (jrn id (gs.take j)).length = jrn id (gs.take j) := by
  have e : jrn id gs = jrn id (gs.take j) ++ flatJ (0 + (gs.take j).length) (gs.drop j) := by
    unfold jrn
    conv => lhs; rw [← List.take_append_drop j gs, flatJ_append]
    rw [List.append_assoc]
  rw [e, List.take_left]
theorem fits_ok : ∀ {gs : List (List OpT)} {k : Nat}, Fits k gs → ∀ g ∈ gs, ∀ o ∈ g, o.Ok := by
  intro gs
  induction gs with
  | nil => intro k _ g hg; simp at hg
  | cons x gs ih =>
    intro k h g hg
    rcases List.mem_cons.1 hg with rfl | hg
    · exact h.1.1
    · exact ih h.2 g hg
theorem fits_len : ∀ {gs : List (List OpT)} {k : Nat}, Fits k gs → ∀ g ∈ gs, (opsB g).length ≤ 131072 := by
  intro gs
  induction gs with
  | nil => intro k _ g hg; simp at hg
  | cons x gs ih =>
    intro k h g hg
    rcases List.mem_cons.1 hg with rfl | hg
    · have := h.1.2.2
      simp only [groupC, List.length_append] at this
      omega
    · exact ih h.2 g hg
end Go.Proofs.YtcheikpmhdliiaaDoor
