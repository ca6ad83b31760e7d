/- A square of truths in memory, whose cells are turned one by one; Warshall's steps in place. -/
import Derived.Test.YtbbcnjagndfmbaaDOrd2
namespace Go.Proofs.Ytbbcnjagndfmbaa
open Go.RowKit Go.Dp
set_option maxRecDepth 100000
set_option linter.unusedVariables false
set_option linter.unusedSimpArgs false
abbrev sV (k : Nat) (A : Addr) : Value := .slice (some A) k k
/-- The first i rows are there. -/
structure Mp (B : Nat) (wr : World) (A : Addr) (As : Nat → Addr) (k i : Nat) (F : Nat → Nat → Bool) : Prop where
  tab : Ro B wr 25 A k k ((List.range k).map fun j => if j < i then sV k (As j) else .slice none 0 0)
  row : ∀ j, j < i → Ro (A.block + 1) wr 4 (As j) k k (bl k (F j))
  apart : ∀ j l, j < i → l < i → j ≠ l → (As j).block ≠ (As l).block
theorem tab_at {k i : Nat} {As : Nat → Addr} {j : Nat} (hj : j < k) : ((List.range k).map fun j => if j < i then sV k (As j) else Value.slice none 0 0)[j]? = some (if j < i then sV k (As j) else .slice none 0 0) := by
  simp [List.getElem?_range hj]
theorem Mp.begin {B : Nat} {wr : World} {A : Addr} {k : Nat} (h : Ro B wr 25 A k k (List.replicate k (.slice none 0 0))) : Mp B wr A (fun _ => A) k 0 (fun _ _ => false) := by
  refine ⟨?_, fun j hj => absurd hj (Nat.not_lt_zero _), fun j l hj => absurd hj (Nat.not_lt_zero _)⟩
  have : (List.range k).map (fun j => if j < 0 then sV k A else .slice none 0 0) = List.replicate k (.slice none 0 0) := by
    apply List.ext_getElem?
    intro j
    by_cases hj : j < k
    · simp [List.getElem?_range hj, hj]
    · simp [hj]
  rw [this]
  exact h
/-- One row more. -/
theorem Mp.next {B : Nat} {wr w2 : World} {A : Addr} {As : Nat → Addr} {k i : Nat} (h : Mp B wr A As k i (fun _ _ => false)) (hi : i < k) {A' : Addr} (hn : Ro wr.heap.size w2 4 A' k k (List.replicate k (.bool false))) (hb : Below wr.heap.size wr w2) :
    (∃ v, w2.cell? (A.add i) = some v) ∧ w2.frozen? (A.add i) = false ∧ Mp B (w2.setCell (A.add i) (sV k A')) A (fun j => if j = i then A' else As j) k (i + 1) (fun _ _ => false) := by
  have ht := h.tab.below hb
  have hc := ht.cell (tab_at hi)
  have hA : A.block < wr.heap.size := by obtain ⟨g, rfl, _, hg⟩ := h.tab.form; exact hg
  have hA' : wr.heap.size ≤ A'.block := by obtain ⟨g, rfl, hg, _⟩ := hn.form; exact hg
  have hset := set_block ht i (sV k A')
  refine ⟨⟨_, hc.1⟩, hc.2, ⟨?_, ?_, ?_⟩⟩
  · have := ht.set i (sV k A')
    have e : ((List.range k).map fun j => if j < i then sV k (As j) else Value.slice none 0 0).set i (sV k A') = (List.range k).map fun j => if j < i + 1 then sV k (if j = i then A' else As j) else .slice none 0 0 := by
      apply List.ext_getElem?
      intro j
      rw [List.getElem?_set]
      by_cases hj : j < k
      · by_cases e : i = j
        · subst e
          rw [if_pos rfl, if_pos (by simpa using hi), tab_at hi, if_pos (by omega), if_pos rfl]
        · rw [if_neg e, tab_at hj, tab_at (As := fun j => if j = i then A' else As j) hj]
          congr 1
          by_cases h1 : j < i
          · rw [if_pos h1, if_pos (by omega), if_neg (fun x => e x.symm)]
          · rw [if_neg h1, if_neg (by omega)]
      · rw [if_neg (by omega), List.getElem?_eq_none (by simp; omega), List.getElem?_eq_none (by simp; omega)]
    rw [e] at this
    exact this
  · intro j hj
    by_cases e : j = i
    · rw [if_pos e]
      have hz : bl k (fun _ => false) = List.replicate k (.bool false) := bl_zero
      rw [hz]
      exact ⟨World.ownsRow.mono (hn.grown hset (fun x => by simp at x; omega)).own (by omega)⟩
    · rw [if_neg e]
      have hr := (h.row j (by omega)).below hb
      obtain ⟨g, hg0, hg, _⟩ := hr.form
      exact hr.grown hset (fun x => by rw [hg0] at x; simp at x; omega)
  · intro j l hj hl hne
    have hlt : ∀ j, j < i → (As j).block < wr.heap.size := fun j hj => by
      obtain ⟨g, hg0, _, hg⟩ := (h.row j hj).form
      rw [hg0]; exact hg
    by_cases e : j = i
    · rw [if_pos e, if_neg (by omega)]
      have := hlt l (by omega); omega
    · rw [if_neg e]
      by_cases e2 : l = i
      · rw [if_pos e2]; have := hlt j (by omega); omega
      · rw [if_neg e2]; exact h.apart j l (by omega) (by omega) hne
/-- A square. -/
abbrev Mx (B : Nat) (wr : World) (A : Addr) (As : Nat → Addr) (k : Nat) (F : Nat → Nat → Bool) : Prop := Mp B wr A As k k F
theorem Mp.at {B : Nat} {wr : World} {A : Addr} {As : Nat → Addr} {k : Nat} {F : Nat → Nat → Bool} (h : Mx B wr A As k F) {i j : Nat} (hi : i < k) (hj : j < k) :
    wr.cell? (A.add i) = some (sV k (As i)) ∧ wr.cell? ((As i).add j) = some (.bool (F i j)) ∧ wr.frozen? ((As i).add j) = false := by
  have h1 := (h.tab.cell (tab_at hi)).1
  rw [if_pos hi] at h1
  have h2 := (h.row i hi).cell (bl_at hj)
  exact ⟨h1, h2.1, h2.2⟩
def upd (F : Nat → Nat → Bool) (i j : Nat) (b : Bool) : Nat → Nat → Bool := fun a c => if a = i ∧ c = j then b else F a c
theorem Mp.set {B : Nat} {wr : World} {A : Addr} {As : Nat → Addr} {k : Nat} {F : Nat → Nat → Bool} (h : Mx B wr A As k F) {i j : Nat} (hi : i < k) (hj : j < k) (b : Bool) :
    Mx B (wr.setCell ((As i).add j) (.bool b)) A As k (upd F i j b) := by
  have hset := set_block (h.row i hi) j (.bool b)
  obtain ⟨g, hg0, hg, _⟩ := (h.row i hi).form
  refine ⟨h.tab.grown hset (fun x => by rw [hg0] at x; simp at x; omega), ?_, h.apart⟩
  intro l hl
  by_cases e : l = i
  · subst e
    have := (h.row l hl).set j (.bool b)
    rw [bl_set] at this
    rw [bl_congr (fun c hc => ?_)]
    · exact this
    · unfold upd; simp
  · have hr := h.row l hl
    have := h.apart i l hi hl (fun x => e x.symm)
    have h2 := hr.grown hset (fun x => this (by simpa using x))
    rw [bl_congr (fun c hc => ?_)]
    · exact h2
    · unfold upd; simp [e]
theorem Mp.below {B : Nat} {w w' : World} {A : Addr} {As : Nat → Addr} {k i : Nat} {F : Nat → Nat → Bool} (h : Mp B w A As k i F) (hb : Below w.heap.size w w') : Mp B w' A As k i F :=
  ⟨h.tab.below hb, fun j hj => (h.row j hj).below hb, h.apart⟩
theorem Mp.congr {B : Nat} {w : World} {A : Addr} {As : Nat → Addr} {k : Nat} {F G : Nat → Nat → Bool} (h : Mx B w A As k F) (e : ∀ a c, a < k → c < k → F a c = G a c) : Mx B w A As k G :=
  ⟨h.tab, fun j hj => by rw [← bl_congr (fun c hc => e j c hj hc)]; exact h.row j hj, h.apart⟩
theorem Mp.bel {B : Nat} {w0 wr : World} {A : Addr} {As : Nat → Addr} {k : Nat} {F : Nat → Nat → Bool} (h : Mx B wr A As k F) {D : Nat} (hb : Below D w0 wr) (hD : D ≤ A.block) {i j : Nat} (hi : i < k) (b : Bool) : Below D w0 (wr.setCell ((As i).add j) (.bool b)) :=
  bel_set (h.row i hi) hb (by omega) j _
/-- Warshall's sets in place: those ahead of (i, j) are a step further. -/
def WaI (e : Nat → Nat → Bool) (m i j : Nat) : Nat → Nat → Bool := fun a c => if a < i ∨ (a = i ∧ c < j) then Wa e (m + 1) a c else Wa e m a c
theorem WaI.step {e : Nat → Nat → Bool} {m i j : Nat} : (WaI e m i j i j || WaI e m i j i m && WaI e m i j m j) = Wa e (m + 1) i j := by
  have h1 : WaI e m i j i j = Wa e m i j := by unfold WaI; rw [if_neg (by omega)]
  have h2 : WaI e m i j i m = Wa e m i m := by unfold WaI; split; exact Wa.row; rfl
  have h3 : WaI e m i j m j = Wa e m m j := by unfold WaI; split; exact Wa.col; rfl
  rw [h1, h2, h3]
  rfl
theorem WaI.next {e : Nat → Nat → Bool} {m i j : Nat} : upd (WaI e m i j) i j (Wa e (m + 1) i j) = WaI e m i (j + 1) := by
  funext a c
  unfold upd WaI
  by_cases h : a = i ∧ c = j
  · rw [if_pos h, if_pos (by omega), h.1, h.2]
  · rw [if_neg h]
    by_cases h2 : a < i ∨ (a = i ∧ c < j)
    · rw [if_pos h2, if_pos (by omega)]
    · rw [if_neg h2, if_neg (by omega)]
theorem WaI.row_done {e : Nat → Nat → Bool} {m i k : Nat} : ∀ a c, a < k → c < k → WaI e m i k a c = WaI e m (i + 1) 0 a c := by
  intro a c ha hc
  unfold WaI
  by_cases h2 : a < i ∨ (a = i ∧ c < k)
  · rw [if_pos h2, if_pos (by omega)]
  · rw [if_neg h2, if_neg (by omega)]
theorem WaI.all_done {e : Nat → Nat → Bool} {m k : Nat} : ∀ a c, a < k → c < k → WaI e m k 0 a c = WaI e (m + 1) 0 0 a c := by
  intro a c ha hc
  unfold WaI
  rw [if_pos (by omega), if_neg (by omega)]
theorem WaI.begin {e : Nat → Nat → Bool} : WaI e 0 0 0 = e := by
  funext a c
  unfold WaI
  rw [if_neg (by omega)]
  rfl
theorem WaI.end {e : Nat → Nat → Bool} {k : Nat} : WaI e k 0 0 = Wa e k := by
  funext a c
  unfold WaI
  rw [if_neg (by omega)]
/-- Edges, marked one by one. -/
def mk (E : List (Nat × Nat)) : Nat → Nat → Bool := fun a c => E.contains (a, c)
theorem mk_next {E : List (Nat × Nat)} {x y : Nat} : upd (mk E) x y true = mk (E ++ [(x, y)]) := by
  funext a c
  unfold upd mk
  by_cases h : a = x ∧ c = y
  · rw [if_pos h, h.1, h.2]; simp
  · rw [if_neg h]
    rw [Bool.eq_iff_iff]
    simp only [List.contains_iff_mem, List.mem_append, List.mem_singleton, Prod.mk.injEq]
    exact ⟨.inl, fun x => x.elim id fun y => absurd y h⟩
theorem wa_far {k : Nat} {E : List (Nat × Nat)} {i j : Nat} (hi : i < k) (hj : j < k) : Wa (mk E) k i j = farB k E i j := by
  unfold farB mk
  simp [hi, hj]
end Go.Proofs.Ytbbcnjagndfmbaa
