/- What the document's Order keeps in memory: edges that count, rows of what is reached, rings, what has come. -/
import Derived.Test.YtbbcnjagndfmbaaDReach
namespace Go.Proofs.Ytbbcnjagndfmbaa
open Go.RowKit Go.Dp
set_option maxRecDepth 100000
set_option linter.unusedVariables false
set_option linter.unusedSimpArgs false
/-- The edges that count. -/
def kept (n : Nat) (L : List (Int × Int)) : List (Nat × Nat) := L.filterMap fun p => if 0 ≤ p.1 ∧ p.1 < (n : Int) ∧ 0 ≤ p.2 ∧ p.2 < (n : Int) then some (p.1.toNat, p.2.toNat) else none
theorem kept_lt {n : Nat} {L : List (Int × Int)} : ∀ e ∈ kept n L, e.1 < n ∧ e.2 < n := by
  intro e h
  obtain ⟨p, _, hp⟩ := List.mem_filterMap.1 h
  split at hp
  · simp only [Option.some.injEq] at hp; subst hp; dsimp only; omega
  · cases hp
theorem kept_len (n : Nat) (L : List (Int × Int)) : (kept n L).length ≤ L.length := List.length_filterMap_le ..
theorem kept_no {n k : Nat} {L : List (Int × Int)} (hk : k < L.length) (h : ¬ (0 ≤ L[k].1 ∧ L[k].1 < (n : Int) ∧ 0 ≤ L[k].2 ∧ L[k].2 < (n : Int))) : kept n (L.take (k + 1)) = kept n (L.take k) := by
  unfold kept
  rw [List.take_succ_eq_append_getElem hk, List.filterMap_append]
  simp [h]
theorem kept_yes {n k : Nat} {L : List (Int × Int)} (hk : k < L.length) (h : 0 ≤ L[k].1 ∧ L[k].1 < (n : Int) ∧ 0 ≤ L[k].2 ∧ L[k].2 < (n : Int)) : zz (kept n (L.take (k + 1))) = zz (kept n (L.take k)) ++ [L[k]] := by
  unfold kept zz
  rw [List.take_succ_eq_append_getElem hk, List.filterMap_append, List.map_append]
  congr 1
  simp only [List.filterMap_cons, List.filterMap_nil, if_pos h, List.map_cons, List.map_nil]
  rw [Int.toNat_of_nonneg h.1, Int.toNat_of_nonneg h.2.2.1]
theorem bl_congr {n : Nat} {f g : Nat → Bool} (h : ∀ j, j < n → f j = g j) : bl n f = bl n g := by
  unfold bl
  exact List.map_congr_left fun j hj => by rw [h j (List.mem_range.1 hj)]
theorem bl_set {n : Nat} {f : Nat → Bool} {k : Nat} {b : Bool} : (bl n f).set k (.bool b) = bl n fun j => if j = k then b else f j := by
  apply List.ext_getElem?
  intro j
  rw [List.getElem?_set]
  by_cases hj : j < n
  · rw [bl_at hj]
    by_cases e : k = j
    · subst e
      rw [if_pos rfl, if_pos (by rw [bl_len]; exact hj), bl_at hj, if_pos rfl]
    · rw [if_neg e, bl_at hj, if_neg (fun h => e h.symm)]
  · rw [List.getElem?_eq_none (l := bl n fun j => if j = k then b else f j) (by rw [bl_len]; omega)]
    split
    · rw [if_neg (by rw [bl_len]; omega)]
    · exact List.getElem?_eq_none (by rw [bl_len]; omega)
theorem bl_zero {n : Nat} : bl n (fun _ => false) = List.replicate n (.bool false) := by
  unfold bl
  apply List.ext_getElem?
  intro j
  by_cases hj : j < n
  · simp [List.getElem?_range hj, hj]
  · simp [hj]
theorem bV_far {n f : Nat} {E : List (Nat × Nat)} {S : List Bool} (hl : S.length = n) (h : ∀ b, S[b]? = some true ↔ Far n E f b) : bV S = bl n (farB n E f) := by
  apply List.ext_getElem?
  intro j
  by_cases hj : j < n
  · rw [bl_at hj]
    have hs : S[j]? = some S[j] := List.getElem?_eq_getElem (by omega)
    rw [List.getElem?_map, hs, Option.map_some]
    congr 2
    rw [Bool.eq_iff_iff, farB_iff, ← h j, hs]
    simp
  · rw [List.getElem?_eq_none (by simp; omega), List.getElem?_eq_none (by rw [bl_len]; omega)]
theorem ninf3 : (Try.prog.info? 3).map (fun i => (i.zero, i.size, i.bytes)) = some (some (.int .i64 0), 1, 8) := by kernel_rfl
theorem ninf4 : (Try.prog.info? 4).map (fun i => (i.zero, i.size, i.bytes)) = some (some (.bool false), 1, 1) := by kernel_rfl
theorem ninf25 : (Try.prog.info? 25).map (fun i => (i.zero, i.size, i.bytes)) = some (some (.slice none 0 0), 1, 24) := by kernel_rfl
/-- Rows of what is reached, and rings, up to a number. -/
structure FR (w1 : World) (A : Addr) (n : Nat) (E : List (Nat × Nat)) (k : Nat) (v9 : Value) (wr : World) : Prop where
  ring : Ro w1.heap.size wr 4 A n n (bl n fun j => decide (j < k) && farB n E j j)
  far : ∃ vs : List Value, vs.length = k ∧ wr.ownsRow w1.heap.size 25 1 v9 k vs ∧ ∀ i u, vs[i]? = some u → ∃ Ai, u = .slice (some Ai) n n ∧ Ro (A.block + 1) wr 4 Ai n n (bl n (farB n E i))
  bel : Below w1.heap.size w1 wr
theorem own_kind {base : Nat} {w : World} {t : TypeId} {v : Value} {n : Nat} {xs : List Value} (h : w.ownsRow base t 1 v n xs) {g : Nat} (hg : v.ownBlock = some g) : ∃ c, w.heap[g]? = some (.cells c t (0, 0)) := by
  rcases h.2 with ⟨rfl, _⟩ | ⟨g', cap, cur, rfl, _, hc, _⟩
  · cases hg
  · cases hg; exact ⟨_, hc⟩
theorem Ro.ne_own {base base' : Nat} {w : World} {t t' : TypeId} {A : Addr} {n c n' : Nat} {xs xs' : List Value} {v : Value} (h : Ro base w t A n c xs) (k : w.ownsRow base' t' 1 v n' xs') (ht : t ≠ t') : v.ownBlock ≠ some A.block := fun e => by
  obtain ⟨_, hc⟩ := own_kind k e
  obtain ⟨_, hd⟩ := h.kind
  rw [hc] at hd
  simp only [Option.some.injEq, Obj.cells.injEq] at hd
  exact ht hd.2.1.symm
theorem set_block {base : Nat} {w : World} {t : TypeId} {A : Addr} {n c : Nat} {xs : List Value} (h : Ro base w t A n c xs) (j : Nat) (u : Value) : w.grownBy (w.setCell (A.add j) u) (some A.block) := by
  obtain ⟨g, rfl, _⟩ := h.form
  rw [Addr.add_mid, Nat.zero_add]
  exact (World.ownsRow.stored h.own j u).2
theorem FR.begin {w1 w2 : World} {A : Addr} {n : Nat} {E : List (Nat × Nat)} (h : Ro w1.heap.size w2 4 A n n (List.replicate n (.bool false))) (hb : Below w1.heap.size w1 w2) : FR w1 A n E 0 (.slice none 0 0) w2 := by
  refine ⟨?_, ⟨[], rfl, World.ownsRow_nil .., fun i u hu => by simp at hu⟩, hb⟩
  rw [bl_congr (g := fun _ => false) (fun j _ => by simp), bl_zero]
  exact h
theorem FR.next {w1 : World} {A : Addr} {n : Nat} {E : List (Nat × Nat)} {k : Nat} {v9 : Value} {wr : World} (h : FR w1 A n E k v9 wr) (hk : k < n) (hn : n ≤ 4096) {w2 : World} {A' : Addr} {S : List Bool}
    (hR : Ro wr.heap.size w2 4 A' n n (bV S)) (hS : S.length = n) (hF : ∀ b, S[b]? = some true ↔ Far n E k b) (hb : Below wr.heap.size wr w2) :
    ∃ v9' w3, Hid ((Builtin.append_ #[32, 32] 32 #[v9, .slice (some ⟨w2.heap.size, 0, none⟩) 1 1]).run Try.prog (w2.alloc (.cells #[.slice (some A') n n] 25)) = .ok v9' w3) ∧ (∃ A9 c9, v9' = .slice (some A9) (k + 1) c9 ∧ w3.cell? (A9.add k) = some (.slice (some A') n n)) ∧
      w3.cell? (A'.add k) = some (.bool (farB n E k k)) ∧ (∃ b, w3.cell? (A.add k) = some (.bool b)) ∧ w3.frozen? (A.add k) = false ∧ FR w1 A n E (k + 1) v9' (w3.setCell (A.add k) (.bool (farB n E k k))) := by
  rw [bV_far hS hF] at hR
  obtain ⟨vs, h1, h2, h3⟩ := h.far
  have hAl : A.block < wr.heap.size := by obtain ⟨g, rfl, _, hg⟩ := h.ring.form; exact hg
  have hBA := bel_alloc (w1 := w2) (Below.refl w2.heap.size w2) (.cells #[.slice (some A') n n] 25)
  have hB2 := bel_step hb hBA
  have h2' := own_below h2 hB2
  have hrd : Rd (w2.alloc (.cells #[.slice (some A') n n] 25)) (.slice (some ⟨w2.heap.size, 0, none⟩) 1 1) 1 [.slice (some A') n n] := by
    refine ⟨_, _, rfl, Nat.le_refl _, by decide, .inr ⟨_, rfl, fun j u hj => ?_⟩⟩
    rw [Addr.add_mid, cell_of_row _ w2.heap.size (0 + j) _ _ _ (heap_alloc_new w2 _), Nat.zero_add, ← hj]
    simp
  obtain ⟨v', w3, r1, o1, g1, b1, _⟩ := own_cat (ty := 32) Try.underlying32 ninf25 rfl (by decide) h2' hrd rfl (fun u hu => by rw [List.mem_singleton.1 hu]; rfl) (by omega) (by decide) (Nat.le_trans h.bel.size hB2.size)
  have hring := h.ring.below hB2
  have hring3 := hring.grown g1 (hring.ne_own h2' (by decide))
  have hA' := hR.below hBA
  have hA3 := hA'.grown g1 (hA'.ne_own h2' (by decide))
  have hrows : ∀ i u, vs[i]? = some u → ∃ Ai, u = .slice (some Ai) n n ∧ Ro (A.block + 1) w3 4 Ai n n (bl n (farB n E i)) := fun i u hu => by
    obtain ⟨Ai, e, hr⟩ := h3 i u hu
    have hr2 := hr.below hB2
    exact ⟨Ai, e, hr2.grown g1 (hr2.ne_own h2' (by decide))⟩
  have hlen : (vs ++ [Value.slice (some A') n n]).length = k + 1 := by simp [h1]
  have hat : (vs ++ [Value.slice (some A') n n])[k]? = some (.slice (some A') n n) := by rw [List.getElem?_append_right (by omega), h1, Nat.sub_self]; rfl
  obtain ⟨A9, c9, e9, q9⟩ := (own_rd o1).at (j := k) (by omega)
  have hc := hring3.cell (j := k) (bl_at hk)
  have hset := set_block hring3 k (.bool (farB n E k k))
  have ho4 : (w3.setCell (A.add k) (.bool (farB n E k k))).ownsRow w1.heap.size 25 1 v' (k + 1) (vs ++ [.slice (some A') n n]) :=
    World.ownsRow.kept o1 hset (.inr (hring3.ne_own o1 (by decide)))
  refine ⟨v', w3, r1, ⟨A9, c9, e9, ?_⟩, (hA3.cell (bl_at hk)).1, ⟨_, hc.1⟩, hc.2, ⟨?_, ⟨_, hlen, ho4, ?_⟩, ?_⟩⟩
  · rw [q9, ← List.getElem?_eq_getElem]; exact hat
  · have := hring3.set k (.bool (farB n E k k))
    rw [bl_set] at this
    rw [bl_congr (fun j hj => ?_)]
    · exact this
    · by_cases e : j = k
      · subst e; rw [if_pos rfl]; simp
      · rw [if_neg e]
        congr 1
        rw [Bool.eq_iff_iff]; simp; omega
  · intro i u hu
    by_cases hi : i < k
    · rw [List.getElem?_append_left (by omega)] at hu
      obtain ⟨Ai, e, hr⟩ := hrows i u hu
      obtain ⟨g, rfl, hg, _⟩ := hr.form
      exact ⟨_, e, hr.grown hset (fun x => by simp at x; omega)⟩
    · have hl := (List.getElem?_eq_some_iff.1 hu).1
      have : i = k := by omega
      subst this
      rw [hat] at hu
      cases hu
      obtain ⟨g, rfl, hg, _⟩ := hA3.form
      exact ⟨_, rfl, ⟨World.ownsRow.mono (hA3.grown hset (fun x => by simp at x; omega)).own (by omega)⟩⟩
  · have := (h.bel.trans (hB2.mono h.bel.size)).trans b1
    exact bel_set hring3 this (Nat.le_refl _) k _
theorem FR.fm {w1 : World} {A : Addr} {n : Nat} {E : List (Nat × Nat)} {v9 : Value} {wr : World} (h : FR w1 A n E n v9 wr) : Fm wr v9 n (farB n E) := by
  obtain ⟨vs, h1, h2, h3⟩ := h.far
  refine ⟨vs, h1, own_rd h2, fun i u hu => ?_⟩
  obtain ⟨Ai, rfl, hr⟩ := h3 i u hu
  exact own_rd hr.own
theorem FR.rg {w1 : World} {A : Addr} {n : Nat} {E : List (Nat × Nat)} {v9 : Value} {wr : World} (h : FR w1 A n E n v9 wr) : Ro w1.heap.size wr 4 A n n (bV (ringB n E)) := by
  have : bl n (fun j => decide (j < n) && farB n E j j) = bV (ringB n E) := by
    unfold bV ringB
    rw [List.map_map]
    exact bl_congr (fun j hj => by simp [hj])
  rw [← this]
  exact h.ring
end Go.Proofs.Ytbbcnjagndfmbaa
