/- What has come, in memory; groups, one by one. -/
import Derived.Test.YtbbcnjagndfmbaaDOrd1
namespace Go.Proofs.Ytbbcnjagndfmbaa
open Go.RowKit Go.Dp
set_option maxRecDepth 100000
set_option linter.unusedVariables false
set_option linter.unusedSimpArgs false
structure DR (w2 : World) (D : Addr) (n : Nat) (out : List Nat) (v : Value) (wr : World) : Prop where
  done : Ro w2.heap.size wr 4 D n n (bl n fun j => out.contains j)
  out : wr.ownsRow w2.heap.size 3 1 v out.length (nV out)
  bel : Below w2.heap.size w2 wr
theorem DR.begin {w2 w3 : World} {D : Addr} {n : Nat} (h : Ro w2.heap.size w3 4 D n n (List.replicate n (.bool false))) (hb : Below w2.heap.size w2 w3) : DR w2 D n [] (.slice none 0 0) w3 := by
  refine ⟨?_, World.ownsRow_nil .., hb⟩
  rw [bl_congr (g := fun _ => false) (fun j _ => by simp), bl_zero]
  exact h
theorem DR.next {w2 : World} {D : Addr} {n : Nat} {out : List Nat} {v : Value} {wr : World} (h : DR w2 D n out v wr) {k : Nat} (hk : k < n) (hl : out.length < 4398046511104) :
    (∃ b, wr.cell? (D.add k) = some (.bool b)) ∧ wr.frozen? (D.add k) = false ∧ ∃ v' w', Hid ((Builtin.append_ #[24, 24] 24 #[v, .slice (some ⟨wr.heap.size, 0, none⟩) 1 1]).run Try.prog ((wr.setCell (D.add k) (.bool true)).alloc (.cells #[.int .i64 (k : Nat)] 3)) = .ok v' w') ∧ DR w2 D n (out ++ [k]) v' w' := by
  have hc := h.done.cell (j := k) (bl_at hk)
  refine ⟨⟨_, hc.1⟩, hc.2, ?_⟩
  have hset := set_block h.done k (.bool true)
  have hd := h.done.set k (.bool true)
  have ho : (wr.setCell (D.add k) (.bool true)).ownsRow w2.heap.size 3 1 v out.length (nV out) := World.ownsRow.kept h.out hset (.inr (h.done.ne_own h.out (by decide)))
  have hb := bel_set h.done h.bel (Nat.le_refl _) k (.bool true)
  have hsz : (wr.setCell (D.add k) (.bool true)).heap.size = wr.heap.size := by simp [World.setCell]
  have hBA := bel_alloc (w1 := wr.setCell (D.add k) (.bool true)) (Below.refl _ _) (.cells #[.int .i64 (k : Nat)] 3)
  have hrd : Rd ((wr.setCell (D.add k) (.bool true)).alloc (.cells #[.int .i64 (k : Nat)] 3)) (.slice (some ⟨wr.heap.size, 0, none⟩) 1 1) 1 [.int .i64 (k : Nat)] := by
    refine ⟨_, _, rfl, Nat.le_refl _, by decide, .inr ⟨_, rfl, fun j u hj => ?_⟩⟩
    have hn := heap_alloc_new (wr.setCell (D.add k) (.bool true)) (.cells #[.int .i64 (k : Nat)] 3)
    rw [hsz] at hn
    rw [Addr.add_mid, cell_of_row _ wr.heap.size (0 + j) _ _ _ hn, Nat.zero_add, ← hj]
    simp
  obtain ⟨v', w', r1, o1, g1, b1, _⟩ := own_cat (ty := 24) Try.underlying24 ninf3 rfl (by decide) (own_below ho hBA) hrd rfl (fun u hu => by rw [List.mem_singleton.1 hu]; rfl) (by omega) (by decide) (Nat.le_trans hb.size hBA.size)
  have hd2 := hd.below hBA
  refine ⟨v', w', r1, ⟨?_, ?_, (hb.alloc hb.size _).trans b1⟩⟩
  · have := hd2.grown g1 (hd2.ne_own (own_below ho hBA) (by decide))
    rw [bl_set] at this
    rw [bl_congr (fun j hj => ?_)]
    · exact this
    · by_cases e : j = k
      · subst e; simp
      · rw [if_neg e]; simp [e]
  · unfold nV
    rw [List.map_append, List.length_append]
    exact o1
/-- A group, up to a number. -/
def grp (n : Nat) (E : List (Nat × Nat)) (i k : Nat) : List Nat := (List.range k).filter fun j => decide (i ≤ j) && (j == i || sameB n E i j)
theorem grp_zero {n : Nat} {E : List (Nat × Nat)} {i : Nat} : grp n E i i = [] := by
  unfold grp
  rw [List.filter_eq_nil_iff]
  intro j hj
  have := List.mem_range.1 hj
  simp; omega
theorem grp_succ {n : Nat} {E : List (Nat × Nat)} {i k : Nat} (h : i ≤ k) : grp n E i (k + 1) = if (k == i || sameB n E i k) = true then grp n E i k ++ [k] else grp n E i k := by
  unfold grp
  rw [List.range_succ, List.filter_append]
  simp only [List.filter_cons, List.filter_nil]
  rw [decide_eq_true h, Bool.true_and]
  split <;> simp
theorem grp_all {n : Nat} {E : List (Nat × Nat)} {i : Nat} : grp n E i n = groupB n E i := rfl
theorem grp_len {n : Nat} {E : List (Nat × Nat)} {i k : Nat} : (grp n E i k).length ≤ k := by
  have := List.length_filter_le (fun j => decide (i ≤ j) && (j == i || sameB n E i j)) (List.range k)
  unfold grp
  rw [List.length_range] at this
  exact this
theorem rdy_eq {n : Nat} {E : List (Nat × Nat)} {out : List Nat} {i : Nat} : rdyB n (farB n E) (fun j => out.contains j) i = readyB n E out i := rfl
/-- Nothing may come next though not all has come: that can't be. -/
theorem none_next {n m : Nat} {E : List (Nat × Nat)} (hl : (ordB n E m).length < n) (h : ∀ j, j < n → j ∈ ordB n E m ∨ readyB n E (ordB n E m) j = false) : False := by
  have c := (come_ord (n := n) (E := E) m).1
  have : ∃ x, x < n ∧ x ∉ ordB n E m := by
    refine Decidable.byContradiction fun q => ?_
    have ha : ∀ x, x < n → x ∈ ordB n E m := fun x hx => Decidable.byContradiction fun y => q ⟨x, hx, y⟩
    have := List.Nodup.length_le_of_subset List.nodup_range (l₂ := ordB n E m) (l₁ := List.range n) (fun x hx => ha x (List.mem_range.1 hx))
    rw [List.length_range] at this
    omega
  obtain ⟨i, hi⟩ := next_there c this
  obtain ⟨h1, h2, h3, _⟩ := next_some hi
  rcases h i h1 with h | h
  · exact h2 h
  · rw [h3] at h; cases h
theorem step_next {n m : Nat} {E : List (Nat × Nat)} {i : Nat} (hi : i < n) (ho : i ∉ ordB n E m) (hr : readyB n E (ordB n E m) i = true) (h : ∀ j, j < i → j ∈ ordB n E m ∨ readyB n E (ordB n E m) j = false) :
    ordB n E (m + 1) = ordB n E m ++ groupB n E i := by
  show stepB n E _ = _
  unfold stepB
  rw [next_eq hi ho hr (fun k hk hn => (h k hk).elim (fun x => absurd x hn) id)]
theorem ord_le {n m : Nat} {E : List (Nat × Nat)} : (ordB n E m).length ≤ n := nodup_le (come_ord m).1.one (come_ord m).1.lt
theorem ord_done {n m : Nat} {E : List (Nat × Nat)} (h : ¬ (ordB n E m).length < n) : ordB n E m = orderB n E := by
  refine ord_eq fun x hx => Decidable.byContradiction fun q => ?_
  have := nodup_le (n := n) (l := x :: ordB n E m) (List.nodup_cons.2 ⟨q, (come_ord m).1.one⟩) (fun y hy => by
    rcases List.mem_cons.1 hy with rfl | hy
    · exact hx
    · exact (come_ord m).1.lt y hy)
  simp only [List.length_cons] at this
  omega
theorem group_pos {n : Nat} {E : List (Nat × Nat)} {i : Nat} (hi : i < n) : 0 < (groupB n E i).length := List.length_pos_of_mem (mem_group.2 ⟨hi, Nat.le_refl _, .inl rfl⟩)
end Go.Proofs.Ytbbcnjagndfmbaa
