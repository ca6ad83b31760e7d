/- A row of one's own that is taken from its head and put behind: left = left[1:]; left = append(left, x). -/
import Derived.Test.YtbbcnjagndfmbaaDMem
import Derived.ArgAppend
namespace Go.Proofs.Ytbbcnjagndfmbaa
open Go.RowKit
set_option maxRecDepth 4398046511104
set_option linter.unusedVariables false
set_option linter.unusedSimpArgs false
/-- Elements of one cell, from the middle of a block of one's own. -/
def Mo (base : Nat) (w : World) (t : TypeId) (v : Value) (n : Nat) (xs : List Value) : Prop :=
  (v = .slice none 0 0 ∧ n = 0 ∧ xs = []) ∨ ∃ g off cap cur, v = .slice (some ⟨g, off, none⟩) n cap ∧ base ≤ g ∧ w.heap[g]? = some (.cells cur t (0, 0)) ∧ n ≤ cap ∧ cap ≤ maxLen ∧ off + cap ≤ cur.size ∧ (cur.toList.drop off).take n = xs
theorem Mo.of_own {base : Nat} {w : World} {t : TypeId} {v : Value} {n : Nat} {xs : List Value} (h : w.ownsRow base t 1 v n xs) : Mo base w t v n xs := by
  have hl := h.1
  rcases h.2 with ⟨rfl, rfl⟩ | ⟨g, cap, cur, rfl, h1, h2, h3, h4, h5, h6⟩
  · exact .inl ⟨rfl, rfl, List.eq_nil_of_length_eq_zero (by rw [hl, Nat.zero_mul])⟩
  · exact .inr ⟨g, 0, cap, cur, rfl, h1, h2, h3, h4, by omega, by rw [List.drop_zero, ← h6, Nat.mul_one]⟩
theorem Mo.slice {base : Nat} {w : World} {t : TypeId} {v : Value} {n : Nat} {xs : List Value} (h : Mo base w t v n xs) : ∃ a c, v = .slice a n c := by
  rcases h with ⟨rfl, rfl, _⟩ | ⟨g, off, cap, cur, rfl, _⟩ <;> exact ⟨_, _, rfl⟩
theorem Mo.len {base : Nat} {w : World} {t : TypeId} {v : Value} {n : Nat} {xs : List Value} (h : Mo base w t v n xs) : xs.length = n := by
  rcases h with ⟨rfl, rfl, rfl⟩ | ⟨g, off, cap, cur, rfl, h1, h2, h3, h4, h5, rfl⟩
  · rfl
  · rw [List.length_take, List.length_drop, Array.length_toList]; omega
theorem Mo.at {base : Nat} {w : World} {t : TypeId} {v : Value} {n : Nat} {xs : List Value} (h : Mo base w t v n xs) {j : Nat} {u : Value} (hj : xs[j]? = some u) : ∃ A c, v = .slice (some A) n c ∧ w.cell? (A.add j) = some u := by
  rcases h with ⟨rfl, rfl, rfl⟩ | ⟨g, off, cap, cur, rfl, h1, h2, h3, h4, h5, rfl⟩
  · simp at hj
  · refine ⟨_, _, rfl, ?_⟩
    rw [Addr.add_mid, cell_of_row w g (off + j) _ _ _ h2]
    have hjn : j < n := by have := (List.getElem?_eq_some_iff.1 hj).1; rw [List.length_take] at this; omega
    rw [List.getElem?_take, if_pos hjn, List.getElem?_drop] at hj
    rw [← hj]; simp
theorem Mo.kind {base : Nat} {w : World} {t : TypeId} {v : Value} {n : Nat} {xs : List Value} (h : Mo base w t v n xs) {g : Nat} (hg : v.ownBlock = some g) : base ≤ g ∧ ∃ c, w.heap[g]? = some (.cells c t (0, 0)) := by
  rcases h with ⟨rfl, rfl, rfl⟩ | ⟨g, off, cap, cur, rfl, h1, h2, h3, h4, h5, rfl⟩
  · cases hg
  · cases hg; exact ⟨h1, _, h2⟩
theorem Mo.of_block {base : Nat} {w w' : World} {t : TypeId} {v : Value} {n : Nat} {xs : List Value} (h : Mo base w t v n xs) (hk : ∀ g, v.ownBlock = some g → w'.heap[g]? = w.heap[g]?) : Mo base w' t v n xs := by
  rcases h with h | ⟨g, off, cap, cur, rfl, h1, h2, h3⟩
  · exact .inl h
  · exact .inr ⟨g, off, cap, cur, rfl, h1, (hk g rfl).trans h2, h3⟩
theorem Mo.below {base : Nat} {w w' : World} {t : TypeId} {v : Value} {n : Nat} {xs : List Value} (h : Mo base w t v n xs) (hb : Below w.heap.size w w') : Mo base w' t v n xs :=
  h.of_block fun g hg => by
    obtain ⟨_, c, hc⟩ := h.kind hg
    exact hb.block g (Array.getElem?_eq_some_iff.1 hc).1
theorem Mo.tail {base : Nat} {w : World} {t : TypeId} {A : Addr} {n c : Nat} {x : Value} {xs : List Value} (h : Mo base w t (.slice (some A) (n + 1) c) (n + 1) (x :: xs)) :
    1 ≤ c ∧ ∃ A', Hid ((if c = 1 then A else A.add 1) = A') ∧ Mo base w t (.slice (some A') n (c - 1)) n xs ∧ A'.block = A.block := by
  rcases h with ⟨h', _⟩ | ⟨g, off, cap, cur, h', h1, h2, h3, h4, h5, h6⟩
  · simp at h'
  · simp only [Value.slice.injEq, Option.some.injEq, true_and] at h'
    obtain ⟨rfl, rfl⟩ := h'
    have ht : (cur.toList.drop (off + 1)).take n = xs := by
      have := congrArg (List.drop 1) h6
      rw [List.drop_take, List.drop_drop] at this
      simpa using this
    refine ⟨by omega, _, rfl, ?_, by split <;> simp [Addr.add_mid]⟩
    by_cases e : c = 1
    · have hn : n = 0 := by omega
      subst e hn
      rw [if_pos rfl]
      exact .inr ⟨g, off, 0, cur, rfl, h1, h2, Nat.le_refl _, Nat.zero_le _, by omega, by rw [List.take_zero, ← ht, List.take_zero]⟩
    · rw [if_neg e, Addr.add_mid]
      exact .inr ⟨g, off + 1, c - 1, cur, rfl, h1, h2, by omega, by omega, by omega, ht⟩
theorem mo_one {base : Nat} {w : World} {S t ty : TypeId} {z : Value} {bytes : Nat} (ht : Try.prog.underlying S = some (.slice t)) (hi : (Try.prog.info? t).map (fun i => (i.zero, i.size, i.bytes)) = some (some z, 1, bytes)) (hz : z.cells.size = 1)
    {v : Value} {n : Nat} {xs : List Value} (h : Mo base w t v n xs) {gb : Nat} {u : Value} (hr : w.heap[gb]? = some (.cells #[u] t)) (h1 : u.oneCell' = true) (hn : n + 1 ≤ 4398046511104) (hby : bytes ≤ 32) (hbase : base ≤ w.heap.size) :
    ∃ v' w', Hid ((Builtin.append_ #[S, S] ty #[v, .slice (some ⟨gb, 0, none⟩) 1 1]).run Try.prog w = .ok v' w') ∧ Mo base w' t v' (n + 1) (xs ++ [u]) ∧ w.grownBy w' v.ownBlock ∧ Below base w w' ∧ (v'.ownBlock = v.ownBlock ∨ ∀ g, v'.ownBlock = some g → w.heap.size ≤ g) := by
  obtain ⟨i, hi1, hh⟩ := Option.map_eq_some_iff.1 hi
  simp only [Prod.mk.injEq] at hh
  have hnews : ∀ j x, [u][j]? = some x → w.cell? ((⟨gb, 0, none⟩ : Addr).add j) = some x := fun j x hj => by
    rw [Addr.add_mid, cell_of_row w gb (0 + j) _ _ _ hr, Nat.zero_add, ← hj]; simp
  have h1' : ∀ x ∈ [u], x.oneCell' = true := fun x hx => by rw [List.mem_singleton.1 hx]; exact h1
  have hl := h.len
  rcases h with ⟨rfl, rfl, rfl⟩ | ⟨g, off, cap, cur, rfl, b1, b2, b3, b4, b5, b6⟩
  · have ho : w.ownsRow base t 1 (.slice none 0 0) 0 [] := World.ownsRow_nil w base t 1
    obtain ⟨v', w', r1, o1, g1, _, l1⟩ := run_append_own_at w base S ty t i z 1 bytes ht hi1 hh.1 hh.2.1 hh.2.2 hz (by decide) _ _ _ ho ⟨gb, 0, none⟩ 1 1 [u] rfl hnews h1' (by simp only [maxLen]; omega) (by simp only [Nat.zero_add, Nat.one_mul]; omega) hbase
    exact ⟨v', w', r1, .of_own o1, g1, (Below.refl base w).grown g1 hbase (fun k hk => by cases hk), l1.imp id fun e k hk => by rw [e] at hk; cases hk; exact Nat.le_refl _⟩
  · by_cases hroom : n + 1 ≤ cap
    · have hc : w.cell? ⟨g, off + n * i.size + 0, none⟩ = cur[off + n]? := by
        rw [hh.2.1, cell_of_row w g _ _ _ _ b2]; simp
      have hr := run_append_room_cells (P := Try.prog) w S ty t i ht hi1 g off n cap ⟨gb, 0, none⟩ 1 1 [u] (by rw [hh.2.1]; rfl) hnews h1' hroom
        (fun j hj => by
          have : j = 0 := by simp at hj; exact hj
          subst this
          rw [hc, Array.getElem?_eq_getElem (by omega)]; rfl)
        (fun j hj => frozen_of_row w g _ cur t b2)
      have he : w.setCells g (off + n * i.size) [u] = w.setCell ⟨g, off + n, none⟩ u := by rw [hh.2.1, Nat.mul_one]; rfl
      rw [he] at hr
      refine ⟨_, _, hr, .inr ⟨g, off, cap, cur.setIfInBounds (off + n) u, rfl, b1, heap_setCell_same w g (off + n) cur t u b2, hroom, b4, by simpa using b5, ?_⟩, ⟨rfl, rfl, rfl, by simp, fun k _ hk => heap_setCell_other w ⟨g, off + n, none⟩ k u (fun e => hk (by simp [Value.ownBlock, e]))⟩, (Below.refl base w).setCell b1 u, .inl rfl⟩
      rw [Array.toList_setIfInBounds, List.drop_set, if_neg (by omega), show off + n - off = n by omega, ← b6]
      have hlen : n < (cur.toList.drop off).length := by rw [List.length_drop, Array.length_toList]; omega
      rw [List.take_add_one, List.take_set_of_le (Nat.le_refl _), List.getElem?_set_self hlen]
      rfl
    · have holds : ∀ j x, xs[j]? = some x → w.cell? ((⟨g, off, none⟩ : Addr).add j) = some x := fun j x hj => by
        have hjn : j < n := by have := (List.getElem?_eq_some_iff.1 hj).1; omega
        rw [Addr.add_mid, cell_of_row w g (off + j) _ _ _ b2]
        rw [← b6, List.getElem?_take, if_pos hjn, List.getElem?_drop] at hj
        rw [← hj]; simp
      obtain ⟨v', w', r1, o1, g1⟩ := run_append_arg_grows (P := Try.prog) w S ty t i z 1 bytes ht hi1 hh.1 hh.2.1 hh.2.2 hz (by decide) ⟨g, off, none⟩ n cap xs (by rw [hl, Nat.mul_one]) holds ⟨gb, 0, none⟩ 1 1 [u] rfl hnews (by omega) (by simp only [maxLen]; omega) (Nat.le_trans (Nat.mul_le_mul hn hby) (by decide))
      have hnew := fun k hk => (World.ownsRow.lt o1 k hk).1
      refine ⟨v', w', r1, .of_own (World.ownsRow.mono o1 hbase), ⟨g1.os, g1.tape, g1.output, g1.size, fun k hk _ => g1.block k hk (by simp)⟩, (Below.refl base w).grown g1 hbase (fun k hk => by cases hk), .inr hnew⟩
end Go.Proofs.Ytbbcnjagndfmbaa
