/- The contract of follow. -/
import Derived.Test.YtcheikpmhdliiaaDoorJMem
namespace Go.Proofs.YtcheikpmhdliiaaDoor
open Go.RowKit
set_option maxRecDepth 100000

theorem inf38 : (Tryd.prog.info? 38).map (fun i => (i.zero, i.size, i.bytes)) = some (some (.agg #[.slice none 0 0, .int .i64 0, .bool false]), 3, 40) := by kernel_rfl
/-- A row's block in which one cell was turned. -/
theorem set_heap {w : World} {b : Nat} {C : Array Value} {t : TypeId} {z : Nat × Nat} (h : w.heap[b]? = some (.cells C t z)) (j : Nat) (x : Value) : (w.setCell ⟨b, j, none⟩ x).heap[b]? = some (.cells (C.setIfInBounds j x) t z) := by
  simp [World.setCell, Array.getElem?_modify, h]
theorem cell_frozen {w : World} {b : Nat} {C : Array Value} {t : TypeId} (h : w.heap[b]? = some (.cells C t (0, 0))) (j : Nat) : w.frozen? ⟨b, j, none⟩ = false := by
  simp [World.frozen?, h]

/-- What the next frame is, for a journal that has gone so far. -/
def NxJ (w : World) (l : List UInt8) (k : Nat) (e : Ending) (w' : World) : Prop :=
  (nextJ l k = none ∧ (e = .returned (.tuple #[.nilIface, .int .i64 0]) ∨ (∃ id n, e = .returned (.tuple #[.iface 92 (.agg #[.int .i64 id]), .int .i64 n])) ∨ ∃ s a m c n, ¬ s = (k : Int) + 1 ∧ e = .returned (.tuple #[.iface 94 (.agg #[.int .i64 s, .slice a m c]), .int .i64 n])) ∧ Below w.heap.size w w') ∨
  (∃ L n a c, nextJ l k = some (L, n) ∧ e = .returned (.tuple #[.iface 94 (.agg #[.int .i64 ((k : Int) + 1), .slice a L.length c]), .int .i64 (n : Int)]) ∧ (∀ o ∈ L, o.Ok) ∧ OwnOl w.heap.size w' (.slice a L.length c) L ∧ Below w.heap.size w w')
theorem next_any {w : World} {v : Value} {l : List UInt8} (h : Bts w v l) (T : Tab w) (k : Nat) : Calls Tryd.prog 64 #[v] w fun e w' => NxJ w l k e w' := by
  refine (first_any h T).mono ?_
  rintro e w1 (⟨q, rfl, b1⟩ | ⟨id, n, q, rfl, hid, b1⟩ | ⟨s, L, n, lv, q, rfl, _, ok, ol, b1⟩)
  · exact .inl ⟨by unfold nextJ; rw [q], .inl rfl, b1⟩
  · exact .inl ⟨by unfold nextJ; rw [q], .inr (.inl ⟨id, n, rfl⟩), b1⟩
  · obtain ⟨la, lc, rfl, _, _⟩ := ol.opl.slice
    by_cases hs : s = (k : Int) + 1
    · subst hs
      exact .inr ⟨L, n, la, lc, by unfold nextJ; rw [q]; simp, rfl, ok, ol, b1⟩
    · exact .inl ⟨by unfold nextJ; rw [q]; simp [hs], .inr (.inr ⟨s, la, _, lc, n, hs, rfl⟩), b1⟩
theorem followF_stop {f : Nat} {l : List UInt8} {k : Nat} (h : nextJ l k = none) : followF (f + 1) l k = ([], 0) := by rw [followF, h]
theorem followF_go {f : Nat} {l : List UInt8} {k : Nat} {L : List OpT} {n : Nat} (h : nextJ l k = some (L, n)) : followF (f + 1) l k = (L :: (followF f (l.drop n) (k + 1)).1, n + (followF f (l.drop n) (k + 1)).2) := by rw [followF, h]

/-- How far a journal has been followed: the log's own block, its groups, and what is still to come. -/
def Fol (w : World) (l : List UInt8) (n0 : Nat) (wr : World) (gv : Value) (gs : List (List OpT)) (good : Nat) : Prop :=
  wr.heap[w.heap.size]? = some (.cells #[.slice none 0 0, .int .i64 0, .bool false] 38) ∧ wr.heap[w.heap.size + 1]? = some (.cells #[gv, .int .i64 (good : Int), .bool true] 38) ∧
  OwnGp (w.heap.size + 2) (w.heap.size + 2) wr gv gs ∧ (∀ g ∈ gs, ∀ o ∈ g, o.Ok) ∧ Below w.heap.size w wr ∧ w.heap.size + 2 ≤ wr.heap.size ∧ n0 ≤ good ∧ good ≤ l.length ∧ n0 + 8 * gs.length ≤ good ∧
  followF (l.length + 1) (l.drop n0) 0 = (gs ++ (followF (l.length + 1 - gs.length) (l.drop good) gs.length).1, (good - n0) + (followF (l.length + 1 - gs.length) (l.drop good) gs.length).2)
/-- Behind the append: one group more, its bytes not yet counted. -/
theorem Fol.step {w : World} {l : List UInt8} {n0 : Nat} {wr w1 : World} {gv : Value} {gs : List (List OpT)} {good : Nat} (h : Fol w l n0 wr gv gs good) (hl : l.length ≤ 1000000000) {L : List OpT} {n : Nat} {lv : Value} {s : Int}
    (hx : nextJ (l.drop good) gs.length = some (L, n)) (ok : ∀ o ∈ L, o.Ok) (ol : OwnOl wr.heap.size w1 lv L) (b1 : Below wr.heap.size wr w1) :
    ∃ v3 w3, Hid ((Builtin.append_ #[36, 36] 36 #[gv, .slice (some ⟨w1.heap.size + 1, 0, none⟩) 1 1]).run Tryd.prog ((w1.alloc (.cells #[.int .i64 s, lv] 94)).alloc (.cells #[lv] 22)) = .ok v3 w3) ∧
      w3.cell? ⟨w.heap.size + 1, 0, none⟩ = some gv ∧ w3.frozen? ⟨w.heap.size + 1, 0, none⟩ = false ∧ w3.cell? ⟨w.heap.size + 1, 1, none⟩ = some (.int .i64 (good : Int)) ∧ w3.frozen? ⟨w.heap.size + 1, 1, none⟩ = false ∧ w3.cell? ⟨w.heap.size + 1, 2, none⟩ = some (.bool true) ∧
      Hid (Fol w l n0 ((w3.setCell ⟨w.heap.size + 1, 0, none⟩ v3).setCell ⟨w.heap.size + 1, 1, none⟩ (.int .i64 ((good : Int) + (n : Int)))) v3 (gs ++ [L]) (good + n)) ∧ good + n ≤ l.length ∧ 8 ≤ n ∧ ∃ a3 n3 c3, v3 = .slice a3 n3 c3 := by
  obtain ⟨h1, h2, h3, h4, h5, h6, h7, h8, h9, h10⟩ := h
  obtain ⟨hn8, hnl⟩ := nextJ_bound hx
  rw [List.length_drop] at hnl
  have hgl : gs.length < 1000000000 := by omega
  have b1a : Below wr.heap.size wr (w1.alloc (.cells #[.int .i64 s, lv] 94)) := b1.alloc b1.size _
  have o1 : OwnGp (w.heap.size + 2) (w.heap.size + 2) (w1.alloc (.cells #[.int .i64 s, lv] 94)) gv gs := h3.kept b1a.block b1a.size
  have op1 : Opl wr.heap.size w1.heap.size (w1.alloc (.cells #[.int .i64 s, lv] 94)) lv L := ol.opl.kept fun i _ hi => Below.heap_alloc w1 _ i hi
  obtain ⟨v3, w3, r3, g3, bb3, gr3⟩ := own_gp o1 (Nat.le_trans h6 b1a.size) op1 h6 (by simp) (fun b hb => by have := (h3.lt hb).2; omega) (by omega)
  have e1 : (w1.alloc (.cells #[.int .i64 s, lv] 94)).heap.size = w1.heap.size + 1 := by simp
  rw [e1] at r3
  have k0 : w3.heap[w.heap.size]? = some (.cells #[.slice none 0 0, .int .i64 0, .bool false] 38) := (bb3.block _ (by omega)).trans ((b1a.block _ (by omega)).trans h1)
  have k1 : w3.heap[w.heap.size + 1]? = some (.cells #[gv, .int .i64 (good : Int), .bool true] 38 (0, 0)) := (bb3.block _ (by omega)).trans ((b1a.block _ (by omega)).trans h2)
  have hsz3 : w.heap.size + 2 ≤ w3.heap.size := by have := bb3.size; have := b1a.size; omega
  have hB3 : Below w.heap.size w w3 := h5.trans ((b1a.mono (by omega)).trans (bb3.mono (by omega)))
  refine ⟨v3, w3, r3, cell_heap k1 rfl, cell_frozen k1 _, cell_heap k1 rfl, cell_frozen k1 _, cell_heap k1 rfl, ⟨?_, ?_, ?_, ?_, ?_, ?_, by omega, by omega, by simp; omega, ?_⟩, by omega, hn8, ?_⟩
  · rw [Below.heap_setCell _ _ _ _ (by simp), Below.heap_setCell _ _ _ _ (by simp)]
    exact k0
  · rw [set_heap (set_heap k1 0 v3) 1 _, ← Int.natCast_add]
    rfl
  · refine g3.kept2 (fun i hi _ => ?_) (by simp [World.setCell])
    rw [Below.heap_setCell _ _ _ _ (by simp; omega), Below.heap_setCell _ _ _ _ (by simp; omega)]
  · intro g hg
    rcases List.mem_append.1 hg with hg | hg
    · exact h4 g hg
    · rw [List.mem_singleton.1 hg]; exact ok
  · exact (hB3.setCell (by simp) _).setCell (by simp) _
  · simpa [World.setCell] using hsz3
  · rw [h10]
    obtain ⟨f, hf⟩ : ∃ f, l.length + 1 - gs.length = f + 1 := ⟨l.length - gs.length, by omega⟩
    have e2 : l.length + 1 - (gs ++ [L]).length = f := by simp; omega
    rw [hf, followF_go hx, e2, List.drop_drop, List.length_append, List.length_singleton]
    simp only [List.append_assoc, List.singleton_append, Prod.mk.injEq, true_and]
    omega
  · obtain ⟨a3, c3, e3, _, _⟩ := g3.gps.slice
    exact ⟨a3, _, c3, e3⟩
theorem Fol.stop {w : World} {l : List UInt8} {n0 : Nat} {wr : World} {gv : Value} {gs : List (List OpT)} {good : Nat} (h : Fol w l n0 wr gv gs good) (hx : nextJ (l.drop good) gs.length = none) : followJ l n0 = ⟨gs, good, true⟩ := by
  obtain ⟨_, _, _, _, _, _, h7, h8, h9, h10⟩ := h
  obtain ⟨f, hf⟩ : ∃ f, l.length + 1 - gs.length = f + 1 := ⟨l.length - gs.length, by omega⟩
  rw [hf, followF_stop hx] at h10
  unfold followJ
  rw [h10]
  simp
  omega
end Go.Proofs.YtcheikpmhdliiaaDoor
