/- The characters of a text in memory: a row of texts of one's own. -/
import Derived.Test.YtelpllilepkjmaaDoorVChars
namespace Go.Proofs.YtelpllilepkjmaaDoor
open Go.RowKit
set_option maxRecDepth 100000
set_option linter.unusedVariables false
set_option linter.unusedSimpArgs false

/-- A slice that reads as these texts. -/
def Sts (w : World) (v : Value) (l : List ByteArray) : Prop :=
  (v = .slice none 0 0 ∧ l = []) ∨ ∃ a cap, v = .slice (some a) l.length cap ∧ l.length ≤ cap ∧ cap ≤ maxLen ∧ ∀ j x, l[j]? = some x → w.cell? (a.add j) = some (.string x)
theorem Sts.kept {w w' : World} {v : Value} {l : List ByteArray} (h : Sts w v l) (hk : ∀ i, i < w.heap.size → w'.heap[i]? = w.heap[i]?) : Sts w' v l := by
  rcases h with h | ⟨a, cap, h1, h2, h3, h4⟩
  · exact .inl h
  · refine .inr ⟨a, cap, h1, h2, h3, fun j u hj => ?_⟩
    have := h4 j u hj
    rw [← this]
    exact World.cell?_of_block (hk _ (World.block_lt_of_cell? w _ this))
theorem Sts.below {w w' : World} {v : Value} {l : List ByteArray} (h : Sts w v l) (hk : Below w.heap.size w w') : Sts w' v l := h.kept hk.block
theorem Sts.slice {w : World} {v : Value} {l : List ByteArray} (h : Sts w v l) : ∃ a c, v = .slice a l.length c := by
  rcases h with ⟨rfl, rfl⟩ | ⟨a, cap, rfl, _⟩
  · exact ⟨none, 0, rfl⟩
  · exact ⟨_, _, rfl⟩
/-- A row of texts of one's own. -/
def OwnS (base : Nat) (w : World) (v : Value) (l : List ByteArray) : Prop := w.ownsRow base 9 1 v l.length (l.map Value.string)
theorem ownsRow_of_block {w w' : World} {base : Nat} {e : TypeId} {size : Nat} {v : Value} {n : Nat} {xs : List Value} (h : w.ownsRow base e size v n xs)
    (hk : ∀ g, v.ownBlock = some g → w'.heap[g]? = w.heap[g]?) : w'.ownsRow base e size v n xs := by
  refine ⟨h.1, ?_⟩
  rcases h.2 with hn | ⟨g, cap, cur, rfl, hb, hgg, rest⟩
  · exact .inl hn
  · exact .inr ⟨g, cap, cur, rfl, hb, by rw [hk g rfl]; exact hgg, rest⟩
theorem OwnS.alloc {w : World} {base : Nat} {v : Value} {l : List ByteArray} (h : OwnS base w v l) (o : Obj) : OwnS base (w.alloc o) v l := ownsRow_of_block h fun g hg => Below.heap_alloc w o g (World.ownsRow.lt h g hg).2
theorem OwnS.nil (w : World) (base : Nat) : OwnS base w (.slice none 0 0) [] := World.ownsRow_nil w base 9 1
theorem OwnS.sts {w : World} {base : Nat} {v : Value} {l : List ByteArray} (h : OwnS base w v l) : Sts w v l := by
  rcases h.2 with ⟨h1, h2⟩ | ⟨g, cap, cur, h1, h2, h3, h4, h5, h6, h7⟩
  · exact .inl ⟨h1, List.eq_nil_of_length_eq_zero h2⟩
  · exact .inr ⟨⟨g, 0, none⟩, cap, h1, h4, h5, fun j x hj => World.ownsRow.cells h (g := g) (by rw [h1]; rfl) j _ (by simp [hj])⟩
theorem info9 : (Tryd.prog.info? 9).map (fun i => (i.zero, i.size, i.bytes)) = some (some (.string ⟨#[]⟩), 1, 16) := by kernel_rfl
theorem info_parts {P : Program} {t : TypeId} {z : Value} {n b : Nat} (h : (P.info? t).map (fun i => (i.zero, i.size, i.bytes)) = some (some z, n, b)) : ∃ i0, P.info? t = some i0 ∧ i0.zero = some z ∧ i0.size = n ∧ i0.bytes = b := by
  cases hi : P.info? t with
  | none => rw [hi] at h; simp at h
  | some i => rw [hi] at h; simp at h; exact ⟨i, rfl, h.1, h.2.1, h.2.2⟩
/-- One text more. -/
theorem own_strs {base : Nat} {w : World} {v : Value} {l : List ByteArray} (h : OwnS base w v l) (hb : base ≤ w.heap.size) (x : ByteArray) (hl : l.length + 1 ≤ 8796093022208) :
    ∃ v' w', (Builtin.append_ #[36, 36] 36 #[v, .slice (some ⟨w.heap.size, 0, none⟩) 1 1]).run Tryd.prog (w.alloc (.cells #[.string x] 9)) = .ok v' w' ∧ OwnS base w' v' (l ++ [x]) ∧ Below base w w' := by
  obtain ⟨i0, hi, hz0, hz1, hz2⟩ := info_parts info9
  obtain ⟨v', w', h1, h2, h3, _, h5⟩ := run_append_own_at (w.alloc (.cells #[.string x] 9)) base 36 36 9 i0 (.string ⟨#[]⟩) 1 16 Tryd.underlying36 hi hz0 hz1 hz2 rfl (by decide) v _ _ (h.alloc _) ⟨w.heap.size, 0, none⟩ 1 1 [.string x] rfl
    (by
      intro j u hj
      rcases j with _ | j
      · simp at hj
        subst hj
        simp only [Addr.add, if_true, World.cell?]
        rw [heap_alloc_new]
        rfl
      · simp at hj) (by intro u hu; simp at hu; subst hu; rfl) (by simp only [maxLen]; omega) (by omega) (by simp; omega)
  refine ⟨v', w', h1, ?_, ?_⟩
  · unfold OwnS
    rw [List.length_append]
    simpa using h2
  · exact ((Below.refl base w).alloc hb _).grown h3 (by simp; omega) fun k hk => (World.ownsRow.lt h k hk).1
/-- An append whose run is known, as the next operation. -/
theorem wpList_append_run {P : Program} {ops : Array Oper} {rest : List Oper} {o : Oper} {a : Act} {w : World} {Q : Exit → Act → World → Prop} (hgd : o.guard = none) (s x : Operand) (t : TypeId)
    (ho : o.op = Op.call { callee := Callee.builtin Builtin.append, args := #[s, x], argTypes := #[t, t] }) (v bv v' : Value) (w' : World) (hs : a.eval s = v) (hx : a.eval x = bv)
    (hrun : (Builtin.append_ #[t, t] o.type #[v, bv]).run P w = .ok v' w') (h : wpList P ops Q rest (a.put o.dst v') w') : wpList P ops Q (o :: rest) a w := by
  refine wpList_plain hgd fun K hK => ?_
  unfold Oper.wp
  simp [execOp, ho, resolve, invoke, builtin, hs, hx, hrun, Result.andThen]
  exact hK _ _ h

/-- The row that is made, and the iterator below it. -/
structure CW (w : World) (s : ByteArray) (v : Value) (L : List ByteArray) (p : Nat) (u : World) : Prop where
  it : u.heap[w.heap.size]? = some (.stringIter s p)
  own : OwnS (w.heap.size + 1) u v L
  bel : Below w.heap.size w u
theorem CW.size {w u : World} {s : ByteArray} {v : Value} {L : List ByteArray} {p : Nat} (h : CW w s v L p u) : w.heap.size + 1 ≤ u.heap.size := by
  have := (Array.getElem?_eq_some_iff.1 h.it).1
  omega
theorem CW.begin (w : World) (s : ByteArray) : CW w s (.slice none 0 0) [] 0 (w.iter s 0) :=
  ⟨World.iter_heap w s 0, OwnS.nil _ _, (Below.refl _ _).alloc (Nat.le_refl _) _⟩
theorem CW.next {w u : World} {s : ByteArray} {v : Value} {L : List ByteArray} {p : Nat} (h : CW w s v L p u) (hp : p < s.size) :
    ∃ u1, (∀ ty, (Instr.next (.pointer (some ⟨w.heap.size, 0, none⟩)) true ty).run Tryd.prog u = .ok (.tuple #[.bool true, .int .i64 p, .int .i32 (Utf8.decode s p).1]) u1) ∧ CW w s v L (p + (Utf8.decode s p).2) u1 := by
  refine ⟨_, fun ty => run_next_at h.it ty hp, ?_, ?_, ?_⟩
  · show (u.heap.setIfInBounds w.heap.size _)[w.heap.size]? = _
    rw [Array.getElem?_setIfInBounds_self_of_lt (by have := h.size; omega)]
  · refine ownsRow_of_block h.own fun g hg => ?_
    have := World.ownsRow.lt h.own g hg
    show (u.heap.setIfInBounds w.heap.size _)[g]? = _
    rw [Array.getElem?_setIfInBounds_ne (by omega)]
  · obtain ⟨a, b, c, d, e⟩ := h.bel
    refine ⟨a, b, c, ?_, fun i hi => ?_⟩
    · show w.heap.size ≤ (u.heap.setIfInBounds _ _).size
      simp; omega
    · show (u.heap.setIfInBounds _ _)[i]? = _
      rw [Array.getElem?_setIfInBounds_ne (by omega)]
      exact e i hi
theorem CW.app {w u : World} {s : ByteArray} {v : Value} {L : List ByteArray} {p : Nat} (h : CW w s v L p u) (x : ByteArray) (hl : L.length + 1 ≤ 8796093022208) :
    ∃ v' u', (Builtin.append_ #[36, 36] 36 #[v, .slice (some ⟨u.heap.size, 0, none⟩) 1 1]).run Tryd.prog (u.alloc (.cells #[.string x] 9)) = .ok v' u' ∧ CW w s v' (L ++ [x]) p u' := by
  obtain ⟨v', u', h1, h2, h3⟩ := own_strs h.own h.size x hl
  refine ⟨v', u', h1, ?_, h2, ?_⟩
  · rw [h3.block _ (by omega)]; exact h.it
  · exact h.bel.trans (h3.mono (by omega))
theorem CW.pos {w u : World} {s : ByteArray} {v : Value} {L : List ByteArray} {p : Nat} (h : CW w s v L p u) : u.iterPos w.heap.size = p := by
  simp [World.iterPos, h.it]
end Go.Proofs.YtelpllilepkjmaaDoor
