/- The walk of DepsMore. -/
import Derived.Test.YtbbcnjagndfmbaaDRight
namespace Go
variable {P : Program} {md : Region.Mode} {ops : Array Oper} {Q : Exit → Act → World → Prop} {S : World → Prop} {D : Nat → Bool}
theorem wpAnyD_two {i j : Nat} {oi oj : Oper} {fuel : Nat} {listed : Array Bool} {a : Act} {w : World} (hr : Region.ready md ops listed = [i, j]) (hi : ops[i]? = some oi) (hj : ops[j]? = some oj)
    (h1 : ∀ K' : Act → World → Prop, (∀ a' w', (D i = true ∨ (S w → S w')) → wpAnyD P md ops Q S D fuel (listed.setIfInBounds i true) a' w' → K' a' w') → if Region.wanted oi (yielded ops a.tmps) = true then Oper.wp P oi a w K' Q else K' (a.put oi.dst undef) w)
    (h2 : ∀ K' : Act → World → Prop, (∀ a' w', (D j = true ∨ (S w → S w')) → wpAnyD P md ops Q S D fuel (listed.setIfInBounds j true) a' w' → K' a' w') → if Region.wanted oj (yielded ops a.tmps) = true then Oper.wp P oj a w K' Q else K' (a.put oj.dst undef) w) :
    wpAnyD P md ops Q S D (fuel + 1) listed a w := by
  refine ⟨fun h0 => (by rw [hr] at h0; cases h0), fun k hk => ?_⟩
  rw [hr] at hk
  rcases List.mem_cons.1 hk with rfl | hk
  · exact wpOp_step hi fun K' hK => h1 K' fun a' w' h1 h2 => hK a' w' ⟨h1, h2⟩
  · obtain rfl : k = j := by simpa using hk
    exact wpOp_step hj fun K' hK => h2 K' fun a' w' h1 h2 => hK a' w' ⟨h1, h2⟩
end Go
namespace Go.Proofs.Ytbbcnjagndfmbaa
open Go.RowKit Go.Dp
set_option maxRecDepth 100000
set_option linter.unusedVariables false
set_option linter.unusedSimpArgs false
section
variable {P : Program} {o : Oper} {a : Act} {w w' : World} {K : Act → World → Prop} {Q : Exit → Act → World → Prop}
theorem op_bslice {ty : TypeId} {len : Nat} {xs : Array (Nat × Operand)} {ps : Array (Nat × Value)} {v : Value} (ho : o.op = .buildSlice ty len xs) (hx : (xs.map fun (i, x) => (i, a.eval x)) = ps) (hrun : (Instr.buildSlice ty len ps).run P w = .ok v w') (h : K (a.put o.dst v) w') : Oper.wp P o a w K Q := by
  unfold Oper.wp execOp
  simp only [ho, hx, Sem.run_bind, Sem.run_pure, hrun, Result.andThen_ok]
  exact h
theorem op_append {s x : Operand} {t t2 : TypeId} (ho : o.op = .call { callee := .builtin .append, args := #[s, x], argTypes := #[t, t2] }) {v bv v' : Value} (hs : a.eval s = v) (hx : a.eval x = bv) (hrun : (Builtin.append_ #[t, t2] o.type #[v, bv]).run P w = .ok v' w')
    (h : K (a.put o.dst v') w') : Oper.wp P o a w K Q := by
  unfold Oper.wp
  simp [execOp, ho, resolve, invoke, builtin, hs, hx, hrun, Result.andThen]
  exact h
theorem exec_load {ev : Operand → Value} {ty : TypeId} {x : Operand} {p v : Value} {u : World} (ho : o.op = .load ty x) (hx : ev x = p) (hrun : (Instr.loadAt ty p).run P u = .ok v u) : (execOp ev o).run P u = .ok (.value v) u := by
  unfold execOp
  simp only [ho, hx, Sem.run_bind, Sem.run_pure, hrun, Result.andThen_ok]
end
theorem pslice_zero (w : World) : (Instr.buildSlice 22 0 #[]).run Try.prog w = .ok (.slice (some ⟨w.heap.size, 0, none⟩) 0 0) (w.alloc (.cells #[] 33)) := by kernel_rfl
theorem ownP_new (w : World) : OwnP w.heap.size (w.alloc (.cells #[] 33)) (.slice (some ⟨w.heap.size, 0, none⟩) 0 0) [] := World.ownsRow_lit w #[] 0 (Nat.le_refl _) (by decide) rfl
theorem pr_new (w : World) (x : Int × Int) : Pr (w.alloc (pO x)) (.slice (some ⟨w.heap.size, 0, none⟩) 1 1) [x] := rd_new w (pcl x) 33 1 (by decide)
/-- The three orders: the edges and one more, whichever is built first. -/
theorem more_a {w : World} {ev : Value} {L : List (Int × Int)} (h : Pr w ev L) (hl : L.length ≤ 1000) (x : Int × Int) :
    ∃ v1 w1 v2 w2, Hid ((Builtin.append_ #[22, 22] 22 #[.slice (some ⟨w.heap.size, 0, none⟩) 0 0, ev]).run Try.prog (w.alloc (.cells #[] 33)) = .ok v1 w1) ∧ Hid ((Builtin.append_ #[22, 22] 22 #[v1, .slice (some ⟨w1.heap.size, 0, none⟩) 1 1]).run Try.prog (w1.alloc (pO x)) = .ok v2 w2) ∧ Hid (Pr w2 v2 (L ++ [x])) ∧ Hid (Below w.heap.size w w1) ∧ Hid (Below w.heap.size w w2) := by
  have b0 := bel_alloc (w1 := w) (Below.refl _ _) (.cells #[] 33)
  obtain ⟨v1, w1, r1, o1, _, b1⟩ := ownP_cat (ownP_new w) (h.below b0) (by simp; omega) b0.size
  have b1 := b0.trans b1
  have bx := bel_alloc (w1 := w1) (Below.refl _ _) (pO x)
  obtain ⟨v2, w2, r2, o2, _, b2⟩ := ownP_cat (own_below o1 bx) (pr_new w1 x) (by simp; omega) (Nat.le_trans b1.size bx.size)
  exact ⟨v1, w1, v2, w2, r1, r2, own_rd o2, b1, (bel_alloc b1 _).trans b2⟩
theorem more_b {w : World} {ev : Value} {L : List (Int × Int)} (h : Pr w ev L) (hl : L.length ≤ 1000) (x : Int × Int) :
    ∃ v1 w1 v2 w2, Hid ((Builtin.append_ #[22, 22] 22 #[.slice (some ⟨w.heap.size, 0, none⟩) 0 0, ev]).run Try.prog ((w.alloc (.cells #[] 33)).alloc (pO x)) = .ok v1 w1) ∧ Hid ((Builtin.append_ #[22, 22] 22 #[v1, .slice (some ⟨(w.alloc (.cells #[] 33)).heap.size, 0, none⟩) 1 1]).run Try.prog w1 = .ok v2 w2) ∧ Hid (Pr w2 v2 (L ++ [x])) ∧ Hid (Below w.heap.size w w1) ∧ Hid (Below w.heap.size w w2) := by
  have b0 := bel_alloc (w1 := w) (Below.refl _ _) (.cells #[] 33)
  have bx := bel_alloc (w1 := w.alloc (.cells #[] 33)) (Below.refl _ _) (pO x)
  obtain ⟨v1, w1, r1, o1, g1, b1⟩ := ownP_cat (own_below (ownP_new w) bx) (h.below (bel_step b0 bx)) (by simp; omega) (bel_step b0 bx).size
  have hp : Pr w1 (.slice (some ⟨(w.alloc (.cells #[] 33)).heap.size, 0, none⟩) 1 1) [x] := by
    obtain ⟨a, c, e, h1, h2, h3⟩ := pr_new (w.alloc (.cells #[] 33)) x
    refine ⟨a, c, e, h1, h2, h3.imp id fun ⟨A, ea, hc⟩ => ⟨A, ea, fun j u hj => ?_⟩⟩
    have hq := hc j u hj
    rw [ea] at e
    simp only [Value.slice.injEq, Option.some.injEq, true_and] at e
    obtain ⟨rfl, _⟩ := e
    rw [Addr.add_mid] at hq ⊢
    exact (World.cell?_of_block (g1.block (w.alloc (.cells #[] 33)).heap.size (by simp) (by simp [Value.ownBlock]))).trans hq
  obtain ⟨v2, w2, r2, o2, _, b2⟩ := ownP_cat o1 hp (by simp; omega) (Nat.le_trans (bel_step b0 bx).size b1.size)
  exact ⟨v1, w1, v2, w2, r1, r2, own_rd o2, (bel_step b0 bx).trans b1, ((bel_step b0 bx).trans b1).trans b2⟩
theorem more_c {w : World} {ev : Value} {L : List (Int × Int)} (h : Pr w ev L) (hl : L.length ≤ 1000) (x : Int × Int) :
    ∃ v1 w1 v2 w2, Hid ((Builtin.append_ #[22, 22] 22 #[.slice (some ⟨(w.alloc (pO x)).heap.size, 0, none⟩) 0 0, ev]).run Try.prog ((w.alloc (pO x)).alloc (.cells #[] 33)) = .ok v1 w1) ∧ Hid ((Builtin.append_ #[22, 22] 22 #[v1, .slice (some ⟨w.heap.size, 0, none⟩) 1 1]).run Try.prog w1 = .ok v2 w2) ∧ Hid (Pr w2 v2 (L ++ [x])) ∧ Hid (Below w.heap.size w w1) ∧ Hid (Below w.heap.size w w2) := by
  have bx := bel_alloc (w1 := w) (Below.refl _ _) (pO x)
  have b0 := bel_alloc (w1 := w.alloc (pO x)) (Below.refl _ _) (.cells #[] 33)
  obtain ⟨v1, w1, r1, o1, g1, b1⟩ := ownP_cat (ownP_new (w.alloc (pO x))) (h.below (bel_step bx b0)) (by simp; omega) b0.size
  have hb1 := b0.trans b1
  obtain ⟨v2, w2, r2, o2, _, b2⟩ := ownP_cat o1 ((pr_new w x).below hb1) (by simp; omega) hb1.size
  exact ⟨v1, w1, v2, w2, r1, r2, own_rd o2, bel_step bx hb1, bel_step bx (hb1.trans b2)⟩
end Go.Proofs.Ytbbcnjagndfmbaa
