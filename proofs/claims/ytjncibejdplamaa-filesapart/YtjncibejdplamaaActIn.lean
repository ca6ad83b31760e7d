/- octavolaw01.act, on a new reference world: what FilesApart needs of it. -/
import Derived.Test.YtjncibejdplamaaAny
import Derived.Test.YtjncibejdplamaaDraw
import Derived.Test.YtjncibejdplamaaRef1
namespace Go
section
variable {P : Program} {md : Region.Mode} {ops : Array Oper} {Q : Exit → Act → World → Prop} {S : World → Prop} {D : Nat → Bool}
theorem wpAnyD_pured {i d : Nat} {oi : Oper} {v : Value} {fuel : Nat} {listed : Array Bool} {a : Act} {w : World} (hi : ops[i]? = some oi)
    (hd : oi.dst = some d) (hs : Region.noSelect ops = true) (hf : Region.free md ops listed i = true) (hr : (Region.ready md ops listed).contains i = true)
    (hQ : ∀ c a w, Q (.panic c) (a.put (some d) v) w → Q (.panic c) a w) (hg : Region.wanted oi (yielded ops a.tmps) = true) (hy : ∀ w, (execOp a.eval oi).run P w = .ok (.value v) w)
    (h : wpAnyD P md ops Q S D fuel (listed.setIfInBounds i true) (a.put (some d) v) w) : wpAnyD P md ops Q S D (fuel + 1) listed a w :=
  wpAnyD_pure hi hs hf hr (hd ▸ hQ) hg hy (hd ▸ h)
theorem wpAnyD_loadd {i d : Nat} {oi : Oper} {v : Value} {fuel : Nat} {listed : Array Bool} {a : Act} {w : World} (hi : ops[i]? = some oi)
    (hd : oi.dst = some d) (hs : Region.noSelect ops = true) (hf : Region.free md ops listed i = true) (hr : (Region.ready md ops listed).contains i = true)
    (hD : ((List.range ops.size).all fun j => !D j || ((ops[j]?.map fun o => o.after.any fun e => Region.binds md e && e.on == i).getD false)) = true)
    (hQ : ∀ c a w, Q (.panic c) (a.put (some d) v) w → Q (.panic c) a w) (hg : Region.wanted oi (yielded ops a.tmps) = true) (hy : ∀ w, S w → (execOp a.eval oi).run P w = .ok (.value v) w) (hS : S w)
    (h : wpAnyD P md ops Q S D fuel (listed.setIfInBounds i true) (a.put (some d) v) w) : wpAnyD P md ops Q S D (fuel + 1) listed a w :=
  wpAnyD_load hi hs hf hr hD (hd ▸ hQ) hg hy hS (hd ▸ h)
end
end Go
namespace Go.Proofs.Ytjncibejdplamaa
open Go.RowKit Go.Maps
set_option maxRecDepth 100000
set_option linter.unusedVariables false
set_option linter.unusedSimpArgs false
theorem exec_ld9 {ev : Operand → Value} {o : Oper} {x : Operand} (ho : o.op = .load 9 x) {p : Addr} (hx : ev x = .pointer (some p)) {v : Value} {u : World} (h : u.cell? p = some v) : (execOp ev o).run Try.prog u = .ok (.value v) u := by
  unfold execOp
  simp only [ho, hx]
  go_simp
theorem exec_ld29 {ev : Operand → Value} {o : Oper} {x : Operand} (ho : o.op = .load 29 x) {p : Addr} (hx : ev x = .pointer (some p)) {v : Value} {u : World} (h : u.cell? p = some v) : (execOp ev o).run Try.prog u = .ok (.value v) u := by
  unfold execOp
  simp only [ho, hx]
  go_simp
theorem acell {u : World} {g : Nat} {c0 c1 c2 c3 c4 c5 : Value} (h : u.heap[g]? = some (.cells #[c0, c1, c2, c3, c4, c5] 31 (0, 0))) : u.cell? ⟨g, 0, none⟩ = some c0 ∧ u.cell? ⟨g, 1, none⟩ = some c1 ∧ u.cell? ⟨g, 2, none⟩ = some c2 ∧ u.cell? ⟨g, 3, none⟩ = some c3 ∧ u.cell? ⟨g, 4, none⟩ = some c4 ∧ u.cell? ⟨g, 5, none⟩ = some c5 := by
  simp [World.cell?, h]
/-- The reference's world and the act's copy are to be kept. -/
def K2 (rb g : Nat) : Nat → Prop := fun i => i = rb ∨ i = g
def K0 : Nat → Prop := fun _ => False
section
variable {K K' : Nat → Prop} {base : Nat} {w w' : World} {b bm : Nat} {nm0 dat : List UInt8} {n : Int} {rb : Nat}
theorem AP.reK (h : AP K base b bm nm0 dat n w) (hk : ∀ i, i < w.heap.size → w'.heap[i]? = w.heap[i]?) (hK : ∀ i, K' i → i < w'.heap.size ∧ (K i ∨ w.heap.size ≤ i)) : AP K' base b bm nm0 dat n w' := by
  obtain ⟨s, D, F, f, hS, r⟩ := h
  exact ⟨s, D, F, f, hS.reK hk hK, r⟩
theorem AP.drew (h : AP K base b bm nm0 dat n w) : AP K base b bm nm0 dat n w.drew := by
  obtain ⟨s, D, F, f, hS, r⟩ := h
  exact ⟨s, D, F, f, hS.drew, r⟩
theorem AP.other (h : AP K base b bm nm0 dat n w) (hr : K rb) (hg : w.grownBy w' (some rb)) : AP K base b bm nm0 dat n w' := by
  obtain ⟨s, D, F, f, hS, r⟩ := h
  exact ⟨s, D, F, f, hS.other hr (fun i hi hne => hg.block i hi (by simpa using hne)) hg.size, r⟩
theorem AP.none (h : AP K base b bm nm0 dat n w) : AP K0 base b bm nm0 dat n w := h.reK (fun _ _ => rfl) fun _ h => h.elim
/-- What the world is like behind an act. -/
def Ad (base b bm : Nat) (nm0 dat : List UInt8) (n : Int) (w : World) (e : Ending) (w' : World) : Prop :=
  (∃ t, e = .returned (.bool t)) ∧ (AP K0 base b bm nm0 dat n w' ∨ AP K0 base b bm nm0 dat (n + 1) w') ∧ Below base w w'
/-- Ahead of the act's calls: the act's copy is laid. -/
theorem act_in (h : AP (fun i => i = rb) base b bm nm0 dat n w) (hrb : w.heap[rb]? = some rblk) (hb : base ≤ w.heap.size) (c0 c1 c2 c3 c4 c5 : Value) :
    Hid (AP (K2 rb w.heap.size) base b bm nm0 dat n (w.alloc (.cells #[c0, c1, c2, c3, c4, c5] 31)).drew ∧ (w.alloc (.cells #[c0, c1, c2, c3, c4, c5] 31)).drew.heap[w.heap.size]? = some (.cells #[c0, c1, c2, c3, c4, c5] 31 (0, 0)) ∧ (w.alloc (.cells #[c0, c1, c2, c3, c4, c5] 31)).drew.heap[rb]? = some rblk ∧ base ≤ (w.alloc (.cells #[c0, c1, c2, c3, c4, c5] 31)).drew.heap.size ∧ Below base w (w.alloc (.cells #[c0, c1, c2, c3, c4, c5] 31)).drew ∧ rb < w.heap.size) := by
  have hl : rb < w.heap.size := lt_of_some hrb
  have A : AP (K2 rb w.heap.size) base b bm nm0 dat n (w.alloc (.cells #[c0, c1, c2, c3, c4, c5] 31)) := by
    refine h.reK (fun i hi => Below.heap_alloc w _ i hi) fun i hi => ?_
    rcases hi with rfl | rfl
    · exact ⟨by simp; omega, .inl rfl⟩
    · exact ⟨by simp, .inr (Nat.le_refl _)⟩
  exact ⟨A.drew, heap_alloc_new w _, (Below.heap_alloc w _ rb hl).trans hrb, by show base ≤ (w.alloc _).heap.size; simp; omega, ((Below.refl base w).alloc hb _).drew, hl⟩
end
end Go.Proofs.Ytjncibejdplamaa
