/- Both worlds, the blocks that are to be kept named; a call of each. -/
import Derived.Test.YtmeecjedikechaaJTwo
import Derived.Test.YtmeecjedikechaaActMem
namespace Go.Proofs.Ytmeecjedikechaa
open Go.RowKit Go.Maps Go.Sort
set_option maxRecDepth 100000
set_option linter.unusedVariables false
set_option linter.unusedSimpArgs false
/-- All names are good. -/
def GoodP (P : List PF) : Prop := ∀ p ∈ P, goodB p.nm = true
theorem GoodP.put {P : List PF} (h : GoodP P) {f : PF} (hf : goodB f.nm = true) : GoodP (putP f false P) := fun p hp => by
  rcases mem_put f p P hp with rfl | hp
  · exact hf
  · exact h p hp
theorem GoodP.drop {P : List PF} (h : GoodP P) (q : PF → Bool) : GoodP (P.filter q) := fun p hp => h p (List.mem_filter.1 hp).1
theorem GoodP.cut {P : List PF} (h : GoodP P) (k : Int) : GoodP (P.map (cutP k)) := fun p hp => by
  obtain ⟨x, hx, rfl⟩ := List.mem_map.1 hp
  exact h x hx
theorem GoodP.op {P : List PF} (h : GoodP P) {s : RS} {go : List PF → List PF} (hg : GoodP (go P)) : GoodP (opP s P go).2.2 := by
  unfold opP
  split
  · exact h.cut _
  · exact hg
theorem GoodP.look {P : List PF} (h : GoodP P) {nm : ByteArray} {p : PF} (hp : lookP nm P = some p) : goodB p.nm = true := h p (List.mem_of_find?_eq_some hp)
theorem create_good {P : List PF} {nm : ByteArray} {r : RS} (h : GoodP P) : GoodP (createP nm r P).2.2 := by
  unfold createP
  split
  · exact h
  · split
    · exact h
    · split
      · exact h
      · exact h.op (h.put (by simp_all))
theorem remove_good {P : List PF} {nm : ByteArray} {r : RS} (h : GoodP P) : GoodP (removeP nm r P).2.2 := by
  unfold removeP
  split
  · exact h
  · split
    · exact h
    · split
      · exact h
      · exact h.op (h.drop _)
theorem sync_good {P : List PF} {nm : ByteArray} {r : RS} (h : GoodP P) : GoodP (syncP nm r P).2.2 := by
  unfold syncP
  split
  · exact h
  · split
    · exact h
    · split
      · exact h
      · rename_i p hp
        have hg : goodB p.nm = true := h.look hp
        exact h.op (h.put hg)
theorem append_good {P : List PF} {nm : ByteArray} {l : List UInt8} {r : RS} (h : GoodP P) : GoodP (appendP nm l r P).2.2 := by
  unfold appendP
  split
  · exact h
  · split
    · exact h
    · split
      · exact h
      · rename_i p hp
        have hg : goodB p.nm = true := h.look hp
        split
        · exact h
        · exact GoodP.op (h.put (f := ⟨p.nm, p.data ++ l, p.sy⟩) hg) (h.put (f := ⟨p.nm, p.data ++ l, p.sy⟩) hg)
theorem place_good {P : List PF} {nm : ByteArray} {l : List UInt8} {r : RS} (h : GoodP P) : GoodP (placeP nm l r P).2.2 := by
  unfold placeP
  split
  · exact h
  · split
    · exact h
    · exact h.put (by simp_all)
theorem rename_good {P : List PF} {nm to : ByteArray} {r : RS} (h : GoodP P) : GoodP (renameP nm to r P).2.2 := by
  unfold renameP
  split
  · exact h
  · split
    · exact h
    · split
      · exact h
      · exact h.op ((h.drop _).put (by simp_all))
theorem plan_good {P : List PF} {n k : Int} {r : RS} (h : GoodP P) : GoodP (planP n k r P).2.2 := by
  unfold planP
  split
  · exact h
  · split <;> exact h
/-- Both worlds, alike; the blocks of K are kept by the program. -/
def JA (K : Nat → Prop) (base b bm rb : Nat) (r : RS) (P : List PF) (w : World) : Prop :=
  ∃ s D F, S K base w b bm s D F ∧ RefP K w rb r P ∧ Rel s F r P ∧ K rb ∧ base ≤ w.heap.size ∧ base ≤ rb ∧ GoodP P
/-- The program has done it already, the reference not yet. -/
def JM (K : Nat → Prop) (base b bm rb : Nat) (r : RS) (P : List PF) (t : RS × List PF) (w : World) : Prop :=
  ∃ s D F, S K base w b bm s D F ∧ RefP K w rb r P ∧ Rel s F t.1 t.2 ∧ K rb ∧ base ≤ w.heap.size ∧ base ≤ rb ∧ P.length ≤ 16 ∧ 0 ≤ r.cut ∧ r.cut ≤ 9223372036854775807 ∧ 0 ≤ r.keep ∧ r.keep ≤ 9223372036854775807 ∧ GoodP t.2
/-- Behind an act: it told true, and both worlds are alike. -/
def AdJ (base b bm rb : Nat) (w : World) (e : Ending) (w' : World) : Prop :=
  e = .returned (.bool true) ∧ (∃ K r P, JA K base b bm rb r P w') ∧ Below base w w'
section
variable {K K' : Nat → Prop} {base : Nat} {w w' : World} {b bm rb : Nat} {r : RS} {P : List PF}
theorem JA.le (h : JA K base b bm rb r P w) : P.length ≤ 16 := by
  obtain ⟨s, D, F, hS, hR, hL, _⟩ := h
  rw [← hL.size hS]
  exact hS.own.size_le
theorem JA.prog {f : Nat} {args : Array Value} {t : Int × RS × List PF} (h : JA K base b bm rb r P w) (G : GoodP P → GoodP t.2.2)
    (C : ∀ s D F, S K base w b bm s D F → Rel s F r P → base ≤ w.heap.size → Calls Try.prog f args w (EndJ K base b bm w t)) :
    Calls Try.prog f args w fun e w' => e = .returned (.int .i64 t.1) ∧ JM K base b bm rb r P t.2 w' ∧ Bel K base w w' := by
  have h16 := h.le
  obtain ⟨s, D, F, hS, hR, hL, hK, hb, hrb, hG⟩ := h
  refine Calls.mono (C s D F hS hL hb) ?_
  rintro e w' ⟨rfl, s1, D1, F1, h1, h2, h3⟩
  exact ⟨rfl, ⟨s1, D1, F1, h1, RefP.bel hR hK h2, h3, hK, Nat.le_trans hb h2.size, hrb, h16, by rw [hL.cut]; exact hL.c0, by rw [hL.cut]; exact hL.cm, hL.k0, hL.km, G hG⟩, h2⟩
theorem JM.ref {f : Nat} {args : Array Value} {t : Int × RS × List PF} (h : JM K base b bm rb r P t.2 w)
    (C : RefP K w rb r P → P.length ≤ 16 → 0 ≤ r.cut → r.cut ≤ 9223372036854775807 → 0 ≤ r.keep → r.keep ≤ 9223372036854775807 → K rb → (∀ i, K i → i < w.heap.size) → Calls Try.prog f args w (Ends K w rb t)) :
    Calls Try.prog f args w fun e w' => e = .returned (.int .i64 t.1) ∧ JA (Nw K w w') base b bm rb t.2.1 t.2.2 w' ∧ w.grownBy w' (some rb) := by
  obtain ⟨s, D, F, hS, hR, hL, hK, hb, hrb, h16, c0, cm, k0, km, hG⟩ := h
  refine Calls.mono (C hR h16 c0 cm k0 km hK hS.kb) ?_
  rintro e w' ⟨rfl, h1, h2⟩
  exact ⟨rfl, ⟨s, D, F, hS.refd hK h2, h1, hL, .inl hK, Nat.le_trans hb h2.size, hrb, hG⟩, h2⟩
theorem JA.reK (h : JA K base b bm rb r P w) (hk : ∀ i, i < w.heap.size → w'.heap[i]? = w.heap[i]?) (hs : w.heap.size ≤ w'.heap.size) (hK : ∀ i, K' i → i < w'.heap.size ∧ (K i ∨ w.heap.size ≤ i)) (hKK : ∀ i, K i → K' i) : JA K' base b bm rb r P w' := by
  obtain ⟨s, D, F, hS, hR, hL, hr, hb, hrb, hG⟩ := h
  exact ⟨s, D, F, hS.reK hk hK, (RefP.keep hR hr fun i hi => hk i (hS.kb i hi)).mono fun i hi _ => hKK i hi, hL, hKK _ hr, Nat.le_trans hb hs, hrb, hG⟩
theorem JA.lt (h : JA K base b bm rb r P w) : rb < w.heap.size := by
  obtain ⟨s, D, F, hS, hR, hL, hr, hb, hrb, hG⟩ := h
  exact hS.kb _ hr
theorem JA.brb (h : JA K base b bm rb r P w) : base ≤ rb := by
  obtain ⟨s, D, F, hS, hR, hL, hr, hb, hrb, hG⟩ := h
  exact hrb
theorem JA.bas (h : JA K base b bm rb r P w) : base ≤ w.heap.size := by
  obtain ⟨s, D, F, hS, hR, hL, hr, hb, hrb, hG⟩ := h
  exact hb
/-- What is kept, and the act's copy. -/
def Kg (K : Nat → Prop) (g : Nat) : Nat → Prop := fun i => K i ∨ i = g
theorem JA.box (h : JA K base b bm rb r P w) (o : Obj) : JA (Kg K w.heap.size) base b bm rb r P (w.alloc o) := by
  have hkb : ∀ i, K i → i < w.heap.size := by obtain ⟨s, D, F, hS, _⟩ := h; exact hS.kb
  refine h.reK (fun i hi => Below.heap_alloc w _ i hi) (by simp) (fun i hi => ?_) (fun i hi => .inl hi)
  rcases hi with hi | rfl
  · exact ⟨by have := hkb i hi; simp; omega, .inl hi⟩
  · exact ⟨by simp, .inr (Nat.le_refl _)⟩
theorem JA.drew (h : JA K base b bm rb r P w) : JA K base b bm rb r P w.drew := by
  have hkb : ∀ i, K i → i < w.heap.size := by obtain ⟨s, D, F, hS, _⟩ := h; exact hS.kb
  exact h.reK (fun _ _ => rfl) (Nat.le_refl _) (fun i hi => ⟨hkb i hi, .inl hi⟩) (fun _ hi => hi)
/-- Ahead of the act's calls: the act's copy is laid. -/
theorem act_inJ (h : JA K base b bm rb r P w) (cs : Array Value) :
    Hid (JA (Kg K w.heap.size) base b bm rb r P (w.alloc (.cells cs 31)).drew ∧ (w.alloc (.cells cs 31)).drew.heap[w.heap.size]? = some (.cells cs 31 (0, 0)) ∧ Below base w (w.alloc (.cells cs 31)).drew ∧ rb < w.heap.size ∧ base ≤ rb ∧ base ≤ (w.alloc (.cells cs 31)).drew.heap.size) :=
  ⟨(h.box _).drew, heap_alloc_new w _, ((Below.refl base w).alloc h.bas _).drew, h.lt, h.brb, (h.box (.cells cs 31)).drew.bas⟩
end
theorem exec_ld3 {ev : Operand → Value} {o : Oper} {x : Operand} (ho : o.op = .load 3 x) {p : Addr} (hx : ev x = .pointer (some p)) {v : Value} {u : World} (h : u.cell? p = some v) : (execOp ev o).run Try.prog u = .ok (.value v) u := by
  unfold execOp
  simp only [ho, hx]
  go_simp
end Go.Proofs.Ytmeecjedikechaa
