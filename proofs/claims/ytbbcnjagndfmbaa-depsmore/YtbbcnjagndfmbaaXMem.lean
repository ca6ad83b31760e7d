/- Rows of rows of one's own, each of which grows by itself; what stays while one of them grows. -/
import Derived.Test.YtbbcnjagndfmbaaDOrd1
import Derived.Test.YtbbcnjagndfmbaaKPure
namespace Go.Proofs.Ytbbcnjagndfmbaa
open Go.RowKit Go.Dp
set_option maxRecDepth 100000
set_option linter.unusedVariables false
set_option linter.unusedSimpArgs false
/-- All blocks stay, but those of S. -/
structure Kp (w w' : World) (S : Nat → Prop) : Prop where
  os : w'.os = w.os
  tape : w'.tape = w.tape
  output : w'.output = w.output
  size : w.heap.size ≤ w'.heap.size
  block : ∀ x, x < w.heap.size → ¬ S x → w'.heap[x]? = w.heap[x]?
theorem Kp.of_grown {w w' : World} {row : Option Nat} (h : w.grownBy w' row) : Kp w w' fun x => row = some x :=
  ⟨h.os, h.tape, h.output, h.size, fun x hx hs => h.block x hx fun e => hs e.symm⟩
theorem Kp.of_below {w w' : World} (h : Below w.heap.size w w') : Kp w w' fun _ => False := ⟨h.os, h.tape, h.output, h.size, fun x hx _ => h.block x hx⟩
theorem Kp.trans {w w1 w2 : World} {S T : Nat → Prop} (h : Kp w w1 S) (g : Kp w1 w2 T) : Kp w w2 fun x => S x ∨ T x :=
  ⟨g.os.trans h.os, g.tape.trans h.tape, g.output.trans h.output, Nat.le_trans h.size g.size, fun x hx hs => (g.block x (Nat.lt_of_lt_of_le hx h.size) fun e => hs (.inr e)).trans (h.block x hx fun e => hs (.inl e))⟩
theorem Kp.sub {w w' : World} {S T : Nat → Prop} (h : Kp w w' S) (hs : ∀ x, S x → T x) : Kp w w' T := ⟨h.os, h.tape, h.output, h.size, fun x hx ht => h.block x hx fun e => ht (hs x e)⟩
theorem own_of_block {base : Nat} {w w' : World} {t : TypeId} {sz n : Nat} {v : Value} {xs : List Value} (h : w.ownsRow base t sz v n xs) (hk : ∀ g, v.ownBlock = some g → w'.heap[g]? = w.heap[g]?) : w'.ownsRow base t sz v n xs := by
  refine ⟨h.1, ?_⟩
  rcases h.2 with h | ⟨g, cap, cur, rfl, h1, h2, h3⟩
  · exact .inl h
  · exact .inr ⟨g, cap, cur, rfl, h1, (hk g rfl).trans h2, h3⟩
theorem own_kp {base : Nat} {w w' : World} {S : Nat → Prop} {t : TypeId} {sz n : Nat} {v : Value} {xs : List Value} (h : w.ownsRow base t sz v n xs) (k : Kp w w' S) (hs : ∀ x, v.ownBlock = some x → ¬ S x) : w'.ownsRow base t sz v n xs :=
  own_of_block h fun g hg => k.block g (World.ownsRow.lt h g hg).2 (hs g hg)
theorem Ro.kp {base : Nat} {w w' : World} {S : Nat → Prop} {t : TypeId} {A : Addr} {n c : Nat} {xs : List Value} (h : Ro base w t A n c xs) (k : Kp w w' S) (hs : ¬ S A.block) : Ro base w' t A n c xs :=
  ⟨own_kp h.own k fun x hx => by cases hx; exact hs⟩
theorem Mo.kp {base : Nat} {w w' : World} {S : Nat → Prop} {t : TypeId} {v : Value} {n : Nat} {xs : List Value} (h : Mo base w t v n xs) (k : Kp w w' S) (hs : ∀ x, v.ownBlock = some x → ¬ S x) : Mo base w' t v n xs :=
  h.of_block fun g hg => by
    obtain ⟨_, c, hc⟩ := h.kind hg
    exact k.block g (Array.getElem?_eq_some_iff.1 hc).1 (hs g hg)
/-- Which block each row has: no two the same. -/
structure Bs (w : World) (b : Nat → Nat → Option Nat) : Prop where
  inj : ∀ k g k' g' x, b k g = some x → b k' g' = some x → k = k' ∧ g = g'
  lt : ∀ k g x, b k g = some x → x < w.heap.size
def ub (b : Nat → Nat → Option Nat) (k g : Nat) (o : Option Nat) : Nat → Nat → Option Nat := fun k' g' => if k' = k ∧ g' = g then o else b k' g'
theorem ub_self {b : Nat → Nat → Option Nat} {k g : Nat} {o : Option Nat} : ub b k g o k g = o := if_pos ⟨rfl, rfl⟩
theorem ub_ne {b : Nat → Nat → Option Nat} {k g k' g' : Nat} {o : Option Nat} (h : ¬ (k' = k ∧ g' = g)) : ub b k g o k' g' = b k' g' := if_neg h
theorem Bs.mono {w w' : World} {b : Nat → Nat → Option Nat} (h : Bs w b) (hs : w.heap.size ≤ w'.heap.size) : Bs w' b := ⟨h.inj, fun k g x e => Nat.lt_of_lt_of_le (h.lt k g x e) hs⟩
theorem Bs.up {w w' : World} {b : Nat → Nat → Option Nat} (h : Bs w b) (hs : w.heap.size ≤ w'.heap.size) {k g : Nat} {o : Option Nat} (ho : o = b k g ∨ ∀ x, o = some x → w.heap.size ≤ x ∧ x < w'.heap.size) : Bs w' (ub b k g o) := by
  have key : ∀ k' g' x, ¬ (k' = k ∧ g' = g) → o = some x → b k' g' = some x → False := fun k' g' x hne e1 e2 => by
    rcases ho with rfl | ho
    · exact hne (h.inj _ _ _ _ _ e2 e1)
    · have := (ho x e1).1
      have := h.lt _ _ _ e2
      omega
  refine ⟨fun k1 g1 k2 g2 x e1 e2 => ?_, fun k' g' x e => ?_⟩
  · by_cases c1 : k1 = k ∧ g1 = g
    · obtain ⟨rfl, rfl⟩ := c1
      rw [ub_self] at e1
      by_cases c2 : k2 = k1 ∧ g2 = g1
      · exact ⟨c2.1.symm, c2.2.symm⟩
      · rw [ub_ne c2] at e2
        exact (key _ _ _ c2 e1 e2).elim
    · rw [ub_ne c1] at e1
      by_cases c2 : k2 = k ∧ g2 = g
      · obtain ⟨rfl, rfl⟩ := c2
        rw [ub_self] at e2
        exact (key _ _ _ c1 e2 e1).elim
      · rw [ub_ne c2] at e2
        exact h.inj _ _ _ _ _ e1 e2
  · by_cases c : k' = k ∧ g' = g
    · obtain ⟨rfl, rfl⟩ := c
      rw [ub_self] at e
      rcases ho with rfl | ho
      · exact Nat.lt_of_lt_of_le (h.lt _ _ _ e) hs
      · exact (ho x e).2
    · rw [ub_ne c] at e
      exact Nat.lt_of_lt_of_le (h.lt _ _ _ e) hs
/-- A row of rows: the outer one at A, its values vs; the g-th one reads as f g. -/
structure RR (base : Nat) (w : World) (b : Nat → Nat → Option Nat) (k : Nat) (A : Addr) (n : Nat) (vs : List Value) (f : Nat → List Nat) : Prop where
  out : Ro base w 24 A n n vs
  blk : b (k + 100) 0 = some A.block
  row : ∀ g, g < n → ∃ u, vs[g]? = some u ∧ w.ownsRow base 3 1 u (f g).length (nV (f g)) ∧ u.ownBlock = b k g
theorem RR.kp {base : Nat} {w w' : World} {S : Nat → Prop} {b b' : Nat → Nat → Option Nat} {k : Nat} {A : Addr} {n : Nat} {vs : List Value} {f : Nat → List Nat} (h : RR base w b k A n vs f) (p : Kp w w' S)
    (h1 : ∀ g x, b k g = some x → ¬ S x) (h2 : ¬ S A.block) (h3 : ∀ g, b' k g = b k g) (h4 : b' (k + 100) 0 = b (k + 100) 0) : RR base w' b' k A n vs f := by
  refine ⟨h.out.kp p h2, by rw [h4]; exact h.blk, fun g hg => ?_⟩
  obtain ⟨u, e, o, q⟩ := h.row g hg
  exact ⟨u, e, own_kp o p fun x hx => h1 g x (by rw [← q]; exact hx), by rw [h3]; exact q⟩
theorem RR.rd {base : Nat} {w : World} {b : Nat → Nat → Option Nat} {k : Nat} {A : Addr} {n : Nat} {vs : List Value} {f : Nat → List Nat} (h : RR base w b k A n vs f) {g : Nat} (hg : g < n) :
    ∃ u, w.cell? (A.add g) = some u ∧ Rd w u (f g).length (nV (f g)) ∧ u.ownBlock = b k g := by
  obtain ⟨u, e, o, q⟩ := h.row g hg
  exact ⟨u, (h.out.cell e).1, own_rd o, q⟩
theorem nV_cat {l : List Nat} {x : Nat} : nV (l ++ [x]) = nV l ++ [.int .i64 (x : Nat)] := by simp
theorem rd_one (w : World) (x : Nat) : Rd (w.alloc (.cells #[.int .i64 (x : Nat)] 3)) (.slice (some ⟨w.heap.size, 0, none⟩) 1 1) 1 [.int .i64 (x : Nat)] := by
  refine ⟨_, _, rfl, Nat.le_refl _, by decide, .inr ⟨_, rfl, fun j u hj => ?_⟩⟩
  rw [Addr.add_mid, cell_of_row _ w.heap.size (0 + j) _ _ _ (heap_alloc_new w _), Nat.zero_add, ← hj]
  simp
/-- One more at the end of a row of one's own of numbers. -/
theorem own_one {base : Nat} {w : World} {v : Value} {l : List Nat} (h : w.ownsRow base 3 1 v l.length (nV l)) (x : Nat) (hl : l.length + 1 ≤ 4398046511104) (hbase : base ≤ w.heap.size) :
    ∃ v' w', Hid ((Builtin.append_ #[24, 24] 24 #[v, .slice (some ⟨w.heap.size, 0, none⟩) 1 1]).run Try.prog (w.alloc (.cells #[.int .i64 (x : Nat)] 3)) = .ok v' w') ∧ w'.ownsRow base 3 1 v' (l ++ [x]).length (nV (l ++ [x])) ∧
      Kp w w' (fun y => v.ownBlock = some y) ∧ Below base w w' ∧ (v'.ownBlock = v.ownBlock ∨ v'.ownBlock = some (w.heap.size + 1)) ∧ w.heap.size < w'.heap.size := by
  have hBA := bel_alloc (w1 := w) (Below.refl w.heap.size w) (.cells #[.int .i64 (x : Nat)] 3)
  have h' := own_below h hBA
  obtain ⟨v', w', r1, o1, g1, b1, l1⟩ := own_cat (ty := 24) Try.underlying24 ninf3 rfl (by decide) h' (rd_one w x) rfl (fun u hu => by rw [List.mem_singleton.1 hu]; rfl) hl (by decide) (Nat.le_trans hbase hBA.size)
  refine ⟨v', w', r1, by rw [nV_cat, List.length_append]; exact o1, (Kp.of_below hBA).trans (Kp.of_grown g1) |>.sub fun y hy => hy.resolve_left id, (hBA.mono hbase).trans b1, by simpa using l1, ?_⟩
  have := g1.size
  simp at this
  omega
/-- One row of them grows. -/
theorem RR.push {base : Nat} {w : World} {b : Nat → Nat → Option Nat} {k : Nat} {A : Addr} {n : Nat} {vs : List Value} {f : Nat → List Nat} (h : RR base w b k A n vs f) (B : Bs w b) {g : Nat} (hg : g < n) (x : Nat)
    (hl : (f g).length + 1 ≤ 4398046511104) (hbase : base ≤ w.heap.size) :
    ∃ u v' w2, w.cell? (A.add g) = some u ∧ (∃ a c, u = .slice a (f g).length c) ∧ (∃ a c, v' = .slice a ((f g).length + 1) c) ∧ Hid ((Builtin.append_ #[24, 24] 24 #[u, .slice (some ⟨w.heap.size, 0, none⟩) 1 1]).run Try.prog (w.alloc (.cells #[.int .i64 (x : Nat)] 3)) = .ok v' w2) ∧
      w2.cell? (A.add g) = some u ∧ w2.frozen? (A.add g) = false ∧ RR base (w2.setCell (A.add g) v') (ub b k g v'.ownBlock) k A n (vs.set g v') (upd f g (f g ++ [x])) ∧ Bs (w2.setCell (A.add g) v') (ub b k g v'.ownBlock) ∧
      Kp w (w2.setCell (A.add g) v') (fun y => b k g = some y ∨ y = A.block) ∧ Below base w (w2.setCell (A.add g) v') ∧ w.heap.size < (w2.setCell (A.add g) v').heap.size := by
  obtain ⟨u, e, o, q⟩ := h.row g hg
  obtain ⟨v', w2, r1, o1, k1, b1, l1, sz⟩ := own_one o x hl hbase
  have hA : ∀ j y, b k j = some y → y ≠ A.block := fun j y e1 e2 => by
    have := (B.inj _ _ _ _ _ e1 (by rw [h.blk, e2])).1
    omega
  have hAl := B.lt _ _ _ h.blk
  have out2 := h.out.kp k1 (fun e1 => hA g _ (by rw [← q]; exact e1) rfl)
  have c2 := out2.cell e
  have k2 := Kp.of_grown (set_block out2 g v')
  have k3 := (k1.trans k2).sub (T := fun y => b k g = some y ∨ y = A.block) (fun y hy => hy.imp (fun e1 => by rw [← q]; exact e1) (fun e1 => by cases e1; rfl))
  have hszs : (w2.setCell (A.add g) v').heap.size = w2.heap.size := by simp
  have hv : ∀ y, v'.ownBlock = some y → y ≠ A.block := fun y hy => by
    rcases l1 with l1 | l1
    · exact hA g y (by rw [← q, ← l1]; exact hy)
    · rw [l1] at hy; cases hy; omega
  have hup : Bs (w2.setCell (A.add g) v') (ub b k g v'.ownBlock) := B.up k3.size (l1.imp (fun l1 => l1.trans q) fun l1 y hy => by
    have := (World.ownsRow.lt o1 y hy).2
    rw [l1] at hy
    cases hy
    omega)
  refine ⟨u, v', w2, (h.out.cell e).1, own_slice o, (by have := own_slice o1; rw [List.length_append] at this; exact this), r1, c2.1, c2.2, ⟨out2.set g v', ?_, fun j hj => ?_⟩, hup, k3, bel_set out2 b1 (Nat.le_refl _) g v', by omega⟩
  · rw [ub_ne (by omega)]
    exact h.blk
  · by_cases c : j = g
    · subst c
      refine ⟨v', ?_, ?_, ub_self.symm⟩
      · rw [List.getElem?_set_self]
        exact (List.getElem?_eq_some_iff.1 e).1
      · rw [upd_self]
        exact own_kp o1 k2 fun y hy e1 => hv y hy (by cases e1; rfl)
    · obtain ⟨u', e', o', q'⟩ := h.row j hj
      refine ⟨u', by rw [List.getElem?_set_ne (fun e => c e.symm)]; exact e', ?_, ?_⟩
      · rw [upd_ne c]
        refine own_kp o' k3 fun y hy => ?_
        rintro (e1 | e1)
        · exact c (B.inj _ _ _ _ _ (by rw [← q']; exact hy) e1).2
        · exact hA j y (by rw [← q']; exact hy) e1
      · rw [ub_ne (by omega)]
        exact q'
/-- Rows of rows that are read. -/
def RdR (w : World) (v : Value) (n : Nat) (f : Nat → List Nat) : Prop := ∃ vs, Rd w v n vs ∧ vs.length = n ∧ ∀ g, g < n → ∃ u, vs[g]? = some u ∧ Rd w u (f g).length (nV (f g))
theorem RdR.below {w w' : World} {v : Value} {n : Nat} {f : Nat → List Nat} (h : RdR w v n f) (hb : Below w.heap.size w w') : RdR w' v n f := by
  obtain ⟨vs, h1, h2, h3⟩ := h
  exact ⟨vs, h1.below hb, h2, fun g hg => by obtain ⟨u, e, o⟩ := h3 g hg; exact ⟨u, e, o.below hb⟩⟩
theorem RdR.at {w : World} {v : Value} {n : Nat} {f : Nat → List Nat} (h : RdR w v n f) {g : Nat} (hg : g < n) : ∃ A c a d, v = .slice (some A) n c ∧ w.cell? (A.add g) = some (.slice a (f g).length d) ∧ Rd w (.slice a (f g).length d) (f g).length (nV (f g)) := by
  obtain ⟨vs, h1, h2, h3⟩ := h
  obtain ⟨A, c, e, q⟩ := h1.at (j := g) (by omega)
  obtain ⟨u, e1, o⟩ := h3 g hg
  obtain ⟨a, d, e2⟩ := o.slice
  subst e2
  rw [List.getElem?_eq_getElem (by omega)] at e1
  rw [Option.some.inj e1] at q
  exact ⟨A, c, a, d, e, q, o⟩
theorem RR.rdr {base : Nat} {w : World} {b : Nat → Nat → Option Nat} {k : Nat} {A : Addr} {n : Nat} {vs : List Value} {f : Nat → List Nat} (h : RR base w b k A n vs f) : RdR w (.slice (some A) n n) n f :=
  ⟨vs, own_rd h.out.own, h.out.len, fun g hg => by obtain ⟨u, e, o, _⟩ := h.row g hg; exact ⟨u, e, own_rd o⟩⟩
end Go.Proofs.Ytbbcnjagndfmbaa
