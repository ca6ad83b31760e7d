/- What queue keeps in memory: members, readers, waits, those that may come next, what has come. -/
import Derived.Test.YtbbcnjagndfmbaaXIns
namespace Go.Proofs.Ytbbcnjagndfmbaa
open Go.RowKit Go.Dp
set_option maxRecDepth 100000
set_option linter.unusedVariables false
set_option linter.unusedSimpArgs false
structure QB (w0 w : World) (Am Ar Aw : Addr) (n : Nat) (fm fr : Nat → List Nat) (fw : Nat → Nat) (rv : Value) (rl : List Nat) (ov : Value) (ol : List Nat) (b : Nat → Nat → Option Nat) (vm vr : List Value) : Prop where
  bs : Bs w b
  rm : RR w0.heap.size w b 0 Am n vm fm
  rr : RR w0.heap.size w b 1 Ar n vr fr
  wa : Ro w0.heap.size w 3 Aw n n (nV ((List.range n).map fw))
  bw : b 2 0 = some Aw.block
  re : Mo w0.heap.size w 3 rv rl.length (nV rl)
  br : rv.ownBlock = b 3 0
  od : w.ownsRow w0.heap.size 3 1 ov ol.length (nV ol)
  bo : ov.ownBlock = b 4 0
  bel : Below w0.heap.size w0 w
/-- The same, whatever the blocks. -/
def QQ (w0 w : World) (Am Ar Aw : Addr) (n : Nat) (fm fr : Nat → List Nat) (fw : Nat → Nat) (rv : Value) (rl : List Nat) (ov : Value) (ol : List Nat) : Prop := ∃ b vm vr, QB w0 w Am Ar Aw n fm fr fw rv rl ov ol b vm vr
section
variable {w0 w : World} {Am Ar Aw : Addr} {n : Nat} {fm fr : Nat → List Nat} {fw : Nat → Nat} {rv : Value} {rl : List Nat} {ov : Value} {ol : List Nat} {b : Nat → Nat → Option Nat} {vm vr : List Value}
section
variable {w' : World} {S : Nat → Prop} {K : Nat → Nat → Prop} {b' : Nat → Nat → Option Nat}
theorem QB.free (h : QB w0 w Am Ar Aw n fm fr fw rv rl ov ol b vm vr) (hs : ∀ x, S x → ∃ i g, K i g ∧ b i g = some x) {i g x : Nat} (hk : ¬ K i g) (e : b i g = some x) : ¬ S x := fun s => by
  obtain ⟨i', g', hk', e'⟩ := hs x s
  obtain ⟨rfl, rfl⟩ := h.bs.inj _ _ _ _ _ e e'
  exact hk hk'
theorem QB.rm' (h : QB w0 w Am Ar Aw n fm fr fw rv rl ov ol b vm vr) (k : Kp w w' S) (hs : ∀ x, S x → ∃ i g, K i g ∧ b i g = some x) (hb : ∀ i g, ¬ K i g → b' i g = b i g) (h0 : ∀ g, ¬ K 0 g) (h1 : ¬ K 100 0) : RR w0.heap.size w' b' 0 Am n vm fm :=
  h.rm.kp k (fun g x e => h.free hs (h0 g) e) (h.free hs h1 h.rm.blk) (fun g => hb _ _ (h0 g)) (hb _ _ h1)
theorem QB.rr' (h : QB w0 w Am Ar Aw n fm fr fw rv rl ov ol b vm vr) (k : Kp w w' S) (hs : ∀ x, S x → ∃ i g, K i g ∧ b i g = some x) (hb : ∀ i g, ¬ K i g → b' i g = b i g) (h0 : ∀ g, ¬ K 1 g) (h1 : ¬ K 101 0) : RR w0.heap.size w' b' 1 Ar n vr fr :=
  h.rr.kp k (fun g x e => h.free hs (h0 g) e) (h.free hs h1 h.rr.blk) (fun g => hb _ _ (h0 g)) (hb _ _ h1)
theorem QB.wa' (h : QB w0 w Am Ar Aw n fm fr fw rv rl ov ol b vm vr) (k : Kp w w' S) (hs : ∀ x, S x → ∃ i g, K i g ∧ b i g = some x) (h0 : ¬ K 2 0) : Ro w0.heap.size w' 3 Aw n n (nV ((List.range n).map fw)) :=
  h.wa.kp k (h.free hs h0 h.bw)
theorem QB.re' (h : QB w0 w Am Ar Aw n fm fr fw rv rl ov ol b vm vr) (k : Kp w w' S) (hs : ∀ x, S x → ∃ i g, K i g ∧ b i g = some x) (h0 : ¬ K 3 0) : Mo w0.heap.size w' 3 rv rl.length (nV rl) :=
  h.re.kp k fun x e => h.free hs h0 (h.br.symm.trans e)
theorem QB.od' (h : QB w0 w Am Ar Aw n fm fr fw rv rl ov ol b vm vr) (k : Kp w w' S) (hs : ∀ x, S x → ∃ i g, K i g ∧ b i g = some x) (h0 : ¬ K 4 0) : w'.ownsRow w0.heap.size 3 1 ov ol.length (nV ol) :=
  own_kp h.od k fun x e => h.free hs h0 (h.bo.symm.trans e)
end
theorem QQ.below (h : QQ w0 w Am Ar Aw n fm fr fw rv rl ov ol) {w' : World} (hb : Below w.heap.size w w') : QQ w0 w' Am Ar Aw n fm fr fw rv rl ov ol := by
  obtain ⟨b, vm, vr, h⟩ := h
  have k := Kp.of_below hb
  have hs : ∀ x, False → ∃ i g, (fun _ _ => False : Nat → Nat → Prop) i g ∧ b i g = some x := fun x e => e.elim
  have hbb : ∀ i g, ¬ (fun _ _ => False : Nat → Nat → Prop) i g → b i g = b i g := fun _ _ _ => rfl
  exact ⟨b, vm, vr, h.bs.mono hb.size, h.rm' k hs hbb (fun _ e => e) (fun e => e), h.rr' k hs hbb (fun _ e => e) (fun e => e), h.wa' k hs (fun e => e), h.bw, h.re' k hs (fun e => e), h.br, h.od' k hs (fun e => e), h.bo, bel_step h.bel hb⟩
theorem QQ.bel (h : QQ w0 w Am Ar Aw n fm fr fw rv rl ov ol) : Below w0.heap.size w0 w := by
  obtain ⟨b, vm, vr, h⟩ := h
  exact h.bel
theorem QQ.congr {fm' fr' : Nat → List Nat} {fw' : Nat → Nat} (h : QQ w0 w Am Ar Aw n fm fr fw rv rl ov ol) (e1 : fm = fm') (e2 : fr = fr') (e3 : fw = fw') : QQ w0 w Am Ar Aw n fm' fr' fw' rv rl ov ol := by
  subst e1 e2 e3
  exact h
/-- One more member. -/
theorem QQ.pushM (h : QQ w0 w Am Ar Aw n fm fr fw rv rl ov ol) {g : Nat} (hg : g < n) (x : Nat) (hl : (fm g).length + 1 ≤ 4398046511104) :
    ∃ a c a' c' w2, w.cell? (Am.add g) = some (.slice a (fm g).length c) ∧ Hid ((Builtin.append_ #[24, 24] 24 #[.slice a (fm g).length c, .slice (some ⟨w.heap.size, 0, none⟩) 1 1]).run Try.prog (w.alloc (.cells #[.int .i64 (x : Nat)] 3)) = .ok (.slice a' ((fm g).length + 1) c') w2) ∧
      w2.cell? (Am.add g) = some (.slice a (fm g).length c) ∧ w2.frozen? (Am.add g) = false ∧ QQ w0 (w2.setCell (Am.add g) (.slice a' ((fm g).length + 1) c')) Am Ar Aw n (upd fm g (fm g ++ [x])) fr fw rv rl ov ol := by
  obtain ⟨b, vm, vr, h⟩ := h
  obtain ⟨u, v', w2, h1, ⟨a, c, rfl⟩, ⟨a', c', rfl⟩, h2, h3, h4, h5, h6, h7, h8, _⟩ := h.rm.push h.bs hg x hl h.bel.size
  have hs : ∀ y, (b 0 g = some y ∨ y = Am.block) → ∃ i j, (fun i j => (i = 0 ∧ j = g) ∨ (i = 100 ∧ j = 0) : Nat → Nat → Prop) i j ∧ b i j = some y := fun y e => by
    rcases e with e | rfl
    · exact ⟨0, g, .inl ⟨rfl, rfl⟩, e⟩
    · exact ⟨100, 0, .inr ⟨rfl, rfl⟩, h.rm.blk⟩
  have hb : ∀ i j, ¬ (fun i j => (i = 0 ∧ j = g) ∨ (i = 100 ∧ j = 0) : Nat → Nat → Prop) i j → ub b 0 g (Value.slice a' ((fm g).length + 1) c').ownBlock i j = b i j := fun i j e => ub_ne fun q => e (.inl q)
  exact ⟨a, c, a', c', w2, h1, h2, h3, h4, _, _, vr, h6, h5, h.rr' h7 hs hb (fun _ => by omega) (by omega), h.wa' h7 hs (by omega), (hb 2 0 (by omega)).trans h.bw, h.re' h7 hs (by omega), h.br.trans (hb 3 0 (by omega)).symm, h.od' h7 hs (by omega), h.bo.trans (hb 4 0 (by omega)).symm, h.bel.trans h8⟩
/-- One more reader. -/
theorem QQ.pushR (h : QQ w0 w Am Ar Aw n fm fr fw rv rl ov ol) {g : Nat} (hg : g < n) (x : Nat) (hl : (fr g).length + 1 ≤ 4398046511104) :
    ∃ a c a' c' w2, w.cell? (Ar.add g) = some (.slice a (fr g).length c) ∧ Hid ((Builtin.append_ #[24, 24] 24 #[.slice a (fr g).length c, .slice (some ⟨w.heap.size, 0, none⟩) 1 1]).run Try.prog (w.alloc (.cells #[.int .i64 (x : Nat)] 3)) = .ok (.slice a' ((fr g).length + 1) c') w2) ∧
      w2.cell? (Ar.add g) = some (.slice a (fr g).length c) ∧ w2.frozen? (Ar.add g) = false ∧ QQ w0 (w2.setCell (Ar.add g) (.slice a' ((fr g).length + 1) c')) Am Ar Aw n fm (upd fr g (fr g ++ [x])) fw rv rl ov ol := by
  obtain ⟨b, vm, vr, h⟩ := h
  obtain ⟨u, v', w2, h1, ⟨a, c, rfl⟩, ⟨a', c', rfl⟩, h2, h3, h4, h5, h6, h7, h8, _⟩ := h.rr.push h.bs hg x hl h.bel.size
  have hs : ∀ y, (b 1 g = some y ∨ y = Ar.block) → ∃ i j, (fun i j => (i = 1 ∧ j = g) ∨ (i = 101 ∧ j = 0) : Nat → Nat → Prop) i j ∧ b i j = some y := fun y e => by
    rcases e with e | rfl
    · exact ⟨1, g, .inl ⟨rfl, rfl⟩, e⟩
    · exact ⟨101, 0, .inr ⟨rfl, rfl⟩, h.rr.blk⟩
  have hb : ∀ i j, ¬ (fun i j => (i = 1 ∧ j = g) ∨ (i = 101 ∧ j = 0) : Nat → Nat → Prop) i j → ub b 1 g (Value.slice a' ((fr g).length + 1) c').ownBlock i j = b i j := fun i j e => ub_ne fun q => e (.inl q)
  exact ⟨a, c, a', c', w2, h1, h2, h3, h4, _, vm, _, h6, h.rm' h7 hs hb (fun _ => by omega) (by omega), h5, h.wa' h7 hs (by omega), (hb 2 0 (by omega)).trans h.bw, h.re' h7 hs (by omega), h.br.trans (hb 3 0 (by omega)).symm, h.od' h7 hs (by omega), h.bo.trans (hb 4 0 (by omega)).symm, h.bel.trans h8⟩
/-- For how many one waits: read, and set. -/
theorem QQ.wait (h : QQ w0 w Am Ar Aw n fm fr fw rv rl ov ol) {g : Nat} (hg : g < n) : w.cell? (Aw.add g) = some (.int .i64 (fw g : Nat)) ∧ w.frozen? (Aw.add g) = false := by
  obtain ⟨b, vm, vr, h⟩ := h
  exact h.wa.cell (j := g) (u := .int .i64 (fw g : Nat)) (by simp [List.getElem?_range hg])
theorem QQ.setW (h : QQ w0 w Am Ar Aw n fm fr fw rv rl ov ol) {g : Nat} (hg : g < n) (z : Nat) : QQ w0 (w.setCell (Aw.add g) (.int .i64 (z : Nat))) Am Ar Aw n fm fr (upd fw g z) rv rl ov ol ∧ (w.setCell (Aw.add g) (.int .i64 (z : Nat))).cell? (Aw.add g) = some (.int .i64 (z : Nat)) := by
  obtain ⟨b, vm, vr, h⟩ := h
  have k := Kp.of_grown (set_block h.wa g (.int .i64 (z : Nat)))
  have hs : ∀ y, some Aw.block = some y → ∃ i j, (fun i j => i = 2 ∧ j = 0 : Nat → Nat → Prop) i j ∧ b i j = some y := fun y e => ⟨2, 0, ⟨rfl, rfl⟩, by cases e; exact h.bw⟩
  have hb : ∀ i j, ¬ (fun i j => i = 2 ∧ j = 0 : Nat → Nat → Prop) i j → b i j = b i j := fun _ _ _ => rfl
  have hw := h.wa.set g (.int .i64 (z : Nat))
  rw [gl_set] at hw
  refine ⟨⟨b, vm, vr, h.bs.mono k.size, h.rm' k hs hb (fun _ => by omega) (by omega), h.rr' k hs hb (fun _ => by omega) (by omega), hw, h.bw, h.re' k hs (by omega), h.br, h.od' k hs (by omega), h.bo, bel_set h.wa h.bel (Nat.le_refl _) _ _⟩, ?_⟩
  exact (hw.cell (j := g) (u := .int .i64 (z : Nat)) (by simp [List.getElem?_range hg, upd_self])).1
/-- Another row of those that may come. -/
theorem QQ.ready (h : QQ w0 w Am Ar Aw n fm fr fw rv rl ov ol) {w' : World} {rv' : Value} {rl' : List Nat} (k : Kp w w' fun y => rv.ownBlock = some y) (hm : Mo w0.heap.size w' 3 rv' rl'.length (nV rl')) (ho : rv'.ownBlock = rv.ownBlock ∨ ∀ y, rv'.ownBlock = some y → w.heap.size ≤ y) :
    QQ w0 w' Am Ar Aw n fm fr fw rv' rl' ov ol := by
  obtain ⟨b, vm, vr, h⟩ := h
  have hs : ∀ y, rv.ownBlock = some y → ∃ i j, (fun i j => i = 3 ∧ j = 0 : Nat → Nat → Prop) i j ∧ b i j = some y := fun y e => ⟨3, 0, ⟨rfl, rfl⟩, h.br.symm.trans e⟩
  have hb : ∀ i j, ¬ (fun i j => i = 3 ∧ j = 0 : Nat → Nat → Prop) i j → ub b 3 0 rv'.ownBlock i j = b i j := fun i j e => ub_ne e
  have hB := h.bs.up (k := 3) (g := 0) (o := rv'.ownBlock) k.size (ho.imp (fun e => e.trans h.br) fun e x hx => ⟨e x hx, by
    obtain ⟨_, c, hc⟩ := hm.kind hx
    exact (Array.getElem?_eq_some_iff.1 hc).1⟩)
  exact ⟨_, vm, vr, hB, h.rm' k hs hb (fun _ => by omega) (by omega), h.rr' k hs hb (fun _ => by omega) (by omega), h.wa' k hs (by omega), (hb 2 0 (by omega)).trans h.bw, hm, ub_self.symm, h.od' k hs (by omega), h.bo.trans (hb 4 0 (by omega)).symm, h.bel.trans (k.bel (fun x hx => (h.re.kind hx).1) h.bel.size)⟩
/-- More has come. -/
theorem QQ.order (h : QQ w0 w Am Ar Aw n fm fr fw rv rl ov ol) {w' : World} {ov' : Value} {ol' : List Nat} (k : Kp w w' fun y => ov.ownBlock = some y) (hm : w'.ownsRow w0.heap.size 3 1 ov' ol'.length (nV ol')) (ho : ov'.ownBlock = ov.ownBlock ∨ ∀ y, ov'.ownBlock = some y → w.heap.size ≤ y) :
    QQ w0 w' Am Ar Aw n fm fr fw rv rl ov' ol' := by
  obtain ⟨b, vm, vr, h⟩ := h
  have hs : ∀ y, ov.ownBlock = some y → ∃ i j, (fun i j => i = 4 ∧ j = 0 : Nat → Nat → Prop) i j ∧ b i j = some y := fun y e => ⟨4, 0, ⟨rfl, rfl⟩, h.bo.symm.trans e⟩
  have hb : ∀ i j, ¬ (fun i j => i = 4 ∧ j = 0 : Nat → Nat → Prop) i j → ub b 4 0 ov'.ownBlock i j = b i j := fun i j e => ub_ne e
  have hB := h.bs.up (k := 4) (g := 0) (o := ov'.ownBlock) k.size (ho.imp (fun e => e.trans h.bo) fun e x hx => ⟨e x hx, (World.ownsRow.lt hm x hx).2⟩)
  exact ⟨_, vm, vr, hB, h.rm' k hs hb (fun _ => by omega) (by omega), h.rr' k hs hb (fun _ => by omega) (by omega), h.wa' k hs (by omega), (hb 2 0 (by omega)).trans h.bw, h.re' k hs (by omega), h.br.trans (hb 3 0 (by omega)).symm, hm, ub_self.symm, h.bel.trans (k.bel (fun x hx => (World.ownsRow.lt h.od x hx).1) h.bel.size)⟩
/-- One is put behind those that may come. -/
theorem QQ.pushQ (h : QQ w0 w Am Ar Aw n fm fr fw rv rl ov ol) (x : Nat) (hl : rl.length + 1 ≤ 4398046511104) :
    ∃ a c a' c' w2, rv = .slice a rl.length c ∧ Hid ((Builtin.append_ #[24, 24] 24 #[.slice a rl.length c, .slice (some ⟨w.heap.size, 0, none⟩) 1 1]).run Try.prog (w.alloc (.cells #[.int .i64 (x : Nat)] 3)) = .ok (.slice a' (rl.length + 1) c') w2) ∧
      QQ w0 w2 Am Ar Aw n fm fr fw (.slice a' (rl.length + 1) c') (rl ++ [x]) ov ol := by
  have h' := h.below (bel_alloc (w1 := w) (Below.refl _ _) (.cells #[.int .i64 (x : Nat)] 3))
  obtain ⟨b, vm, vr, q⟩ := h'
  have hr := heap_alloc_new w (.cells #[.int .i64 (x : Nat)] 3)
  obtain ⟨a, c, rfl⟩ := q.re.slice
  obtain ⟨v', w2, r1, m1, g1, b1, l1⟩ := mo_one (ty := 24) Try.underlying24 ninf3 rfl q.re hr rfl (by omega) (by decide) q.bel.size
  obtain ⟨a', c', rfl⟩ := m1.slice
  refine ⟨a, c, a', c', w2, rfl, r1, ?_⟩
  have e : rl.length + 1 = (rl ++ [x]).length := by simp
  have hq : QQ w0 (w.alloc (.cells #[.int .i64 (x : Nat)] 3)) Am Ar Aw n fm fr fw _ rl ov ol := ⟨b, vm, vr, q⟩
  refine hq.ready ((Kp.of_grown g1).sub fun y hy => hy) ?_ l1
  rw [nV_cat, ← e]
  exact m1
theorem sl_one (u : World) {A : Addr} {n c : Nat} (hn : n + 1 ≤ c) : (Instr.sliceAt 24 (.slice (some A) (n + 1) c) (some (.int .i64 1)) none none).run Try.prog u = .ok (.slice (some (if c = 1 then A else A.add 1)) n (c - 1)) u := by
  have h24 : Try.prog.underlying 24 = some (.slice (Try.prog.elem 24)) := by kernel_rfl
  have he : Try.prog.elem 24 = 3 := by kernel_rfl
  rw [run_sliceAt_slice u 24 _ _ _ _ h24, run_slice_l u 24 (some A) (n + 1) c h24 .i64 1 (by omega) (by omega), he, Try.sizeOf3 u]
  by_cases e : c = 1
  · simp [sliced, Result.andThen, e]
  · simp [sliced, Result.andThen, e]
/-- The first of those that may come is taken. -/
theorem QQ.tail {g : Nat} (h : QQ w0 w Am Ar Aw n fm fr fw rv (g :: rl) ov ol) :
    ∃ A c A', rv = .slice (some A) (rl.length + 1) c ∧ w.cell? A = some (.int .i64 (g : Nat)) ∧ Hid (∀ u, (Instr.sliceAt 24 (.slice (some A) (rl.length + 1) c) (some (.int .i64 1)) none none).run Try.prog u = .ok (.slice (some A') rl.length (c - 1)) u) ∧
      QQ w0 w Am Ar Aw n fm fr fw (.slice (some A') rl.length (c - 1)) rl ov ol := by
  have h0 := h
  obtain ⟨b, vm, vr, q⟩ := h
  obtain ⟨A, c, rfl, hc⟩ := q.re.at (j := 0) (u := .int .i64 (g : Nat)) rfl
  obtain ⟨h1, A', HA, HT, hB⟩ := Mo.tail (x := .int .i64 (g : Nat)) (xs := nV rl) q.re
  have hle : rl.length + 1 ≤ c := by
    rcases q.re with ⟨e, _⟩ | ⟨g', off, cap, cur, e, _, _, h3, _⟩
    · cases e
    · cases e; exact h3
  have hA0 : A.add 0 = A := by
    rcases q.re with ⟨e, _⟩ | ⟨g', off, cap, cur, e, _, _, h3, _⟩
    · cases e
    · cases e; rw [Addr.add_mid]; rfl
  rw [hA0] at hc
  refine ⟨A, c, A', rfl, hc, fun u => ?_, ?_⟩
  · rw [sl_one u hle, HA.out]
  · exact h0.ready ((Kp.of_below (Below.refl _ _)).sub fun _ e => e.elim) HT (.inl (by show some A'.block = some A.block; rw [hB]))
/-- All of a group come. -/
theorem QQ.come (h : QQ w0 w Am Ar Aw n fm fr fw rv rl ov ol) {g : Nat} (hg : g < n) (hl : ol.length + (fm g).length ≤ 4398046511104) :
    ∃ a c d e a' c' w2, ov = .slice d ol.length e ∧ w.cell? (Am.add g) = some (.slice a (fm g).length c) ∧ Hid ((Builtin.append_ #[24, 24] 24 #[.slice d ol.length e, .slice a (fm g).length c]).run Try.prog w = .ok (.slice a' (ol.length + (fm g).length) c') w2) ∧
      QQ w0 w2 Am Ar Aw n fm fr fw rv rl (.slice a' (ol.length + (fm g).length) c') (ol ++ fm g) := by
  have h0 := h
  obtain ⟨b, vm, vr, q⟩ := h
  obtain ⟨u, hu, hr, _⟩ := q.rm.rd hg
  obtain ⟨a, c, rfl⟩ := hr.slice
  obtain ⟨d, e, rfl⟩ := own_slice q.od
  have hnv : nV (ol ++ fm g) = nV ol ++ nV (fm g) := List.map_append ..
  obtain ⟨v', w2, r1, o1, g1, b1, l1⟩ := own_cat (ty := 24) Try.underlying24 ninf3 rfl (by decide) q.od hr (by simp) (nV_one _) hl (by decide) q.bel.size
  obtain ⟨a', c', rfl⟩ := own_slice o1
  refine ⟨a, c, d, e, a', c', w2, rfl, hu, r1, ?_⟩
  refine h0.order ((Kp.of_grown g1).sub fun y hy => hy) ?_ (l1.imp id fun e y hy => by rw [e] at hy; cases hy; exact Nat.le_refl _)
  rw [hnv, List.length_append]
  exact o1
/-- Who reads a group. -/
theorem QQ.rdrs (h : QQ w0 w Am Ar Aw n fm fr fw rv rl ov ol) {g : Nat} (hg : g < n) : ∃ a c, w.cell? (Ar.add g) = some (.slice a (fr g).length c) ∧ Rd w (.slice a (fr g).length c) (fr g).length (nV (fr g)) := by
  obtain ⟨b, vm, vr, q⟩ := h
  obtain ⟨u, hu, hr, _⟩ := q.rr.rd hg
  obtain ⟨a, c, rfl⟩ := hr.slice
  exact ⟨a, c, hu, hr⟩
end
end Go.Proofs.Ytbbcnjagndfmbaa
