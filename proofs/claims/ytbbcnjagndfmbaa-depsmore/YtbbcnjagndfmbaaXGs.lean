/- What the search for groups keeps in memory. -/
import Derived.Test.YtbbcnjagndfmbaaXMp
import Derived.Test.YtbbcnjagndfmbaaXRing
import Derived.Great.BuildSlice
namespace Go.Proofs.Ytbbcnjagndfmbaa
open Go.RowKit Go.Dp
set_option maxRecDepth 100000
set_option linter.unusedVariables false
set_option linter.unusedSimpArgs false
section
variable {P : Program} {ops : Array Oper} {rest : List Oper} {o : Oper} {a : Act} {w : World} {Q : Exit → Act → World → Prop}
theorem nl_mapUpdate (hgd : o.guard = none) (ty : TypeId) (m x y : Operand) (ho : o.op = .mapUpdate ty m x y)
    (mv p v : Value) (w' : World) (hm : a.eval m = mv) (hx : a.eval x = p) (hy : a.eval y = v) (hrun : (Instr.mapUpdate ty mv p v).run P w = .ok () w') (h : wpList P ops Q rest (a.put o.dst undef) w') : wpList P ops Q (o :: rest) a w := by
  refine wpList_plain hgd fun K hK => ?_
  unfold Oper.wp execOp
  simp only [ho, hm, hx, hy, Sem.run_bind, Sem.run_pure, hrun, Result.andThen_ok]
  exact hK _ _ h
theorem nl_lookup (hgd : o.guard = none) (ty : TypeId) (m x : Operand) (ho : o.op = .lookup ty m x true)
    (mv p v : Value) (hm : a.eval m = mv) (hx : a.eval x = p) (hrun : (Instr.lookup ty mv p true).run P w = .ok v w) (h : wpList P ops Q rest (a.put o.dst v) w) : wpList P ops Q (o :: rest) a w := by
  refine wpList_plain hgd fun K hK => ?_
  unfold Oper.wp execOp
  simp only [ho, hm, hx, Sem.run_bind, Sem.run_pure, hrun, Result.andThen_ok]
  exact hK _ _ h
end
theorem st_box {w : World} {g : Nat} {t : TypeId} {old v : Value} (hg : w.heap[g]? = some (.cells #[old] t)) (hi : (Try.prog.info? t).map (·.size) = some 1) (h1 : v.oneCell' = true) :
    ∃ w', Hid ((Instr.storeAt t (.pointer (some ⟨g, 0, none⟩)) v).run Try.prog w = .ok () w') ∧ w'.heap[g]? = some (.cells #[v] t) ∧ w.grownBy w' (some g) := by
  refine ⟨w.setRow g #[v], ?_, setRow_heap w g _ _ _ _ hg, ⟨rfl, rfl, rfl, by simp, fun i hi hne => setRow_other w g i _ fun e => hne (by rw [e])⟩⟩
  show _ = _
  simp only [Instr.storeAt, Instr.sureAddr, Sem.run_bind, Sem.run_pure, Result.andThen_ok, run_storeVar_one w g t t old v hg hi h1]
theorem st_int {w : World} {A : Addr} {v : Value} {x : Int} (h : w.cell? A = some v) (hf : w.frozen? A = false) : (Instr.storeAt 3 (.pointer (some A)) (.int .i64 x)).run Try.prog w = .ok () (w.setCell A (.int .i64 x)) := by
  go_simp
  try simp [h, hf]
theorem cell0 {w : World} {g : Nat} {t : TypeId} {v : Value} (h : w.heap[g]? = some (.cells #[v] t)) : w.cell? ⟨g, 0, none⟩ = some v := by
  rw [cell_of_row w g 0 _ _ _ h]; rfl
theorem free0 {w : World} {g : Nat} {t : TypeId} {v : Value} (h : w.heap[g]? = some (.cells #[v] t)) : w.frozen? ⟨g, 0, none⟩ = false := frozen_of_row w g _ _ t h
/-- The closure's own value. -/
abbrev fnV (g gb : Nat) : Value := .func (.func 18) #[] #[.pointer (some ⟨gb + 2, 0, none⟩), .pointer (some ⟨gb + 3, 0, none⟩), .pointer (some ⟨g, 0, none⟩), .pointer (some ⟨gb + 4, 0, none⟩), .pointer (some ⟨gb, 0, none⟩)]
/-- What it keeps: the boxes, the map, the row of groups, the row of those that are open. -/
structure GS (w0 : World) (A : Addr) (n c ga gb : Nat) (w : World) (sn : Nat → Option Nat) (op : List Nat) (gr : Nat → Nat) (cnt : Nat) : Prop where
  bel : Below w0.heap.size w0 w
  o1 : w0.heap.size < ga
  o2 : ga < gb
  bx : w.heap[w0.heap.size]? = some (.cells #[.slice (some A) n c] 36)
  gbx : w.heap[gb]? = some (.cells #[.slice (some ⟨ga, 0, none⟩) n n] 24)
  mp : MapR w (gb + 1) sn cnt
  sbx : w.heap[gb + 2]? = some (.cells #[.map (some (gb + 1))] 44)
  obx : ∃ a k, w.heap[gb + 3]? = some (.cells #[.slice a op.length k] 24) ∧ w.ownsRow (gb + 5) 3 1 (.slice a op.length k) op.length (nV op)
  fbx : w.heap[gb + 4]? = some (.cells #[fnV w0.heap.size gb] 45)
  gro : Ro w0.heap.size w 3 ⟨ga, 0, none⟩ n n (nV ((List.range n).map gr))
section
variable {w0 : World} {A : Addr} {n c ga gb : Nat} {w : World} {sn : Nat → Option Nat} {op : List Nat} {gr : Nat → Nat} {cnt : Nat}
theorem GS.sz (h : GS w0 A n c ga gb w sn op gr cnt) : gb + 4 < w.heap.size := (Array.getElem?_eq_some_iff.1 h.fbx).1
/-- All stands that lies in blocks that stay. -/
theorem GS.kept (h : GS w0 A n c ga gb w sn op gr cnt) {w' : World} {S : Nat → Prop} (k : Kp w w' S) (hb : Below w0.heap.size w0 w') (hs : ∀ x, S x → gb + 5 ≤ x) (ho : ∀ a m j x, (Value.slice a m j).ownBlock = some x → w.heap[gb + 3]? = some (.cells #[.slice a m j] 24) → ¬ S x) :
    GS w0 A n c ga gb w' sn op gr cnt := by
  have sz := h.sz
  have o1 := h.o1
  have o2 := h.o2
  have K : ∀ x, x < gb + 5 → w'.heap[x]? = w.heap[x]? := fun x hx => k.block x (by omega) fun e => by have := hs x e; omega
  refine ⟨hb, h.o1, h.o2, (K _ (by omega)).trans h.bx, (K _ (by omega)).trans h.gbx, h.mp.of_block (K _ (by omega)), (K _ (by omega)).trans h.sbx, ?_, (K _ (by omega)).trans h.fbx, h.gro.kp k fun e => by have := hs _ e; simp at this; omega⟩
  obtain ⟨a, j, h1, h2⟩ := h.obx
  exact ⟨a, j, (K _ (by omega)).trans h1, own_kp h2 k fun x hx => ho _ _ _ x hx h1⟩
theorem GS.below (h : GS w0 A n c ga gb w sn op gr cnt) {w' : World} (hb : Below w.heap.size w w') : GS w0 A n c ga gb w' sn op gr cnt :=
  h.kept (Kp.of_below hb) (bel_step h.bel hb) (fun _ e => e.elim) (fun _ _ _ _ _ _ e => e)
/-- A number is seen. -/
theorem GS.seen (h : GS w0 A n c ga gb w sn op gr cnt) (x v : Nat) (hx : x < 4294967296) :
    ∃ w', Hid ((Instr.mapUpdate 44 (.map (some (gb + 1))) (.int .i64 (x : Nat)) (.int .i64 (v : Nat))).run Try.prog w = .ok () w') ∧ GS w0 A n c ga gb w' (upd sn x (some v)) op gr (if sn x = none then cnt + 1 else cnt) ∧ w.grownBy w' (some (gb + 1)) := by
  have sz := h.sz
  have o1 := h.o1
  have o2 := h.o2
  obtain ⟨w', r, m, g⟩ := h.mp.put x v hx
  have K : ∀ x, x < w.heap.size → x ≠ gb + 1 → w'.heap[x]? = w.heap[x]? := fun x hx hne => g.block x hx fun e => hne (by simpa using e)
  have hb : Below w0.heap.size w0 w' := ⟨g.os.trans h.bel.os, g.tape.trans h.bel.tape, g.output.trans h.bel.output, Nat.le_trans h.bel.size g.size, fun i hi => (K i (by omega) (by omega)).trans (h.bel.block i hi)⟩
  refine ⟨w', r, ⟨hb, h.o1, h.o2, (K _ (by omega) (by omega)).trans h.bx, (K _ (by omega) (by omega)).trans h.gbx, m, (K _ (by omega) (by omega)).trans h.sbx, ?_, (K _ (by omega) (by omega)).trans h.fbx, h.gro.kp (Kp.of_grown g) fun e => by simp at e; omega⟩, g⟩
  obtain ⟨a, j, h1, h2⟩ := h.obx
  exact ⟨a, j, (K _ (by omega) (by omega)).trans h1, own_kp h2 (Kp.of_grown g) fun x hx e => by have := (World.ownsRow.lt h2 x hx).1; simp at e; omega⟩
theorem gl_set {n : Nat} {gr : Nat → Nat} {x v : Nat} : (nV ((List.range n).map gr)).set x (.int .i64 (v : Nat)) = nV ((List.range n).map (upd gr x v)) := by
  apply List.ext_getElem?
  intro j
  rw [List.getElem?_set]
  by_cases hj : j < n
  · by_cases e : x = j
    · subst e
      rw [if_pos rfl, if_pos (by simpa using hj)]
      simp [List.getElem?_range hj, upd_self]
    · rw [if_neg e]
      simp [List.getElem?_range hj, upd_ne (fun q => e q.symm)]
  · rw [List.getElem?_eq_none (l := nV ((List.range n).map (upd gr x v))) (by simp; omega)]
    split
    · rw [if_neg (by simp; omega)]
    · exact List.getElem?_eq_none (by simp; omega)
/-- Its group is told. -/
theorem GS.told (h : GS w0 A n c ga gb w sn op gr cnt) {x : Nat} (v : Nat) (hx : x < n) :
    ∃ w', Hid ((Instr.storeAt 3 (.pointer (some ((⟨ga, 0, none⟩ : Addr).add x))) (.int .i64 (v : Nat))).run Try.prog w = .ok () w') ∧ GS w0 A n c ga gb w' sn op (upd gr x v) cnt ∧ w.grownBy w' (some ga) := by
  have sz := h.sz
  have o1 := h.o1
  have o2 := h.o2
  have hc := h.gro.cell (j := x) (u := .int .i64 (gr x : Nat)) (by simp [List.getElem?_range hx])
  refine ⟨_, st_int hc.1 hc.2, ?_, set_block h.gro x (.int .i64 (v : Nat))⟩
  have g := set_block h.gro x (.int .i64 (v : Nat))
  have K : ∀ y, y < w.heap.size → y ≠ ga → (w.setCell ((⟨ga, 0, none⟩ : Addr).add x) (.int .i64 (v : Nat))).heap[y]? = w.heap[y]? := fun y hy hne => g.block y hy fun e => hne (by simpa using e)
  refine ⟨bel_set h.gro h.bel (Nat.le_refl _) _ _, h.o1, h.o2, (K _ (by omega) (by omega)).trans h.bx, (K _ (by omega) (by omega)).trans h.gbx, h.mp.of_block (K _ (by omega) (by omega)), (K _ (by omega) (by omega)).trans h.sbx, ?_, (K _ (by omega) (by omega)).trans h.fbx, ?_⟩
  · obtain ⟨a, j, h1, h2⟩ := h.obx
    exact ⟨a, j, (K _ (by omega) (by omega)).trans h1, own_kp h2 (Kp.of_grown g) fun y hy e => by have := (World.ownsRow.lt h2 y hy).1; simp at e; omega⟩
  · have := h.gro.set x (.int .i64 (v : Nat))
    rw [gl_set] at this
    exact this
theorem inf24 : (Try.prog.info? 24).map (·.size) = some 1 := by kernel_rfl
/-- Another row of those that are open. -/
theorem GS.other (h : GS w0 A n c ga gb w sn op gr cnt) {w1 : World} {S : Nat → Prop} (k : Kp w w1 S) (hs : ∀ x, S x → gb + 5 ≤ x) (hb : Below w0.heap.size w0 w1) {op' : List Nat} {a : Option Addr} {j : Nat} (ho : w1.ownsRow (gb + 5) 3 1 (.slice a op'.length j) op'.length (nV op')) :
    ∃ w', Hid ((Instr.storeAt 24 (.pointer (some ⟨gb + 3, 0, none⟩)) (.slice a op'.length j)).run Try.prog w1 = .ok () w') ∧ GS w0 A n c ga gb w' sn op' gr cnt := by
  have sz := h.sz
  have o1 := h.o1
  have o2 := h.o2
  obtain ⟨a0, j0, h1, _⟩ := h.obx
  have K1 : ∀ x, x < gb + 5 → w1.heap[x]? = w.heap[x]? := fun x hx => k.block x (by omega) fun e => by have := hs x e; omega
  obtain ⟨w', r, hn, g⟩ := st_box (v := .slice a op'.length j) ((K1 _ (by omega)).trans h1) inf24 rfl
  have K : ∀ x, x < gb + 5 → x ≠ gb + 3 → w'.heap[x]? = w.heap[x]? := fun x hx hne => (g.block x (by have := k.size; omega) fun e => hne (by simpa using e)).trans (K1 x hx)
  have hb2 : Below w0.heap.size w0 w' := ⟨g.os.trans hb.os, g.tape.trans hb.tape, g.output.trans hb.output, Nat.le_trans hb.size g.size, fun i hi => (K i (by omega) (by omega)).trans (h.bel.block i hi)⟩
  refine ⟨w', r, hb2, h.o1, h.o2, (K _ (by omega) (by omega)).trans h.bx, (K _ (by omega) (by omega)).trans h.gbx, h.mp.of_block (K _ (by omega) (by omega)), (K _ (by omega) (by omega)).trans h.sbx, ⟨a, j, hn, ?_⟩, (K _ (by omega) (by omega)).trans h.fbx, ?_⟩
  · exact own_kp ho (Kp.of_grown g) fun x hx e => by have := (World.ownsRow.lt ho x hx).1; simp at e; omega
  · exact (h.gro.kp k fun e => by have := hs _ e; simp at this; omega).kp (Kp.of_grown g) fun e => by simp at e; omega
/-- One more is open. -/
theorem GS.push (h : GS w0 A n c ga gb w sn op gr cnt) (x : Nat) (hl : op.length + 1 ≤ 4398046511104) :
    ∃ a j a' j' w1 w', w.cell? ⟨gb + 3, 0, none⟩ = some (.slice a op.length j) ∧ Hid ((Builtin.append_ #[24, 24] 24 #[.slice a op.length j, .slice (some ⟨w.heap.size, 0, none⟩) 1 1]).run Try.prog (w.alloc (.cells #[.int .i64 (x : Nat)] 3)) = .ok (.slice a' (op.length + 1) j') w1) ∧
      Hid ((Instr.storeAt 24 (.pointer (some ⟨gb + 3, 0, none⟩)) (.slice a' (op.length + 1) j')).run Try.prog w1 = .ok () w') ∧ GS w0 A n c ga gb w' sn (op ++ [x]) gr cnt := by
  have sz := h.sz
  obtain ⟨a, j, h1, h2⟩ := h.obx
  obtain ⟨v', w1, r1, o1, k1, b1, _, _⟩ := own_one h2 x hl (by omega)
  obtain ⟨a', j', rfl⟩ := own_slice o1
  have hs : ∀ y, (Value.slice a op.length j).ownBlock = some y → gb + 5 ≤ y := fun y hy => (World.ownsRow.lt h2 y hy).1
  have o1' := h.o1
  have o2' := h.o2
  have hb : Below w0.heap.size w0 w1 := h.bel.trans (b1.mono (by omega))
  obtain ⟨w', r2, G⟩ := h.other k1 hs hb o1
  rw [List.length_append] at r1 r2
  exact ⟨a, j, a', j', w1, w', cell0 h1, r1, r2, G⟩
/-- Those from k on are open no more. -/
theorem GS.cut (h : GS w0 A n c ga gb w sn op gr cnt) {k : Nat} (hk : k ≤ op.length) :
    ∃ a j w', w.cell? ⟨gb + 3, 0, none⟩ = some (.slice a op.length j) ∧ k ≤ j ∧ Hid ((Instr.storeAt 24 (.pointer (some ⟨gb + 3, 0, none⟩)) (.slice a k j)).run Try.prog w = .ok () w') ∧ GS w0 A n c ga gb w' sn (op.take k) gr cnt := by
  obtain ⟨a, j, h1, h2⟩ := h.obx
  have hlen : (op.take k).length = k := by rw [List.length_take]; omega
  have o : w.ownsRow (gb + 5) 3 1 (.slice a (op.take k).length j) (op.take k).length (nV (op.take k)) := by
    refine ⟨by simp, ?_⟩
    rcases h2.2 with ⟨e, q⟩ | ⟨g, cap, cur, e, b1, b2, b3, b4, b5, b6⟩
    · left
      simp only [Value.slice.injEq] at e
      obtain ⟨rfl, _, rfl⟩ := e
      have : (op.take k).length = 0 := by omega
      rw [this]
      exact ⟨rfl, rfl⟩
    · right
      cases e
      refine ⟨g, j, cur, rfl, b1, b2, by omega, b4, b5, ?_⟩
      rw [Nat.mul_one] at b6 ⊢
      rw [hlen]
      have := congrArg (List.take k) b6
      rw [List.take_take, Nat.min_eq_left hk] at this
      rw [this]
      simp
  obtain ⟨w', r, G⟩ := h.other (Kp.of_below (Below.refl _ _)) (fun _ e => e.elim) h.bel o
  rw [hlen] at r
  refine ⟨a, j, w', cell0 h1, ?_, r, G⟩
  rcases h2.2 with ⟨e, q⟩ | ⟨g, cap, cur, e, b1, b2, b3, _⟩
  · omega
  · cases e; omega
end
end Go.Proofs.Ytbbcnjagndfmbaa
