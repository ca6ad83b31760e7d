/- The reference's ReadBook: its state, and a round of each of its loops; no walk of its own. -/
import Derived.Test.YtohndhmhgdelmaaDoorBkWhole
import Derived.Test.YtohndhmhgdelmaaDoorRsOps
namespace Go.Proofs.YtohndhmhgdelmaaDoor
open Go.RowKit
set_option maxRecDepth 100000
set_option linter.unusedVariables false

/-- An append whose run is known, as one step of a region that draws. -/
theorem step_append_run {P : Program} {ops : Array Oper} {o : Oper} {a : Act} {w : World} {K : Act → World → Prop} {Q : Exit → Act → World → Prop} {E : Prop}
    (hg : o.guard = none) (n : Nat) (hdst : o.dst = some n) (s x : Operand) (t : TypeId) (hop : o.op = Op.call { callee := Callee.builtin Builtin.append, args := #[s, x], argTypes := #[t, t] })
    (v bv v' : Value) (w' : World) (hs : a.eval s = v) (hx : a.eval x = bv) (hrun : (Builtin.append_ #[t, t] o.type #[v, bv]).run P w = .ok v' w')
    (hK : K (a.put (some n) v') w') : if Region.wanted o (yielded ops a.tmps) = true then Oper.wp P o a w K Q else E := by
  have hw : Region.wanted o (yielded ops a.tmps) = true := by simp [Region.wanted, hg]
  rw [if_pos hw]
  unfold Oper.wp
  simp [execOp, hop, resolve, invoke, builtin, hs, hx, hrun, Result.andThen]
  show K (a.put o.dst v') w'
  rw [hdst]
  exact hK

def EqW (u w : World) : Prop := u.os = w.os ∧ u.tape = w.tape ∧ u.output = w.output ∧ u.heap = w.heap
structure KS (w wk : World) (li : List UInt8) (wri : Bool) (sv nv lv : Value) : Prop where
  rs : RS w.heap.size wk (w.heap.size + 1) li wri
  res : wk.heap[w.heap.size]? = some z26
  xb : wk.heap[w.heap.size + 1 + 1]? = some (.cells #[sv, nv, lv] 26)
  bel : Below w.heap.size w wk
  sz : w.heap.size + 3 ≤ wk.heap.size
  hl : li.length ≤ 1099511627776
abbrev kW (w : World) (v : Value) : World := ((w.alloc z26).alloc (.cells #[v, .bool false] 75)).alloc z26
theorem RS.of_heap {B : Nat} {w w' : World} {rb : Nat} {l : List UInt8} {wr : Bool} (h : RS B w rb l wr) (he : w'.heap = w.heap) : RS B w' rb l wr := by
  obtain ⟨h0, v, h1, h2, h3⟩ := h
  exact ⟨h0, v, by rw [he]; exact h1, h2.kept fun i _ => by rw [he], h3⟩
theorem KS.start {w : World} {v : Value} {l : List UInt8} (h : Bts w v l) (hl : l.length ≤ 1099511627776) : KS w (kW w v) l false (.slice none 0 0) (.slice none 0 0) (.slice none 0 0) := by
  have h1 : (kW w v).heap[w.heap.size + 1]? = some (.cells #[v, .bool false] 75) := by
    have := heap_alloc_new (w.alloc z26) (.cells #[v, .bool false] 75)
    rw [size_alloc] at this
    exact (Below.heap_alloc _ _ _ (by simp)).trans this
  have h2 : (kW w v).heap[w.heap.size + 1 + 1]? = some z26 := by
    have := heap_alloc_new ((w.alloc z26).alloc (.cells #[v, .bool false] 75)) z26
    rw [size_alloc, size_alloc] at this
    exact this
  refine ⟨⟨by omega, v, h1, ((h.alloc _).alloc _).alloc _, fun hne a n c e => ?_⟩, ?_, h2, ?_, by simp, hl⟩
  · rcases h with ⟨_, h⟩ | ⟨a', cap, e1, _, _, h4⟩
    · exact absurd h hne
    · rw [e1] at e
      cases e
      obtain ⟨d, r, rfl⟩ := List.exists_cons_of_ne_nil hne
      have := World.block_lt_of_cell? w _ (h4 0 _ (by simp [bcells]; rfl))
      rwa [addr_block] at this
  · exact (Below.heap_alloc _ _ _ (by simp <;> omega)).trans ((Below.heap_alloc _ _ _ (by simp)).trans (heap_alloc_new w _))
  · exact (((Below.refl _ w).alloc (Nat.le_refl _) _).alloc (by simp) _).alloc (by simp <;> omega) _
theorem KS.call {w wk u w4 : World} {li l' : List UInt8} {wri wr' : Bool} {sv nv lv : Value} (ks : KS w wk li wri sv nv lv) (eq : EqW u wk) (rs : RS w.heap.size w4 (w.heap.size + 1) l' wr') (g : u.grownBy w4 (some (w.heap.size + 1))) (hl : l'.length ≤ 1099511627776) :
    KS w w4 l' wr' sv nv lv ∧ (∀ i, i < wk.heap.size → i ≠ w.heap.size + 1 → w4.heap[i]? = wk.heap[i]?) ∧ wk.heap.size ≤ w4.heap.size := by
  obtain ⟨e1, e2, e3, e4⟩ := eq
  have hk : ∀ i, i < wk.heap.size → i ≠ w.heap.size + 1 → w4.heap[i]? = wk.heap[i]? := fun i hi hne => by
    rw [g.block i (by rw [e4]; exact hi) (by simpa using hne), e4]
  have hs : wk.heap.size ≤ w4.heap.size := by have := g.size; rwa [e4] at this
  have hz := ks.sz
  refine ⟨⟨rs, (hk _ (by omega) (by omega)).trans ks.res, (hk _ (by omega) (by omega)).trans ks.xb, ⟨?_, ?_, ?_, ?_, fun i hi => (hk i (by omega) (by omega)).trans (ks.bel.block i hi)⟩, by omega, hl⟩, hk, hs⟩
  · rw [g.os, e1]; exact ks.bel.os
  · rw [g.tape, e2]; exact ks.bel.tape
  · rw [g.output, e3]; exact ks.bel.output
  · exact Nat.le_trans ks.bel.size hs
theorem KS.below {w wk w' : World} {li : List UInt8} {wri : Bool} {sv nv lv : Value} {m : Nat} (ks : KS w wk li wri sv nv lv) (hm : w.heap.size + 3 ≤ m) (hb : Below m wk w') : KS w w' li wri sv nv lv :=
  ⟨ks.rs.kept (by omega) hb, (hb.block _ (by omega)).trans ks.res, (hb.block _ (by omega)).trans ks.xb, ks.bel.trans (hb.mono (by omega)), Nat.le_trans ks.sz hb.size, ks.hl⟩
theorem KS.set {w wk : World} {li : List UInt8} {wri : Bool} {sv nv lv sv' nv' lv' v : Value} (ks : KS w wk li wri sv nv lv) (k : Nat) (he : (#[sv, nv, lv] : Array Value).setIfInBounds k v = #[sv', nv', lv']) :
    KS w (wk.setCell ⟨w.heap.size + 1 + 1, k, none⟩ v) li wri sv' nv' lv' ∧ ∀ i, i ≠ w.heap.size + 1 + 1 → (wk.setCell ⟨w.heap.size + 1 + 1, k, none⟩ v).heap[i]? = wk.heap[i]? := by
  have hk : ∀ i, i ≠ w.heap.size + 1 + 1 → (wk.setCell ⟨w.heap.size + 1 + 1, k, none⟩ v).heap[i]? = wk.heap[i]? := fun i hi => Below.heap_setCell wk _ v i (by simpa using hi)
  have hb : Below (w.heap.size + 1 + 1) wk (wk.setCell ⟨w.heap.size + 1 + 1, k, none⟩ v) := (Below.refl _ _).setCell (by simp) _
  refine ⟨⟨ks.rs.kept (by omega) hb, (hk _ (by omega)).trans ks.res, ?_, ks.bel.trans (hb.mono (by omega)), Nat.le_trans ks.sz hb.size, ks.hl⟩, hk⟩
  have := ks.xb
  simp only [World.setCell, Array.getElem?_modify, this]
  simp [he]
theorem KS.cell {w wk : World} {li : List UInt8} {wri : Bool} {sv nv lv : Value} (ks : KS w wk li wri sv nv lv) {k : Nat} {x : Value} (hx : (#[sv, nv, lv] : Array Value)[k]? = some x) : wk.cell? ⟨w.heap.size + 1 + 1, k, none⟩ = some x ∧ wk.frozen? ⟨w.heap.size + 1 + 1, k, none⟩ = false :=
  ⟨cell_heap ks.xb hx, by simp [World.frozen?, ks.xb]⟩

theorem cell_old {w : World} {b : Nat} {C : Array Value} {t : TypeId} {z : Nat × Nat} (h : w.heap[b]? = some (.cells C t z)) {j : Nat} {x : Value} (hj : C[j]? = some x) (o : Obj) : (w.alloc o).cell? ⟨b, j, none⟩ = some x := by
  refine (World.cell?_of_block (Below.heap_alloc w o b ?_)).trans (cell_heap h hj)
  rcases Nat.lt_or_ge b w.heap.size with h1 | h1
  · exact h1
  · rw [Array.getElem?_eq_none h1] at h; cases h

/-! ### A name more, a link more -/
theorem ks_name {w wk u : World} {li : List UInt8} {sv nv lv : Value} (ks : KS w wk li false sv nv lv) (eq : EqW u wk) {m : Nat} (hm : w.heap.size + 3 ≤ m) (hm2 : m ≤ wk.heap.size) {n : Nat} {l0 : List UInt8} {wr0 : Bool} {xs : List NameT} (hO : OwnNl m wk nv xs) {S : List SheetT} (hS : Shs (w.heap.size + 3) m wk sv S) (sq : Sq nameR n l0 wr0 xs li false) (hlt : xs.length < n) :
    Calls Tryd.prog 34 #[ptrOf (w.heap.size + 1)] u fun e w4 => ∃ (x : NameT) (va : Option Addr) (vn vc : Nat) (w5 : World), e = .returned (nameV x) ∧ Hid (w4.heap[w.heap.size + 1 + 1]? = some (.cells #[sv, nv, lv] 26)) ∧
      (Builtin.append_ #[23, 23] 23 #[nv, .slice (some ⟨w4.heap.size, 0, none⟩) 1 1]).run Tryd.prog (w4.alloc (.cells #[.string x.scope, .string x.name, .string x.text] 64)) = .ok (.slice va vn vc) w5 ∧ w5.cell? ⟨w.heap.size + 1 + 1, 1, none⟩ = some nv ∧ w5.frozen? ⟨w.heap.size + 1 + 1, 1, none⟩ = false ∧
      Hid (∃ l' wr', KS w (w5.setCell ⟨w.heap.size + 1 + 1, 1, none⟩ (.slice va vn vc)) l' wr' sv (.slice va vn vc) lv ∧ m ≤ (w5.setCell ⟨w.heap.size + 1 + 1, 1, none⟩ (.slice va vn vc)).heap.size ∧ OwnNl m (w5.setCell ⟨w.heap.size + 1 + 1, 1, none⟩ (.slice va vn vc)) (.slice va vn vc) (xs ++ [x]) ∧ Shs (w.heap.size + 3) m (w5.setCell ⟨w.heap.size + 1 + 1, 1, none⟩ (.slice va vn vc)) sv S ∧ Sq nameR n l0 wr0 (xs ++ [x]) l' wr') := by
  have hz := ks.sz
  have hn := sq.few
  refine (rname_any (ks.rs.of_heap eq.2.2.2) (by rw [eq.2.2.2]; omega) ks.hl).mono ?_
  rintro e w4 ⟨x, l', wr', rfl, rs, g, sp, hl⟩
  obtain ⟨k4, hk, hs⟩ := ks.call eq rs g hl
  have ho : OwnNl m w4 nv xs := OwnR.of_block hO fun i hi => hk i (OwnR.lt hO hi).2 (by have := (OwnR.lt hO hi).1; omega)
  obtain ⟨v4, w5, r5, o5, b5⟩ := own_name ho (by omega) x (by omega)
  obtain ⟨va, vc, rfl, _, _⟩ := o5.nms.slice
  have k5 := k4.below hm b5
  obtain ⟨c5, f5⟩ := k5.cell (k := 1) rfl
  obtain ⟨k6, hk6⟩ := k5.set (v := .slice va (xs ++ [x]).length vc) 1 rfl
  have hkeep : ∀ i, i < m → i ≠ w.heap.size + 1 → i ≠ w.heap.size + 1 + 1 → (w5.setCell ⟨w.heap.size + 1 + 1, 1, none⟩ (.slice va (xs ++ [x]).length vc)).heap[i]? = wk.heap[i]? := fun i h1 h2 h3 => by
    rw [hk6 i h3, b5.block i h1, hk i (by omega) h2]
  exact ⟨x, va, _, vc, w5, rfl, k4.xb, r5, c5, f5, l', wr', k6, by have := b5.size; simp [World.setCell]; omega, OwnR.of_block o5 fun i hi => hk6 i (by have := (OwnR.lt o5 hi).1; omega), hS.kept (fun i h1 h2 => hkeep i h2 (by omega) (by omega)), sq.step hlt sp⟩
theorem ks_link {w wk u : World} {li : List UInt8} {sv nv lv : Value} (ks : KS w wk li false sv nv lv) (eq : EqW u wk) {m : Nat} (hm : w.heap.size + 3 ≤ m) (hm2 : m ≤ wk.heap.size) {n : Nat} {l0 : List UInt8} {wr0 : Bool} {xs : List LinkT} (hO : OwnLl m wk lv xs) {S : List SheetT} {N : List NameT} (hS : Shs (w.heap.size + 3) m wk sv S) (hN : Nms (w.heap.size + 3) m wk nv N) (sq : Sq linkR n l0 wr0 xs li false) (hlt : xs.length < n) :
    Calls Tryd.prog 35 #[ptrOf (w.heap.size + 1)] u fun e w4 => ∃ (x : LinkT) (va : Option Addr) (vn vc : Nat) (w5 : World), e = .returned (linkV x) ∧ Hid (w4.heap[w.heap.size + 1 + 1]? = some (.cells #[sv, nv, lv] 26)) ∧
      (Builtin.append_ #[24, 24] 24 #[lv, .slice (some ⟨w4.heap.size, 0, none⟩) 1 1]).run Tryd.prog (w4.alloc (.cells #[.string x.book, .string x.sheet, .int .i64 x.row, .int .i64 x.col, .int .i64 x.value.kind, .int .i64 x.value.n, .string x.value.s] 69)) = .ok (.slice va vn vc) w5 ∧ w5.cell? ⟨w.heap.size + 1 + 1, 2, none⟩ = some lv ∧ w5.frozen? ⟨w.heap.size + 1 + 1, 2, none⟩ = false ∧
      Hid (∃ l' wr', KS w (w5.setCell ⟨w.heap.size + 1 + 1, 2, none⟩ (.slice va vn vc)) l' wr' sv nv (.slice va vn vc) ∧ m ≤ (w5.setCell ⟨w.heap.size + 1 + 1, 2, none⟩ (.slice va vn vc)).heap.size ∧ OwnLl m (w5.setCell ⟨w.heap.size + 1 + 1, 2, none⟩ (.slice va vn vc)) (.slice va vn vc) (xs ++ [x]) ∧ Shs (w.heap.size + 3) m (w5.setCell ⟨w.heap.size + 1 + 1, 2, none⟩ (.slice va vn vc)) sv S ∧ Nms (w.heap.size + 3) m (w5.setCell ⟨w.heap.size + 1 + 1, 2, none⟩ (.slice va vn vc)) nv N ∧ Sq linkR n l0 wr0 (xs ++ [x]) l' wr') := by
  have hz := ks.sz
  have hn := sq.few
  refine (rlink_any (ks.rs.of_heap eq.2.2.2) (by rw [eq.2.2.2]; omega) ks.hl).mono ?_
  rintro e w4 ⟨x, l', wr', rfl, rs, g, sp, hl⟩
  obtain ⟨k4, hk, hs⟩ := ks.call eq rs g hl
  have ho : OwnLl m w4 lv xs := OwnR.of_block hO fun i hi => hk i (OwnR.lt hO hi).2 (by have := (OwnR.lt hO hi).1; omega)
  obtain ⟨v4, w5, r5, o5, b5⟩ := own_link ho (by omega) x (by omega)
  obtain ⟨va, vc, rfl, _, _⟩ := o5.lks.slice
  have k5 := k4.below hm b5
  obtain ⟨c5, f5⟩ := k5.cell (k := 2) rfl
  obtain ⟨k6, hk6⟩ := k5.set (v := .slice va (xs ++ [x]).length vc) 2 rfl
  have hkeep : ∀ i, i < m → i ≠ w.heap.size + 1 → i ≠ w.heap.size + 1 + 1 → (w5.setCell ⟨w.heap.size + 1 + 1, 2, none⟩ (.slice va (xs ++ [x]).length vc)).heap[i]? = wk.heap[i]? := fun i h1 h2 h3 => by
    rw [hk6 i h3, b5.block i h1, hk i (by omega) h2]
  exact ⟨x, va, _, vc, w5, rfl, k4.xb, r5, c5, f5, l', wr', k6, by have := b5.size; simp [World.setCell]; omega, OwnR.of_block o5 fun i hi => hk6 i (by have := (OwnR.lt o5 hi).1; omega), hS.kept (fun i h1 h2 => hkeep i h2 (by omega) (by omega)), hN.kept (fun i h1 h2 => hkeep i h2 (by omega) (by omega)), sq.step hlt sp⟩

/-! ### A sheet more -/
/-- Behind the call of cells: what the statement goes on with. -/
def ShR (w wk : World) (li : List UInt8) (wq : Bool) (sv nv lv : Value) (S : List SheetT) (x1 : ByteArray) (v : Value) (w4 : World) : Prop :=
  ∃ (ca : Option Addr) (cn cc : Nat) (va : Option Addr) (vn vc : Nat) (w5 : World), v = .slice ca cn cc ∧ Hid (w4.heap[w.heap.size + 1 + 1]? = some (.cells #[sv, nv, lv] 26)) ∧
      (Builtin.append_ #[22, 22] 22 #[sv, .slice (some ⟨w4.heap.size, 0, none⟩) 1 1]).run Tryd.prog (w4.alloc (.cells #[.string x1, .slice ca cn cc] 52)) = .ok (.slice va vn vc) w5 ∧ w5.cell? ⟨w.heap.size + 1 + 1, 0, none⟩ = some sv ∧ w5.frozen? ⟨w.heap.size + 1 + 1, 0, none⟩ = false ∧
      Hid (∃ cl l' wr', KS w (w5.setCell ⟨w.heap.size + 1 + 1, 0, none⟩ (.slice va vn vc)) l' wr' (.slice va vn vc) nv lv ∧ OwnSl (w.heap.size + 3) (w5.setCell ⟨w.heap.size + 1 + 1, 0, none⟩ (.slice va vn vc)) (.slice va vn vc) (S ++ [⟨x1, cl⟩]) ∧ Sp wq (lstR cellR li) cl l' wr')
theorem ks_sheet {w wk u : World} {li : List UInt8} {sv nv lv : Value} (x1 : ByteArray) {wq : Bool} (ks : KS w wk li wq sv nv lv) (eq : EqW u wk) {S : List SheetT} (hO : OwnSl (w.heap.size + 3) wk sv S) (hn : S.length + 1 ≤ 536870912000) :
    Calls Tryd.prog 33 #[ptrOf (w.heap.size + 1)] u fun e w4 => ∃ v, e = .returned v ∧ ShR w wk li wq sv nv lv S x1 v w4 := by
  have hz := ks.sz
  refine (rcells_any (ks.rs.of_heap eq.2.2.2) (by rw [eq.2.2.2]; omega) ks.hl).mono ?_
  rintro e w4 ⟨v, cl, l', wr', rfl, oc, rs, g, sp, hl⟩
  obtain ⟨k4, hk, hs⟩ := ks.call eq rs g hl
  obtain ⟨ca, cc, rfl, _, _⟩ := oc.cls.slice
  have ho : OwnSl (w.heap.size + 3) w4 sv S := hO.kept fun i hi1 hi2 => hk i hi2 (by omega)
  have hsu : u.heap.size = wk.heap.size := by rw [eq.2.2.2]
  obtain ⟨v4, w5, r5, o5, b5⟩ := own_sheet ho (by omega) ⟨x1, cl⟩ (OwnR.mono oc (by omega)) (fun g hg e => by have := (OwnR.lt oc hg).1; have := (hO.lt e).2; omega) hn
  obtain ⟨va, vc, rfl, _, _⟩ := o5.shs.slice
  have k5 := k4.below (Nat.le_refl _) b5
  obtain ⟨c5, f5⟩ := k5.cell (k := 0) rfl
  obtain ⟨k6, hk6⟩ := k5.set (v := .slice va (S ++ [(⟨x1, cl⟩ : SheetT)]).length vc) 0 rfl
  exact ⟨_, rfl, ca, _, cc, va, _, vc, w5, rfl, k4.xb, r5, c5, f5, cl, l', wr', k6, o5.kept fun i hi _ => hk6 i (by omega), sp⟩
end Go.Proofs.YtohndhmhgdelmaaDoor
