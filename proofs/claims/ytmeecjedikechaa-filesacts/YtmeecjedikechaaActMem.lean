import Derived.Test.YtmeecjedikechaaAny
import Derived.Test.YtmeecjedikechaaDraw
import Derived.Test.YtmeecjedikechaaRef1
import Derived.OwnWalk
import Derived.Deep.OwnRows
import Derived.Lib.SlBytesConst
import Derived.Deep.RegionHeldLaw
import Derived.Deep.WholeRow
import Derived.Deep.Slices
import Derived.Deep.MidRow
import Derived.Laws.Rows
/- octavolaw01.act, on a new reference world: what FilesApart needs of it. -/
namespace Go
section
variable {P : Program} {md : Region.Mode} {ops : Array Oper} {Q : Exit → Act → World → Prop} {S : World → Prop} {D : Nat → Bool}
theorem wpAnyD_pured {i d : Nat} {oi : Oper} {v : Value} {fuel : Nat} {listed : Array Bool} {a : Act} {w : World} (hi : ops[i]? = some oi)
    (hd : oi.dst = some d) (hs : Region.noSelect ops = true) (hf : Region.free md ops listed i = true) (hr : (Region.ready md ops listed).contains i = true)
    (hQ : ∀ c a w, Q (.panic c) (a.put (some d) v) w → Q (.panic c) a w) (hg : Region.wanted oi (yielded ops a.tmps) = true) (hy : ∀ w, (execOp a.eval oi).run P w = .ok (.value v) w)
    (h : wpAnyD P md ops Q S D fuel (listed.setIfInBounds i true) (a.put (some d) v) w) : wpAnyD P md ops Q S D (fuel + 1) listed a w :=
  wpAnyD_pure hi hs hf hr (hd ▸ hQ) hg hy (hd ▸ h)
theorem wpAnyD_loadd {i d : Nat} {oi : Oper} {v : Value} {fuel : Nat} {listed : Array Bool} {a : Act} {w : World} (hi : ops[i]? = some oi)
    (hd : oi.dst = some d) (hs : Region.noSelect ops = true) (hf : Region.free md ops listed i = true) (hr : (Region.ready md ops listed).contains i = true)
    (hD : ((List.range ops.size).all fun j => !D j || ((ops[j]?.map fun o => o.after.any fun e => Region.binds md e && e.on == i).getD false)) = true)
    (hQ : ∀ c a w, Q (.panic c) (a.put (some d) v) w → Q (.panic c) a w) (hg : Region.wanted oi (yielded ops a.tmps) = true) (hy : ∀ w, S w → (execOp a.eval oi).run P w = .ok (.value v) w) (hS : S w)
    (h : wpAnyD P md ops Q S D fuel (listed.setIfInBounds i true) (a.put (some d) v) w) : wpAnyD P md ops Q S D (fuel + 1) listed a w :=
  wpAnyD_load hi hs hf hr hD (hd ▸ hQ) hg hy hS (hd ▸ h)
end
end Go
namespace Go.Proofs.Ytmeecjedikechaa
open Go.RowKit Go.Maps
set_option maxRecDepth 100000
set_option linter.unusedVariables false
set_option linter.unusedSimpArgs false
theorem exec_ld9 {ev : Operand → Value} {o : Oper} {x : Operand} (ho : o.op = .load 9 x) {p : Addr} (hx : ev x = .pointer (some p)) {v : Value} {u : World} (h : u.cell? p = some v) : (execOp ev o).run Try.prog u = .ok (.value v) u := by
  unfold execOp
  simp only [ho, hx]
  go_simp
theorem exec_ld29 {ev : Operand → Value} {o : Oper} {x : Operand} (ho : o.op = .load 29 x) {p : Addr} (hx : ev x = .pointer (some p)) {v : Value} {u : World} (h : u.cell? p = some v) : (execOp ev o).run Try.prog u = .ok (.value v) u := by
  unfold execOp
  simp only [ho, hx]
  go_simp
theorem acell {u : World} {g : Nat} {c0 c1 c2 c3 c4 c5 : Value} (h : u.heap[g]? = some (.cells #[c0, c1, c2, c3, c4, c5] 31 (0, 0))) : u.cell? ⟨g, 0, none⟩ = some c0 ∧ u.cell? ⟨g, 1, none⟩ = some c1 ∧ u.cell? ⟨g, 2, none⟩ = some c2 ∧ u.cell? ⟨g, 3, none⟩ = some c3 ∧ u.cell? ⟨g, 4, none⟩ = some c4 ∧ u.cell? ⟨g, 5, none⟩ = some c5 := by
  simp [World.cell?, h]
/-- The reference's world and the act's copy are to be kept. -/
def K2 (rb g : Nat) : Nat → Prop := fun i => i = rb ∨ i = g
def K0 : Nat → Prop := fun _ => False
section
variable {K K' : Nat → Prop} {base : Nat} {w w' : World} {b bm : Nat} {nm0 dat : List UInt8} {n : Int} {rb : Nat}
theorem AP.reK (h : AP K base b bm nm0 dat n w) (hk : ∀ i, i < w.heap.size → w'.heap[i]? = w.heap[i]?) (hK : ∀ i, K' i → i < w'.heap.size ∧ (K i ∨ w.heap.size ≤ i)) : AP K' base b bm nm0 dat n w' := by
  obtain ⟨s, D, F, f, hS, r⟩ := h
  exact ⟨s, D, F, f, hS.reK hk hK, r⟩
theorem AP.drew (h : AP K base b bm nm0 dat n w) : AP K base b bm nm0 dat n w.drew := by
  obtain ⟨s, D, F, f, hS, r⟩ := h
  exact ⟨s, D, F, f, hS.drew, r⟩
theorem AP.other (h : AP K base b bm nm0 dat n w) (hr : K rb) (hg : w.grownBy w' (some rb)) : AP K base b bm nm0 dat n w' := by
  obtain ⟨s, D, F, f, hS, r⟩ := h
  exact ⟨s, D, F, f, hS.other hr (fun i hi hne => hg.block i hi (by simpa using hne)) hg.size, r⟩
theorem AP.none (h : AP K base b bm nm0 dat n w) : AP K0 base b bm nm0 dat n w := h.reK (fun _ _ => rfl) fun _ h => h.elim
/-- What the world is like behind an act. -/
def Ad (base b bm : Nat) (nm0 dat : List UInt8) (n : Int) (w : World) (e : Ending) (w' : World) : Prop :=
  (∃ t, e = .returned (.bool t)) ∧ (AP K0 base b bm nm0 dat n w' ∨ AP K0 base b bm nm0 dat (n + 1) w') ∧ Below base w w'
/-- Ahead of the act's calls: the act's copy is laid. -/
theorem act_in (h : AP (fun i => i = rb) base b bm nm0 dat n w) (hrb : w.heap[rb]? = some rblk) (hb : base ≤ w.heap.size) (c0 c1 c2 c3 c4 c5 : Value) :
    Hid (AP (K2 rb w.heap.size) base b bm nm0 dat n (w.alloc (.cells #[c0, c1, c2, c3, c4, c5] 31)).drew ∧ (w.alloc (.cells #[c0, c1, c2, c3, c4, c5] 31)).drew.heap[w.heap.size]? = some (.cells #[c0, c1, c2, c3, c4, c5] 31 (0, 0)) ∧ (w.alloc (.cells #[c0, c1, c2, c3, c4, c5] 31)).drew.heap[rb]? = some rblk ∧ base ≤ (w.alloc (.cells #[c0, c1, c2, c3, c4, c5] 31)).drew.heap.size ∧ Below base w (w.alloc (.cells #[c0, c1, c2, c3, c4, c5] 31)).drew ∧ rb < w.heap.size) := by
  have hl : rb < w.heap.size := lt_of_some hrb
  have A : AP (K2 rb w.heap.size) base b bm nm0 dat n (w.alloc (.cells #[c0, c1, c2, c3, c4, c5] 31)) := by
    refine h.reK (fun i hi => Below.heap_alloc w _ i hi) fun i hi => ?_
    rcases hi with rfl | rfl
    · exact ⟨by simp; omega, .inl rfl⟩
    · exact ⟨by simp, .inr (Nat.le_refl _)⟩
  exact ⟨A.drew, heap_alloc_new w _, (Below.heap_alloc w _ rb hl).trans hrb, by show base ≤ (w.alloc _).heap.size; simp; omega, ((Below.refl base w).alloc hb _).drew, hl⟩
end
end Go.Proofs.Ytmeecjedikechaa

/- Bytes in memory (Byt.Bts, Byt.Own), one byte written over, Lend and Kept. -/
namespace Go.Proofs.Ytmeecjedikechaa.Byt
open Go.RowKit
set_option linter.unusedVariables false
set_option maxRecDepth 100000

def bcells (l : List UInt8) : List Value := l.map fun b => Value.int .u8 b.toNat
theorem bcells_length (l : List UInt8) : (bcells l).length = l.length := by simp [bcells]
theorem bcells_append (l m : List UInt8) : bcells (l ++ m) = bcells l ++ bcells m := by simp [bcells]
theorem bcells_get {l : List UInt8} {j : Nat} (h : j < l.length) : (bcells l)[j]? = some (.int .u8 (l[j].toNat)) := by simp [bcells, h]
theorem addr_block (a : Addr) (n : Nat) : (a.add n).block = a.block := by unfold Addr.add; split <;> rfl

/-- A slice that reads as these bytes. -/
def Bts (w : World) (v : Value) (l : List UInt8) : Prop :=
  (v = .slice none 0 0 ∧ l = []) ∨ ∃ a cap, v = .slice (some a) l.length cap ∧ l.length ≤ cap ∧ cap ≤ maxLen ∧ ∀ j u, (bcells l)[j]? = some u → w.cell? (a.add j) = some u

theorem Bts.kept {w w' : World} {v : Value} {l : List UInt8} (h : Bts w v l) (hk : ∀ i, i < w.heap.size → w'.heap[i]? = w.heap[i]?) : Bts w' v l := by
  rcases h with h | ⟨a, cap, h1, h2, h3, h4⟩
  · exact .inl h
  · refine .inr ⟨a, cap, h1, h2, h3, fun j u hj => ?_⟩
    have := h4 j u hj
    rw [← this]
    exact World.cell?_of_block (hk _ (World.block_lt_of_cell? w _ this))
theorem Bts.below {w w' : World} {v : Value} {l : List UInt8} (h : Bts w v l) (hk : Below w.heap.size w w') : Bts w' v l := h.kept hk.block

/-- The table of sums lies in the package's variable. -/
def tab : List Nat := [0, 498536548, 997073096, 651767980, 1994146192, 1802195444, 1303535960, 1342533948, 3988292384, 4027552580, 3604390888, 3412177804, 2607071920, 2262029012, 2685067896, 3183342108]
def Tab (w : World) : Prop := ∀ i, i < 16 → w.cell? ⟨0, i, none⟩ = some (.int .u32 (tab.getD i 0))
theorem Tab.kept {w w' : World} (h : Tab w) (hk : ∀ i, i < w.heap.size → w'.heap[i]? = w.heap[i]?) : Tab w' := fun i hi => by
  rw [← h i hi]
  exact World.cell?_of_block (hk _ (World.block_lt_of_cell? w _ (h i hi)))
theorem Tab.below {w w' : World} {b : Nat} (h : Tab w) (hb : w.heap.size ≤ b) (hk : Below b w w') : Tab w' := h.kept fun i hi => hk.block i (by omega)

/-! ### A row of bytes of one's own, and what is appended to it -/
theorem info5 : (Try.prog.info? 5).map (fun i => (i.zero, i.size, i.bytes)) = some (some (.int .u8 0), 1, 1) := by kernel_rfl

def Own (base : Nat) (w : World) (v : Value) (l : List UInt8) : Prop := w.ownsRow base 5 1 v l.length (bcells l)

theorem ownsRow_of_block {w w' : World} {base : Nat} {e : TypeId} {size : Nat} {v : Value} {n : Nat} {xs : List Value} (h : w.ownsRow base e size v n xs)
    (hk : ∀ g, v.ownBlock = some g → w'.heap[g]? = w.heap[g]?) : w'.ownsRow base e size v n xs := by
  refine ⟨h.1, ?_⟩
  rcases h.2 with hn | ⟨g, cap, cur, rfl, hb, hgg, rest⟩
  · exact .inl hn
  · exact .inr ⟨g, cap, cur, rfl, hb, by rw [hk g rfl]; exact hgg, rest⟩
theorem Own.of_block {w w' : World} {base : Nat} {v : Value} {l : List UInt8} (h : Own base w v l) (hk : ∀ g, v.ownBlock = some g → w'.heap[g]? = w.heap[g]?) : Own base w' v l := ownsRow_of_block h hk
theorem Own.lt {w : World} {base : Nat} {v : Value} {l : List UInt8} (h : Own base w v l) {g : Nat} (hg : v.ownBlock = some g) : base ≤ g ∧ g < w.heap.size := World.ownsRow.lt h g hg
theorem Own.kept {w w' : World} {base : Nat} {v : Value} {l : List UInt8} (h : Own base w v l) (hk : ∀ i, i < w.heap.size → w'.heap[i]? = w.heap[i]?) : Own base w' v l := h.of_block fun _ hg => hk _ (h.lt hg).2
theorem Own.alloc {w : World} {base : Nat} {v : Value} {l : List UInt8} (h : Own base w v l) (o : Obj) : Own base (w.alloc o) v l := h.kept fun i hi => Below.heap_alloc w o i hi
theorem Own.nil (w : World) (base : Nat) : Own base w (.slice none 0 0) [] := World.ownsRow_nil w base 5 1
theorem Own.bts {w : World} {base : Nat} {v : Value} {l : List UInt8} (h : Own base w v l) : Bts w v l := by
  rcases h.2 with ⟨h1, h2⟩ | ⟨g, cap, cur, h1, h2, h3, h4, h5, h6, h7⟩
  · exact .inl ⟨h1, List.eq_nil_of_length_eq_zero h2⟩
  · exact .inr ⟨⟨g, 0, none⟩, cap, h1, h4, h5, World.ownsRow.cells h (g := g) (by rw [h1]; rfl)⟩
theorem Own.slice {w : World} {base : Nat} {v : Value} {l : List UInt8} (h : Own base w v l) : ∃ a c, v = .slice a l.length c := by
  rcases h.2 with ⟨rfl, h2⟩ | ⟨g, cap, cur, rfl, _⟩
  · exact ⟨none, 0, by rw [h2]⟩
  · exact ⟨_, _, rfl⟩
theorem Bts.slice {w : World} {v : Value} {l : List UInt8} (h : Bts w v l) : ∃ a c, v = .slice a l.length c ∧ l.length ≤ c ∧ c ≤ maxLen := by
  rcases h with ⟨rfl, rfl⟩ | ⟨a, cap, rfl, h1, h2, _⟩
  · exact ⟨none, 0, rfl, Nat.le_refl _, by decide⟩
  · exact ⟨_, _, rfl, h1, h2⟩
theorem Bts.alloc {w : World} {v : Value} {l : List UInt8} (h : Bts w v l) (o : Obj) : Bts (w.alloc o) v l := h.kept fun i hi => Below.heap_alloc w o i hi
theorem Tab.alloc {w : World} (h : Tab w) (o : Obj) : Tab (w.alloc o) := h.kept fun i hi => Below.heap_alloc w o i hi
theorem Bts.drew {w : World} {v : Value} {l : List UInt8} (h : Bts w v l) : Bts w.drew v l := h
theorem Tab.drew {w : World} (h : Tab w) : Tab w.drew := h

/-- v' is v with more behind it: only v's own block has turned, and v' lies there or in new memory. -/
structure Apd (base : Nat) (w : World) (v : Value) (w' : World) (v' : Value) (l : List UInt8) : Prop where
  own : Own base w' v' l
  gr : w.grownBy w' v.ownBlock
  loc : ∀ g, v'.ownBlock = some g → v.ownBlock = some g ∨ w.heap.size ≤ g

theorem Apd.refl {base : Nat} {w : World} {v : Value} {l : List UInt8} (h : Own base w v l) : Apd base w v w v l := ⟨h, ⟨rfl, rfl, rfl, Nat.le_refl _, fun _ _ _ => rfl⟩, fun _ hg => .inl hg⟩
theorem Apd.trans {base : Nat} {w w1 w2 : World} {v v1 v2 : Value} {l1 l2 : List UInt8} (h : Apd base w v w1 v1 l1) (k : Apd base w1 v1 w2 v2 l2) : Apd base w v w2 v2 l2 := by
  refine ⟨k.own, ⟨k.gr.os.trans h.gr.os, k.gr.tape.trans h.gr.tape, k.gr.output.trans h.gr.output, Nat.le_trans h.gr.size k.gr.size, fun i hi hne => ?_⟩, fun g hg => ?_⟩
  · refine (k.gr.block i (Nat.lt_of_lt_of_le hi h.gr.size) fun e => ?_).trans (h.gr.block i hi hne)
    rcases h.loc i e.symm with h1 | h1
    · exact hne h1.symm
    · omega
  · rcases k.loc g hg with h1 | h1
    · exact h.loc g h1
    · exact .inr (Nat.le_trans h.gr.size h1)
theorem Apd.of_alloc {base : Nat} {w w' : World} {v v' : Value} {l : List UInt8} {o : Obj} (h : Apd base (w.alloc o) v w' v' l) : Apd base w v w' v' l := by
  refine ⟨h.own, ⟨h.gr.os, h.gr.tape, h.gr.output, by have := h.gr.size; simp at this; omega, fun i hi hne => ?_⟩, fun g hg => ?_⟩
  · exact (h.gr.block i (by simp; omega) hne).trans (Below.heap_alloc w o i hi)
  · rcases h.loc g hg with h1 | h1
    · exact .inl h1
    · right; simp at h1; omega
theorem Apd.below {base : Nat} {w w' : World} {v v' : Value} {l0 l : List UInt8} (h : Apd base w v w' v' l) (h0 : Own base w v l0) (hb : base ≤ w.heap.size) : Below base w w' :=
  (Below.refl base w).grown h.gr hb fun _ hk => (h0.lt hk).1
theorem Apd.new {base : Nat} {w w' : World} {v' : Value} {l : List UInt8} (h : Apd base w (.slice none 0 0) w' v' l) : (∀ i, i < w.heap.size → w'.heap[i]? = w.heap[i]?) ∧ (∀ g, v'.ownBlock = some g → w.heap.size ≤ g) :=
  ⟨fun i hi => h.gr.block i hi (by simp [Value.ownBlock]), fun g hg => (h.loc g hg).elim (fun h1 => by simp [Value.ownBlock] at h1) id⟩

theorem own_app {base : Nat} {w : World} {v : Value} {l : List UInt8} (ty : TypeId) (h : Own base w v l) {bv : Value} {m : List UInt8} (hs : Bts w bv m) (hn : l.length + m.length ≤ 140737488355328) (hbase : base ≤ w.heap.size) :
    ∃ v' w', (Builtin.append_ #[29, 29] ty #[v, bv]).run Try.prog w = .ok v' w' ∧ Apd base w v w' v' (l ++ m) := by
  obtain ⟨i0, hi, hz0, hz1, hz2⟩ := info_parts info5
  rcases hs with ⟨rfl, rfl⟩ | ⟨a, cap, rfl, _, _, hc⟩
  · exact ⟨v, w, run_append_owned_none w base 29 ty 5 i0 1 Try.underlying29 hi v _ _ h, Apd.refl (by simpa using h)⟩
  · obtain ⟨v', w', h1, h2, h3, _, h5⟩ := run_append_own_at w base 29 ty 5 i0 (.int .u8 0) 1 1 Try.underlying29 hi hz0 hz1 hz2 rfl (by decide) v _ _ h a m.length cap (bcells m) (by rw [bcells_length, Nat.mul_one]) hc
      (by intro u hu; simp [bcells] at hu; obtain ⟨x, _, rfl⟩ := hu; rfl) (by simp only [maxLen]; omega) (by omega) hbase
    refine ⟨v', w', h1, ?_, h3, fun g hg => ?_⟩
    · unfold Own
      rw [List.length_append, bcells_append]
      exact h2
    · rcases h5 with e | e
      · left; rw [← e]; exact hg
      · right; rw [e] at hg; cases hg; exact Nat.le_refl _

/-- An append whose run is known, as the next operation. -/
theorem wpList_append_run {P : Program} {ops : Array Oper} {rest : List Oper} {o : Oper} {a : Act} {w : World} {Q : Exit → Act → World → Prop} (hgd : o.guard = none) (s x : Operand) (t : TypeId)
    (ho : o.op = Op.call { callee := Callee.builtin Builtin.append, args := #[s, x], argTypes := #[t, t] }) (v bv v' : Value) (w' : World) (hs : a.eval s = v) (hx : a.eval x = bv)
    (hrun : (Builtin.append_ #[t, t] o.type #[v, bv]).run P w = .ok v' w') (h : wpList P ops Q rest (a.put o.dst v') w') : wpList P ops Q (o :: rest) a w := by
  refine wpList_plain hgd fun K hK => ?_
  unfold Oper.wp
  simp [execOp, ho, resolve, invoke, builtin, hs, hx, hrun, Result.andThen]
  exact hK _ _ h

/-- Bytes written out in new memory. -/
theorem lit_bts (w : World) (l : List UInt8) (z : Nat × Nat) (hl : l.length ≤ maxLen) : Bts (w.alloc (.cells (bcells l).toArray 5 z)) (.slice (some ⟨w.heap.size, 0, none⟩) l.length l.length) l := by
  refine .inr ⟨⟨w.heap.size, 0, none⟩, l.length, rfl, Nat.le_refl _, hl, ?_⟩
  intro j u hj
  have : (w.alloc (.cells (bcells l).toArray 5 z)).cell? ((⟨w.heap.size, 0, none⟩ : Addr).add j) = (bcells l).toArray[j]? := by
    have hp : (⟨w.heap.size, 0, none⟩ : Addr).add j = ⟨w.heap.size, j, none⟩ := by unfold Addr.add; split <;> simp_all
    rw [hp]
    simp only [World.cell?, heap_alloc_new]
    rfl
  rw [this]; simpa using hj

/-- One byte of a row of one's own is written over. -/
theorem own_store {base : Nat} {w : World} {v : Value} {l : List UInt8} (h : Own base w v l) {p : Nat} (hp : p < l.length) (y : UInt8) :
    ∃ g cap, v = .slice (some ⟨g, 0, none⟩) l.length cap ∧ base ≤ g ∧ w.cell? ⟨g, p, none⟩ = some (.int .u8 l[p].toNat) ∧ w.frozen? ⟨g, p, none⟩ = false ∧ Own base (w.setCell ⟨g, p, none⟩ (.int .u8 y.toNat)) v (l.set p y) := by
  rcases h.2 with ⟨_, h2⟩ | ⟨g, cap, cur, h1, h2, h3, h4, h5, h6, h7⟩
  · omega
  · have hc := World.ownsRow.cells h (g := g) (by rw [h1]; rfl) p _ (bcells_get hp)
    have hp' : (⟨g, 0, none⟩ : Addr).add p = ⟨g, p, none⟩ := by unfold Addr.add; split <;> simp_all
    rw [hp'] at hc
    refine ⟨g, cap, h1, h2, hc, by simp [World.frozen?, h3], ?_, .inr ⟨g, cap, cur.setIfInBounds p (.int .u8 y.toNat), by rw [h1, List.length_set], h2, ?_, by rw [List.length_set]; exact h4, h5, by rw [Array.size_setIfInBounds]; exact h6, ?_⟩⟩
    · simp [bcells]
    · simp [World.setCell, Array.getElem?_modify, h3]
    · rw [Nat.mul_one] at h7
      rw [List.length_set, Nat.mul_one, Array.toList_setIfInBounds, List.take_set, h7]
      simp [bcells, List.map_set]


theorem ofNat_toNat_map (l : List UInt8) : ((l.map fun b => (b.toNat : Int)).map fun n => UInt8.ofNat n.toNat) = l := by
  induction l with
  | nil => rfl
  | cons x r ih => simp only [List.map_cons, ih]; simp
theorem conv_bts {w : World} {bv : Value} {l : List UInt8} (hs : Bts w bv l) : (convert 29 9 bv).run Try.prog w = .ok (.string ⟨l.toArray⟩) w := by
  rcases hs with ⟨rfl, rfl⟩ | ⟨a, cap, rfl, _, _, hc⟩
  · exact run_convert_bytes_nil w 29 5 Try.underlying29 Try.underlying5 0 0 9 Try.underlying9
  · have hl : (loadCells a l.length).run Try.prog w = .ok ((l.map fun b => (b.toNat : Int)).map (Value.int .u8)).toArray w := by
      have e : (l.map fun b => (b.toNat : Int)).map (Value.int .u8) = bcells l := by simp [bcells]
      rw [e]
      have := run_loadCells_list (P := Try.prog) w a (bcells l) hc
      rw [bcells_length] at this
      exact this
    rw [run_convert_bytes_string w 29 9 5 _ l.length cap Try.underlying29 Try.underlying5 Try.underlying9, run_bytesToString w _ l.length cap _ hl, foldl_push_bytes, ofNat_toNat_map]
    simp [ByteArray.empty, ByteArray.emptyWithCapacity]
    rfl


theorem Bts.part {w : World} {a : Addr} {n cap : Nat} {l : List UInt8} (h2 : n ≤ l.length) (h3 : n ≤ cap) (h4 : cap ≤ maxLen) (h : ∀ j u, (bcells l)[j]? = some u → w.cell? (a.add j) = some u) : Bts w (.slice (some a) n cap) (l.take n) := by
  have hl : (l.take n).length = n := by simp; omega
  refine .inr ⟨a, cap, by rw [hl], by omega, h4, fun j u hj => h j u ?_⟩
  have : j < n := by
    rcases Nat.lt_or_ge j n with e | e
    · exact e
    · rw [List.getElem?_eq_none (by rw [bcells_length, hl]; exact e)] at hj; cases hj
  rw [← hj]
  simp [bcells, this]

theorem addr_add (a : Addr) (m j : Nat) (hm : m ≠ 0) : (a.add m).add j = a.add (m + j) := by
  unfold Addr.add
  split <;> simp_all <;> omega

theorem Bts.later {w : World} {a : Addr} {m n cap : Nat} {l : List UInt8} (hm : m ≠ 0) (h2 : m + n ≤ l.length) (h3 : m + n ≤ cap) (h4 : cap ≤ maxLen) (h : ∀ j u, (bcells l)[j]? = some u → w.cell? (a.add j) = some u) : Bts w (.slice (some (a.add m)) n (cap - m)) ((l.drop m).take n) := by
  refine Bts.part (by simp; omega) (by omega) (by omega) fun j u hj => ?_
  rw [addr_add _ _ _ hm]
  refine h (m + j) u ?_
  rw [← hj]
  simp [bcells]

theorem own_made (w : World) (n : Nat) (hn : n ≤ maxLen) : Own w.heap.size (w.alloc (.cells (madeCells #[.int .u8 0] n) 5)) (.slice (some ⟨w.heap.size, 0, none⟩) n n) (List.replicate n 0) := by
  refine ⟨by simp [bcells], .inr ⟨w.heap.size, n, madeCells #[.int .u8 0] n, by simp, Nat.le_refl _, heap_alloc_new w _, by simp, hn, by rw [size_madeCells, Nat.mul_one], ?_⟩⟩
  rw [List.length_replicate, Nat.mul_one, List.take_of_length_le (by simp [size_madeCells])]
  apply List.ext_getElem?
  intro i
  by_cases h : i < n
  · simp [madeCells, bcells, h, Nat.mod_one]
  · rw [List.getElem?_eq_none (by simp [size_madeCells]; omega), List.getElem?_eq_none (by simp [bcells]; omega)]

/-- What lies there behind k bytes. -/
def lent (l : List UInt8) (k : Nat) : List UInt8 := 165 :: (l.take k ++ (List.replicate (l.length - k) 0 ++ [90]))
theorem lent_zero (l : List UInt8) : ((List.replicate (l.length + 2) (0 : UInt8)).set 0 165).set (l.length + 1) 90 = lent l 0 := by
  unfold lent
  rw [List.replicate_succ, List.set_cons_zero, List.set_cons_succ, Nat.sub_zero, List.take_zero, List.nil_append, List.replicate_succ']
  congr 1
  rw [List.set_append, if_neg (by simp)]
  simp
theorem lent_succ {l : List UInt8} {k : Nat} (h : k < l.length) : (lent l k).set (k + 1) l[k] = lent l (k + 1) := by
  unfold lent
  rw [List.set_cons_succ]
  congr 1
  have hk : (l.take k).length = k := by simp; omega
  obtain ⟨m, hm⟩ : ∃ m, l.length - k = m + 1 := ⟨l.length - k - 1, by omega⟩
  rw [List.set_append, if_neg (by omega), hk, Nat.sub_self, hm, List.replicate_succ, List.cons_append, List.set_cons_zero, List.take_add_one, List.getElem?_eq_getElem h, show l.length - (k + 1) = m by omega, List.append_assoc]
  rfl
theorem lent_length (l : List UInt8) (k : Nat) (h : k ≤ l.length) : (lent l k).length = l.length + 2 := by
  unfold lent
  simp
  omega
theorem lent_all (l : List UInt8) : lent l l.length = 165 :: (l ++ [90]) := by
  unfold lent
  simp

set_option maxHeartbeats 2000000 in
theorem lend_any {w : World} {x : Value} {l : List UInt8} (h : Bts w x l) (hl : l.length ≤ 140737488351232) :
    Calls Try.prog 31 #[x] w fun e w' => e = .returned (.tuple #[.slice (some ⟨w.heap.size, 0, none⟩) (l.length + 2) (l.length + 2), .slice (some ⟨w.heap.size, 1, none⟩) l.length (l.length + 1)]) ∧
      Own w.heap.size w' (.slice (some ⟨w.heap.size, 0, none⟩) (l.length + 2) (l.length + 2)) (165 :: (l ++ [90])) ∧ Below w.heap.size w w' := by
  obtain ⟨i0, hi, hz0, hz1, hz2⟩ := info_parts info5
  have H : Hid (Bts w x l) := h
  obtain ⟨a, c, rfl, _, _⟩ := h.slice
  clear h
  obtain ⟨W0, mk, o0, b0⟩ : ∃ W0, (Instr.makeSlice 29 (.int .i64 ((l.length : Int) + 2)) (.int .i64 ((l.length : Int) + 2))).run Try.prog w = .ok (.slice (some ⟨w.heap.size, 0, none⟩) (l.length + 2) (l.length + 2)) W0 ∧
      Own w.heap.size W0 (.slice (some ⟨w.heap.size, 0, none⟩) (l.length + 2) (l.length + 2)) (List.replicate (l.length + 2) 0) ∧ Below w.heap.size w W0 :=
    ⟨_, by simpa using run_make_row (P := Try.prog) 29 5 i0 (.int .u8 0) Try.underlying29 hi hz0 hz1 rfl .i64 .i64 (l.length + 2) (by rw [hz2]; omega) (by omega) w, own_made w _ (by simp only [maxLen]; omega), (Below.refl _ w).alloc (Nat.le_refl _) _⟩
  obtain ⟨g1, k1, e1, hg1, c1, f1, o1⟩ := own_store o0 (p := 0) (by simp) 165
  simp only [Value.slice.injEq, Option.some.injEq, Addr.mk.injEq] at e1
  obtain ⟨⟨rfl, -, -⟩, -, -⟩ := e1
  obtain ⟨g2, k2, e2, hg2, c2, f2, o2⟩ := own_store o1 (p := l.length + 1) (by simp) 90
  simp only [Value.slice.injEq, Option.some.injEq, Addr.mk.injEq] at e2
  obtain ⟨⟨rfl, -, -⟩, -, -⟩ := e2
  rw [lent_zero] at o2
  have B2 : Hid (Below w.heap.size w ((W0.setCell ⟨w.heap.size, 0, none⟩ (.int .u8 165)).setCell ⟨w.heap.size, l.length + 1, none⟩ (.int .u8 90))) := (b0.setCell hg1 _).setCell hg2 _
  have O2 : Hid (Own w.heap.size ((W0.setCell ⟨w.heap.size, 0, none⟩ (.int .u8 165)).setCell ⟨w.heap.size, l.length + 1, none⟩ (.int .u8 90)) (.slice (some ⟨w.heap.size, 0, none⟩) (l.length + 2) (l.length + 2)) (lent l 0)) := o2
  generalize (List.replicate (l.length + 2) (0 : UInt8))[0].toNat = z1 at c1
  generalize (((List.replicate (l.length + 2) (0 : UInt8)).set 0 165)[l.length + 1]).toNat = z2 at c2
  have c1' : W0.cell? ⟨w.heap.size, 0, none⟩ = some (.int .u8 z1) := c1
  have c2' : (W0.setCell ⟨w.heap.size, 0, none⟩ (.int .u8 165)).cell? ⟨w.heap.size, l.length + 1, none⟩ = some (.int .u8 z2) := c2
  have f2' : (W0.setCell ⟨w.heap.size, 0, none⟩ (.int .u8 165)).frozen? ⟨w.heap.size, l.length + 1, none⟩ = false := f2
  clear o0 o1 o2 b0 c1 c2 f2
  go_enter Try.func31, Try.ntmps31
  go_wp2_with fail
  generalize (W0.setCell ⟨w.heap.size, 0, none⟩ (.int .u8 165)).setCell ⟨w.heap.size, l.length + 1, none⟩ (.int .u8 90) = W2 at *
  clear c1' c2' f2' mk f1
  go_loopw [20] (fun u20 wr => ∃ k : Nat, u20 = .int .i64 k ∧ k ≤ l.length ∧ Hid (Own w.heap.size wr (.slice (some ⟨w.heap.size, 0, none⟩) (l.length + 2) (l.length + 2)) (lent l k) ∧ Below w.heap.size w wr)) (fun u20 _ => l.length - (intOf u20).toNat)
  case atStart => exact ⟨0, rfl, by omega, O2.out, B2.out⟩
  case round =>
    obtain ⟨k, rfl, hk, HD⟩ := hrel
    clear O2 B2
    by_cases hlt : k < l.length
    · obtain ⟨oD, bD⟩ := HD.out
      obtain ⟨a', rfl, cx⟩ : ∃ a', a = some a' ∧ wr.cell? (a'.add k) = some (.int .u8 l[k].toNat) := by
        rcases H.out.below bD with ⟨_, h1⟩ | ⟨a', cap, h1, _, _, h4⟩
        · rw [h1] at hlt; simp at hlt
        · simp only [Value.slice.injEq] at h1
          exact ⟨a', h1.1, h4 k _ (bcells_get hlt)⟩
      have hp1 : k + 1 < (lent l k).length := by rw [lent_length l k hk]; omega
      obtain ⟨g1, k1, e1, hg1, c1, f1, o1⟩ := own_store oD (p := k + 1) hp1 l[k]
      simp only [Value.slice.injEq, Option.some.injEq, Addr.mk.injEq] at e1
      obtain ⟨⟨rfl, -, -⟩, -, -⟩ := e1
      rw [lent_succ hlt] at o1
      have HE : Hid (Own w.heap.size (wr.setCell ⟨w.heap.size, k + 1, none⟩ (.int .u8 l[k].toNat)) (.slice (some ⟨w.heap.size, 0, none⟩) (l.length + 2) (l.length + 2)) (lent l (k + 1)) ∧ Below w.heap.size w (wr.setCell ⟨w.heap.size, k + 1, none⟩ (.int .u8 l[k].toNat))) := ⟨o1, bD.setCell hg1 _⟩
      generalize (lent l k)[k + 1].toNat = z at c1
      generalize l[k].toNat = y at *
      clear HD oD bD o1
      go_wp2
      go_roundw
      case rel => exact ⟨k + 1, by go_num, by omega, HE⟩
      case measure => simp [intOf]; omega
    · have HE : Hid (Own w.heap.size wr (.slice (some ⟨w.heap.size, 0, none⟩) (l.length + 2) (l.length + 2)) (165 :: (l ++ [90])) ∧ Below w.heap.size w wr) := by
        have h1 := HD.out
        rw [show k = l.length by omega, lent_all] at h1
        exact h1
      clear HD
      have j1 : (l.length : Int) + 1 ≤ (l.length : Int) + 2 := by omega
      have j2 : (1 : Int) ≤ (l.length : Int) + 1 := by omega
      have j3 : l.length + 1 ≤ l.length + 2 := by omega
      have j4 : (0 : Int) ≤ (l.length : Int) + 1 := by omega
      have q1 : IntKind.i64.wrap ((l.length : Int) + 1) = (l.length : Int) + 1 := by rw [IntKind.wrap_i64]; omega
      go_wp2
      go_region
      go_wp2
      go_ret2
      exact ⟨rfl, HE.out.1, HE.out.2.drew⟩

theorem lent_get (l : List UInt8) : (bcells (165 :: (l ++ [90])))[0]? = some (.int .u8 165) ∧ (bcells (165 :: (l ++ [90])))[l.length + 1]? = some (.int .u8 90) := by
  constructor
  · rfl
  · simp [bcells]
theorem lent_part {w : World} {b : Nat} {l : List UInt8} (h : Own b w (.slice (some ⟨b, 0, none⟩) (l.length + 2) (l.length + 2)) (165 :: (l ++ [90]))) (hl : l.length ≤ 140737488351232) : Bts w (.slice (some ⟨b, 1, none⟩) l.length (l.length + 1)) l := by
  have hc := World.ownsRow.cells h (g := b) rfl
  have := Bts.later (w := w) (a := ⟨b, 0, none⟩) (m := 1) (n := l.length) (cap := l.length + 2) (l := 165 :: (l ++ [90])) (by decide) (by simp; omega) (by omega) (by simp only [maxLen]; omega) hc
  simpa [Addr.add] using this

set_option maxHeartbeats 2000000 in
theorem kept_any {w : World} {b : Nat} {x : Value} {l : List UInt8} (h : Bts w x l) (ho : Own b w (.slice (some ⟨b, 0, none⟩) (l.length + 2) (l.length + 2)) (165 :: (l ++ [90]))) (hl : l.length ≤ 140737488351232) :
    Calls Try.prog 34 #[.slice (some ⟨b, 0, none⟩) (l.length + 2) (l.length + 2), x] w fun e w' => e = .returned (.bool true) ∧ w' = w.drew := by
  have hc := World.ownsRow.cells ho (g := b) rfl
  have c0 : w.cell? ⟨b, 0, none⟩ = some (.int .u8 165) := by simpa [Addr.add] using hc 0 _ (lent_get l).1
  have c1 : w.cell? ⟨b, l.length + 1, none⟩ = some (.int .u8 90) := by simpa [Addr.add] using hc (l.length + 1) _ (lent_get l).2
  have v1 := conv_bts (w := w.drew) (h.kept fun i _ => rfl)
  have v2 := conv_bts (w := w.drew) ((lent_part ho hl).kept fun i _ => rfl)
  obtain ⟨a, c, rfl, _, _⟩ := h.slice
  generalize (ByteArray.mk l.toArray) = s at v1 v2
  generalize l.length = n at *
  clear h ho hc
  have j1 : (n : Int) + 1 ≤ (n : Int) + 2 := by omega
  have j2 : (1 : Int) ≤ (n : Int) + 1 := by omega
  have j3 : n + 1 ≤ n + 2 := by omega
  have j4 : (0 : Int) ≤ (n : Int) + 1 := by omega
  have j5 : (n : Int) + 1 < (n : Int) + 2 := by omega
  have q1 : IntKind.i64.wrap ((n : Int) + 1) = (n : Int) + 1 := by rw [IntKind.wrap_i64]; omega
  have q2 : IntKind.i64.wrap ((n : Int) + 2) = (n : Int) + 2 := by rw [IntKind.wrap_i64]; omega
  go_enter Try.func34, Try.ntmps34
  go_wp2
  go_region_held_law (fun w' => w'.cell? ⟨b, 0, none⟩ = some (.int .u8 165) ∧ w'.cell? ⟨b, n + 1, none⟩ = some (.int .u8 90)) (exact ⟨c0, c1⟩) (fail)
  all_goals go_wp2
  all_goals go_ret
  all_goals exact ⟨by simp, rfl⟩
end Go.Proofs.Ytmeecjedikechaa.Byt

/- octavolaw01.act, kinds 1 and 5: what is lent. -/
namespace Go.Proofs.Ytmeecjedikechaa
open Go.RowKit Go.Maps
set_option maxRecDepth 100000
set_option linter.unusedVariables false
set_option linter.unusedSimpArgs false
/-- Handed bytes that lie below base. -/
def DB (base : Nat) (w : World) (v : Value) (l : List UInt8) : Prop :=
  (v = .slice none 0 0 ∧ l = []) ∨ ∃ a cap, v = .slice (some a) l.length cap ∧ l.length ≤ cap ∧ cap ≤ maxLen ∧ (l ≠ [] → a.block < base) ∧ ∀ j u, (bcells l)[j]? = some u → w.cell? (a.add j) = some u
section
variable {base : Nat} {w w' : World} {b bm : Nat} {nm0 dat : List UInt8} {n : Int} {rb : Nat} {v : Value} {l : List UInt8}
theorem bcells_same (l : List UInt8) : Byt.bcells l = bcells l := rfl
theorem DB.bts (h : DB base w v l) : Byt.Bts w v l := by
  rcases h with h | ⟨a, c, h1, h2, h3, -, h5⟩
  · exact .inl h
  · exact .inr ⟨a, c, h1, h2, h3, h5⟩
theorem DB.src (h : DB base w v l) (hb : base ≤ rb) : SrcB w rb v l := by
  rcases h with h | ⟨a, c, h1, h2, h3, h4, h5⟩
  · exact .inl h
  · exact .inr ⟨a, c, h1, fun hl => by have := h4 hl; omega, h5⟩
theorem DB.below (h : DB base w v l) (hb : Below base w w') : DB base w' v l := by
  rcases h with h | ⟨a, c, h1, h2, h3, h4, h5⟩
  · exact .inl h
  · refine .inr ⟨a, c, h1, h2, h3, h4, fun j u hj => ?_⟩
    have hl : l ≠ [] := by rintro rfl; simp [bcells] at hj
    have hblk : (a.add j).block < base := by rw [Byt.addr_block]; exact h4 hl
    have e := h5 j u hj
    have := hb.block _ hblk
    simpa [World.cell?, this] using e
def K3 (rb g q : Nat) : Nat → Prop := fun i => i = rb ∨ i = g ∨ i = q
def LI (base b bm : Nat) (nm0 dat : List UInt8) (n : Int) (rb g q : Nat) (cs : Array Value) (l : List UInt8) (w0 w : World) : Prop :=
  AP (K3 rb g q) base b bm nm0 dat n w ∧ w.heap[g]? = some (.cells cs 31 (0, 0)) ∧ w.heap[rb]? = some rblk ∧ base ≤ w.heap.size ∧ Below base w0 w ∧ Byt.Own q w (.slice (some ⟨q, 0, none⟩) (l.length + 2) (l.length + 2)) (165 :: (l ++ [90]))
theorem lend_in (h : AP (fun i => i = rb) base b bm nm0 dat n w) (hrb : w.heap[rb]? = some rblk) (hb : base ≤ w.heap.size) (cs : Array Value) {q : Nat} (hq : w.heap.size + 1 = q) {w2 : World}
    (ho : Byt.Own q w2 (.slice (some ⟨q, 0, none⟩) (l.length + 2) (l.length + 2)) (165 :: (l ++ [90]))) (hB : Below q (w.alloc (.cells cs 31)) w2) :
    LI base b bm nm0 dat n rb w.heap.size q cs l w w2 := by
  have hl : rb < w.heap.size := lt_of_some hrb
  have hs : (w.alloc (.cells cs 31)).heap.size = q := by simp [hq]
  have hkeep : ∀ i, i < w.heap.size → w2.heap[i]? = w.heap[i]? := fun i hi => (hB.block i (by omega)).trans (Below.heap_alloc w _ i hi)
  have hq2 := (ho.lt (g := q) rfl).2
  refine ⟨h.reK hkeep fun i hi => ?_, (hB.block _ (by omega)).trans (heap_alloc_new w _), (hkeep _ hl).trans hrb, by omega, ((Below.refl base w).alloc hb _).trans (hB.mono (by omega)), ho⟩
  rcases hi with rfl | rfl | rfl
  · exact ⟨by omega, .inl rfl⟩
  · exact ⟨by omega, .inr (by omega)⟩
  · exact ⟨by omega, .inr (by omega)⟩
end
/-- What is lent is of other blocks than the world's own. -/
theorem lent_src {base b bm : Nat} {nm0 dat : List UInt8} {n : Int} {rb g q : Nat} {cs : Array Value} {l : List UInt8} {w0 w : World} (h : LI base b bm nm0 dat n rb g q cs l w0 w) (hl : l.length ≤ 140737488351232) :
    SrcB w.drew b (.slice (some ⟨q, 1, none⟩) l.length (l.length + 1)) l := by
  have hb : q ≠ b := by
    obtain ⟨s, D, F, f, hS, -⟩ := h.1
    exact fun e => hS.hb.2 (e ▸ .inr (.inr rfl))
  rcases Byt.lent_part h.2.2.2.2.2 (by omega) with ⟨h1, h2⟩ | ⟨a, cap, h1, h2, h3, h4⟩
  · simp at h1
  · simp only [Value.slice.injEq, Option.some.injEq] at h1
    obtain ⟨rfl, -, rfl⟩ := h1
    exact .inr ⟨_, _, rfl, fun _ => hb, h4⟩
end Go.Proofs.Ytmeecjedikechaa

/- A list of acts in memory; an act of it loaded, and laid as a copy of one's own. -/
namespace Go.Proofs.Ytmeecjedikechaa
open Go.RowKit Go.Maps
set_option maxRecDepth 100000
set_option linter.unusedVariables false
set_option linter.unusedSimpArgs false
structure ActT where
  k : Int
  nm : ByteArray
  to : ByteArray
  n : Int
  m : Int
  da : Option Addr
  dn : Nat
  dc : Nat
  l : List UInt8
def actC (t : ActT) : List Value := [.int .i64 t.k, .string t.nm, .string t.to, .int .i64 t.n, .int .i64 t.m, .slice t.da t.dn t.dc]
def ActOk (base : Nat) (w : World) (t : ActT) : Prop := DB base w (.slice t.da t.dn t.dc) t.l ∧ t.nm.size ≤ maxLen ∧ t.to.size ≤ maxLen ∧ t.l.length ≤ 140737488351232
def ActsIn (base : Nat) (w : World) (v : Value) (L : List ActT) : Prop :=
  (∀ t ∈ L, ActOk base w t) ∧ ((v = .slice none 0 0 ∧ L = []) ∨ ∃ a cap, v = .slice (some a) L.length cap ∧ L.length ≤ cap ∧ cap ≤ maxLen ∧ (L ≠ [] → a.block < base) ∧ ∀ k t, L[k]? = some t → ∀ j u, (actC t)[j]? = some u → w.cell? ((a.add (k * 6)).add j) = some u)
theorem inf31 : (Try.prog.info? 31).map (·.size) = some 6 := by kernel_rfl
theorem run_loadVar_any {P : Program} (w : World) (x : Addr) (ty : TypeId) (cs : List Value) (d : TypeDesc) (hc : ∀ j v, cs[j]? = some v → w.cell? (x.add j) = some v)
    (hu : P.underlying ty = some d) (hd : d.isRow = true) (hi : (P.info? ty).map (·.size) = some cs.length) :
    (Instr.loadAt ty (.pointer (some x))).run P w = .ok (.agg cs.toArray) w := by
  have hl : (loadCells x cs.length).run P w = .ok cs.toArray w := run_loadCells_list (P := P) w x cs hc
  cases hq : P.info? ty with
  | none => simp [hq] at hi
  | some i =>
    have hs : i.size = cs.length := by simpa [hq] using hi
    have hagg : (isAgg ty).run P w = .ok true w := by
      unfold isAgg
      rw [Sem.run_bind, run_underlying hu w]
      cases d <;> simp_all
    simp [Instr.loadAt, Instr.sureAddr, loadVar, Sem.run_bind, hagg, sizeOf, typeInfo, hq, hs, hl]
theorem wpList_load_run {P : Program} {ops : Array Oper} {rest : List Oper} {o : Oper} {a : Act} {w : World} {Q : Exit → Act → World → Prop} (hgd : o.guard = none) (ty : TypeId) (x : Operand) (ho : o.op = .load ty x)
    (p v : Value) (hx : a.eval x = p) (hrun : (Instr.loadAt ty p).run P w = .ok v w) (h : wpList P ops Q rest (a.put o.dst v) w) : wpList P ops Q (o :: rest) a w := by
  refine wpList_plain hgd fun K hK => ?_
  unfold Oper.wp execOp
  simp only [ho, hx, Sem.run_bind, Sem.run_pure, hrun, Result.andThen_ok]
  exact hK _ _ h
theorem wpList_store_run {P : Program} {ops : Array Oper} {rest : List Oper} {o : Oper} {a : Act} {w : World} {Q : Exit → Act → World → Prop} (hgd : o.guard = none) (ty : TypeId) (x y : Operand) (ho : o.op = .store ty x y)
    (p v : Value) (w' : World) (hx : a.eval x = p) (hy : a.eval y = v) (hrun : (Instr.storeAt ty p v).run P w = .ok () w') (h : wpList P ops Q rest (a.put o.dst undef) w') : wpList P ops Q (o :: rest) a w := by
  refine wpList_plain hgd fun K hK => ?_
  unfold Oper.wp execOp
  simp only [ho, hx, hy, Sem.run_bind, Sem.run_pure, hrun, Result.andThen_ok]
  exact hK _ _ h
abbrev actZ : Obj := .cells #[.int .i64 0, .string ⟨#[]⟩, .string ⟨#[]⟩, .int .i64 0, .int .i64 0, .slice none 0 0] 31
/-- An act of the list: loaded, and laid as a copy of one's own; the copy loaded, also behind the next new block. -/
theorem ActsIn.runs {base : Nat} {w : World} {a : Option Addr} {c : Nat} {L : List ActT} (h : ActsIn base w (.slice a L.length c) L) {wr : World} (hb : Below base w wr) {k : Nat} (hk : k < L.length) :
    ∃ a', a = some a' ∧ Hid ((Instr.loadAt 31 (.pointer (some (a'.add (k * 6))))).run Try.prog wr = .ok (.agg (actC L[k]).toArray) wr) ∧
      Hid ((Instr.storeAt 31 (.pointer (some ⟨wr.heap.size, 0, none⟩)) (.agg (actC L[k]).toArray)).run Try.prog (wr.alloc actZ) = .ok () (wr.alloc (.cells (actC L[k]).toArray 31))) ∧
      Hid (∀ o, (Instr.loadAt 31 (.pointer (some ⟨wr.heap.size, 0, none⟩))).run Try.prog ((wr.alloc (.cells (actC L[k]).toArray 31)).alloc o) = .ok (.agg (actC L[k]).toArray) ((wr.alloc (.cells (actC L[k]).toArray 31)).alloc o)) ∧
      Hid (ActOk base wr L[k]) := by
  obtain ⟨h0, h⟩ := h
  have hi : (Try.prog.info? 31).map (·.size) = some (actC L[k]).length := inf31
  rcases h with ⟨_, e⟩ | ⟨a', cap, h1, h2, h3, h4, h5⟩
  · rw [e] at hk; simp at hk
  · simp only [Value.slice.injEq] at h1
    obtain ⟨rfl, -, -⟩ := h1
    refine ⟨a', rfl, run_loadVar_any wr _ 31 (actC L[k]) _ (fun j v hv => ?_) Try.underlying31 rfl hi, ?_, fun o => ?_, ?_⟩
    · have e := h5 k _ (List.getElem?_eq_getElem hk) j v hv
      have hblk : ((a'.add (k * 6)).add j).block < base := by rw [Byt.addr_block, Byt.addr_block]; exact h4 (fun e => by rw [e] at hk; simp at hk)
      have := hb.block _ hblk
      simpa [World.cell?, this] using e
    · exact run_storeAt_new wr 31 _ (actC L[k]).toArray (by simpa using hi) rfl (by simp [actC, Value.oneCell'])
    · refine run_loadVar_any _ ⟨wr.heap.size, 0, none⟩ 31 (actC L[k]) _ (fun j v hv => ?_) Try.underlying31 rfl hi
      have hadd : (⟨wr.heap.size, 0, none⟩ : Addr).add j = ⟨wr.heap.size, j, none⟩ := by unfold Addr.add; split <;> simp_all
      rw [hadd, cell_of_row _ _ j (actC L[k]).toArray 31 (0, 0) ((Below.heap_alloc _ _ _ (by simp)).trans (heap_alloc_new wr _))]
      simpa using hv
    · obtain ⟨q1, q2⟩ := h0 _ (List.getElem_mem hk)
      exact ⟨q1.below hb, q2⟩
end Go.Proofs.Ytmeecjedikechaa
