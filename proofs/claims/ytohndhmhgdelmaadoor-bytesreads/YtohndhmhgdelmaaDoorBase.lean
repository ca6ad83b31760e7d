/- Bytes in memory, and how they stay while other blocks turn; no walk. -/
import Derived.Test.YtohndhmhgdelmaaDoorRows
import Derived.WalkKit
import Derived.Below
import Derived.Maps.AppendAt
import Derived.OwnWalk
import Derived.Lib.SlBytesConst
namespace Go.Proofs.YtohndhmhgdelmaaDoor
open Go.RowKit

def bcells (l : List UInt8) : List Value := l.map fun b => Value.int .u8 b.toNat
theorem bcells_length (l : List UInt8) : (bcells l).length = l.length := by simp [bcells]
theorem bcells_append (l m : List UInt8) : bcells (l ++ m) = bcells l ++ bcells m := by simp [bcells]
theorem bcells_get {l : List UInt8} {j : Nat} (h : j < l.length) : (bcells l)[j]? = some (.int .u8 (l[j].toNat)) := by simp [bcells, h]
theorem addr_block (a : Addr) (n : Nat) : (a.add n).block = a.block := by unfold Addr.add; split <;> rfl

/-- A slice that reads as these bytes. -/
def Bts (w : World) (v : Value) (l : List UInt8) : Prop :=
  (v = .slice none 0 0 ∧ l = []) ∨ ∃ a cap, v = .slice (some a) l.length cap ∧ l.length ≤ cap ∧ cap ≤ maxLen ∧ ∀ j u, (bcells l)[j]? = some u → w.cell? (a.add j) = some u

theorem Bts.kept {w w' : World} {v : Value} {l : List UInt8} (h : Bts w v l) (hk : ∀ i, i < w.heap.size → w'.heap[i]? = w.heap[i]?) : Bts w' v l := by
  rcases h with h | ⟨a, cap, h1, h2, h3, h4⟩
  · exact .inl h
  · refine .inr ⟨a, cap, h1, h2, h3, fun j u hj => ?_⟩
    have := h4 j u hj
    rw [← this]
    exact World.cell?_of_block (hk _ (World.block_lt_of_cell? w _ this))
theorem Bts.below {w w' : World} {v : Value} {l : List UInt8} (h : Bts w v l) (hk : Below w.heap.size w w') : Bts w' v l := h.kept hk.block

/-- The table of sums lies in the package's variable. -/
def tab : List Nat := [0, 498536548, 997073096, 651767980, 1994146192, 1802195444, 1303535960, 1342533948, 3988292384, 4027552580, 3604390888, 3412177804, 2607071920, 2262029012, 2685067896, 3183342108]
def Tab (w : World) : Prop := ∀ i, i < 16 → w.cell? ⟨0, i, none⟩ = some (.int .u32 (tab.getD i 0))
theorem Tab.kept {w w' : World} (h : Tab w) (hk : ∀ i, i < w.heap.size → w'.heap[i]? = w.heap[i]?) : Tab w' := fun i hi => by
  rw [← h i hi]
  exact World.cell?_of_block (hk _ (World.block_lt_of_cell? w _ (h i hi)))
theorem Tab.below {w w' : World} {b : Nat} (h : Tab w) (hb : w.heap.size ≤ b) (hk : Below b w w') : Tab w' := h.kept fun i hi => hk.block i (by omega)

/-! ### A row of bytes of one's own, and what is appended to it -/
theorem info5 : (Tryd.prog.info? 5).map (fun i => (i.zero, i.size, i.bytes)) = some (some (.int .u8 0), 1, 1) := by kernel_rfl

def Own (base : Nat) (w : World) (v : Value) (l : List UInt8) : Prop := w.ownsRow base 5 1 v l.length (bcells l)

theorem ownsRow_of_block {w w' : World} {base : Nat} {e : TypeId} {size : Nat} {v : Value} {n : Nat} {xs : List Value} (h : w.ownsRow base e size v n xs)
    (hk : ∀ g, v.ownBlock = some g → w'.heap[g]? = w.heap[g]?) : w'.ownsRow base e size v n xs := by
  refine ⟨h.1, ?_⟩
  rcases h.2 with hn | ⟨g, cap, cur, rfl, hb, hgg, rest⟩
  · exact .inl hn
  · exact .inr ⟨g, cap, cur, rfl, hb, by rw [hk g rfl]; exact hgg, rest⟩
theorem Own.of_block {w w' : World} {base : Nat} {v : Value} {l : List UInt8} (h : Own base w v l) (hk : ∀ g, v.ownBlock = some g → w'.heap[g]? = w.heap[g]?) : Own base w' v l := ownsRow_of_block h hk
theorem Own.lt {w : World} {base : Nat} {v : Value} {l : List UInt8} (h : Own base w v l) {g : Nat} (hg : v.ownBlock = some g) : base ≤ g ∧ g < w.heap.size := World.ownsRow.lt h g hg
theorem Own.kept {w w' : World} {base : Nat} {v : Value} {l : List UInt8} (h : Own base w v l) (hk : ∀ i, i < w.heap.size → w'.heap[i]? = w.heap[i]?) : Own base w' v l := h.of_block fun _ hg => hk _ (h.lt hg).2
theorem Own.alloc {w : World} {base : Nat} {v : Value} {l : List UInt8} (h : Own base w v l) (o : Obj) : Own base (w.alloc o) v l := h.kept fun i hi => Below.heap_alloc w o i hi
theorem Own.nil (w : World) (base : Nat) : Own base w (.slice none 0 0) [] := World.ownsRow_nil w base 5 1
theorem Own.bts {w : World} {base : Nat} {v : Value} {l : List UInt8} (h : Own base w v l) : Bts w v l := by
  rcases h.2 with ⟨h1, h2⟩ | ⟨g, cap, cur, h1, h2, h3, h4, h5, h6, h7⟩
  · exact .inl ⟨h1, List.eq_nil_of_length_eq_zero h2⟩
  · exact .inr ⟨⟨g, 0, none⟩, cap, h1, h4, h5, World.ownsRow.cells h (g := g) (by rw [h1]; rfl)⟩
theorem Own.slice {w : World} {base : Nat} {v : Value} {l : List UInt8} (h : Own base w v l) : ∃ a c, v = .slice a l.length c := by
  rcases h.2 with ⟨rfl, h2⟩ | ⟨g, cap, cur, rfl, _⟩
  · exact ⟨none, 0, by rw [h2]⟩
  · exact ⟨_, _, rfl⟩
theorem Bts.slice {w : World} {v : Value} {l : List UInt8} (h : Bts w v l) : ∃ a c, v = .slice a l.length c ∧ l.length ≤ c ∧ c ≤ maxLen := by
  rcases h with ⟨rfl, rfl⟩ | ⟨a, cap, rfl, h1, h2, _⟩
  · exact ⟨none, 0, rfl, Nat.le_refl _, by decide⟩
  · exact ⟨_, _, rfl, h1, h2⟩
theorem Bts.alloc {w : World} {v : Value} {l : List UInt8} (h : Bts w v l) (o : Obj) : Bts (w.alloc o) v l := h.kept fun i hi => Below.heap_alloc w o i hi
theorem Tab.alloc {w : World} (h : Tab w) (o : Obj) : Tab (w.alloc o) := h.kept fun i hi => Below.heap_alloc w o i hi
theorem Bts.drew {w : World} {v : Value} {l : List UInt8} (h : Bts w v l) : Bts w.drew v l := h
theorem Tab.drew {w : World} (h : Tab w) : Tab w.drew := h

/-- v' is v with more behind it: only v's own block has turned, and v' lies there or in new memory. -/
structure Apd (base : Nat) (w : World) (v : Value) (w' : World) (v' : Value) (l : List UInt8) : Prop where
  own : Own base w' v' l
  gr : w.grownBy w' v.ownBlock
  loc : ∀ g, v'.ownBlock = some g → v.ownBlock = some g ∨ w.heap.size ≤ g

theorem Apd.refl {base : Nat} {w : World} {v : Value} {l : List UInt8} (h : Own base w v l) : Apd base w v w v l := ⟨h, ⟨rfl, rfl, rfl, Nat.le_refl _, fun _ _ _ => rfl⟩, fun _ hg => .inl hg⟩
theorem Apd.trans {base : Nat} {w w1 w2 : World} {v v1 v2 : Value} {l1 l2 : List UInt8} (h : Apd base w v w1 v1 l1) (k : Apd base w1 v1 w2 v2 l2) : Apd base w v w2 v2 l2 := by
  refine ⟨k.own, ⟨k.gr.os.trans h.gr.os, k.gr.tape.trans h.gr.tape, k.gr.output.trans h.gr.output, Nat.le_trans h.gr.size k.gr.size, fun i hi hne => ?_⟩, fun g hg => ?_⟩
  · refine (k.gr.block i (Nat.lt_of_lt_of_le hi h.gr.size) fun e => ?_).trans (h.gr.block i hi hne)
    rcases h.loc i e.symm with h1 | h1
    · exact hne h1.symm
    · omega
  · rcases k.loc g hg with h1 | h1
    · exact h.loc g h1
    · exact .inr (Nat.le_trans h.gr.size h1)
theorem Apd.of_alloc {base : Nat} {w w' : World} {v v' : Value} {l : List UInt8} {o : Obj} (h : Apd base (w.alloc o) v w' v' l) : Apd base w v w' v' l := by
  refine ⟨h.own, ⟨h.gr.os, h.gr.tape, h.gr.output, by have := h.gr.size; simp at this; omega, fun i hi hne => ?_⟩, fun g hg => ?_⟩
  · exact (h.gr.block i (by simp; omega) hne).trans (Below.heap_alloc w o i hi)
  · rcases h.loc g hg with h1 | h1
    · exact .inl h1
    · right; simp at h1; omega
theorem Apd.below {base : Nat} {w w' : World} {v v' : Value} {l0 l : List UInt8} (h : Apd base w v w' v' l) (h0 : Own base w v l0) (hb : base ≤ w.heap.size) : Below base w w' :=
  (Below.refl base w).grown h.gr hb fun _ hk => (h0.lt hk).1
theorem Apd.new {base : Nat} {w w' : World} {v' : Value} {l : List UInt8} (h : Apd base w (.slice none 0 0) w' v' l) : (∀ i, i < w.heap.size → w'.heap[i]? = w.heap[i]?) ∧ (∀ g, v'.ownBlock = some g → w.heap.size ≤ g) :=
  ⟨fun i hi => h.gr.block i hi (by simp [Value.ownBlock]), fun g hg => (h.loc g hg).elim (fun h1 => by simp [Value.ownBlock] at h1) id⟩

theorem own_app {base : Nat} {w : World} {v : Value} {l : List UInt8} (ty : TypeId) (h : Own base w v l) {bv : Value} {m : List UInt8} (hs : Bts w bv m) (hn : l.length + m.length ≤ 140737488355328) (hbase : base ≤ w.heap.size) :
    ∃ v' w', (Builtin.append_ #[29, 29] ty #[v, bv]).run Tryd.prog w = .ok v' w' ∧ Apd base w v w' v' (l ++ m) := by
  obtain ⟨i0, hi, hz0, hz1, hz2⟩ := info_parts info5
  rcases hs with ⟨rfl, rfl⟩ | ⟨a, cap, rfl, _, _, hc⟩
  · exact ⟨v, w, run_append_owned_none w base 29 ty 5 i0 1 Tryd.underlying29 hi v _ _ h, Apd.refl (by simpa using h)⟩
  · obtain ⟨v', w', h1, h2, h3, _, h5⟩ := run_append_own_at w base 29 ty 5 i0 (.int .u8 0) 1 1 Tryd.underlying29 hi hz0 hz1 hz2 rfl (by decide) v _ _ h a m.length cap (bcells m) (by rw [bcells_length, Nat.mul_one]) hc
      (by intro u hu; simp [bcells] at hu; obtain ⟨x, _, rfl⟩ := hu; rfl) (by simp only [maxLen]; omega) (by omega) hbase
    refine ⟨v', w', h1, ?_, h3, fun g hg => ?_⟩
    · unfold Own
      rw [List.length_append, bcells_append]
      exact h2
    · rcases h5 with e | e
      · left; rw [← e]; exact hg
      · right; rw [e] at hg; cases hg; exact Nat.le_refl _

/-- An append whose run is known, as the next operation. -/
theorem wpList_append_run {P : Program} {ops : Array Oper} {rest : List Oper} {o : Oper} {a : Act} {w : World} {Q : Exit → Act → World → Prop} (hgd : o.guard = none) (s x : Operand) (t : TypeId)
    (ho : o.op = Op.call { callee := Callee.builtin Builtin.append, args := #[s, x], argTypes := #[t, t] }) (v bv v' : Value) (w' : World) (hs : a.eval s = v) (hx : a.eval x = bv)
    (hrun : (Builtin.append_ #[t, t] o.type #[v, bv]).run P w = .ok v' w') (h : wpList P ops Q rest (a.put o.dst v') w') : wpList P ops Q (o :: rest) a w := by
  refine wpList_plain hgd fun K hK => ?_
  unfold Oper.wp
  simp [execOp, ho, resolve, invoke, builtin, hs, hx, hrun, Result.andThen]
  exact hK _ _ h

/-- Bytes written out in new memory. -/
theorem lit_bts (w : World) (l : List UInt8) (z : Nat × Nat) (hl : l.length ≤ maxLen) : Bts (w.alloc (.cells (bcells l).toArray 5 z)) (.slice (some ⟨w.heap.size, 0, none⟩) l.length l.length) l := by
  refine .inr ⟨⟨w.heap.size, 0, none⟩, l.length, rfl, Nat.le_refl _, hl, ?_⟩
  intro j u hj
  have : (w.alloc (.cells (bcells l).toArray 5 z)).cell? ((⟨w.heap.size, 0, none⟩ : Addr).add j) = (bcells l).toArray[j]? := by
    have hp : (⟨w.heap.size, 0, none⟩ : Addr).add j = ⟨w.heap.size, j, none⟩ := by unfold Addr.add; split <;> simp_all
    rw [hp]
    simp only [World.cell?, heap_alloc_new]
    rfl
  rw [this]; simpa using hj
end Go.Proofs.YtohndhmhgdelmaaDoor
