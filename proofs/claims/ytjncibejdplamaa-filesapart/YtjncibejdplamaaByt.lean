/- Bytes in memory (Byt.Bts, Byt.Own), one byte written over, Lend and Kept. -/
import Derived.Test.YtjncibejdplamaaRef1
import Derived.OwnWalk
import Derived.Deep.OwnRows
import Derived.Lib.SlBytesConst
import Derived.Deep.RegionHeldLaw
namespace Go.Proofs.Ytjncibejdplamaa.Byt
open Go.RowKit
set_option linter.unusedVariables false
set_option maxRecDepth 100000

def bcells (l : List UInt8) : List Value := l.map fun b => Value.int .u8 b.toNat
theorem bcells_length (l : List UInt8) : (bcells l).length = l.length := by simp [bcells]
theorem bcells_append (l m : List UInt8) : bcells (l ++ m) = bcells l ++ bcells m := by simp [bcells]
theorem bcells_get {l : List UInt8} {j : Nat} (h : j < l.length) : (bcells l)[j]? = some (.int .u8 (l[j].toNat)) := by simp [bcells, h]
theorem addr_block (a : Addr) (n : Nat) : (a.add n).block = a.block := by unfold Addr.add; split <;> rfl

/-- A slice that reads as these bytes. -/
def Bts (w : World) (v : Value) (l : List UInt8) : Prop :=
  (v = .slice none 0 0 ∧ l = []) ∨ ∃ a cap, v = .slice (some a) l.length cap ∧ l.length ≤ cap ∧ cap ≤ maxLen ∧ ∀ j u, (bcells l)[j]? = some u → w.cell? (a.add j) = some u

theorem Bts.kept {w w' : World} {v : Value} {l : List UInt8} (h : Bts w v l) (hk : ∀ i, i < w.heap.size → w'.heap[i]? = w.heap[i]?) : Bts w' v l := by
  rcases h with h | ⟨a, cap, h1, h2, h3, h4⟩
  · exact .inl h
  · refine .inr ⟨a, cap, h1, h2, h3, fun j u hj => ?_⟩
    have := h4 j u hj
    rw [← this]
    exact World.cell?_of_block (hk _ (World.block_lt_of_cell? w _ this))
theorem Bts.below {w w' : World} {v : Value} {l : List UInt8} (h : Bts w v l) (hk : Below w.heap.size w w') : Bts w' v l := h.kept hk.block

/-- The table of sums lies in the package's variable. -/
def tab : List Nat := [0, 498536548, 997073096, 651767980, 1994146192, 1802195444, 1303535960, 1342533948, 3988292384, 4027552580, 3604390888, 3412177804, 2607071920, 2262029012, 2685067896, 3183342108]
def Tab (w : World) : Prop := ∀ i, i < 16 → w.cell? ⟨0, i, none⟩ = some (.int .u32 (tab.getD i 0))
theorem Tab.kept {w w' : World} (h : Tab w) (hk : ∀ i, i < w.heap.size → w'.heap[i]? = w.heap[i]?) : Tab w' := fun i hi => by
  rw [← h i hi]
  exact World.cell?_of_block (hk _ (World.block_lt_of_cell? w _ (h i hi)))
theorem Tab.below {w w' : World} {b : Nat} (h : Tab w) (hb : w.heap.size ≤ b) (hk : Below b w w') : Tab w' := h.kept fun i hi => hk.block i (by omega)

/-! ### A row of bytes of one's own, and what is appended to it -/
theorem info5 : (Try.prog.info? 5).map (fun i => (i.zero, i.size, i.bytes)) = some (some (.int .u8 0), 1, 1) := by kernel_rfl

def Own (base : Nat) (w : World) (v : Value) (l : List UInt8) : Prop := w.ownsRow base 5 1 v l.length (bcells l)

theorem ownsRow_of_block {w w' : World} {base : Nat} {e : TypeId} {size : Nat} {v : Value} {n : Nat} {xs : List Value} (h : w.ownsRow base e size v n xs)
    (hk : ∀ g, v.ownBlock = some g → w'.heap[g]? = w.heap[g]?) : w'.ownsRow base e size v n xs := by
  refine ⟨h.1, ?_⟩
  rcases h.2 with hn | ⟨g, cap, cur, rfl, hb, hgg, rest⟩
  · exact .inl hn
  · exact .inr ⟨g, cap, cur, rfl, hb, by rw [hk g rfl]; exact hgg, rest⟩
theorem Own.of_block {w w' : World} {base : Nat} {v : Value} {l : List UInt8} (h : Own base w v l) (hk : ∀ g, v.ownBlock = some g → w'.heap[g]? = w.heap[g]?) : Own base w' v l := ownsRow_of_block h hk
theorem Own.lt {w : World} {base : Nat} {v : Value} {l : List UInt8} (h : Own base w v l) {g : Nat} (hg : v.ownBlock = some g) : base ≤ g ∧ g < w.heap.size := World.ownsRow.lt h g hg
theorem Own.kept {w w' : World} {base : Nat} {v : Value} {l : List UInt8} (h : Own base w v l) (hk : ∀ i, i < w.heap.size → w'.heap[i]? = w.heap[i]?) : Own base w' v l := h.of_block fun _ hg => hk _ (h.lt hg).2
theorem Own.alloc {w : World} {base : Nat} {v : Value} {l : List UInt8} (h : Own base w v l) (o : Obj) : Own base (w.alloc o) v l := h.kept fun i hi => Below.heap_alloc w o i hi
theorem Own.nil (w : World) (base : Nat) : Own base w (.slice none 0 0) [] := World.ownsRow_nil w base 5 1
theorem Own.bts {w : World} {base : Nat} {v : Value} {l : List UInt8} (h : Own base w v l) : Bts w v l := by
  rcases h.2 with ⟨h1, h2⟩ | ⟨g, cap, cur, h1, h2, h3, h4, h5, h6, h7⟩
  · exact .inl ⟨h1, List.eq_nil_of_length_eq_zero h2⟩
  · exact .inr ⟨⟨g, 0, none⟩, cap, h1, h4, h5, World.ownsRow.cells h (g := g) (by rw [h1]; rfl)⟩
theorem Own.slice {w : World} {base : Nat} {v : Value} {l : List UInt8} (h : Own base w v l) : ∃ a c, v = .slice a l.length c := by
  rcases h.2 with ⟨rfl, h2⟩ | ⟨g, cap, cur, rfl, _⟩
  · exact ⟨none, 0, by rw [h2]⟩
  · exact ⟨_, _, rfl⟩
theorem Bts.slice {w : World} {v : Value} {l : List UInt8} (h : Bts w v l) : ∃ a c, v = .slice a l.length c ∧ l.length ≤ c ∧ c ≤ maxLen := by
  rcases h with ⟨rfl, rfl⟩ | ⟨a, cap, rfl, h1, h2, _⟩
  · exact ⟨none, 0, rfl, Nat.le_refl _, by decide⟩
  · exact ⟨_, _, rfl, h1, h2⟩
theorem Bts.alloc {w : World} {v : Value} {l : List UInt8} (h : Bts w v l) (o : Obj) : Bts (w.alloc o) v l := h.kept fun i hi => Below.heap_alloc w o i hi
theorem Tab.alloc {w : World} (h : Tab w) (o : Obj) : Tab (w.alloc o) := h.kept fun i hi => Below.heap_alloc w o i hi
theorem Bts.drew {w : World} {v : Value} {l : List UInt8} (h : Bts w v l) : Bts w.drew v l := h
theorem Tab.drew {w : World} (h : Tab w) : Tab w.drew := h

/-- v' is v with more behind it: only v's own block has turned, and v' lies there or in new memory. -/
structure Apd (base : Nat) (w : World) (v : Value) (w' : World) (v' : Value) (l : List UInt8) : Prop where
  own : Own base w' v' l
  gr : w.grownBy w' v.ownBlock
  loc : ∀ g, v'.ownBlock = some g → v.ownBlock = some g ∨ w.heap.size ≤ g

theorem Apd.refl {base : Nat} {w : World} {v : Value} {l : List UInt8} (h : Own base w v l) : Apd base w v w v l := ⟨h, ⟨rfl, rfl, rfl, Nat.le_refl _, fun _ _ _ => rfl⟩, fun _ hg => .inl hg⟩
theorem Apd.trans {base : Nat} {w w1 w2 : World} {v v1 v2 : Value} {l1 l2 : List UInt8} (h : Apd base w v w1 v1 l1) (k : Apd base w1 v1 w2 v2 l2) : Apd base w v w2 v2 l2 := by
  refine ⟨k.own, ⟨k.gr.os.trans h.gr.os, k.gr.tape.trans h.gr.tape, k.gr.output.trans h.gr.output, Nat.le_trans h.gr.size k.gr.size, fun i hi hne => ?_⟩, fun g hg => ?_⟩
  · refine (k.gr.block i (Nat.lt_of_lt_of_le hi h.gr.size) fun e => ?_).trans (h.gr.block i hi hne)
    rcases h.loc i e.symm with h1 | h1
    · exact hne h1.symm
    · omega
  · rcases k.loc g hg with h1 | h1
    · exact h.loc g h1
    · exact .inr (Nat.le_trans h.gr.size h1)
theorem Apd.of_alloc {base : Nat} {w w' : World} {v v' : Value} {l : List UInt8} {o : Obj} (h : Apd base (w.alloc o) v w' v' l) : Apd base w v w' v' l := by
  refine ⟨h.own, ⟨h.gr.os, h.gr.tape, h.gr.output, by have := h.gr.size; simp at this; omega, fun i hi hne => ?_⟩, fun g hg => ?_⟩
  · exact (h.gr.block i (by simp; omega) hne).trans (Below.heap_alloc w o i hi)
  · rcases h.loc g hg with h1 | h1
    · exact .inl h1
    · right; simp at h1; omega
theorem Apd.below {base : Nat} {w w' : World} {v v' : Value} {l0 l : List UInt8} (h : Apd base w v w' v' l) (h0 : Own base w v l0) (hb : base ≤ w.heap.size) : Below base w w' :=
  (Below.refl base w).grown h.gr hb fun _ hk => (h0.lt hk).1
theorem Apd.new {base : Nat} {w w' : World} {v' : Value} {l : List UInt8} (h : Apd base w (.slice none 0 0) w' v' l) : (∀ i, i < w.heap.size → w'.heap[i]? = w.heap[i]?) ∧ (∀ g, v'.ownBlock = some g → w.heap.size ≤ g) :=
  ⟨fun i hi => h.gr.block i hi (by simp [Value.ownBlock]), fun g hg => (h.loc g hg).elim (fun h1 => by simp [Value.ownBlock] at h1) id⟩

theorem own_app {base : Nat} {w : World} {v : Value} {l : List UInt8} (ty : TypeId) (h : Own base w v l) {bv : Value} {m : List UInt8} (hs : Bts w bv m) (hn : l.length + m.length ≤ 140737488355328) (hbase : base ≤ w.heap.size) :
    ∃ v' w', (Builtin.append_ #[29, 29] ty #[v, bv]).run Try.prog w = .ok v' w' ∧ Apd base w v w' v' (l ++ m) := by
  obtain ⟨i0, hi, hz0, hz1, hz2⟩ := info_parts info5
  rcases hs with ⟨rfl, rfl⟩ | ⟨a, cap, rfl, _, _, hc⟩
  · exact ⟨v, w, run_append_owned_none w base 29 ty 5 i0 1 Try.underlying29 hi v _ _ h, Apd.refl (by simpa using h)⟩
  · obtain ⟨v', w', h1, h2, h3, _, h5⟩ := run_append_own_at w base 29 ty 5 i0 (.int .u8 0) 1 1 Try.underlying29 hi hz0 hz1 hz2 rfl (by decide) v _ _ h a m.length cap (bcells m) (by rw [bcells_length, Nat.mul_one]) hc
      (by intro u hu; simp [bcells] at hu; obtain ⟨x, _, rfl⟩ := hu; rfl) (by simp only [maxLen]; omega) (by omega) hbase
    refine ⟨v', w', h1, ?_, h3, fun g hg => ?_⟩
    · unfold Own
      rw [List.length_append, bcells_append]
      exact h2
    · rcases h5 with e | e
      · left; rw [← e]; exact hg
      · right; rw [e] at hg; cases hg; exact Nat.le_refl _

/-- An append whose run is known, as the next operation. -/
theorem wpList_append_run {P : Program} {ops : Array Oper} {rest : List Oper} {o : Oper} {a : Act} {w : World} {Q : Exit → Act → World → Prop} (hgd : o.guard = none) (s x : Operand) (t : TypeId)
    (ho : o.op = Op.call { callee := Callee.builtin Builtin.append, args := #[s, x], argTypes := #[t, t] }) (v bv v' : Value) (w' : World) (hs : a.eval s = v) (hx : a.eval x = bv)
    (hrun : (Builtin.append_ #[t, t] o.type #[v, bv]).run P w = .ok v' w') (h : wpList P ops Q rest (a.put o.dst v') w') : wpList P ops Q (o :: rest) a w := by
  refine wpList_plain hgd fun K hK => ?_
  unfold Oper.wp
  simp [execOp, ho, resolve, invoke, builtin, hs, hx, hrun, Result.andThen]
  exact hK _ _ h

/-- Bytes written out in new memory. -/
theorem lit_bts (w : World) (l : List UInt8) (z : Nat × Nat) (hl : l.length ≤ maxLen) : Bts (w.alloc (.cells (bcells l).toArray 5 z)) (.slice (some ⟨w.heap.size, 0, none⟩) l.length l.length) l := by
  refine .inr ⟨⟨w.heap.size, 0, none⟩, l.length, rfl, Nat.le_refl _, hl, ?_⟩
  intro j u hj
  have : (w.alloc (.cells (bcells l).toArray 5 z)).cell? ((⟨w.heap.size, 0, none⟩ : Addr).add j) = (bcells l).toArray[j]? := by
    have hp : (⟨w.heap.size, 0, none⟩ : Addr).add j = ⟨w.heap.size, j, none⟩ := by unfold Addr.add; split <;> simp_all
    rw [hp]
    simp only [World.cell?, heap_alloc_new]
    rfl
  rw [this]; simpa using hj

/-- One byte of a row of one's own is written over. -/
theorem own_store {base : Nat} {w : World} {v : Value} {l : List UInt8} (h : Own base w v l) {p : Nat} (hp : p < l.length) (y : UInt8) :
    ∃ g cap, v = .slice (some ⟨g, 0, none⟩) l.length cap ∧ base ≤ g ∧ w.cell? ⟨g, p, none⟩ = some (.int .u8 l[p].toNat) ∧ w.frozen? ⟨g, p, none⟩ = false ∧ Own base (w.setCell ⟨g, p, none⟩ (.int .u8 y.toNat)) v (l.set p y) := by
  rcases h.2 with ⟨_, h2⟩ | ⟨g, cap, cur, h1, h2, h3, h4, h5, h6, h7⟩
  · omega
  · have hc := World.ownsRow.cells h (g := g) (by rw [h1]; rfl) p _ (bcells_get hp)
    have hp' : (⟨g, 0, none⟩ : Addr).add p = ⟨g, p, none⟩ := by unfold Addr.add; split <;> simp_all
    rw [hp'] at hc
    refine ⟨g, cap, h1, h2, hc, by simp [World.frozen?, h3], ?_, .inr ⟨g, cap, cur.setIfInBounds p (.int .u8 y.toNat), by rw [h1, List.length_set], h2, ?_, by rw [List.length_set]; exact h4, h5, by rw [Array.size_setIfInBounds]; exact h6, ?_⟩⟩
    · simp [bcells]
    · simp [World.setCell, Array.getElem?_modify, h3]
    · rw [Nat.mul_one] at h7
      rw [List.length_set, Nat.mul_one, Array.toList_setIfInBounds, List.take_set, h7]
      simp [bcells, List.map_set]


theorem ofNat_toNat_map (l : List UInt8) : ((l.map fun b => (b.toNat : Int)).map fun n => UInt8.ofNat n.toNat) = l := by
  induction l with
  | nil => rfl
  | cons x r ih => simp only [List.map_cons, ih]; simp
theorem conv_bts {w : World} {bv : Value} {l : List UInt8} (hs : Bts w bv l) : (convert 29 9 bv).run Try.prog w = .ok (.string ⟨l.toArray⟩) w := by
  rcases hs with ⟨rfl, rfl⟩ | ⟨a, cap, rfl, _, _, hc⟩
  · exact run_convert_bytes_nil w 29 5 Try.underlying29 Try.underlying5 0 0 9 Try.underlying9
  · have hl : (loadCells a l.length).run Try.prog w = .ok ((l.map fun b => (b.toNat : Int)).map (Value.int .u8)).toArray w := by
      have e : (l.map fun b => (b.toNat : Int)).map (Value.int .u8) = bcells l := by simp [bcells]
      rw [e]
      have := run_loadCells_list (P := Try.prog) w a (bcells l) hc
      rw [bcells_length] at this
      exact this
    rw [run_convert_bytes_string w 29 9 5 _ l.length cap Try.underlying29 Try.underlying5 Try.underlying9, run_bytesToString w _ l.length cap _ hl, foldl_push_bytes, ofNat_toNat_map]
    simp [ByteArray.empty, ByteArray.emptyWithCapacity]
    rfl


theorem Bts.part {w : World} {a : Addr} {n cap : Nat} {l : List UInt8} (h2 : n ≤ l.length) (h3 : n ≤ cap) (h4 : cap ≤ maxLen) (h : ∀ j u, (bcells l)[j]? = some u → w.cell? (a.add j) = some u) : Bts w (.slice (some a) n cap) (l.take n) := by
  have hl : (l.take n).length = n := by simp; omega
  refine .inr ⟨a, cap, by rw [hl], by omega, h4, fun j u hj => h j u ?_⟩
  have : j < n := by
    rcases Nat.lt_or_ge j n with e | e
    · exact e
    · rw [List.getElem?_eq_none (by rw [bcells_length, hl]; exact e)] at hj; cases hj
  rw [← hj]
  simp [bcells, this]

theorem addr_add (a : Addr) (m j : Nat) (hm : m ≠ 0) : (a.add m).add j = a.add (m + j) := by
  unfold Addr.add
  split <;> simp_all <;> omega

theorem Bts.later {w : World} {a : Addr} {m n cap : Nat} {l : List UInt8} (hm : m ≠ 0) (h2 : m + n ≤ l.length) (h3 : m + n ≤ cap) (h4 : cap ≤ maxLen) (h : ∀ j u, (bcells l)[j]? = some u → w.cell? (a.add j) = some u) : Bts w (.slice (some (a.add m)) n (cap - m)) ((l.drop m).take n) := by
  refine Bts.part (by simp; omega) (by omega) (by omega) fun j u hj => ?_
  rw [addr_add _ _ _ hm]
  refine h (m + j) u ?_
  rw [← hj]
  simp [bcells]

theorem own_made (w : World) (n : Nat) (hn : n ≤ maxLen) : Own w.heap.size (w.alloc (.cells (madeCells #[.int .u8 0] n) 5)) (.slice (some ⟨w.heap.size, 0, none⟩) n n) (List.replicate n 0) := by
  refine ⟨by simp [bcells], .inr ⟨w.heap.size, n, madeCells #[.int .u8 0] n, by simp, Nat.le_refl _, heap_alloc_new w _, by simp, hn, by rw [size_madeCells, Nat.mul_one], ?_⟩⟩
  rw [List.length_replicate, Nat.mul_one, List.take_of_length_le (by simp [size_madeCells])]
  apply List.ext_getElem?
  intro i
  by_cases h : i < n
  · simp [madeCells, bcells, h, Nat.mod_one]
  · rw [List.getElem?_eq_none (by simp [size_madeCells]; omega), List.getElem?_eq_none (by simp [bcells]; omega)]

/-- What lies there behind k bytes. -/
def lent (l : List UInt8) (k : Nat) : List UInt8 := 165 :: (l.take k ++ (List.replicate (l.length - k) 0 ++ [90]))
theorem lent_zero (l : List UInt8) : ((List.replicate (l.length + 2) (0 : UInt8)).set 0 165).set (l.length + 1) 90 = lent l 0 := by
  unfold lent
  rw [List.replicate_succ, List.set_cons_zero, List.set_cons_succ, Nat.sub_zero, List.take_zero, List.nil_append, List.replicate_succ']
  congr 1
  rw [List.set_append, if_neg (by simp)]
  simp
theorem lent_succ {l : List UInt8} {k : Nat} (h : k < l.length) : (lent l k).set (k + 1) l[k] = lent l (k + 1) := by
  unfold lent
  rw [List.set_cons_succ]
  congr 1
  have hk : (l.take k).length = k := by simp; omega
  obtain ⟨m, hm⟩ : ∃ m, l.length - k = m + 1 := ⟨l.length - k - 1, by omega⟩
  rw [List.set_append, if_neg (by omega), hk, Nat.sub_self, hm, List.replicate_succ, List.cons_append, List.set_cons_zero, List.take_add_one, List.getElem?_eq_getElem h, show l.length - (k + 1) = m by omega, List.append_assoc]
  rfl
theorem lent_length (l : List UInt8) (k : Nat) (h : k ≤ l.length) : (lent l k).length = l.length + 2 := by
  unfold lent
  simp
  omega
theorem lent_all (l : List UInt8) : lent l l.length = 165 :: (l ++ [90]) := by
  unfold lent
  simp

set_option maxHeartbeats 2000000 in
theorem lend_any {w : World} {x : Value} {l : List UInt8} (h : Bts w x l) (hl : l.length ≤ 140737488351232) :
    Calls Try.prog 31 #[x] w fun e w' => e = .returned (.tuple #[.slice (some ⟨w.heap.size, 0, none⟩) (l.length + 2) (l.length + 2), .slice (some ⟨w.heap.size, 1, none⟩) l.length (l.length + 1)]) ∧
      Own w.heap.size w' (.slice (some ⟨w.heap.size, 0, none⟩) (l.length + 2) (l.length + 2)) (165 :: (l ++ [90])) ∧ Below w.heap.size w w' := by
  obtain ⟨i0, hi, hz0, hz1, hz2⟩ := info_parts info5
  have H : Hid (Bts w x l) := h
  obtain ⟨a, c, rfl, _, _⟩ := h.slice
  clear h
  obtain ⟨W0, mk, o0, b0⟩ : ∃ W0, (Instr.makeSlice 29 (.int .i64 ((l.length : Int) + 2)) (.int .i64 ((l.length : Int) + 2))).run Try.prog w = .ok (.slice (some ⟨w.heap.size, 0, none⟩) (l.length + 2) (l.length + 2)) W0 ∧
      Own w.heap.size W0 (.slice (some ⟨w.heap.size, 0, none⟩) (l.length + 2) (l.length + 2)) (List.replicate (l.length + 2) 0) ∧ Below w.heap.size w W0 :=
    ⟨_, by simpa using run_make_row (P := Try.prog) 29 5 i0 (.int .u8 0) Try.underlying29 hi hz0 hz1 rfl .i64 .i64 (l.length + 2) (by rw [hz2]; omega) (by omega) w, own_made w _ (by simp only [maxLen]; omega), (Below.refl _ w).alloc (Nat.le_refl _) _⟩
  obtain ⟨g1, k1, e1, hg1, c1, f1, o1⟩ := own_store o0 (p := 0) (by simp) 165
  simp only [Value.slice.injEq, Option.some.injEq, Addr.mk.injEq] at e1
  obtain ⟨⟨rfl, -, -⟩, -, -⟩ := e1
  obtain ⟨g2, k2, e2, hg2, c2, f2, o2⟩ := own_store o1 (p := l.length + 1) (by simp) 90
  simp only [Value.slice.injEq, Option.some.injEq, Addr.mk.injEq] at e2
  obtain ⟨⟨rfl, -, -⟩, -, -⟩ := e2
  rw [lent_zero] at o2
  have B2 : Hid (Below w.heap.size w ((W0.setCell ⟨w.heap.size, 0, none⟩ (.int .u8 165)).setCell ⟨w.heap.size, l.length + 1, none⟩ (.int .u8 90))) := (b0.setCell hg1 _).setCell hg2 _
  have O2 : Hid (Own w.heap.size ((W0.setCell ⟨w.heap.size, 0, none⟩ (.int .u8 165)).setCell ⟨w.heap.size, l.length + 1, none⟩ (.int .u8 90)) (.slice (some ⟨w.heap.size, 0, none⟩) (l.length + 2) (l.length + 2)) (lent l 0)) := o2
  generalize (List.replicate (l.length + 2) (0 : UInt8))[0].toNat = z1 at c1
  generalize (((List.replicate (l.length + 2) (0 : UInt8)).set 0 165)[l.length + 1]).toNat = z2 at c2
  have c1' : W0.cell? ⟨w.heap.size, 0, none⟩ = some (.int .u8 z1) := c1
  have c2' : (W0.setCell ⟨w.heap.size, 0, none⟩ (.int .u8 165)).cell? ⟨w.heap.size, l.length + 1, none⟩ = some (.int .u8 z2) := c2
  have f2' : (W0.setCell ⟨w.heap.size, 0, none⟩ (.int .u8 165)).frozen? ⟨w.heap.size, l.length + 1, none⟩ = false := f2
  clear o0 o1 o2 b0 c1 c2 f2
  go_enter Try.func31, Try.ntmps31
  go_wp2_with fail
  generalize (W0.setCell ⟨w.heap.size, 0, none⟩ (.int .u8 165)).setCell ⟨w.heap.size, l.length + 1, none⟩ (.int .u8 90) = W2 at *
  clear c1' c2' f2' mk f1
  go_loopw [20] (fun u20 wr => ∃ k : Nat, u20 = .int .i64 k ∧ k ≤ l.length ∧ Hid (Own w.heap.size wr (.slice (some ⟨w.heap.size, 0, none⟩) (l.length + 2) (l.length + 2)) (lent l k) ∧ Below w.heap.size w wr)) (fun u20 _ => l.length - (intOf u20).toNat)
  case atStart => exact ⟨0, rfl, by omega, O2.out, B2.out⟩
  case round =>
    obtain ⟨k, rfl, hk, HD⟩ := hrel
    clear O2 B2
    by_cases hlt : k < l.length
    · obtain ⟨oD, bD⟩ := HD.out
      obtain ⟨a', rfl, cx⟩ : ∃ a', a = some a' ∧ wr.cell? (a'.add k) = some (.int .u8 l[k].toNat) := by
        rcases H.out.below bD with ⟨_, h1⟩ | ⟨a', cap, h1, _, _, h4⟩
        · rw [h1] at hlt; simp at hlt
        · simp only [Value.slice.injEq] at h1
          exact ⟨a', h1.1, h4 k _ (bcells_get hlt)⟩
      have hp1 : k + 1 < (lent l k).length := by rw [lent_length l k hk]; omega
      obtain ⟨g1, k1, e1, hg1, c1, f1, o1⟩ := own_store oD (p := k + 1) hp1 l[k]
      simp only [Value.slice.injEq, Option.some.injEq, Addr.mk.injEq] at e1
      obtain ⟨⟨rfl, -, -⟩, -, -⟩ := e1
      rw [lent_succ hlt] at o1
      have HE : Hid (Own w.heap.size (wr.setCell ⟨w.heap.size, k + 1, none⟩ (.int .u8 l[k].toNat)) (.slice (some ⟨w.heap.size, 0, none⟩) (l.length + 2) (l.length + 2)) (lent l (k + 1)) ∧ Below w.heap.size w (wr.setCell ⟨w.heap.size, k + 1, none⟩ (.int .u8 l[k].toNat))) := ⟨o1, bD.setCell hg1 _⟩
      generalize (lent l k)[k + 1].toNat = z at c1
      generalize l[k].toNat = y at *
      clear HD oD bD o1
      go_wp2
      go_roundw
      case rel => exact ⟨k + 1, by go_num, by omega, HE⟩
      case measure => simp [intOf]; omega
    · have HE : Hid (Own w.heap.size wr (.slice (some ⟨w.heap.size, 0, none⟩) (l.length + 2) (l.length + 2)) (165 :: (l ++ [90])) ∧ Below w.heap.size w wr) := by
        have h1 := HD.out
        rw [show k = l.length by omega, lent_all] at h1
        exact h1
      clear HD
      have j1 : (l.length : Int) + 1 ≤ (l.length : Int) + 2 := by omega
      have j2 : (1 : Int) ≤ (l.length : Int) + 1 := by omega
      have j3 : l.length + 1 ≤ l.length + 2 := by omega
      have j4 : (0 : Int) ≤ (l.length : Int) + 1 := by omega
      have q1 : IntKind.i64.wrap ((l.length : Int) + 1) = (l.length : Int) + 1 := by rw [IntKind.wrap_i64]; omega
      go_wp2
      go_region
      go_wp2
      go_ret2
      exact ⟨rfl, HE.out.1, HE.out.2.drew⟩

theorem lent_get (l : List UInt8) : (bcells (165 :: (l ++ [90])))[0]? = some (.int .u8 165) ∧ (bcells (165 :: (l ++ [90])))[l.length + 1]? = some (.int .u8 90) := by
  constructor
  · rfl
  · simp [bcells]
theorem lent_part {w : World} {b : Nat} {l : List UInt8} (h : Own b w (.slice (some ⟨b, 0, none⟩) (l.length + 2) (l.length + 2)) (165 :: (l ++ [90]))) (hl : l.length ≤ 140737488351232) : Bts w (.slice (some ⟨b, 1, none⟩) l.length (l.length + 1)) l := by
  have hc := World.ownsRow.cells h (g := b) rfl
  have := Bts.later (w := w) (a := ⟨b, 0, none⟩) (m := 1) (n := l.length) (cap := l.length + 2) (l := 165 :: (l ++ [90])) (by decide) (by simp; omega) (by omega) (by simp only [maxLen]; omega) hc
  simpa [Addr.add] using this

set_option maxHeartbeats 2000000 in
theorem kept_any {w : World} {b : Nat} {x : Value} {l : List UInt8} (h : Bts w x l) (ho : Own b w (.slice (some ⟨b, 0, none⟩) (l.length + 2) (l.length + 2)) (165 :: (l ++ [90]))) (hl : l.length ≤ 140737488351232) :
    Calls Try.prog 34 #[.slice (some ⟨b, 0, none⟩) (l.length + 2) (l.length + 2), x] w fun e w' => e = .returned (.bool true) ∧ w' = w.drew := by
  have hc := World.ownsRow.cells ho (g := b) rfl
  have c0 : w.cell? ⟨b, 0, none⟩ = some (.int .u8 165) := by simpa [Addr.add] using hc 0 _ (lent_get l).1
  have c1 : w.cell? ⟨b, l.length + 1, none⟩ = some (.int .u8 90) := by simpa [Addr.add] using hc (l.length + 1) _ (lent_get l).2
  have v1 := conv_bts (w := w.drew) (h.kept fun i _ => rfl)
  have v2 := conv_bts (w := w.drew) ((lent_part ho hl).kept fun i _ => rfl)
  obtain ⟨a, c, rfl, _, _⟩ := h.slice
  generalize (ByteArray.mk l.toArray) = s at v1 v2
  generalize l.length = n at *
  clear h ho hc
  have j1 : (n : Int) + 1 ≤ (n : Int) + 2 := by omega
  have j2 : (1 : Int) ≤ (n : Int) + 1 := by omega
  have j3 : n + 1 ≤ n + 2 := by omega
  have j4 : (0 : Int) ≤ (n : Int) + 1 := by omega
  have j5 : (n : Int) + 1 < (n : Int) + 2 := by omega
  have q1 : IntKind.i64.wrap ((n : Int) + 1) = (n : Int) + 1 := by rw [IntKind.wrap_i64]; omega
  have q2 : IntKind.i64.wrap ((n : Int) + 2) = (n : Int) + 2 := by rw [IntKind.wrap_i64]; omega
  go_enter Try.func34, Try.ntmps34
  go_wp2
  go_region_held_law (fun w' => w'.cell? ⟨b, 0, none⟩ = some (.int .u8 165) ∧ w'.cell? ⟨b, n + 1, none⟩ = some (.int .u8 90)) (exact ⟨c0, c1⟩) (fail)
  all_goals go_wp2
  all_goals go_ret
  all_goals exact ⟨by simp, rfl⟩
end Go.Proofs.Ytjncibejdplamaa.Byt
