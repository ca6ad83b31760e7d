/- Cells, changes and groups of them in memory, and rows of one's own that they are appended to; no walk. -/
import Derived.Test.YtohndhmhgdelmaaDoorOpPure
namespace Go.Proofs.YtohndhmhgdelmaaDoor
open Go.RowKit

abbrev cellV (c : CellT) : Value := .agg #[.int .i64 c.row, .int .i64 c.col, .string c.text]
abbrev nameV (x : NameT) : Value := .agg #[.string x.scope, .string x.name, .string x.text]
abbrev valV (v : ValT) : Value := .agg #[.int .i64 v.kind, .int .i64 v.n, .string v.s]
abbrev linkV (x : LinkT) : Value := .agg #[.string x.book, .string x.sheet, .int .i64 x.row, .int .i64 x.col, .int .i64 x.value.kind, .int .i64 x.value.n, .string x.value.s]
abbrev opV (o : OpT) (cv : Value) : Value := .agg #[.int .i64 o.kind, .string o.book, .string o.sheet, .int .i64 o.at1, .int .i64 o.n, .int .i64 o.row, .int .i64 o.col, .string o.text, .string o.name.scope, .string o.name.name, .string o.name.text,
  .string o.link.book, .string o.link.sheet, .int .i64 o.link.row, .int .i64 o.link.col, .int .i64 o.link.value.kind, .int .i64 o.link.value.n, .string o.link.value.s, cv]
def cellC (c : CellT) : List Value := [.int .i64 c.row, .int .i64 c.col, .string c.text]
def opC (o : OpT) (cv : Value) : List Value := [.int .i64 o.kind, .string o.book, .string o.sheet, .int .i64 o.at1, .int .i64 o.n, .int .i64 o.row, .int .i64 o.col, .string o.text, .string o.name.scope, .string o.name.name, .string o.name.text,
  .string o.link.book, .string o.link.sheet, .int .i64 o.link.row, .int .i64 o.link.col, .int .i64 o.link.value.kind, .int .i64 o.link.value.n, .string o.link.value.s, cv]

/-- A slice of n elements of sz cells each, that hold C; it lies in the blocks from lo to hi. -/
def Rws (lo hi sz : Nat) (w : World) (v : Value) (n : Nat) (C : Nat → List Value) : Prop :=
  (v = .slice none 0 0 ∧ n = 0) ∨ ∃ a cap, v = .slice (some a) n cap ∧ n ≤ cap ∧ cap ≤ maxLen ∧ (0 < n → lo ≤ a.block ∧ a.block < hi) ∧ ∀ j i u, j < n → (C j)[i]? = some u → w.cell? (a.add (j * sz + i)) = some u
theorem Rws.kept {lo hi sz : Nat} {w w' : World} {v : Value} {n : Nat} {C : Nat → List Value} (h : Rws lo hi sz w v n C) (hk : ∀ i, lo ≤ i → i < hi → w'.heap[i]? = w.heap[i]?) : Rws lo hi sz w' v n C := by
  rcases h with h | ⟨a, cap, h1, h2, h3, h4, h5⟩
  · exact .inl h
  · refine .inr ⟨a, cap, h1, h2, h3, h4, fun j i u hj hu => ?_⟩
    rw [← h5 j i u hj hu]
    obtain ⟨q1, q2⟩ := h4 (by omega)
    exact World.cell?_of_block (hk _ (by rw [addr_block]; exact q1) (by rw [addr_block]; exact q2))
theorem Rws.mono {lo hi lo' hi' sz : Nat} {w : World} {v : Value} {n : Nat} {C : Nat → List Value} (h : Rws lo hi sz w v n C) (h1 : lo' ≤ lo) (h2 : hi ≤ hi') : Rws lo' hi' sz w v n C := by
  rcases h with h | ⟨a, cap, g1, g2, g3, g4, g5⟩
  · exact .inl h
  · exact .inr ⟨a, cap, g1, g2, g3, fun hn => by have := g4 hn; omega, g5⟩
theorem Rws.slice {lo hi sz : Nat} {w : World} {v : Value} {n : Nat} {C : Nat → List Value} (h : Rws lo hi sz w v n C) : ∃ a c, v = .slice a n c ∧ n ≤ c ∧ c ≤ maxLen := by
  rcases h with ⟨rfl, rfl⟩ | ⟨a, cap, rfl, h1, h2, _⟩
  · exact ⟨none, 0, rfl, Nat.le_refl _, by decide⟩
  · exact ⟨_, _, rfl, h1, h2⟩
theorem Rws.congr {lo hi sz : Nat} {w : World} {v : Value} {n : Nat} {C D : Nat → List Value} (h : Rws lo hi sz w v n C) (hc : ∀ j, j < n → D j = C j) : Rws lo hi sz w v n D := by
  rcases h with h | ⟨a, cap, g1, g2, g3, g4, g5⟩
  · exact .inl h
  · exact .inr ⟨a, cap, g1, g2, g3, g4, fun j i u hj hu => g5 j i u hj (by rw [← hc j hj]; exact hu)⟩
theorem Rws.hiBound {lo hi sz : Nat} {w : World} {v : Value} {n : Nat} {C : Nat → List Value} (h : Rws lo hi sz w v n C) (hsz : ∀ j, j < n → C j ≠ []) : Rws lo w.heap.size sz w v n C := by
  rcases h with h | ⟨a, cap, g1, g2, g3, g4, g5⟩
  · exact .inl h
  · refine .inr ⟨a, cap, g1, g2, g3, fun hn => ⟨(g4 hn).1, ?_⟩, g5⟩
    obtain ⟨x, t, e⟩ := List.exists_cons_of_ne_nil (hsz 0 hn)
    have := World.block_lt_of_cell? w _ (g5 0 0 x hn (by rw [e]; rfl))
    rwa [addr_block] at this
theorem Rws.take {lo hi sz : Nat} {w : World} {a : Option Addr} {n c m : Nat} {C : Nat → List Value} (h : Rws lo hi sz w (.slice a n c) n C) (hm : m ≤ n) : Rws lo hi sz w (.slice a m c) m C := by
  rcases h with ⟨e1, e2⟩ | ⟨a', cap, g1, g2, g3, g4, g5⟩
  · cases e1
    exact .inl ⟨by have : m = 0 := by omega
                   rw [this], by omega⟩
  · cases g1
    exact .inr ⟨a', _, rfl, by omega, g3, fun h0 => g4 (by omega), fun j i u hj => g5 j i u (by omega)⟩

def Cls (lo hi : Nat) (w : World) (v : Value) (L : List CellT) : Prop := Rws lo hi 3 w v L.length fun j => (L[j]?.map cellC).getD []
def Opl (lo hi : Nat) (w : World) (v : Value) (L : List OpT) : Prop := ∃ cv : Nat → Value, Rws lo hi 19 w v L.length (fun j => (L[j]?.map fun o => opC o (cv j)).getD []) ∧ ∀ j o, L[j]? = some o → Cls lo hi w (cv j) o.cells
def Gps (lo hi : Nat) (w : World) (v : Value) (L : List (List OpT)) : Prop := ∃ gv : Nat → Value, Rws lo hi 1 w v L.length (fun j => [gv j]) ∧ ∀ j g, L[j]? = some g → Opl lo hi w (gv j) g

section
variable {lo hi : Nat} {w w' : World} {v : Value}
theorem Cls.kept {L : List CellT} (h : Cls lo hi w v L) (hk : ∀ i, lo ≤ i → i < hi → w'.heap[i]? = w.heap[i]?) : Cls lo hi w' v L := Rws.kept h hk
theorem Opl.kept {L : List OpT} (h : Opl lo hi w v L) (hk : ∀ i, lo ≤ i → i < hi → w'.heap[i]? = w.heap[i]?) : Opl lo hi w' v L := by
  obtain ⟨cv, h1, h2⟩ := h
  exact ⟨cv, h1.kept hk, fun j o hj => (h2 j o hj).kept hk⟩
theorem Gps.kept {L : List (List OpT)} (h : Gps lo hi w v L) (hk : ∀ i, lo ≤ i → i < hi → w'.heap[i]? = w.heap[i]?) : Gps lo hi w' v L := by
  obtain ⟨cv, h1, h2⟩ := h
  exact ⟨cv, h1.kept hk, fun j o hj => (h2 j o hj).kept hk⟩
theorem Cls.mono {L : List CellT} {lo' hi' : Nat} (h : Cls lo hi w v L) (h1 : lo' ≤ lo) (h2 : hi ≤ hi') : Cls lo' hi' w v L := Rws.mono h h1 h2
theorem Opl.mono {L : List OpT} {lo' hi' : Nat} (h : Opl lo hi w v L) (h1 : lo' ≤ lo) (h2 : hi ≤ hi') : Opl lo' hi' w v L := by
  obtain ⟨cv, g1, g2⟩ := h
  exact ⟨cv, g1.mono h1 h2, fun j o hj => (g2 j o hj).mono h1 h2⟩
theorem Gps.mono {L : List (List OpT)} {lo' hi' : Nat} (h : Gps lo hi w v L) (h1 : lo' ≤ lo) (h2 : hi ≤ hi') : Gps lo' hi' w v L := by
  obtain ⟨cv, g1, g2⟩ := h
  exact ⟨cv, g1.mono h1 h2, fun j o hj => (g2 j o hj).mono h1 h2⟩
theorem Cls.below {base : Nat} {L : List CellT} (h : Cls lo hi w v L) (hh : hi ≤ base) (hb : Below base w w') : Cls lo hi w' v L := h.kept fun i _ hi => hb.block i (by omega)
theorem Opl.below {base : Nat} {L : List OpT} (h : Opl lo hi w v L) (hh : hi ≤ base) (hb : Below base w w') : Opl lo hi w' v L := h.kept fun i _ hi => hb.block i (by omega)
theorem Gps.below {base : Nat} {L : List (List OpT)} (h : Gps lo hi w v L) (hh : hi ≤ base) (hb : Below base w w') : Gps lo hi w' v L := h.kept fun i _ hi => hb.block i (by omega)
theorem Opl.slice {L : List OpT} (h : Opl lo hi w v L) : ∃ a c, v = .slice a L.length c ∧ L.length ≤ c ∧ c ≤ maxLen := by
  obtain ⟨_, h, _⟩ := h
  exact h.slice
theorem Gps.slice {L : List (List OpT)} (h : Gps lo hi w v L) : ∃ a c, v = .slice a L.length c ∧ L.length ≤ c ∧ c ≤ maxLen := by
  obtain ⟨_, h, _⟩ := h
  exact h.slice
theorem Cls.slice {L : List CellT} (h : Cls lo hi w v L) : ∃ a c, v = .slice a L.length c ∧ L.length ≤ c ∧ c ≤ maxLen := Rws.slice h
theorem Opl.nil (w : World) (lo hi : Nat) : Opl lo hi w (.slice none 0 0) [] := ⟨fun _ => .slice none 0 0, .inl ⟨rfl, rfl⟩, fun j o hj => by simp at hj⟩
theorem Gps.nil (w : World) (lo hi : Nat) : Gps lo hi w (.slice none 0 0) [] := ⟨fun _ => .slice none 0 0, .inl ⟨rfl, rfl⟩, fun j o hj => by simp at hj⟩
theorem Cls.nil (w : World) (lo hi : Nat) : Cls lo hi w (.slice none 0 0) [] := .inl ⟨rfl, rfl⟩
end

/-- An element's cells, as a walk reads them. -/
theorem off_add (a : Addr) (m i : Nat) (hi : 0 < i) : (⟨(a.add m).block, (a.add m).off + i, none⟩ : Addr) = a.add (m + i) := by
  unfold Addr.add
  by_cases hm : m = 0
  · subst hm
    simp; omega
  · simp [hm]; omega
theorem Rws.at {lo hi sz : Nat} {w : World} {a : Option Addr} {n c : Nat} {C : Nat → List Value} (h : Rws lo hi sz w (.slice a n c) n C) {k : Nat} (hk : k < n) :
    ∃ a', a = some a' ∧ (∀ u, (C k)[0]? = some u → w.cell? (a'.add (k * sz)) = some u) ∧ ∀ i u, 0 < i → (C k)[i]? = some u → w.cell? ⟨(a'.add (k * sz)).block, (a'.add (k * sz)).off + i, none⟩ = some u := by
  rcases h with ⟨_, e2⟩ | ⟨a', cap, g1, g2, g3, g4, g5⟩
  · omega
  · cases g1
    refine ⟨a', rfl, fun u hu => by simpa using g5 k 0 u hk hu, fun i u hi hu => ?_⟩
    rw [off_add _ _ _ hi]
    exact g5 k i u hk hu

/-! ### A row of elements of one's own -/
def OwnR (base : Nat) (t : TypeId) (sz : Nat) (w : World) (v : Value) (n : Nat) (C : Nat → List Value) : Prop :=
  ∃ xs, w.ownsRow base t sz v n xs ∧ ∀ j i u, j < n → (C j)[i]? = some u → xs[j * sz + i]? = some u
section
variable {base : Nat} {t : TypeId} {sz : Nat} {w w' : World} {v : Value} {n : Nat} {C : Nat → List Value}
theorem OwnR.lt (h : OwnR base t sz w v n C) {g : Nat} (hg : v.ownBlock = some g) : base ≤ g ∧ g < w.heap.size := by
  obtain ⟨xs, h, _⟩ := h
  exact World.ownsRow.lt h g hg
theorem OwnR.of_block (h : OwnR base t sz w v n C) (hk : ∀ g, v.ownBlock = some g → w'.heap[g]? = w.heap[g]?) : OwnR base t sz w' v n C := by
  obtain ⟨xs, h1, h2⟩ := h
  exact ⟨xs, ownsRow_of_block h1 hk, h2⟩
theorem OwnR.nil (w : World) (base : Nat) (t : TypeId) (sz : Nat) (C : Nat → List Value) : OwnR base t sz w (.slice none 0 0) 0 C := ⟨[], World.ownsRow_nil w base t sz, fun j i u hj => by omega⟩
theorem OwnR.rws (h : OwnR base t sz w v n C) : Rws base w.heap.size sz w v n C := by
  obtain ⟨xs, h1, h2⟩ := h
  rcases h1.2 with ⟨e1, e2⟩ | ⟨g, cap, cur, rfl, hb, _, h4, h5, _, _⟩
  · exact .inl ⟨e1, e2⟩
  · have hlt := World.ownsRow.lt h1 g rfl
    refine .inr ⟨⟨g, 0, none⟩, cap, rfl, h4, h5, fun _ => hlt, fun j i u hj hu => ?_⟩
    exact World.ownsRow.cells h1 (g := g) rfl _ _ (h2 j i u hj hu)
theorem OwnR.own (h : OwnR base t sz w v n C) {g : Nat} (hg : v.ownBlock = some g) : Rws g (g + 1) sz w v n C := by
  obtain ⟨xs, h1, h2⟩ := h
  rcases h1.2 with ⟨e1, e2⟩ | ⟨g', cap, cur, rfl, hb, _, h4, h5, _, _⟩
  · exact .inl ⟨e1, e2⟩
  · cases hg
    refine .inr ⟨⟨_, 0, none⟩, cap, rfl, h4, h5, fun _ => ⟨Nat.le_refl _, Nat.lt_succ_self _⟩, fun j i u hj hu => ?_⟩
    exact World.ownsRow.cells h1 rfl _ _ (h2 j i u hj hu)
end

/-- One element more. -/
theorem row_app {base : Nat} {t st : TypeId} {sz bytes : Nat} {zv : Value} {w : World} {v : Value} {n : Nat} {C : Nat → List Value} (hst : Tryd.prog.underlying st = some (.slice t)) (hinf : (Tryd.prog.info? t).map (fun i => (i.zero, i.size, i.bytes)) = some (some zv, sz, bytes)) (hzs : zv.cells.size = sz) (hsz : 0 < sz)
    (h : OwnR base t sz w v n C) {b : Nat} {es : List Value} {z : Nat × Nat} (hbx : w.heap[b]? = some (.cells es.toArray t z)) (hel : es.length = sz) (h1 : ∀ u ∈ es, u.oneCell' = true) (hn : (n + 1) * bytes ≤ 140737488355328) (hn2 : n + 1 ≤ 1099511627776) (hbase : base ≤ w.heap.size) :
    ∃ v' w', (Builtin.append_ #[st, st] st #[v, .slice (some ⟨b, 0, none⟩) 1 1]).run Tryd.prog w = .ok v' w' ∧ OwnR base t sz w' v' (n + 1) (fun j => if j = n then es else C j) ∧ w.grownBy w' v.ownBlock ∧ Below base w w' ∧
      (∀ g, v'.ownBlock = some g → v.ownBlock = some g ∨ w.heap.size ≤ g) := by
  obtain ⟨i0, hi, hz0, hz1, hz2⟩ := info_parts hinf
  obtain ⟨xs, hx, hC⟩ := h
  have hadd : ∀ k, (⟨b, 0, none⟩ : Addr).add k = ⟨b, k, none⟩ := fun k => by unfold Addr.add; split <;> simp_all
  obtain ⟨v', w', r1, o1, g1, _, l1⟩ := run_append_own_at w base st st t i0 zv sz bytes hst hi hz0 hz1 hz2 hzs hsz v _ xs hx ⟨b, 0, none⟩ 1 1 es (by rw [hel]; omega)
    (fun j u hj => by rw [hadd, cell_of_row w b j _ _ _ hbx, ← hj]; simp) h1 (by simp only [maxLen]; omega) hn hbase
  have hxl := hx.1
  refine ⟨v', w', r1, ⟨xs ++ es, o1, fun j i u hj hu => ?_⟩, g1, (Below.refl base w).grown g1 hbase fun _ hk => (World.ownsRow.lt hx _ hk).1, fun g hg => ?_⟩
  · dsimp only at hu
    by_cases hjn : j = n
    · rw [if_pos hjn] at hu
      subst hjn
      rw [List.getElem?_append_right (by omega), hxl, show j * sz + i - j * sz = i by omega]
      exact hu
    · rw [if_neg hjn] at hu
      have := hC j i u (by omega) hu
      have hlt : j * sz + i < xs.length := by
        rcases Nat.lt_or_ge (j * sz + i) xs.length with h | h
        · exact h
        · rw [List.getElem?_eq_none h] at this; cases this
      rw [List.getElem?_append_left hlt]
      exact this
  · rcases l1 with e | e
    · left; rw [← e]; exact hg
    · right; rw [e] at hg; cases hg; exact Nat.le_refl _

theorem inf101 : (Tryd.prog.info? 101).map (fun i => (i.zero, i.size, i.bytes)) = some (some (.agg #[.int .i64 0, .int .i64 0, .string ⟨#[]⟩]), 3, 32) := by kernel_rfl
abbrev strE : Value := .string ⟨#[]⟩
abbrev int0 : Value := .int .i64 0
theorem inf84 : (Tryd.prog.info? 84).map (fun i => (i.zero, i.size, i.bytes)) = some (some (.agg #[int0, strE, strE, int0, int0, int0, int0, strE, strE, strE, strE, strE, strE, int0, int0, int0, int0, strE, .slice none 0 0]), 19, 240) := by kernel_rfl
theorem inf37 : (Tryd.prog.info? 37).map (fun i => (i.zero, i.size, i.bytes)) = some (some (.slice none 0 0), 1, 24) := by kernel_rfl
end Go.Proofs.YtohndhmhgdelmaaDoor
