/- SMem, SFun. -/
import Derived.Test.YtpafokmkcblcnaaGreatDoorSPureCr
import Derived.WalkKit
import Derived.Below
import Derived.Maps.AppendAt
import Derived.OwnWalk
import Derived.Deep.WholeRow
import Derived.Deep.Slices
import Derived.Deep.MidRow
import Derived.Laws.Rows
set_option linter.unusedVariables false
set_option linter.unusedSimpArgs false
namespace Go.Proofs.YtpafokmkcblcnaaGreatDoor.Sh
open Go.RowKit
set_option maxRecDepth 100000
abbrev strE : Value := .string ⟨#[]⟩
abbrev int0 : Value := .int .i64 0
theorem addr_block (a : Addr) (n : Nat) : (a.add n).block = a.block := by unfold Addr.add; split <;> rfl

theorem ownsRow_of_block {w w' : World} {base : Nat} {e : TypeId} {size : Nat} {v : Value} {n : Nat} {xs : List Value} (h : w.ownsRow base e size v n xs)
    (hk : ∀ g, v.ownBlock = some g → w'.heap[g]? = w.heap[g]?) : w'.ownsRow base e size v n xs := by
  refine ⟨h.1, ?_⟩
  rcases h.2 with hn | ⟨g, cap, cur, rfl, hb, hgg, rest⟩
  · exact .inl hn
  · exact .inr ⟨g, cap, cur, rfl, hb, by rw [hk g rfl]; exact hgg, rest⟩
abbrev cellV (c : CellT) : Value := .agg #[.int .i64 c.row, .int .i64 c.col, .string c.text]
abbrev nameV (x : NameT) : Value := .agg #[.string x.scope, .string x.name, .string x.text]
abbrev valV (v : ValT) : Value := .agg #[.int .i64 v.kind, .int .i64 v.n, .string v.s]
abbrev linkV (x : LinkT) : Value := .agg #[.string x.book, .string x.sheet, .int .i64 x.row, .int .i64 x.col, .int .i64 x.value.kind, .int .i64 x.value.n, .string x.value.s]
def cellC (c : CellT) : List Value := [.int .i64 c.row, .int .i64 c.col, .string c.text]
def Rws (lo hi sz : Nat) (w : World) (v : Value) (n : Nat) (C : Nat → List Value) : Prop :=
  (v = .slice none 0 0 ∧ n = 0) ∨ ∃ a cap, v = .slice (some a) n cap ∧ n ≤ cap ∧ cap ≤ maxLen ∧ (0 < n → lo ≤ a.block ∧ a.block < hi) ∧ ∀ j i u, j < n → (C j)[i]? = some u → w.cell? (a.add (j * sz + i)) = some u
theorem Rws.kept {lo hi sz : Nat} {w w' : World} {v : Value} {n : Nat} {C : Nat → List Value} (h : Rws lo hi sz w v n C) (hk : ∀ i, lo ≤ i → i < hi → w'.heap[i]? = w.heap[i]?) : Rws lo hi sz w' v n C := by
  rcases h with h | ⟨a, cap, h1, h2, h3, h4, h5⟩
  · exact .inl h
  · refine .inr ⟨a, cap, h1, h2, h3, h4, fun j i u hj hu => ?_⟩
    rw [← h5 j i u hj hu]
    obtain ⟨q1, q2⟩ := h4 (by omega)
    exact World.cell?_of_block (hk _ (by rw [addr_block]; exact q1) (by rw [addr_block]; exact q2))
theorem Rws.mono {lo hi lo' hi' sz : Nat} {w : World} {v : Value} {n : Nat} {C : Nat → List Value} (h : Rws lo hi sz w v n C) (h1 : lo' ≤ lo) (h2 : hi ≤ hi') : Rws lo' hi' sz w v n C := by
  rcases h with h | ⟨a, cap, g1, g2, g3, g4, g5⟩
  · exact .inl h
  · exact .inr ⟨a, cap, g1, g2, g3, fun hn => by have := g4 hn; omega, g5⟩
theorem Rws.slice {lo hi sz : Nat} {w : World} {v : Value} {n : Nat} {C : Nat → List Value} (h : Rws lo hi sz w v n C) : ∃ a c, v = .slice a n c ∧ n ≤ c ∧ c ≤ maxLen := by
  rcases h with ⟨rfl, rfl⟩ | ⟨a, cap, rfl, h1, h2, _⟩
  · exact ⟨none, 0, rfl, Nat.le_refl _, by decide⟩
  · exact ⟨_, _, rfl, h1, h2⟩
theorem Rws.congr {lo hi sz : Nat} {w : World} {v : Value} {n : Nat} {C D : Nat → List Value} (h : Rws lo hi sz w v n C) (hc : ∀ j, j < n → D j = C j) : Rws lo hi sz w v n D := by
  rcases h with h | ⟨a, cap, g1, g2, g3, g4, g5⟩
  · exact .inl h
  · exact .inr ⟨a, cap, g1, g2, g3, g4, fun j i u hj hu => g5 j i u hj (by rw [← hc j hj]; exact hu)⟩
theorem Rws.take {lo hi sz : Nat} {w : World} {a : Option Addr} {n c m : Nat} {C : Nat → List Value} (h : Rws lo hi sz w (.slice a n c) n C) (hm : m ≤ n) : Rws lo hi sz w (.slice a m c) m C := by
  rcases h with ⟨e1, e2⟩ | ⟨a', cap, g1, g2, g3, g4, g5⟩
  · cases e1
    exact .inl ⟨by have : m = 0 := by omega
                   rw [this], by omega⟩
  · cases g1
    exact .inr ⟨a', _, rfl, by omega, g3, fun h0 => g4 (by omega), fun j i u hj => g5 j i u (by omega)⟩

def Cls (lo hi : Nat) (w : World) (v : Value) (L : List CellT) : Prop := Rws lo hi 3 w v L.length fun j => (L[j]?.map cellC).getD []
section
variable {lo hi : Nat} {w w' : World} {v : Value}
theorem Cls.kept {L : List CellT} (h : Cls lo hi w v L) (hk : ∀ i, lo ≤ i → i < hi → w'.heap[i]? = w.heap[i]?) : Cls lo hi w' v L := Rws.kept h hk
theorem Cls.mono {L : List CellT} {lo' hi' : Nat} (h : Cls lo hi w v L) (h1 : lo' ≤ lo) (h2 : hi ≤ hi') : Cls lo' hi' w v L := Rws.mono h h1 h2
theorem Cls.below {base : Nat} {L : List CellT} (h : Cls lo hi w v L) (hh : hi ≤ base) (hb : Below base w w') : Cls lo hi w' v L := h.kept fun i _ hi => hb.block i (by omega)
theorem Cls.slice {L : List CellT} (h : Cls lo hi w v L) : ∃ a c, v = .slice a L.length c ∧ L.length ≤ c ∧ c ≤ maxLen := Rws.slice h
theorem Cls.nil (w : World) (lo hi : Nat) : Cls lo hi w (.slice none 0 0) [] := .inl ⟨rfl, rfl⟩
end

theorem off_add (a : Addr) (m i : Nat) (hi : 0 < i) : (⟨(a.add m).block, (a.add m).off + i, none⟩ : Addr) = a.add (m + i) := by
  unfold Addr.add
  by_cases hm : m = 0
  · subst hm
    simp; omega
  · simp [hm]; omega
theorem Rws.at {lo hi sz : Nat} {w : World} {a : Option Addr} {n c : Nat} {C : Nat → List Value} (h : Rws lo hi sz w (.slice a n c) n C) {k : Nat} (hk : k < n) :
    ∃ a', a = some a' ∧ (∀ u, (C k)[0]? = some u → w.cell? (a'.add (k * sz)) = some u) ∧ ∀ i u, 0 < i → (C k)[i]? = some u → w.cell? ⟨(a'.add (k * sz)).block, (a'.add (k * sz)).off + i, none⟩ = some u := by
  rcases h with ⟨_, e2⟩ | ⟨a', cap, g1, g2, g3, g4, g5⟩
  · omega
  · cases g1
    refine ⟨a', rfl, fun u hu => by simpa using g5 k 0 u hk hu, fun i u hi hu => ?_⟩
    rw [off_add _ _ _ hi]
    exact g5 k i u hk hu

def OwnR (base : Nat) (t : TypeId) (sz : Nat) (w : World) (v : Value) (n : Nat) (C : Nat → List Value) : Prop :=
  ∃ xs, w.ownsRow base t sz v n xs ∧ ∀ j i u, j < n → (C j)[i]? = some u → xs[j * sz + i]? = some u
section
variable {base : Nat} {t : TypeId} {sz : Nat} {w w' : World} {v : Value} {n : Nat} {C : Nat → List Value}
theorem OwnR.lt (h : OwnR base t sz w v n C) {g : Nat} (hg : v.ownBlock = some g) : base ≤ g ∧ g < w.heap.size := by
  obtain ⟨xs, h, _⟩ := h
  exact World.ownsRow.lt h g hg
theorem OwnR.nil (w : World) (base : Nat) (t : TypeId) (sz : Nat) (C : Nat → List Value) : OwnR base t sz w (.slice none 0 0) 0 C := ⟨[], World.ownsRow_nil w base t sz, fun j i u hj => by omega⟩
theorem OwnR.own (h : OwnR base t sz w v n C) {g : Nat} (hg : v.ownBlock = some g) : Rws g (g + 1) sz w v n C := by
  obtain ⟨xs, h1, h2⟩ := h
  rcases h1.2 with ⟨e1, e2⟩ | ⟨g', cap, cur, rfl, hb, _, h4, h5, _, _⟩
  · exact .inl ⟨e1, e2⟩
  · cases hg
    refine .inr ⟨⟨_, 0, none⟩, cap, rfl, h4, h5, fun _ => ⟨Nat.le_refl _, Nat.lt_succ_self _⟩, fun j i u hj hu => ?_⟩
    exact World.ownsRow.cells h1 rfl _ _ (h2 j i u hj hu)
end

theorem inf57 : (Tryz.prog.info? 57).map (fun i => (i.zero, i.size, i.bytes)) = some (some (.agg #[.int .i64 0, .int .i64 0, .string ⟨#[]⟩]), 3, 32) := by kernel_rfl
theorem run_loadVar_any {P : Program} (w : World) (x : Addr) (ty : TypeId) (cs : List Value) (d : TypeDesc) (hc : ∀ j v, cs[j]? = some v → w.cell? (x.add j) = some v)
    (hu : P.underlying ty = some d) (hd : d.isRow = true) (hi : (P.info? ty).map (·.size) = some cs.length) :
    (Instr.loadAt ty (.pointer (some x))).run P w = .ok (.agg cs.toArray) w := by
  have hl : (loadCells x cs.length).run P w = .ok cs.toArray w := run_loadCells_list (P := P) w x cs hc
  cases hq : P.info? ty with
  | none => simp [hq] at hi
  | some i =>
    have hs : i.size = cs.length := by simpa [hq] using hi
    have hagg : (isAgg ty).run P w = .ok true w := by
      unfold isAgg
      rw [Sem.run_bind, run_underlying hu w]
      cases d <;> simp_all
    simp [Instr.loadAt, Instr.sureAddr, loadVar, Sem.run_bind, hagg, sizeOf, typeInfo, hq, hs, hl]

theorem wpList_load_run {P : Program} {ops : Array Oper} {rest : List Oper} {o : Oper} {a : Act} {w : World} {Q : Exit → Act → World → Prop} (hgd : o.guard = none) (ty : TypeId) (x : Operand) (ho : o.op = .load ty x)
    (p v : Value) (hx : a.eval x = p) (hrun : (Instr.loadAt ty p).run P w = .ok v w) (h : wpList P ops Q rest (a.put o.dst v) w) : wpList P ops Q (o :: rest) a w := by
  refine wpList_plain hgd fun K hK => ?_
  unfold Oper.wp execOp
  simp only [ho, hx, Sem.run_bind, Sem.run_pure, hrun, Result.andThen_ok]
  exact hK _ _ h
theorem wpList_store_run {P : Program} {ops : Array Oper} {rest : List Oper} {o : Oper} {a : Act} {w : World} {Q : Exit → Act → World → Prop} (hgd : o.guard = none) (ty : TypeId) (x y : Operand) (ho : o.op = .store ty x y)
    (p v : Value) (w' : World) (hx : a.eval x = p) (hy : a.eval y = v) (hrun : (Instr.storeAt ty p v).run P w = .ok () w') (h : wpList P ops Q rest (a.put o.dst undef) w') : wpList P ops Q (o :: rest) a w := by
  refine wpList_plain hgd fun K hK => ?_
  unfold Oper.wp execOp
  simp only [ho, hx, hy, Sem.run_bind, Sem.run_pure, hrun, Result.andThen_ok]
  exact hK _ _ h

theorem box_runs {t : TypeId} {zv : Value} {sz bytes : Nat} {d : TypeDesc} (hu : Tryz.prog.underlying t = some d) (hd : d.isRow = true) (hinf : (Tryz.prog.info? t).map (fun i => (i.zero, i.size, i.bytes)) = some (some zv, sz, bytes)) (w : World) (zs es : Array Value) (hz : zs.size = sz) (he : es.size = sz) (h1 : es.all (·.oneCell') = true) :
    (Instr.storeAt t (.pointer (some ⟨w.heap.size, 0, none⟩)) (.agg es)).run Tryz.prog (w.alloc (.cells zs t)) = .ok () (w.alloc (.cells es t)) ∧
    (Instr.loadAt t (.pointer (some ⟨w.heap.size, 0, none⟩))).run Tryz.prog (w.alloc (.cells es t)) = .ok (.agg es) (w.alloc (.cells es t)) := by
  have hi : (Tryz.prog.info? t).map (·.size) = some es.size := by
    cases hq : Tryz.prog.info? t with
    | none => simp [hq] at hinf
    | some i => simp [hq] at hinf ⊢; omega
  refine ⟨run_storeAt_new w t zs es hi (by omega) h1, ?_⟩
  have := run_loadVar_any (P := Tryz.prog) (w.alloc (.cells es t)) ⟨w.heap.size, 0, none⟩ t es.toList d (fun j v hv => by
    have hadd : (⟨w.heap.size, 0, none⟩ : Addr).add j = ⟨w.heap.size, j, none⟩ := by unfold Addr.add; split <;> simp_all
    rw [hadd, cell_of_row _ _ j es t (0, 0) (heap_alloc_new w _)]
    simpa using hv) hu hd (by simpa using hi)
  simpa using this
theorem Rws.load {lo hi sz : Nat} {w : World} {a : Option Addr} {n c : Nat} {C : Nat → List Value} (h : Rws lo hi sz w (.slice a n c) n C) {k : Nat} (hk : k < n) {t : TypeId} {d : TypeDesc} (hu : Tryz.prog.underlying t = some d) (hd : d.isRow = true) (hi : (Tryz.prog.info? t).map (·.size) = some (C k).length) :
    ∃ a', a = some a' ∧ (Instr.loadAt t (.pointer (some (a'.add (k * sz))))).run Tryz.prog w = .ok (.agg (C k).toArray) w := by
  rcases h with ⟨_, e2⟩ | ⟨a', cap, g1, g2, g3, g4, g5⟩
  · omega
  · cases g1
    refine ⟨a', rfl, run_loadVar_any w _ t (C k) d (fun j v hv => ?_) hu hd hi⟩
    rw [Go.Deep.add_add]
    exact g5 k j v hk hv

def nameC (x : NameT) : List Value := [.string x.scope, .string x.name, .string x.text]
def linkC (x : LinkT) : List Value := [.string x.book, .string x.sheet, .int .i64 x.row, .int .i64 x.col, .int .i64 x.value.kind, .int .i64 x.value.n, .string x.value.s]
def sheetC (s : SheetT) (cv : Value) : List Value := [.string s.name, cv]
abbrev sheetV (s : SheetT) (cv : Value) : Value := .agg #[.string s.name, cv]
def namesC (L : List NameT) : Nat → List Value := fun j => (L[j]?.map nameC).getD []
def linksC (L : List LinkT) : Nat → List Value := fun j => (L[j]?.map linkC).getD []
def sheetsC (L : List SheetT) (cv : Nat → Value) : Nat → List Value := fun j => (L[j]?.map fun o => sheetC o (cv j)).getD []
def Nms (lo hi : Nat) (w : World) (v : Value) (L : List NameT) : Prop := Rws lo hi 3 w v L.length (namesC L)
def Lks (lo hi : Nat) (w : World) (v : Value) (L : List LinkT) : Prop := Rws lo hi 7 w v L.length (linksC L)
def Shs (lo hi : Nat) (w : World) (v : Value) (L : List SheetT) : Prop := ∃ cv : Nat → Value, Rws lo hi 2 w v L.length (sheetsC L cv) ∧ ∀ j o, L[j]? = some o → Cls lo hi w (cv j) o.cells
structure BkM (lo hi : Nat) (w : World) (sv nv lv : Value) (x : BookT) : Prop where
  sh : Shs lo hi w sv x.sheets
  nm : Nms lo hi w nv x.names
  lk : Lks lo hi w lv x.links

section
variable {lo hi : Nat} {w w' : World} {v : Value}
theorem Nms.kept {L : List NameT} (h : Nms lo hi w v L) (hk : ∀ i, lo ≤ i → i < hi → w'.heap[i]? = w.heap[i]?) : Nms lo hi w' v L := Rws.kept h hk
theorem Lks.kept {L : List LinkT} (h : Lks lo hi w v L) (hk : ∀ i, lo ≤ i → i < hi → w'.heap[i]? = w.heap[i]?) : Lks lo hi w' v L := Rws.kept h hk
theorem Shs.kept {L : List SheetT} (h : Shs lo hi w v L) (hk : ∀ i, lo ≤ i → i < hi → w'.heap[i]? = w.heap[i]?) : Shs lo hi w' v L := by
  obtain ⟨cv, h1, h2⟩ := h
  exact ⟨cv, h1.kept hk, fun j o hj => (h2 j o hj).kept hk⟩
theorem Nms.mono {L : List NameT} {lo' hi' : Nat} (h : Nms lo hi w v L) (h1 : lo' ≤ lo) (h2 : hi ≤ hi') : Nms lo' hi' w v L := Rws.mono h h1 h2
theorem Lks.mono {L : List LinkT} {lo' hi' : Nat} (h : Lks lo hi w v L) (h1 : lo' ≤ lo) (h2 : hi ≤ hi') : Lks lo' hi' w v L := Rws.mono h h1 h2
theorem Shs.mono {L : List SheetT} {lo' hi' : Nat} (h : Shs lo hi w v L) (h1 : lo' ≤ lo) (h2 : hi ≤ hi') : Shs lo' hi' w v L := by
  obtain ⟨cv, g1, g2⟩ := h
  exact ⟨cv, g1.mono h1 h2, fun j o hj => (g2 j o hj).mono h1 h2⟩
theorem Nms.below {base : Nat} {L : List NameT} (h : Nms lo hi w v L) (hh : hi ≤ base) (hb : Below base w w') : Nms lo hi w' v L := h.kept fun i _ hi => hb.block i (by omega)
theorem Lks.below {base : Nat} {L : List LinkT} (h : Lks lo hi w v L) (hh : hi ≤ base) (hb : Below base w w') : Lks lo hi w' v L := h.kept fun i _ hi => hb.block i (by omega)
theorem Shs.below {base : Nat} {L : List SheetT} (h : Shs lo hi w v L) (hh : hi ≤ base) (hb : Below base w w') : Shs lo hi w' v L := h.kept fun i _ hi => hb.block i (by omega)
theorem Nms.slice {L : List NameT} (h : Nms lo hi w v L) : ∃ a c, v = .slice a L.length c ∧ L.length ≤ c ∧ c ≤ maxLen := Rws.slice h
theorem Lks.slice {L : List LinkT} (h : Lks lo hi w v L) : ∃ a c, v = .slice a L.length c ∧ L.length ≤ c ∧ c ≤ maxLen := Rws.slice h
theorem Shs.slice {L : List SheetT} (h : Shs lo hi w v L) : ∃ a c, v = .slice a L.length c ∧ L.length ≤ c ∧ c ≤ maxLen := by
  obtain ⟨_, h, _⟩ := h
  exact h.slice
theorem BkM.below {base : Nat} {sv nv lv : Value} {x : BookT} (h : BkM lo hi w sv nv lv x) (hh : hi ≤ base) (hb : Below base w w') : BkM lo hi w' sv nv lv x := ⟨h.sh.below hh hb, h.nm.below hh hb, h.lk.below hh hb⟩
theorem BkM.mono {sv nv lv : Value} {x : BookT} {lo' hi' : Nat} (h : BkM lo hi w sv nv lv x) (h1 : lo' ≤ lo) (h2 : hi ≤ hi') : BkM lo' hi' w sv nv lv x := ⟨h.sh.mono h1 h2, h.nm.mono h1 h2, h.lk.mono h1 h2⟩
theorem BkM.nil (w : World) (lo hi : Nat) : BkM lo hi w (.slice none 0 0) (.slice none 0 0) (.slice none 0 0) ⟨[], [], []⟩ := ⟨⟨fun _ => .slice none 0 0, .inl ⟨rfl, rfl⟩, fun j o hj => by simp at hj⟩, .inl ⟨rfl, rfl⟩, .inl ⟨rfl, rfl⟩⟩
end

theorem inf78 : (Tryz.prog.info? 78).map (fun i => (i.zero, i.size, i.bytes)) = some (some (.agg #[strE, .slice none 0 0]), 2, 40) := by kernel_rfl
theorem inf89 : (Tryz.prog.info? 89).map (fun i => (i.zero, i.size, i.bytes)) = some (some (.agg #[strE, strE, strE]), 3, 48) := by kernel_rfl
theorem inf91 : (Tryz.prog.info? 91).map (fun i => (i.zero, i.size, i.bytes)) = some (some (.agg #[strE, strE, int0, int0, int0, int0, strE]), 7, 80) := by kernel_rfl
theorem Rws.runs {lo hi sz : Nat} {w : World} {a : Option Addr} {n c : Nat} {C : Nat → List Value} (h : Rws lo hi sz w (.slice a n c) n C) {k : Nat} (hk : k < n) {t : TypeId} {d : TypeDesc} (hu : Tryz.prog.underlying t = some d) (hd : d.isRow = true) {zv : Value} {bytes : Nat}
    (hinf : (Tryz.prog.info? t).map (fun i => (i.zero, i.size, i.bytes)) = some (some zv, sz, bytes)) {cs : List Value} (hC : C k = cs) (hl : cs.length = sz) (h1 : cs.toArray.all (·.oneCell') = true) (zs : Array Value) (hz : zs.size = sz) :
    ∃ a' ov W, a = some a' ∧ ov = .agg cs.toArray ∧ W = w.alloc (.cells cs.toArray t) ∧
      Hid ((Instr.loadAt t (.pointer (some (a'.add (k * sz))))).run Tryz.prog w = .ok ov w) ∧
      Hid ((Instr.storeAt t (.pointer (some ⟨w.heap.size, 0, none⟩)) ov).run Tryz.prog (w.alloc (.cells zs t)) = .ok () W) ∧
      Hid ((Instr.loadAt t (.pointer (some ⟨w.heap.size, 0, none⟩))).run Tryz.prog W = .ok ov W) := by
  have hi : (Tryz.prog.info? t).map (·.size) = some cs.length := by
    cases hq : Tryz.prog.info? t with
    | none => simp [hq] at hinf
    | some i => simp [hq] at hinf ⊢; omega
  obtain ⟨a', e1, e2⟩ := Rws.load h hk (t := t) hu hd (by rw [hC]; exact hi)
  rw [hC] at e2
  obtain ⟨b1, b2⟩ := box_runs hu hd hinf w zs cs.toArray hz (by simpa using hl) h1
  exact ⟨a', _, _, e1, rfl, rfl, e2, b1, b2⟩
theorem getD_some {α : Type} {L : List α} {f : α → List Value} {k : Nat} (hk : k < L.length) : (L[k]?.map f).getD [] = f L[k] := by simp [List.getElem?_eq_getElem hk]
theorem Nms.runs {lo hi : Nat} {w : World} {a : Option Addr} {c : Nat} {L : List NameT} (h : Nms lo hi w (.slice a L.length c) L) {k : Nat} (hk : k < L.length) :
    ∃ a' ov W, a = some a' ∧ ov = nameV L[k] ∧ W = w.alloc (.cells (nameC L[k]).toArray 89) ∧
      Hid ((Instr.loadAt 89 (.pointer (some (a'.add (k * 3))))).run Tryz.prog w = .ok ov w) ∧
      Hid ((Instr.storeAt 89 (.pointer (some ⟨w.heap.size, 0, none⟩)) ov).run Tryz.prog (w.alloc (.cells #[strE, strE, strE] 89)) = .ok () W) ∧
      Hid ((Instr.loadAt 89 (.pointer (some ⟨w.heap.size, 0, none⟩))).run Tryz.prog W = .ok ov W) :=
  Rws.runs h hk Tryz.underlying89 rfl inf89 (getD_some hk) rfl (by simp [nameC, Value.oneCell']) _ rfl
theorem Lks.runs {lo hi : Nat} {w : World} {a : Option Addr} {c : Nat} {L : List LinkT} (h : Lks lo hi w (.slice a L.length c) L) {k : Nat} (hk : k < L.length) :
    ∃ a' ov W, a = some a' ∧ ov = linkV L[k] ∧ W = w.alloc (.cells (linkC L[k]).toArray 91) ∧
      Hid ((Instr.loadAt 91 (.pointer (some (a'.add (k * 7))))).run Tryz.prog w = .ok ov w) ∧
      Hid ((Instr.storeAt 91 (.pointer (some ⟨w.heap.size, 0, none⟩)) ov).run Tryz.prog (w.alloc (.cells #[strE, strE, int0, int0, int0, int0, strE] 91)) = .ok () W) ∧
      Hid ((Instr.loadAt 91 (.pointer (some ⟨w.heap.size, 0, none⟩))).run Tryz.prog W = .ok ov W) :=
  Rws.runs h hk Tryz.underlying91 rfl inf91 (getD_some hk) rfl (by simp [linkC, Value.oneCell']) _ rfl
theorem Shs.runs {lo hi : Nat} {w : World} {a : Option Addr} {c : Nat} {L : List SheetT} (h : Shs lo hi w (.slice a L.length c) L) {k : Nat} (hk : k < L.length) :
    ∃ a' cv ov W, a = some a' ∧ ov = sheetV L[k] cv ∧ Cls lo hi w cv L[k].cells ∧ W = w.alloc (.cells (sheetC L[k] cv).toArray 78) ∧
      Hid ((Instr.loadAt 78 (.pointer (some (a'.add (k * 2))))).run Tryz.prog w = .ok ov w) ∧
      Hid ((Instr.storeAt 78 (.pointer (some ⟨w.heap.size, 0, none⟩)) ov).run Tryz.prog (w.alloc (.cells #[strE, .slice none 0 0] 78)) = .ok () W) ∧
      Hid ((Instr.loadAt 78 (.pointer (some ⟨w.heap.size, 0, none⟩))).run Tryz.prog W = .ok ov W) := by
  obtain ⟨cv, hr, hc⟩ := h
  have hcs := hc k _ (List.getElem?_eq_getElem hk)
  obtain ⟨ca, cc, e1, _, _⟩ := hcs.slice
  obtain ⟨a', ov, W, q⟩ := Rws.runs hr hk Tryz.underlying78 rfl inf78 (getD_some (f := fun o => sheetC o (cv k)) hk) rfl (by rw [e1]; simp [sheetC, Value.oneCell']) #[strE, .slice none 0 0] rfl
  exact ⟨a', cv k, ov, W, q.1, q.2.1, hcs, q.2.2⟩

theorem cell_heap {w : World} {b j : Nat} {xs : Array Value} {t : TypeId} {z : Nat × Nat} {v : Value} (h : w.heap[b]? = some (.cells xs t z)) (hj : xs[j]? = some v) : w.cell? ⟨b, j, none⟩ = some v := by
  rw [cell_of_row w b j xs t z h]; exact hj
theorem Cls.runs {lo hi : Nat} {w : World} {a : Option Addr} {c : Nat} {L : List CellT} (h : Cls lo hi w (.slice a L.length c) L) {k : Nat} (hk : k < L.length) :
    ∃ a' ov W, a = some a' ∧ ov = cellV L[k] ∧ W = w.alloc (.cells (cellC L[k]).toArray 57) ∧
      Hid ((Instr.loadAt 57 (.pointer (some (a'.add (k * 3))))).run Tryz.prog w = .ok ov w) ∧
      Hid ((Instr.storeAt 57 (.pointer (some ⟨w.heap.size, 0, none⟩)) ov).run Tryz.prog (w.alloc (.cells #[int0, int0, strE] 57)) = .ok () W) ∧
      Hid ((Instr.loadAt 57 (.pointer (some ⟨w.heap.size, 0, none⟩))).run Tryz.prog W = .ok ov W) :=
  Rws.runs h hk Tryz.underlying57 rfl inf57 (getD_some hk) rfl (by simp [cellC, Value.oneCell']) _ rfl
theorem blk_lt {w : World} {g : Nat} {o : Obj} (h : w.heap[g]? = some o) : g < w.heap.size := (Array.getElem?_eq_some_iff.1 h).1
theorem bel_alloc {base : Nat} {w u : World} (h : Below base w u) (hb : base ≤ w.heap.size) (o : Obj) : Below base w (u.alloc o) := h.alloc (Nat.le_trans hb h.size) o
theorem bel_step {base : Nat} {w u w' : World} (h : Below base w u) (hb : base ≤ u.heap.size) (h2 : Below u.heap.size u w') : Below base w w' := h.trans (h2.mono hb)
end Go.Proofs.YtpafokmkcblcnaaGreatDoor.Sh

namespace Go.Proofs.YtpafokmkcblcnaaGreatDoor.Sh
open Go.RowKit
set_option maxRecDepth 100000
def idxI : Option Nat → Int
  | some i => i
  | none => -1
def idxN (L : List SheetT) (s : ByteArray) : Option Nat := L.findIdx? fun t => t.name.toList == s.toList
def cellsO (L : List SheetT) (s : ByteArray) : List CellT := match idxN L s with
  | some i => (L[i]?.map (·.cells)).getD []
  | none => []
def atB (r c : Int) (d : CellT) : Bool := d.row == r && d.col == c
def getL (L : List CellT) (r c : Int) : ByteArray := match L.find? (atB r c) with
  | some d => d.text
  | none => ⟨#[]⟩
def cntL (L : List SheetT) : Nat := (L.map fun s => s.cells.length).sum
theorem findIdx_none {α : Type} {p : α → Bool} {L : List α} (h : ∀ j (hj : j < L.length), p L[j] = false) : L.findIdx? p = none := by
  rw [List.findIdx?_eq_none_iff]
  intro x hx
  obtain ⟨j, hj, rfl⟩ := List.mem_iff_getElem.1 hx
  exact h j hj
theorem findIdx_some {α : Type} {p : α → Bool} {L : List α} {k : Nat} (hk : k < L.length) (h : ∀ j (hj : j < k), p (L[j]'(by omega)) = false) (hp : p L[k] = true) : L.findIdx? p = some k := by
  rw [List.findIdx?_eq_some_iff_getElem]
  exact ⟨hk, hp, fun j hj => by simpa using h j hj⟩
theorem idx_lt {L : List SheetT} {s : ByteArray} {i : Nat} (h : idxN L s = some i) : i < L.length := by
  unfold idxN at h
  rw [List.findIdx?_eq_some_iff_getElem] at h
  exact h.1
theorem find_none {α : Type} {p : α → Bool} {L : List α} (h : ∀ j (hj : j < L.length), p L[j] = false) : L.find? p = none := by
  rw [List.find?_eq_none]
  intro x hx
  obtain ⟨j, hj, rfl⟩ := List.mem_iff_getElem.1 hx
  simpa using h j hj
theorem find_some {α : Type} {p : α → Bool} {L : List α} {k : Nat} (hk : k < L.length) (h : ∀ j (hj : j < k), p (L[j]'(by omega)) = false) (hp : p L[k] = true) : L.find? p = some L[k] := by
  rw [List.find?_eq_some_iff_getElem]
  exact ⟨hp, k, hk, rfl, fun j hj => by simpa using h j hj⟩
def cpI (a b : Int) : Int := if a < b then -1 else if b < a then 1 else 0
def ordC (a b : CellT) : Int := if cpI a.row b.row ≠ 0 then cpI a.row b.row else cpI a.col b.col
def Lt (a b : CellT) : Prop := a.row < b.row ∨ a.row = b.row ∧ a.col < b.col
theorem cpI_ways (a b : Int) : (cpI a b = -1 ∧ a < b) ∨ (cpI a b = 0 ∧ a = b) ∨ (cpI a b = 1 ∧ b < a) := by
  unfold cpI
  split
  · exact .inl ⟨rfl, by assumption⟩
  · split
    · exact .inr (.inr ⟨rfl, by assumption⟩)
    · exact .inr (.inl ⟨rfl, by omega⟩)
theorem ordC_ways (a b : CellT) : (ordC a b = -1 ∧ Lt a b) ∨ (ordC a b = 0 ∧ a.row = b.row ∧ a.col = b.col) ∨ (ordC a b = 1 ∧ Lt b a) := by
  unfold ordC Lt
  rcases cpI_ways a.row b.row with ⟨h1, h2⟩ | ⟨h1, h2⟩ | ⟨h1, h2⟩
  · rw [h1]; exact .inl ⟨rfl, .inl h2⟩
  · rw [h1]
    rcases cpI_ways a.col b.col with ⟨g1, g2⟩ | ⟨g1, g2⟩ | ⟨g1, g2⟩
    · exact .inl ⟨by simpa using g1, .inr ⟨h2, g2⟩⟩
    · exact .inr (.inl ⟨by simpa using g1, h2, g2⟩)
    · exact .inr (.inr ⟨by simpa using g1, .inr ⟨h2.symm, g2⟩⟩)
  · rw [h1]; exact .inr (.inr ⟨rfl, .inl h2⟩)
theorem Lt.trans {a b c : CellT} (h : Lt a b) (k : Lt b c) : Lt a c := by unfold Lt at *; omega
theorem Lt.irrefl {a b : CellT} (h : Lt a b) : ¬ Lt b a := by unfold Lt at *; omega
theorem ord_neg {a b : CellT} : ordC a b < 0 ↔ Lt a b := by
  rcases ordC_ways a b with ⟨h1, h2⟩ | ⟨h1, h2, h3⟩ | ⟨h1, h2⟩
  · rw [h1]; simp [h2]
  · rw [h1]; unfold Lt; omega
  · rw [h1]; have := h2.irrefl; simp [this]
theorem ord_zero {a b : CellT} : ordC a b = 0 ↔ (a.row = b.row ∧ a.col = b.col) := by
  rcases ordC_ways a b with ⟨h1, h2⟩ | ⟨h1, h2, h3⟩ | ⟨h1, h2⟩
  · rw [h1]; unfold Lt at h2; omega
  · rw [h1]; simp [h2, h3]
  · rw [h1]; unfold Lt at h2; omega
def Rise (L : List CellT) : Prop := L.Pairwise Lt
def insB (r c : Int) : Bool := decide (1 ≤ r ∧ r ≤ 64 ∧ 1 ≤ c ∧ c ≤ 26)
def stB (L : List CellT) (i : Nat) : Bool := match L[i]? with
  | none => true
  | some d => insB d.row d.col && (!(d.text.toList == []) && (i == 0 || match L[i - 1]? with
    | none => true
    | some p => decide (ordC p d < 0)))
def laidB (L : List CellT) : Bool := (List.range L.length).all (stB L)
theorem laid_yes {L : List CellT} (h : ∀ i, i < L.length → stB L i = true) : laidB L = true := by
  unfold laidB
  rw [List.all_eq_true]
  intro i hi
  exact h i (List.mem_range.1 hi)
theorem laid_no {L : List CellT} {i : Nat} (hi : i < L.length) (h : stB L i = false) : laidB L = false := by
  unfold laidB
  rw [List.all_eq_false]
  exact ⟨i, List.mem_range.2 hi, by simp [h]⟩
theorem laid_at {L : List CellT} (h : laidB L = true) {i : Nat} (hi : i < L.length) : stB L i = true := by
  unfold laidB at h
  rw [List.all_eq_true] at h
  exact h i (List.mem_range.2 hi)
theorem laid_iff {L : List CellT} : laidB L = true ↔ (∀ c ∈ L, insB c.row c.col = true ∧ c.text.toList ≠ []) ∧ Rise L := by
  constructor
  · intro h
    have h1 : ∀ i (hi : i < L.length), insB L[i].row L[i].col = true ∧ L[i].text.toList ≠ [] ∧ (i = 0 ∨ ∃ h : i - 1 < L.length, Lt L[i - 1] L[i]) := by
      intro i hi
      have := laid_at h hi
      unfold stB at this
      rw [List.getElem?_eq_getElem hi] at this
      simp only [Bool.and_eq_true, Bool.or_eq_true, Bool.not_eq_true', beq_eq_false_iff_ne] at this
      refine ⟨this.1, this.2.1, ?_⟩
      rcases this.2.2 with e | e
      · exact .inl (by simpa using e)
      · rw [List.getElem?_eq_getElem (by omega : i - 1 < L.length)] at e
        exact .inr ⟨by omega, ord_neg.1 (by simpa using e)⟩
    refine ⟨fun c hc => ?_, ?_⟩
    · obtain ⟨j, hj, rfl⟩ := List.mem_iff_getElem.1 hc
      exact ⟨(h1 j hj).1, (h1 j hj).2.1⟩
    · have h2 : ∀ (d i : Nat) (hi : i + d + 1 < L.length), Lt (L[i]'(by omega)) L[i + d + 1] := by
        intro d
        induction d with
        | zero =>
          intro i hi
          rcases (h1 (i + 0 + 1) hi).2.2 with e | ⟨_, e⟩
          · omega
          · simpa using e
        | succ d ih =>
          intro i hi
          refine (ih i (by omega)).trans ?_
          rcases (h1 (i + (d + 1) + 1) hi).2.2 with e | ⟨_, e⟩
          · omega
          · have e2 : i + (d + 1) + 1 - 1 = i + d + 1 := by omega
            simp only [e2] at e
            exact e
      unfold Rise
      rw [List.pairwise_iff_getElem]
      intro i j hi hj hij
      have := h2 (j - i - 1) i (by omega)
      have e2 : i + (j - i - 1) + 1 = j := by omega
      simp only [e2] at this
      exact this
  · rintro ⟨h1, h2⟩
    refine laid_yes fun i hi => ?_
    unfold stB
    rw [List.getElem?_eq_getElem hi]
    obtain ⟨q1, q2⟩ := h1 _ (List.getElem_mem hi)
    simp only [q1, Bool.true_and]
    have q3 : (L[i].text.toList == []) = false := by simpa using q2
    rw [q3]
    by_cases h0 : i = 0
    · simp [h0]
    · rw [List.getElem?_eq_getElem (by omega : i - 1 < L.length)]
      unfold Rise at h2
      rw [List.pairwise_iff_getElem] at h2
      have := ord_neg.2 (h2 (i - 1) i (by omega) hi (by omega))
      simp [this]
end Go.Proofs.YtpafokmkcblcnaaGreatDoor.Sh
