import Derived.OwnWalk
import Derived.Maps.AppendAt
import Derived.Deep.OwnRows
import Derived.Test.YtmeecjedikechaaOper
import Derived.Deep.WholeRow
import Derived.Deep.Slices
import Derived.Deep.MidRow
import Derived.Laws.Rows
import Derived.WalkKit
import Derived.Below
/- The reference's list of files in memory, whatever it holds. -/
namespace Go.Proofs.Ytmeecjedikechaa
open Go.RowKit Go.Maps
set_option maxRecDepth 100000
set_option linter.unusedVariables false
set_option linter.unusedSimpArgs false
theorem rinf70 : (Try.prog.info? 70).map (fun i => (i.zero, i.size, i.bytes)) = some (some (.agg #[.string ⟨#[]⟩, .slice none 0 0, .int .i64 0]), 3, 48) := by kernel_rfl
/-- A file of the reference, as its struct holds it. -/
structure RE where
  nm : ByteArray
  ba : Option Addr
  bn : Nat
  bc : Nat
  sy : Int
abbrev RE.bv (t : RE) : Value := .slice t.ba t.bn t.bc
def reC (t : RE) : List Value := [.string t.nm, .slice t.ba t.bn t.bc, .int .i64 t.sy]
def fl (L : List RE) : List Value := L.flatMap reC
theorem fl_nil : fl [] = [] := rfl
theorem fl_cons (t : RE) (L : List RE) : fl (t :: L) = reC t ++ fl L := by simp [fl]
theorem fl_app (L M : List RE) : fl (L ++ M) = fl L ++ fl M := by simp [fl]
theorem fl_len : ∀ L : List RE, (fl L).length = L.length * 3
  | [] => rfl
  | t :: L => by rw [fl_cons, List.length_append, fl_len L]; simp [reC]; omega
theorem fl_get : ∀ (L : List RE) (k : Nat) (t : RE) (j : Nat), L[k]? = some t → j < 3 → (fl L)[k * 3 + j]? = (reC t)[j]?
  | [], k, t, j, h, _ => by simp at h
  | x :: L, 0, t, j, h, hj => by
    simp at h; subst h
    rw [fl_cons, Nat.zero_mul, Nat.zero_add, List.getElem?_append_left (by simpa [reC] using hj)]
  | x :: L, k + 1, t, j, h, hj => by
    simp at h
    rw [fl_cons, List.getElem?_append_right (by simp [reC]; omega)]
    have := fl_get L k t j h hj
    rw [← this]
    congr 1
    simp [reC]; omega
/-- A row of files of one's own. -/
def OwnF (base : Nat) (w : World) (v : Value) (L : List RE) : Prop := w.ownsRow base 70 3 v L.length (fl L)
/-- A slice that reads as these files. -/
def Fls (w : World) (v : Value) (L : List RE) : Prop :=
  (v = .slice none 0 0 ∧ L = []) ∨ ∃ a cap, v = .slice (some a) L.length cap ∧ L.length ≤ cap ∧ cap ≤ maxLen ∧ ∀ k t, L[k]? = some t → ∀ j u, (reC t)[j]? = some u → w.cell? ((a.add (k * 3)).add j) = some u
theorem Fls.kept {w w' : World} {v : Value} {L : List RE} (h : Fls w v L) (hk : ∀ i, i < w.heap.size → w'.heap[i]? = w.heap[i]?) : Fls w' v L := by
  rcases h with h | ⟨a, cap, h1, h2, h3, h4⟩
  · exact .inl h
  · refine .inr ⟨a, cap, h1, h2, h3, fun k t ht j u hj => ?_⟩
    have := h4 k t ht j u hj
    rw [← this]
    exact World.cell?_of_block (hk _ (World.block_lt_of_cell? w _ this))
theorem Fls.slice {w : World} {v : Value} {L : List RE} (h : Fls w v L) : ∃ a c, v = .slice a L.length c := by
  rcases h with ⟨rfl, rfl⟩ | ⟨a, cap, rfl, _⟩
  · exact ⟨none, 0, rfl⟩
  · exact ⟨_, _, rfl⟩
theorem add_add (g j k : Nat) : ((⟨g, 0, none⟩ : Addr).add k).add j = (⟨g, 0, none⟩ : Addr).add (k + j) := by
  have e : ∀ n m, (⟨g, n, none⟩ : Addr).add m = ⟨g, n + m, none⟩ := fun n m => by unfold Addr.add; split <;> simp_all
  rw [e, e, e]; simp [Nat.add_assoc]
theorem OwnF.fls {w : World} {base : Nat} {v : Value} {L : List RE} (h : OwnF base w v L) : Fls w v L := by
  rcases h.2 with ⟨h1, h2⟩ | ⟨g, cap, cur, h1, h2, h3, h4, h5, h6, h7⟩
  · exact .inl ⟨h1, List.eq_nil_of_length_eq_zero h2⟩
  · refine .inr ⟨⟨g, 0, none⟩, cap, h1, h4, h5, fun k t ht j u hj => ?_⟩
    have hj3 : j < 3 := by
      rcases Nat.lt_or_ge j 3 with e | e
      · exact e
      · rw [List.getElem?_eq_none (by simpa [reC] using e)] at hj; cases hj
    rw [add_add]
    exact World.ownsRow.cells h (g := g) (by rw [h1]; rfl) (k * 3 + j) _ (by rw [fl_get L k t j ht hj3]; exact hj)
theorem OwnF.alloc {w : World} {base : Nat} {v : Value} {L : List RE} (h : OwnF base w v L) (o : Obj) : OwnF base (w.alloc o) v L := ownsRow_of_block h fun g hg => Below.heap_alloc w o g (World.ownsRow.lt h g hg).2
theorem OwnF.nil (w : World) (base : Nat) : OwnF base w (.slice none 0 0) [] := World.ownsRow_nil w base 70 3
/-- One file more. -/
theorem own_file {base : Nat} {w : World} {v : Value} {L : List RE} (h : OwnF base w v L) (hb : base ≤ w.heap.size) (t : RE) (hl : L.length + 1 ≤ 1000000) :
    ∃ v' w', (Builtin.append_ #[26, 26] 26 #[v, .slice (some ⟨w.heap.size, 0, none⟩) 1 1]).run Try.prog (w.alloc (.cells (reC t).toArray 70)) = .ok v' w' ∧ OwnF base w' v' (L ++ [t]) ∧ Below base w w' := by
  obtain ⟨i0, hi, hz0, hz1, hz2⟩ := info_parts rinf70
  have hbx := heap_alloc_new w (.cells (reC t).toArray 70)
  have hadd : ∀ k, (⟨w.heap.size, 0, none⟩ : Addr).add k = ⟨w.heap.size, k, none⟩ := fun k => by unfold Addr.add; split <;> simp_all
  obtain ⟨v', w', h1, h2, h3, _, h5⟩ := run_append_own_at (w.alloc (.cells (reC t).toArray 70)) base 26 26 70 i0 (.agg #[.string ⟨#[]⟩, .slice none 0 0, .int .i64 0]) 3 48 Try.underlying26 hi hz0 hz1 hz2 rfl (by decide) v _ _ (h.alloc _) ⟨w.heap.size, 0, none⟩ 1 1 (reC t) rfl
    (fun j u hj => by rw [hadd, cell_of_row _ _ j _ _ _ hbx]; simpa using hj) (by intro u hu; simp [reC] at hu; rcases hu with rfl | rfl | rfl <;> rfl) (by simp only [maxLen]; omega) (by omega) (by simp; omega)
  refine ⟨v', w', h1, ?_, ?_⟩
  · unfold OwnF
    rw [List.length_append, fl_app]
    simpa [fl] using h2
  · exact ((Below.refl base w).alloc hb _).grown h3 (by simp; omega) fun k hk => (World.ownsRow.lt h k hk).1
end Go.Proofs.Ytmeecjedikechaa

/- The reference's Find and drop, whatever its list holds. -/
namespace Go.Proofs.Ytmeecjedikechaa
open Go.RowKit Go.Maps
set_option maxRecDepth 100000
set_option linter.unusedVariables false
set_option linter.unusedSimpArgs false
theorem run_loadVarR {P : Program} (w : World) (x : Addr) (ty : TypeId) (cs : List Value) (d : TypeDesc) (hc : ∀ j v, cs[j]? = some v → w.cell? (x.add j) = some v)
    (hu : P.underlying ty = some d) (hd : d.isRow = true) (hi : (P.info? ty).map (·.size) = some cs.length) :
    (Instr.loadAt ty (.pointer (some x))).run P w = .ok (.agg cs.toArray) w := by
  have hl : (loadCells x cs.length).run P w = .ok cs.toArray w := run_loadCells_list (P := P) w x cs hc
  cases hq : P.info? ty with
  | none => simp [hq] at hi
  | some i =>
    have hs : i.size = cs.length := by simpa [hq] using hi
    have hagg : (isAgg ty).run P w = .ok true w := by
      unfold isAgg
      rw [Sem.run_bind, run_underlying hu w]
      cases d <;> simp_all
    simp [Instr.loadAt, Instr.sureAddr, loadVar, Sem.run_bind, hagg, sizeOf, typeInfo, hq, hs, hl]
theorem wpList_loadR {P : Program} {ops : Array Oper} {rest : List Oper} {o : Oper} {a : Act} {w : World} {Q : Exit → Act → World → Prop} (hgd : o.guard = none) (ty : TypeId) (x : Operand) (ho : o.op = .load ty x)
    (p v : Value) (hx : a.eval x = p) (hrun : (Instr.loadAt ty p).run P w = .ok v w) (h : wpList P ops Q rest (a.put o.dst v) w) : wpList P ops Q (o :: rest) a w := by
  refine wpList_plain hgd fun K hK => ?_
  unfold Oper.wp execOp
  simp only [ho, hx, Sem.run_bind, Sem.run_pure, hrun, Result.andThen_ok]
  exact hK _ _ h
theorem wpList_appR {P : Program} {w : World} {ops : Array Oper} {rest : List Oper} {o : Oper} {a : Act} {Q : Exit → Act → World → Prop} (hgd : o.guard = none) (s x : Operand) (t : TypeId)
    (ho : o.op = .call { callee := .builtin .append, args := #[s, x], argTypes := #[t, t] }) (v bv v' : Value) (w' : World) (hs : a.eval s = v) (hx : a.eval x = bv) (hrun : (Builtin.append_ #[t, t] o.type #[v, bv]).run P w = .ok v' w')
    (h : wpList P ops Q rest (a.put o.dst v') w') : wpList P ops Q (o :: rest) a w := by
  refine wpList_plain hgd fun K hK => ?_
  unfold Oper.wp
  simp [execOp, ho, resolve, invoke, builtin, hs, hx, hrun, Result.andThen]
  exact hK _ _ h
structure RS where
  off : Bool
  cut : Int
  keep : Int
  ops : Int
  written : Int
/-- The reference's block. -/
def rbS (fv : Value) (s : RS) : Obj := .cells #[fv, .bool s.off, .int .i64 s.cut, .int .i64 s.keep, .int .i64 s.ops, .int .i64 s.written] 28
theorem rbS_cells {w : World} {rb : Nat} {fv : Value} {s : RS} (h : w.heap[rb]? = some (rbS fv s)) :
    (w.cell? ⟨rb, 0, none⟩ = some fv ∧ w.cell? ⟨rb, 1, none⟩ = some (.bool s.off) ∧ w.cell? ⟨rb, 2, none⟩ = some (.int .i64 s.cut) ∧ w.cell? ⟨rb, 3, none⟩ = some (.int .i64 s.keep) ∧ w.cell? ⟨rb, 4, none⟩ = some (.int .i64 s.ops) ∧ w.cell? ⟨rb, 5, none⟩ = some (.int .i64 s.written)) ∧
    (∀ i, w.frozen? ⟨rb, i, none⟩ = false) := by
  simp [World.cell?, World.frozen?, h, rbS]
theorem rinf3 : (Try.prog.info? 70).map (·.size) = some 3 := by kernel_rfl
/-- A file of the list, loaded. -/
theorem Fls.load {w wr : World} {a : Option Addr} {c : Nat} {L : List RE} (h : Fls w (.slice a L.length c) L) (hb : Below w.heap.size w wr) {k : Nat} (hk : k < L.length) :
    ∃ a', a = some a' ∧ (Instr.loadAt 70 (.pointer (some (a'.add (k * 3))))).run Try.prog wr = .ok (.agg #[.string L[k].nm, .slice L[k].ba L[k].bn L[k].bc, .int .i64 L[k].sy]) wr := by
  rcases h with ⟨_, e⟩ | ⟨a', cap, h1, h2, h3, h4⟩
  · rw [e] at hk; simp at hk
  · simp only [Value.slice.injEq] at h1
    obtain ⟨rfl, -, -⟩ := h1
    refine ⟨a', rfl, run_loadVarR wr _ 70 (reC L[k]) _ (fun j v hv => ?_) Try.underlying70 rfl rinf3⟩
    have e := h4 k _ (List.getElem?_eq_getElem hk) j v hv
    rw [← e]
    exact World.cell?_of_block (hb.block _ (World.block_lt_of_cell? w _ e))
/-- Where a file of that name stands; -1: nowhere. -/
def findF (nm : ByteArray) : List RE → Int → Int
  | [], _ => -1
  | t :: L, i => if t.nm = nm then i else findF nm L (i + 1)
theorem bne_list {a b : ByteArray} (h : a ≠ b) : (a.toList == b.toList) = false := by
  rw [beq_eq_false_iff_ne]
  intro e
  rw [ByteArray.toList_eq, ByteArray.toList_eq] at e
  exact h (Go.WideShapes.bytes_inj e)
set_option maxHeartbeats 2000000 in
theorem rfind_any {w : World} {rb : Nat} {fv : Value} {s : RS} {L : List RE} (hB : w.heap[rb]? = some (rbS fv s)) (hF : Fls w fv L) (hl : L.length ≤ 1000000) (nm : ByteArray) :
    Calls Try.prog 56 #[ptrOf rb, .string nm] w fun e w' => e = .returned (.int .i64 (findF nm L 0)) ∧ Below w.heap.size w w' := by
  have HF : Hid (Fls w fv L) := hF
  obtain ⟨a, c, rfl⟩ := hF.slice
  obtain ⟨⟨c0, -⟩, -⟩ := rbS_cells hB
  clear hF hB
  go_enter Try.func56, Try.ntmps56
  go_wp2_with fail
  go_loopw [12] (fun i wr => ∃ k : Nat, i = .int .i64 k ∧ k ≤ L.length ∧ Hid (Below w.heap.size w wr) ∧ Hid (findF nm (L.drop k) k = findF nm L 0)) (fun i _ => L.length - (intOf i).toNat)
  case atStart => exact ⟨0, rfl, Nat.zero_le _, Below.refl _ _, rfl⟩
  case round =>
    obtain ⟨k, rfl, hk, HB, HE⟩ := hrel
    by_cases hlt : k < L.length
    · obtain ⟨a', rfl, hrun⟩ := HF.out.load HB.out hlt
      have hdr : findF nm (L.drop k) k = if L[k].nm = nm then (k : Int) else findF nm (L.drop (k + 1)) (k + 1) := by
        rw [List.drop_eq_getElem_cons hlt]; rfl
      have HR : Hid _ := hrun
      have HD : Hid _ := hdr
      have HB2 : Hid (Below w.heap.size w (wr.alloc (.cells #[.string L[k].nm, .slice L[k].ba L[k].bn L[k].bc, .int .i64 L[k].sy] 70))) := HB.out.alloc HB.out.size _
      clear hrun hdr
      generalize L[k] = t at *
      obtain ⟨tn, ta, tb, tc, ts⟩ := t
      dsimp only at HR HB2 HD
      by_cases he : tn = nm
      · subst he
        have HX : Hid (findF tn L 0 = k) := by show _ = _; rw [← HE.out, HD.out]; simp
        clear HE HD
        go_wp2_with (refine wpList_loadR rfl 70 _ rfl _ _ rfl HR.out ?_)
        go_ret
        exact ⟨by rw [HX.out]; rfl, HB2.out⟩
      · have hne := bne_list he
        have HX : Hid (findF nm (L.drop (k + 1)) ((k : Int) + 1) = findF nm L 0) := by show _ = _; rw [← HE.out, HD.out, if_neg he]
        clear HE HD
        go_wp2_with (refine wpList_loadR rfl 70 _ rfl _ _ rfl HR.out ?_)
        go_roundw
        case rel => exact ⟨k + 1, by go_num, by omega, HB2, HX.out⟩
        case measure => simp [intOf]; omega
    · have HX : Hid (findF nm L 0 = -1) := by show _ = _; rw [← HE.out, List.drop_eq_nil_of_le (by omega)]; rfl
      clear HE
      go_wp2
      go_ret
      exact ⟨by rw [HX.out]; rfl, HB.out⟩
end Go.Proofs.Ytmeecjedikechaa

/- The reference's drop and put, whatever its list holds. -/
namespace Go.Proofs.Ytmeecjedikechaa
open Go.RowKit Go.Maps
set_option maxRecDepth 100000
set_option linter.unusedVariables false
set_option linter.unusedSimpArgs false
theorem rb_set0 {w : World} {rb : Nat} {fv fv' : Value} {s : RS} (h : w.heap[rb]? = some (rbS fv s)) : (w.setCell ⟨rb, 0, none⟩ fv').heap[rb]? = some (rbS fv' s) := by
  simp [World.setCell, Array.getElem?_modify, h, rbS]
theorem set_other {w : World} {rb i j : Nat} {v : Value} (h : j ≠ rb) : (w.setCell ⟨rb, i, none⟩ v).heap[j]? = w.heap[j]? := by
  have h' : rb ≠ j := h.symm
  simp [World.setCell, Array.getElem?_modify, h']
theorem gr_below {w w1 : World} {rb : Nat} (h : Below w.heap.size w w1) : w.grownBy w1 (some rb) := ⟨h.os, h.tape, h.output, h.size, fun i hi _ => h.block i hi⟩
theorem gr_set {w w1 : World} {rb i : Nat} {v : Value} (h : w.grownBy w1 (some rb)) : w.grownBy (w1.setCell ⟨rb, i, none⟩ v) (some rb) :=
  ⟨h.os, h.tape, h.output, by simpa [World.setCell] using h.size, fun j hj hne => (set_other (by simpa using hne)).trans (h.block j hj hne)⟩
theorem gr_trans {w w1 w2 : World} {rb : Nat} (h : w.grownBy w1 (some rb)) (k : w1.grownBy w2 (some rb)) : w.grownBy w2 (some rb) :=
  ⟨k.os.trans h.os, k.tape.trans h.tape, k.output.trans h.output, Nat.le_trans h.size k.size, fun i hi hne => (k.block i (Nat.lt_of_lt_of_le hi h.size) hne).trans (h.block i hi hne)⟩
/-- A list of files that does not lie in the reference's own block. -/
theorem Fls.gr {w w' : World} {rb : Nat} {v fv : Value} {s : RS} {L : List RE} (h : Fls w v L) (hB : w.heap[rb]? = some (rbS fv s)) (hg : w.grownBy w' (some rb)) (hn : ∀ a c, v = .slice (some a) L.length c → L ≠ [] → a.block ≠ rb) : Fls w' v L := by
  rcases h with h | ⟨a, cap, h1, h2, h3, h4⟩
  · exact .inl h
  · refine .inr ⟨a, cap, h1, h2, h3, fun k t ht j u hj => ?_⟩
    have := h4 k t ht j u hj
    rw [← this]
    refine World.cell?_of_block (hg.block _ (World.block_lt_of_cell? w _ this) ?_)
    have ne : L ≠ [] := by rintro rfl; simp at ht
    have e := hn a cap h1 ne
    have eb : ((a.add (k * 3)).add j).block = a.block := by
      have ab : ∀ (x : Addr) n, (x.add n).block = x.block := fun x n => by unfold Addr.add; split <;> rfl
      rw [ab, ab]
    rw [eb]
    simpa using e
theorem own_set {base : Nat} {w : World} {v : Value} {L : List RE} (h : OwnF base w v L) {rb i : Nat} {u : Value} (hrb : rb < base) : OwnF base (w.setCell ⟨rb, i, none⟩ u) v L :=
  ownsRow_of_block h fun g hg => set_other (by have := (World.ownsRow.lt h g hg).1; omega)
/-- Where a list of files of one's own lies. -/
theorem OwnF.away {base : Nat} {w : World} {v : Value} {L : List RE} (h : OwnF base w v L) {rb : Nat} (hrb : rb < base) : ∀ a c, v = .slice (some a) L.length c → L ≠ [] → base ≤ a.block ∧ a.block ≠ rb := by
  intro a c e ne
  have := (World.ownsRow.lt h a.block (by
    rcases h.2 with ⟨h1, h2⟩ | ⟨g, cap, cur, h1, h2, h3⟩
    · exact absurd (List.eq_nil_of_length_eq_zero h2) ne
    · rw [h1] at e; cases e; rw [h1]; rfl)).1
  exact ⟨this, by omega⟩
theorem OwnF.away' {base b0 : Nat} {w : World} {v : Value} {L : List RE} (h : OwnF base w v L) {rb : Nat} (hrb : rb < base) (hb : b0 ≤ base) : ∀ a c, v = .slice (some a) L.length c → L ≠ [] → b0 ≤ a.block ∧ a.block ≠ rb :=
  fun a c e ne => ⟨Nat.le_trans hb (h.away hrb a c e ne).1, (h.away hrb a c e ne).2⟩
/-- What the reference holds: its block, and a list that lies elsewhere. -/
structure RefW (K : Nat → Prop) (w : World) (rb : Nat) (s : RS) (L : List RE) : Prop where
  ex : ∃ fv, w.heap[rb]? = some (rbS fv s) ∧ Fls w fv L ∧ ∀ a c, fv = .slice (some a) L.length c → L ≠ [] → K a.block ∧ a.block ≠ rb
set_option maxHeartbeats 2000000 in
theorem rdrop_any {K : Nat → Prop} {w : World} {rb : Nat} {s : RS} {L : List RE} (h : RefW K w rb s L) (hl : L.length ≤ 100000) (nm : ByteArray) :
    Calls Try.prog 60 #[ptrOf rb, .string nm] w fun e w' => e = .returned (.tuple #[]) ∧ RefW (fun i => w.heap.size ≤ i) w' rb s (L.filter fun t => decide (t.nm ≠ nm)) ∧ w.grownBy w' (some rb) := by
  obtain ⟨fv, hB, hF, -⟩ := h
  have HF : Hid (Fls w fv L) := hF
  have HH : Hid (w.heap[rb]? = some (rbS fv s)) := hB
  have hrb : Hid (rb < w.heap.size) := (Array.getElem?_eq_some_iff.1 hB).1
  obtain ⟨a, c, rfl⟩ := hF.slice
  obtain ⟨⟨c0, -⟩, -⟩ := rbS_cells hB
  clear hF hB
  go_enter Try.func60, Try.ntmps60
  go_wp2_with fail
  go_loopw [4, 12] (fun lv i wr => ∃ k : Nat, i = .int .i64 k ∧ k ≤ L.length ∧ Hid (Below w.heap.size w wr) ∧ Hid (OwnF w.heap.size wr lv ((L.take k).filter fun t => decide (t.nm ≠ nm)))) (fun _ i _ => L.length - (intOf i).toNat)
  case atStart => exact ⟨0, rfl, Nat.zero_le _, Below.refl _ _, OwnF.nil _ _⟩
  case round =>
    obtain ⟨k, rfl, hk, HB, HO⟩ := hrel
    by_cases hlt : k < L.length
    · obtain ⟨a', rfl, hrun⟩ := HF.out.load HB.out hlt
      have htk : (L.take (k + 1)).filter (fun t => decide (t.nm ≠ nm)) = (L.take k).filter (fun t => decide (t.nm ≠ nm)) ++ [L[k]].filter (fun t => decide (t.nm ≠ nm)) := by
        rw [List.take_succ_eq_append_getElem hlt, List.filter_append]
      have HR : Hid _ := hrun
      have HK : Hid _ := htk
      clear hrun htk
      generalize L[k] = t at *
      obtain ⟨tn, ta, tb, tc, ts⟩ := t
      dsimp only at HR HK
      have HB2 : Hid (Below w.heap.size w (wr.alloc (.cells #[.string tn, .slice ta tb tc, .int .i64 ts] 70))) := HB.out.alloc HB.out.size _
      have HO2 : Hid (OwnF w.heap.size (wr.alloc (.cells #[.string tn, .slice ta tb tc, .int .i64 ts] 70)) u4 ((L.take k).filter fun t => decide (t.nm ≠ nm))) := HO.out.alloc _
      have HLn : Hid (((L.take k).filter fun t => decide (t.nm ≠ nm)).length + 1 ≤ 1000000) := by
        have h1 := List.length_filter_le (fun t : RE => decide (t.nm ≠ nm)) (L.take k)
        have h2 : (L.take k).length ≤ L.length := by simp; omega
        show _ ≤ _
        omega
      clear HO
      by_cases he : tn = nm
      · subst he
        have HX : Hid (OwnF w.heap.size (wr.alloc (.cells #[.string tn, .slice ta tb tc, .int .i64 ts] 70)) u4 ((L.take (k + 1)).filter fun t => decide (t.nm ≠ tn))) := by
          show OwnF _ _ _ _; rw [HK.out]; simpa using HO2.out
        clear HO2 HK
        go_wp2_with (refine wpList_loadR rfl 70 _ rfl _ _ rfl HR.out ?_)
        go_roundw
        case rel => exact ⟨k + 1, by go_num, by omega, HB2, HX⟩
        case measure => simp [intOf]; omega
      · have hne := bne_list he
        obtain ⟨v3, w3, run, o3, b3⟩ := own_file HO2.out HB2.out.size ⟨tn, ta, tb, tc, ts⟩ HLn.out
        have HX : Hid (OwnF w.heap.size w3 v3 ((L.take (k + 1)).filter fun t => decide (t.nm ≠ nm))) := by
          show OwnF _ _ _ _; rw [HK.out]; simpa [he] using o3
        have HR3 : Hid ((Builtin.append_ #[26, 26] 26 #[u4, .slice (some ⟨wr.heap.size + 1, 0, none⟩) 1 1]).run Try.prog ((wr.alloc (.cells #[.string tn, .slice ta tb tc, .int .i64 ts] 70)).alloc (.cells #[.string tn, .slice ta tb tc, .int .i64 ts] 70)) = .ok v3 w3) := by
          have := run
          rw [show (wr.alloc (.cells #[.string tn, .slice ta tb tc, .int .i64 ts] 70)).heap.size = wr.heap.size + 1 by simp] at this
          exact this
        have HB3 : Hid (Below w.heap.size w w3) := HB2.out.trans b3
        clear run o3 b3 HO2 HK HB2
        go_wp2_with (first | (refine wpList_loadR rfl 70 _ rfl _ _ rfl HR.out ?_) | (at_builtin; refine wpList_appR rfl _ _ 26 rfl _ _ _ _ rfl rfl HR3.out ?_))
        go_roundw
        case rel => exact ⟨k + 1, by go_num, by omega, HB3, HX⟩
        case measure => simp [intOf]; omega
    · have hB2 : wr.heap[rb]? = some (rbS (.slice a L.length c) s) := (HB.out.block rb hrb.out).trans HH.out
      obtain ⟨⟨d0, -⟩, df⟩ := rbS_cells hB2
      have d1 := df 0
      obtain ⟨va, vc, hu⟩ := HO.out.fls.slice
      obtain ⟨vn, hvn⟩ : ∃ n, n = ((L.take k).filter fun t => decide (t.nm ≠ nm)).length := ⟨_, rfl⟩
      rw [← hvn] at hu
      subst hu
      clear hvn
      have HE : Hid (RefW (fun i => w.heap.size ≤ i) (wr.setCell ⟨rb, 0, none⟩ (.slice va vn vc)) rb s (L.filter fun t => decide (t.nm ≠ nm)) ∧ w.grownBy (wr.setCell ⟨rb, 0, none⟩ (.slice va vn vc)) (some rb)) := by
        have ho := HO.out
        rw [List.take_of_length_le (by omega)] at ho
        exact ⟨⟨_, rb_set0 hB2, (own_set ho hrb.out).fls, (own_set ho hrb.out (i := 0) (u := .slice va vn vc)).away hrb.out⟩, gr_set (gr_below HB.out)⟩
      clear df hB2 HO
      go_wp2
      go_end0
      exact ⟨rfl, HE.out⟩
end Go.Proofs.Ytmeecjedikechaa

/- The reference's put, whatever its list holds. -/
namespace Go.Proofs.Ytmeecjedikechaa
open Go.RowKit Go.Maps
set_option maxRecDepth 100000
set_option linter.unusedVariables false
set_option linter.unusedSimpArgs false
theorem binOp_string_geq (t : TypeId) (a b : ByteArray) : binOp .geq t (.string a) (.string b) = pure (.bool (!Op.bytesLess a.toList b.toList)) := by simp [binOp, Op.stringOp]
/-- One file more: what stays. -/
theorem own_file2 {base : Nat} {w : World} {v : Value} {L : List RE} (h : OwnF base w v L) (hb : base ≤ w.heap.size) (t : RE) (hl : L.length + 1 ≤ 1000000) :
    ∃ v' w', (Builtin.append_ #[26, 26] 26 #[v, .slice (some ⟨w.heap.size, 0, none⟩) 1 1]).run Try.prog (w.alloc (.cells (reC t).toArray 70)) = .ok v' w' ∧ OwnF base w' v' (L ++ [t]) ∧ Below base w w' ∧
      (∀ i, i < w.heap.size → v.ownBlock ≠ some i → w'.heap[i]? = w.heap[i]?) ∧ (∀ g, v'.ownBlock = some g → v.ownBlock = some g ∨ w.heap.size ≤ g) := by
  obtain ⟨i0, hi, hz0, hz1, hz2⟩ := info_parts rinf70
  have hbx := heap_alloc_new w (.cells (reC t).toArray 70)
  have hadd : ∀ k, (⟨w.heap.size, 0, none⟩ : Addr).add k = ⟨w.heap.size, k, none⟩ := fun k => by unfold Addr.add; split <;> simp_all
  obtain ⟨v', w', h1, h2, h3, _, h5⟩ := run_append_own_at (w.alloc (.cells (reC t).toArray 70)) base 26 26 70 i0 (.agg #[.string ⟨#[]⟩, .slice none 0 0, .int .i64 0]) 3 48 Try.underlying26 hi hz0 hz1 hz2 rfl (by decide) v _ _ (h.alloc _) ⟨w.heap.size, 0, none⟩ 1 1 (reC t) rfl
    (fun j u hj => by rw [hadd, cell_of_row _ _ j _ _ _ hbx]; simpa using hj) (by intro u hu; simp [reC] at hu; rcases hu with rfl | rfl | rfl <;> rfl) (by simp only [maxLen]; omega) (by omega) (by simp; omega)
  refine ⟨v', w', h1, ?_, ?_, fun i hi hne => ?_, fun g hg => ?_⟩
  · unfold OwnF
    rw [List.length_append, fl_app]
    simpa [fl] using h2
  · exact ((Below.refl base w).alloc hb _).grown h3 (by simp; omega) fun k hk => (World.ownsRow.lt h k hk).1
  · rw [h3.block i (by simp; omega) (fun e => hne e.symm)]
    exact Below.heap_alloc w _ i hi
  · rcases h5 with e | e
    · left; rw [← e]; exact hg
    · right; rw [e] at hg; cases hg; simp
def geB (x f : RE) : Bool := !Op.bytesLess x.nm.toList f.nm.toList
/-- A file put into a list by its name. -/
def putF (f : RE) : Bool → List RE → List RE
  | done, [] => if done = true then [] else [f]
  | done, x :: L => (if done = false ∧ geB x f = true then [f] else []) ++ ((if x.nm ≠ f.nm then [x] else []) ++ putF f (done || geB x f) L)
theorem less_self : ∀ a : List UInt8, Op.bytesLess a a = false
  | [] => rfl
  | a :: x => by unfold Op.bytesLess; simp [less_self x]
theorem fcells70 {u : World} {g : Nat} {x y z : Value} (h : u.heap[g]? = some (.cells #[x, y, z] 70 (0, 0))) : u.cell? ⟨g, 0, none⟩ = some x ∧ u.cell? ⟨g, 1, none⟩ = some y ∧ u.cell? ⟨g, 2, none⟩ = some z := by
  simp [World.cell?, h]
set_option maxHeartbeats 8000000 in
theorem rput_any {K : Nat → Prop} {w : World} {rb : Nat} {s : RS} {L : List RE} (h : RefW K w rb s L) (hl : L.length ≤ 100000) (fn : ByteArray) (fa : Option Addr) (fb fc : Nat) (fs : Int) :
    Calls Try.prog 59 #[ptrOf rb, .agg #[.string fn, .slice fa fb fc, .int .i64 fs]] w fun e w' => e = .returned (.tuple #[]) ∧ RefW (fun i => w.heap.size ≤ i) w' rb s (putF ⟨fn, fa, fb, fc, fs⟩ false L) ∧ w.grownBy w' (some rb) := by
  have hge := binOp_string_geq 9
  obtain ⟨fv, hB, hF, -⟩ := h
  have hrb : Hid (rb < w.heap.size) := (Array.getElem?_eq_some_iff.1 hB).1
  have HF : Hid (Fls (w.alloc (.cells #[.string fn, .slice fa fb fc, .int .i64 fs] 70)) fv L) := hF.kept fun i hi => Below.heap_alloc w _ i hi
  have HH : Hid ((w.alloc (.cells #[.string fn, .slice fa fb fc, .int .i64 fs] 70)).heap[rb]? = some (rbS fv s)) := (Below.heap_alloc w _ rb hrb.out).trans hB
  have HX : Hid ((w.alloc (.cells #[.string fn, .slice fa fb fc, .int .i64 fs] 70)).heap[w.heap.size]? = some (.cells #[.string fn, .slice fa fb fc, .int .i64 fs] 70)) := heap_alloc_new w _
  have HSZ : Hid ((w.alloc (.cells #[.string fn, .slice fa fb fc, .int .i64 fs] 70)).heap.size = w.heap.size + 1) := by show _ = _; simp
  obtain ⟨a, c, rfl⟩ := hF.slice
  obtain ⟨⟨c0, -⟩, -⟩ := rbS_cells HH.out
  clear hF hB
  go_enter Try.func59, Try.ntmps59
  go_wp2_with fail
  go_loopw [4, 5, 13] (fun lv dn i wr => ∃ (k : Nat) (d : Bool) (A : List RE), dn = .bool d ∧ i = .int .i64 k ∧ k ≤ L.length ∧ A.length ≤ 2 * k ∧ Hid (Below (w.alloc (.cells #[.string fn, .slice fa fb fc, .int .i64 fs] 70)).heap.size (w.alloc (.cells #[.string fn, .slice fa fb fc, .int .i64 fs] 70)) wr) ∧ Hid (OwnF (w.alloc (.cells #[.string fn, .slice fa fb fc, .int .i64 fs] 70)).heap.size wr lv A) ∧ Hid (A ++ putF ⟨fn, fa, fb, fc, fs⟩ d (L.drop k) = putF ⟨fn, fa, fb, fc, fs⟩ false L)) (fun _ _ i _ => L.length - (intOf i).toNat)
  case atStart => exact ⟨0, false, [], rfl, rfl, Nat.zero_le _, by simp, Below.refl _ _, OwnF.nil _ _, rfl⟩
  case round =>
    obtain ⟨k, d, A, rfl, rfl, hk, hA, HB, HO, HE⟩ := hrel
    by_cases hlt : k < L.length
    · obtain ⟨a', rfl, hrun⟩ := HF.out.load HB.out hlt
      have hdr : L.drop k = L[k] :: L.drop (k + 1) := List.drop_eq_getElem_cons hlt
      have HR : Hid _ := hrun
      have HD : Hid _ := hdr
      clear hrun hdr
      generalize L[k] = t at *
      obtain ⟨tn, ta, tb, tc, ts⟩ := t
      dsimp only at HR HD
      have hX1 : (wr.alloc (.cells #[.string tn, .slice ta tb tc, .int .i64 ts] 70)).heap[w.heap.size]? = some (.cells #[.string fn, .slice fa fb fc, .int .i64 fs] 70) := by
        have h1 := HB.out.size
        have h2 := HSZ.out
        rw [Below.heap_alloc wr _ _ (by omega), HB.out.block _ (by omega)]
        exact HX.out
      have hT1 : (wr.alloc (.cells #[.string tn, .slice ta tb tc, .int .i64 ts] 70)).heap[wr.heap.size]? = some (.cells #[.string tn, .slice ta tb tc, .int .i64 ts] 70) := heap_alloc_new wr _
      have HB1 : Hid (Below (w.alloc (.cells #[.string fn, .slice fa fb fc, .int .i64 fs] 70)).heap.size (w.alloc (.cells #[.string fn, .slice fa fb fc, .int .i64 fs] 70)) (wr.alloc (.cells #[.string tn, .slice ta tb tc, .int .i64 ts] 70))) := HB.out.alloc HB.out.size _
      have HO1 : Hid (OwnF (w.alloc (.cells #[.string fn, .slice fa fb fc, .int .i64 fs] 70)).heap.size (wr.alloc (.cells #[.string tn, .slice ta tb tc, .int .i64 ts] 70)) u4 A) := HO.out.alloc _
      have HOL : Hid (∀ g, u4.ownBlock = some g → (w.alloc (.cells #[.string fn, .slice fa fb fc, .int .i64 fs] 70)).heap.size ≤ g ∧ g < wr.heap.size) := fun g hg => World.ownsRow.lt HO.out g hg
      have HS1 : Hid ((wr.alloc (.cells #[.string tn, .slice ta tb tc, .int .i64 ts] 70)).heap.size = wr.heap.size + 1) := by show _ = _; simp
      obtain ⟨x0, x1, x2⟩ := fcells70 hX1
      obtain ⟨y0, y1, y2⟩ := fcells70 hT1
      have HX1 : Hid _ := hX1
      have HT1 : Hid _ := hT1
      clear hX1 hT1 HO
      by_cases he : tn = fn

      · have hne : (tn.toList == fn.toList) = true := by rw [he]; simp
        have gg : Op.bytesLess tn.toList fn.toList = false := by rw [he]; exact less_self _
        have HEQ : Hid (tn = fn) := he
        clear he
        cases d
        · skip
          obtain ⟨v3, w3, run, o3, b3, k3, m3⟩ := own_file2 HO1.out HB1.out.size ⟨fn, fa, fb, fc, fs⟩ (by omega)
          have HR3 : Hid ((Builtin.append_ #[26, 26] 26 #[u4, .slice (some ⟨wr.heap.size + 1, 0, none⟩) 1 1]).run Try.prog ((wr.alloc (.cells #[.string tn, .slice ta tb tc, .int .i64 ts] 70)).alloc (.cells #[.string fn, .slice fa fb fc, .int .i64 fs] 70)) = .ok v3 w3) := by
            have := run
            rw [HS1.out] at this
            exact this
          have HT3 : w3.heap[wr.heap.size]? = some (.cells #[.string tn, .slice ta tb tc, .int .i64 ts] 70) := (k3 _ (by have := HS1.out; omega) (fun e => by have := HOL.out _ e; omega)).trans HT1.out
          have HX3 : w3.heap[w.heap.size]? = some (.cells #[.string fn, .slice fa fb fc, .int .i64 fs] 70) := (k3 _ (by have := HS1.out; have := HSZ.out; have := HB.out.size; omega) (fun e => by have := HOL.out _ e; have := HSZ.out; omega)).trans HX1.out
          obtain ⟨p0, p1, p2⟩ := fcells70 HT3
          obtain ⟨q0, q1, q2⟩ := fcells70 HX3
          have HO3 : Hid (OwnF (w.alloc (.cells #[.string fn, .slice fa fb fc, .int .i64 fs] 70)).heap.size w3 v3 (A ++ [⟨fn, fa, fb, fc, fs⟩])) := o3
          have HB3 : Hid (Below (w.alloc (.cells #[.string fn, .slice fa fb fc, .int .i64 fs] 70)).heap.size (w.alloc (.cells #[.string fn, .slice fa fb fc, .int .i64 fs] 70)) w3) := HB1.out.trans b3
          clear run o3 b3 k3 m3 HT3 HX3
          have HE2 : Hid ((A ++ [⟨fn, fa, fb, fc, fs⟩]) ++ putF ⟨fn, fa, fb, fc, fs⟩ true (L.drop (k + 1)) = putF ⟨fn, fa, fb, fc, fs⟩ false L) := by
            show _ = _
            rw [← HE.out, HD.out]
            simp [putF, geB, less_self, HEQ.out]
          clear HE HD
          go_wp2_with (first | (refine wpList_loadR rfl 70 _ rfl _ _ rfl HR.out ?_) | (at_builtin; refine wpList_appR rfl _ _ 26 rfl _ _ _ _ rfl rfl HR3.out ?_))
          go_roundw
          case rel => exact ⟨k + 1, true, _, rfl, by go_num, by omega, by (try simp only [List.length_append, List.length_cons, List.length_nil]); omega, HB3, HO3, HE2⟩
          case measure => simp [intOf]; omega
        · skip
          have HE2 : Hid ((A) ++ putF ⟨fn, fa, fb, fc, fs⟩ true (L.drop (k + 1)) = putF ⟨fn, fa, fb, fc, fs⟩ false L) := by
            show _ = _
            rw [← HE.out, HD.out]
            simp [putF, geB, less_self, HEQ.out]
          clear HE HD
          go_wp2_with (first | (refine wpList_loadR rfl 70 _ rfl _ _ rfl HR.out ?_))
          go_roundw
          case rel => exact ⟨k + 1, true, _, rfl, by go_num, by omega, by (try simp only [List.length_append, List.length_cons, List.length_nil]); omega, HB1, HO1, HE2⟩
          case measure => simp [intOf]; omega
      · have hne := bne_list he
        cases d
        · cases gg : Op.bytesLess tn.toList fn.toList
          · skip
            obtain ⟨v3, w3, run, o3, b3, k3, m3⟩ := own_file2 HO1.out HB1.out.size ⟨fn, fa, fb, fc, fs⟩ (by omega)
            have HR3 : Hid ((Builtin.append_ #[26, 26] 26 #[u4, .slice (some ⟨wr.heap.size + 1, 0, none⟩) 1 1]).run Try.prog ((wr.alloc (.cells #[.string tn, .slice ta tb tc, .int .i64 ts] 70)).alloc (.cells #[.string fn, .slice fa fb fc, .int .i64 fs] 70)) = .ok v3 w3) := by
              have := run
              rw [HS1.out] at this
              exact this
            have HT3 : w3.heap[wr.heap.size]? = some (.cells #[.string tn, .slice ta tb tc, .int .i64 ts] 70) := (k3 _ (by have := HS1.out; omega) (fun e => by have := HOL.out _ e; omega)).trans HT1.out
            have HX3 : w3.heap[w.heap.size]? = some (.cells #[.string fn, .slice fa fb fc, .int .i64 fs] 70) := (k3 _ (by have := HS1.out; have := HSZ.out; have := HB.out.size; omega) (fun e => by have := HOL.out _ e; have := HSZ.out; omega)).trans HX1.out
            obtain ⟨p0, p1, p2⟩ := fcells70 HT3
            obtain ⟨q0, q1, q2⟩ := fcells70 HX3
            have HO3 : Hid (OwnF (w.alloc (.cells #[.string fn, .slice fa fb fc, .int .i64 fs] 70)).heap.size w3 v3 (A ++ [⟨fn, fa, fb, fc, fs⟩])) := o3
            have HB3 : Hid (Below (w.alloc (.cells #[.string fn, .slice fa fb fc, .int .i64 fs] 70)).heap.size (w.alloc (.cells #[.string fn, .slice fa fb fc, .int .i64 fs] 70)) w3) := HB1.out.trans b3
            clear run o3 b3 k3 m3 HT3 HX3
            obtain ⟨v5, w5, run5, o5, b5, k5, m5⟩ := own_file2 HO3.out HB3.out.size ⟨tn, ta, tb, tc, ts⟩ (by simp only [List.length_append, List.length_cons, List.length_nil]; omega)
            have HR5 : Hid ((Builtin.append_ #[26, 26] 26 #[v3, .slice (some ⟨w3.heap.size, 0, none⟩) 1 1]).run Try.prog (w3.alloc (.cells #[.string tn, .slice ta tb tc, .int .i64 ts] 70)) = .ok v5 w5) := run5
            have HO5 : Hid (OwnF (w.alloc (.cells #[.string fn, .slice fa fb fc, .int .i64 fs] 70)).heap.size w5 v5 ((A ++ [⟨fn, fa, fb, fc, fs⟩]) ++ [⟨tn, ta, tb, tc, ts⟩])) := o5
            have HB5 : Hid (Below (w.alloc (.cells #[.string fn, .slice fa fb fc, .int .i64 fs] 70)).heap.size (w.alloc (.cells #[.string fn, .slice fa fb fc, .int .i64 fs] 70)) w5) := HB3.out.trans b5
            clear run5 o5 b5 k5 m5
            have HE2 : Hid (((A ++ [⟨fn, fa, fb, fc, fs⟩]) ++ [⟨tn, ta, tb, tc, ts⟩]) ++ putF ⟨fn, fa, fb, fc, fs⟩ true (L.drop (k + 1)) = putF ⟨fn, fa, fb, fc, fs⟩ false L) := by
              show _ = _
              rw [← HE.out, HD.out]
              simp [putF, geB, gg, he]
            clear HE HD
            go_wp2_with (first | (refine wpList_loadR rfl 70 _ rfl _ _ rfl HR.out ?_) | (at_builtin; refine wpList_appR rfl _ _ 26 rfl _ _ _ _ rfl rfl HR3.out ?_) | (at_builtin; refine wpList_appR rfl _ _ 26 rfl _ _ _ _ rfl rfl HR5.out ?_))
            go_roundw
            case rel => exact ⟨k + 1, true, _, rfl, by go_num, by omega, by (try simp only [List.length_append, List.length_cons, List.length_nil]); omega, HB5, HO5, HE2⟩
            case measure => simp [intOf]; omega
          · skip
            obtain ⟨v5, w5, run5, o5, b5, k5, m5⟩ := own_file2 HO1.out HB1.out.size ⟨tn, ta, tb, tc, ts⟩ (by omega)
            have HR5 : Hid ((Builtin.append_ #[26, 26] 26 #[u4, .slice (some ⟨wr.heap.size + 1, 0, none⟩) 1 1]).run Try.prog ((wr.alloc (.cells #[.string tn, .slice ta tb tc, .int .i64 ts] 70)).alloc (.cells #[.string tn, .slice ta tb tc, .int .i64 ts] 70)) = .ok v5 w5) := by
              have := run5
              rw [HS1.out] at this
              exact this
            have HO5 : Hid (OwnF (w.alloc (.cells #[.string fn, .slice fa fb fc, .int .i64 fs] 70)).heap.size w5 v5 ((A) ++ [⟨tn, ta, tb, tc, ts⟩])) := o5
            have HB5 : Hid (Below (w.alloc (.cells #[.string fn, .slice fa fb fc, .int .i64 fs] 70)).heap.size (w.alloc (.cells #[.string fn, .slice fa fb fc, .int .i64 fs] 70)) w5) := HB1.out.trans b5
            clear run5 o5 b5 k5 m5
            have HE2 : Hid (((A) ++ [⟨tn, ta, tb, tc, ts⟩]) ++ putF ⟨fn, fa, fb, fc, fs⟩ false (L.drop (k + 1)) = putF ⟨fn, fa, fb, fc, fs⟩ false L) := by
              show _ = _
              rw [← HE.out, HD.out]
              simp [putF, geB, gg, he]
            clear HE HD
            go_wp2_with (first | (refine wpList_loadR rfl 70 _ rfl _ _ rfl HR.out ?_) | (at_builtin; refine wpList_appR rfl _ _ 26 rfl _ _ _ _ rfl rfl HR5.out ?_))
            go_roundw
            case rel => exact ⟨k + 1, false, _, rfl, by go_num, by omega, by (try simp only [List.length_append, List.length_cons, List.length_nil]); omega, HB5, HO5, HE2⟩
            case measure => simp [intOf]; omega
        · skip
          obtain ⟨v5, w5, run5, o5, b5, k5, m5⟩ := own_file2 HO1.out HB1.out.size ⟨tn, ta, tb, tc, ts⟩ (by omega)
          have HR5 : Hid ((Builtin.append_ #[26, 26] 26 #[u4, .slice (some ⟨wr.heap.size + 1, 0, none⟩) 1 1]).run Try.prog ((wr.alloc (.cells #[.string tn, .slice ta tb tc, .int .i64 ts] 70)).alloc (.cells #[.string tn, .slice ta tb tc, .int .i64 ts] 70)) = .ok v5 w5) := by
            have := run5
            rw [HS1.out] at this
            exact this
          have HO5 : Hid (OwnF (w.alloc (.cells #[.string fn, .slice fa fb fc, .int .i64 fs] 70)).heap.size w5 v5 ((A) ++ [⟨tn, ta, tb, tc, ts⟩])) := o5
          have HB5 : Hid (Below (w.alloc (.cells #[.string fn, .slice fa fb fc, .int .i64 fs] 70)).heap.size (w.alloc (.cells #[.string fn, .slice fa fb fc, .int .i64 fs] 70)) w5) := HB1.out.trans b5
          clear run5 o5 b5 k5 m5
          have HE2 : Hid (((A) ++ [⟨tn, ta, tb, tc, ts⟩]) ++ putF ⟨fn, fa, fb, fc, fs⟩ true (L.drop (k + 1)) = putF ⟨fn, fa, fb, fc, fs⟩ false L) := by
            show _ = _
            rw [← HE.out, HD.out]
            simp [putF, he]
          clear HE HD
          go_wp2_with (first | (refine wpList_loadR rfl 70 _ rfl _ _ rfl HR.out ?_) | (at_builtin; refine wpList_appR rfl _ _ 26 rfl _ _ _ _ rfl rfl HR5.out ?_))
          go_roundw
          case rel => exact ⟨k + 1, true, _, rfl, by go_num, by omega, by (try simp only [List.length_append, List.length_cons, List.length_nil]); omega, HB5, HO5, HE2⟩
          case measure => simp [intOf]; omega
    · have hB2 : wr.heap[rb]? = some (rbS (.slice a L.length c) s) := by
        have h1 := HSZ.out
        exact (HB.out.block rb (by have := hrb.out; omega)).trans HH.out
      have hX2 : wr.heap[w.heap.size]? = some (.cells #[.string fn, .slice fa fb fc, .int .i64 fs] 70) := by
        have h1 := HSZ.out
        exact (HB.out.block _ (by omega)).trans HX.out
      obtain ⟨⟨d0, -⟩, df⟩ := rbS_cells hB2
      have d1 := df 0
      obtain ⟨x0, x1, x2⟩ := fcells70 hX2
      have HHB : Hid _ := hB2
      clear df hB2 hX2
      have hdn : L.drop k = [] := List.drop_eq_nil_of_le (by omega)
      have HRB : Hid (rb < (w.alloc (.cells #[.string fn, .slice fa fb fc, .int .i64 fs] 70)).heap.size) := by have := hrb.out; have := HSZ.out; show _ < _; omega
      have HG : Hid (∀ x, Below (w.alloc (.cells #[.string fn, .slice fa fb fc, .int .i64 fs] 70)).heap.size (w.alloc (.cells #[.string fn, .slice fa fb fc, .int .i64 fs] 70)) x → w.grownBy x (some rb)) := fun x hx => gr_trans (gr_below ((Below.refl _ _).alloc (Nat.le_refl _) _)) (gr_below (hx.mono (Nat.le_refl _)))
      cases d
      · have HE2 : Hid (A ++ [⟨fn, fa, fb, fc, fs⟩] = putF ⟨fn, fa, fb, fc, fs⟩ false L) := by
          show _ = _
          rw [← HE.out, hdn]; rfl
        obtain ⟨v5, w5, run5, o5, b5, k5, m5⟩ := own_file2 HO.out HB.out.size ⟨fn, fa, fb, fc, fs⟩ (by omega)
        have HR5 : Hid ((Builtin.append_ #[26, 26] 26 #[u4, .slice (some ⟨wr.heap.size, 0, none⟩) 1 1]).run Try.prog (wr.alloc (.cells #[.string fn, .slice fa fb fc, .int .i64 fs] 70)) = .ok v5 w5) := run5
        have hB5 : w5.heap[rb]? = some (rbS (.slice a L.length c) s) := (b5.block rb HRB.out).trans HHB.out
        obtain ⟨⟨g0, -⟩, gf⟩ := rbS_cells hB5
        have g1 := gf 0
        obtain ⟨va, vc, hu⟩ := OwnF.fls o5 |>.slice
        obtain ⟨vn, hvn⟩ : ∃ n, n = (A ++ [(⟨fn, fa, fb, fc, fs⟩ : RE)]).length := ⟨_, rfl⟩
        rw [← hvn] at hu
        subst hu
        clear hvn
        have HE3 : Hid (RefW (fun i => w.heap.size ≤ i) (w5.setCell ⟨rb, 0, none⟩ (.slice va vn vc)) rb s (putF ⟨fn, fa, fb, fc, fs⟩ false L) ∧ w.grownBy (w5.setCell ⟨rb, 0, none⟩ (.slice va vn vc)) (some rb)) := by
          have ho := o5
          rw [HE2.out] at ho
          exact ⟨⟨_, rb_set0 hB5, (own_set ho HRB.out).fls, (own_set ho HRB.out (i := 0) (u := .slice va vn vc)).away' HRB.out (by simp)⟩, gr_set (HG.out _ (HB.out.trans b5))⟩
        clear gf hB5 run5 o5 b5 k5 m5 HO HE HE2
        go_wp2_with (at_builtin; refine wpList_appR rfl _ _ 26 rfl _ _ _ _ rfl rfl HR5.out ?_)
        go_end0
        exact ⟨rfl, HE3.out⟩
      · have HE2 : Hid (A = putF ⟨fn, fa, fb, fc, fs⟩ false L) := by
          show _ = _
          rw [← HE.out, hdn]; simp [putF]
        have o5 := HO.out
        obtain ⟨va, vc, hu⟩ := o5.fls.slice
        obtain ⟨vn, hvn⟩ : ∃ n, n = A.length := ⟨_, rfl⟩
        rw [← hvn] at hu
        subst hu
        clear hvn
        have HE3 : Hid (RefW (fun i => w.heap.size ≤ i) (wr.setCell ⟨rb, 0, none⟩ (.slice va vn vc)) rb s (putF ⟨fn, fa, fb, fc, fs⟩ false L) ∧ w.grownBy (wr.setCell ⟨rb, 0, none⟩ (.slice va vn vc)) (some rb)) := by
          have ho := o5
          rw [HE2.out] at ho
          exact ⟨⟨_, rb_set0 HHB.out, (own_set ho HRB.out).fls, (own_set ho HRB.out (i := 0) (u := .slice va vn vc)).away' HRB.out (by simp)⟩, gr_set (HG.out _ HB.out)⟩
        clear o5 HO HE HE2
        go_wp2
        go_end0
        exact ⟨rfl, HE3.out⟩
end Go.Proofs.Ytmeecjedikechaa
