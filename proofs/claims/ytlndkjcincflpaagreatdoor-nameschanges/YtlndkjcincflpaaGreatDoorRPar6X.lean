/- RPar6. -/
import Derived.Test.YtlndkjcincflpaaGreatDoorRPar5X
set_option linter.unusedVariables false
set_option linter.unusedSimpArgs false
namespace Go.Proofs.YtlndkjcincflpaaGreatDoor
open Go.RowKit Go.Fm
set_option maxRecDepth 100000
theorem wp_append_run {P : Program} {o : Oper} {a : Act} {w w' : World} {K : Act → World → Prop} {Q : Exit → Act → World → Prop} (d : Option Tmp) (hd : o.dst = d) (ty : TypeId) (hty : o.type = ty) (s x : Operand) (t : TypeId)
    (ho : o.op = .call { callee := .builtin .append, args := #[s, x], argTypes := #[t, t] }) (v bv v' : Value) (hs : a.eval s = v) (hx : a.eval x = bv) (hrun : (Builtin.append_ #[t, t] ty #[v, bv]).run P w = .ok v' w')
    (h : K (a.put d v') w') : Oper.wp P o a w K Q := by
  subst hd hty
  unfold Oper.wp
  simp [execOp, ho, resolve, invoke, builtin, hs, hx, hrun, Result.andThen]
  exact h
theorem run_store26 {u : World} {g o : Nat} {a : Option Addr} {n c : Nat} {old : Value} (hc : u.cell? ⟨g, o, none⟩ = some old) (hf : u.frozen? ⟨g, o, none⟩ = false) : (Instr.storeAt 48 (.pointer (some ⟨g, o, none⟩)) (.slice a n c)).run Tryz.prog u = .ok () (u.setCell ⟨g, o, none⟩ (.slice a n c)) := by
  have h1 := Tryz.underlying48
  have h2 := Tryz.isAgg48
  have h3 := Tryz.sizeOf48
  go_simp
theorem ownN_appA {base : Nat} {w : World} {v : Value} {L : List (Array Value × T)} (h : OwnN base w v L) {es : Array Value} {t : T} (hN : NA es) {g : Nat} (hg : w.heap[g]? = some (.cells es 50)) (hn : L.length ≤ 100000) (hbase : base ≤ w.heap.size) :
    ∃ v' w', Hid ((Builtin.append_ #[48, 48] 48 #[v, .slice (some ⟨g, 0, none⟩) 1 1]).run Tryz.prog w = .ok v' w') ∧ OwnN base w' v' (L ++ [(es, t)]) ∧ w.grownBy w' v.ownBlock ∧ (v'.ownBlock = v.ownBlock ∨ v'.ownBlock = some w.heap.size) := by
  obtain ⟨i0, hi, hz0, hz1, hz2⟩ := info_parts inf28z
  have hz := hN.size
  obtain ⟨v', w', r1, o1, g1, _, g2⟩ := run_append_own_at w base 48 48 50 i0 _ 18 192 Tryz.underlying48 hi hz0 hz1 hz2 rfl (by decide) v _ _ h ⟨g, 0, none⟩ 1 1 es.toList (by simp [hz])
    (fun j x hj => by rw [add_none, Nat.zero_add, cell_of_row w g j _ _ _ hg, ← hj]; simp) (by
      have := hN.one
      intro x hx
      rw [Array.all_eq_true_iff_forall_mem] at this
      exact this x (by simpa using hx)) (by simp only [maxLen]; omega) (by omega) hbase
  refine ⟨v', w', r1, ?_, g1, g2⟩
  unfold OwnN
  rw [List.length_append, List.flatMap_append]
  simpa using o1
def goF (acc : List T) (r : List Tk.Tok) : Option (List T × List Tk.Tok) :=
  (PP 1 r).bind fun p => (argsF (PP 1) (p.2.length + 1) (acc ++ [p.1]) p.2).bind fun q => if q.1.length ≤ 16 then some q else none
theorem AA_go {ts : List Tk.Tok} (h : opOf ts ≠ [41]) : AA ts = goF [] ts := by unfold AA goF; rw [if_neg h]; rfl
theorem go_comma {acc : List T} {r : List Tk.Tok} {p : T × List Tk.Tok} (hp : PP 1 r = some p) (h' : opOf p.2 = [44]) : goF acc r = goF (acc ++ [p.1]) p.2.tail := by
  have h : opOf p.2 ≠ [41] := by rw [h']; decide
  unfold goF
  rw [hp, Option.bind_some, args_comma h h']
  cases PP 1 p.2.tail with
  | none => rfl
  | some q => rfl
theorem go_close {acc : List T} {r : List Tk.Tok} {p : T × List Tk.Tok} (hp : PP 1 r = some p) (h : opOf p.2 = [41]) : goF acc r = if (acc ++ [p.1]).length ≤ 16 then some (acc ++ [p.1], p.2.tail) else none := by
  unfold goF
  rw [hp, Option.bind_some, args_close h, Option.bind_some]
theorem go_bad {acc : List T} {r : List Tk.Tok} {p : T × List Tk.Tok} (hp : PP 1 r = some p) (h : opOf p.2 ≠ [41]) (h' : opOf p.2 ≠ [44]) : goF acc r = none := by
  unfold goF
  rw [hp, Option.bind_some, args_bad h h']; rfl
theorem go_none {acc : List T} {r : List Tk.Tok} (hp : PP 1 r = none) : goF acc r = none := by unfold goF; rw [hp]; rfl
structure CI (W : World) (b : Nat) (w : World) (S : ByteArray) (v : Value) (L : List (Array Value × T)) (u : World) : Prop where
  box : u.heap[w.heap.size + 1]? = some (.cells (lcs (lab0 7 S) v) 50)
  res : u.heap[w.heap.size]? = some (.cells nd0 50)
  own : OwnN (w.heap.size + 2) u v L
  grow : w.grownBy u (some b)
theorem CI.cells {W w u : World} {b : Nat} {S : ByteArray} {v : Value} {L : List (Array Value × T)} (h : CI W b w S v L u) : u.cell? ⟨w.heap.size + 1, 17, none⟩ = some v ∧ u.frozen? ⟨w.heap.size + 1, 17, none⟩ = false := ⟨cell17 h.box, by unfold World.frozen?; rw [h.box]; rfl⟩
theorem set17 {u : World} {g : Nat} {a : Lab} {v v' : Value} (h : u.heap[g]? = some (.cells (lcs a v) 50)) : (u.setCell ⟨g, 17, none⟩ v').heap[g]? = some (.cells (lcs a v') 50) := by
  simp [World.setCell, Array.getElem?_modify, h]
  rfl
abbrev mS (W : World) (b : Nat) (w : World) (o2 : Option (T × List Tk.Tok)) (P : T → Prop) (u : World) : Prop := match o2 with
  | none => Sw W b w u
  | some p => Sq W b p.2 w u ∧ P p.1
theorem CI.more {W w wr u w3 : World} {b : Nat} {S : ByteArray} {a : Option Addr} {n c : Nat} {L : List (Array Value × T)} {es2 : Array Value} {o2 : Option (T × List Tk.Tok)} (h : CI W b w S (.slice a n c) L wr) (hb : b < w.heap.size) (hL : L.length ≤ 1000) (hd : wr.drew = u) (hn : NA es2) (h3 : RA W b u o2 es2 w3) (t : T) :
    Hid ((Instr.buildSlice 48 1 #[(0, .agg es2)]).run Tryz.prog w3 = .ok (.slice (some ⟨w3.heap.size, 0, none⟩) 1 1) (w3.alloc (.cells es2 50))) ∧
    ∃ a' n' c' w5, Hid ((Builtin.append_ #[48, 48] 48 #[.slice a n c, .slice (some ⟨w3.heap.size, 0, none⟩) 1 1]).run Tryz.prog (w3.alloc (.cells es2 50)) = .ok (.slice a' n' c') w5) ∧ n' = L.length + 1 ∧
      Hid ((Instr.storeAt 48 (.pointer (some ⟨w.heap.size + 1, 17, none⟩)) (.slice a' n' c')).run Tryz.prog w5 = .ok () (w5.setCell ⟨w.heap.size + 1, 17, none⟩ (.slice a' n' c'))) ∧
      Hid (w3.cell? ⟨w.heap.size + 1, 17, none⟩ = some (.slice a n c)) ∧ Hid ((w3.alloc (.cells es2 50)).cell? ⟨w.heap.size + 1, 17, none⟩ = some (.slice a n c)) ∧ Hid (w5.cell? ⟨w.heap.size + 1, 17, none⟩ = some (.slice a n c)) ∧
      Hid (CI W b w S (.slice a' n' c') (L ++ [(es2, t)]) (w5.setCell ⟨w.heap.size + 1, 17, none⟩ (.slice a' n' c'))) ∧
      Hid (mS W b w o2 (fun m => (∀ x ∈ L, NK (fun i => w.heap.size + 2 ≤ i ∧ (Value.slice a n c).ownBlock ≠ some i) wr x.1 x.2) → t = m → ∀ x ∈ L ++ [(es2, t)], NK (fun i => w.heap.size + 2 ≤ i ∧ (Value.slice a' n' c').ownBlock ≠ some i) (w5.setCell ⟨w.heap.size + 1, 17, none⟩ (.slice a' n' c')) x.1 x.2) (w5.setCell ⟨w.heap.size + 1, 17, none⟩ (.slice a' n' c'))) := by
  subst hd
  have hbx := lt_of h.box
  have hs3 : wr.heap.size ≤ w3.heap.size := h3.grow.size
  have B3 : w3.heap[w.heap.size + 1]? = some (.cells (lcs (lab0 7 S) (.slice a n c)) 50) := h3.kept (w := wr.drew) h.box (by omega)
  have R3 : w3.heap[w.heap.size]? = some (.cells nd0 50) := h3.kept (w := wr.drew) h.res (by omega)
  have hob := ownN_ob h.own (show b < w.heap.size + 2 by omega)
  have own3 : OwnN (w.heap.size + 2) w3 (.slice a n c) L := ownN_kept h.own (show wr.grownBy w3 (some b) from grown_trans (grown_below (Below.refl _ _).drew) h3.grow) hob
  have B4 : (w3.alloc (.cells es2 50)).heap[w.heap.size + 1]? = some (.cells (lcs (lab0 7 S) (.slice a n c)) 50) := (Below.heap_alloc _ _ _ (by omega)).trans B3
  have R4 : (w3.alloc (.cells es2 50)).heap[w.heap.size]? = some (.cells nd0 50) := (Below.heap_alloc _ _ _ (by omega)).trans R3
  have own4 := ownN_kept own3 (World.grownBy_alloc w3 (.cells es2 50) none) (by cases (Value.slice a n c).ownBlock <;> simp)
  obtain ⟨v', w5, RA5, o5, g5, g6⟩ := ownN_appA (t := t) own4 hn (g := w3.heap.size) (heap_alloc_new _ _) (by omega) (by simp; omega)
  obtain ⟨a', c', rfl⟩ := ownN_slice o5
  have hlt5 : ∀ g, (Value.slice a n c).ownBlock = some g → w.heap.size + 2 ≤ g ∧ g < wr.heap.size := fun g hg => World.ownsRow.lt h.own g hg
  have hne1 : (Value.slice a n c).ownBlock ≠ some (w.heap.size + 1) := fun e => by have := (hlt5 _ e).1; omega
  have hne0 : (Value.slice a n c).ownBlock ≠ some w.heap.size := fun e => by have := (hlt5 _ e).1; omega
  have B5 : w5.heap[w.heap.size + 1]? = some (.cells (lcs (lab0 7 S) (.slice a n c)) 50) := (g5.block _ (lt_of B4) (Ne.symm hne1)).trans B4
  have R5 : w5.heap[w.heap.size]? = some (.cells nd0 50) := (g5.block _ (lt_of R4) (Ne.symm hne0)).trans R4
  have hf5 : w5.frozen? ⟨w.heap.size + 1, 17, none⟩ = false := by unfold World.frozen?; rw [B5]; rfl
  have G6 := Lib.grownBy_setCell w5 (w.heap.size + 1) 17 (.slice a' (L ++ [(es2, t)]).length c')
  have hob5 : ∀ g, (Value.slice a' (L ++ [(es2, t)]).length c').ownBlock = some g → w.heap.size + 2 ≤ g := fun g hg => (World.ownsRow.lt o5 g hg).1
  have gr3 : w.grownBy w3 (some b) := grown_trans h.grow (grown_trans (grown_below (Below.refl _ _).drew) h3.grow)
  have gr4 : w.grownBy (w3.alloc (.cells es2 50)) (some b) := grown_trans gr3 (World.grownBy_alloc _ _ _)
  have gr5 : w.grownBy w5 (some b) := World.grownBy.andThen gr4 g5 (fun j e => .inl (by have := (hlt5 j e).1; omega))
  have gr6 : w.grownBy (w5.setCell ⟨w.heap.size + 1, 17, none⟩ (.slice a' (L ++ [(es2, t)]).length c')) (some b) := World.grownBy.andThen gr5 G6 (fun j e => by cases e; exact .inl (by omega))
  have st : ∀ {M : World → Prop}, True := fun {M} => trivial
  refine ⟨one_na hn, a', _, c', w5, RA5, by simp, run_store26 (cell17 B5) hf5, cell17 B3, cell17 B4, cell17 B5, ⟨set17 B5, (G6.block _ (lt_of R5) (by intro e; have := Option.some.inj e; omega)).trans R5, ?_, gr6⟩, ?_⟩
  · refine ownN_kept o5 G6 (.inr fun e => ?_)
    have := hob5 _ e
    omega
  · cases o2 with
    | none =>
      have h3' : Sw W b wr.drew w3 := h3
      show Sw W b w _
      have q4 := h3'.1.below (bel_alloc (Below.refl _ _) (.cells es2 50))
      have hlo := h3'.1.lo
      have q5 : QW W b w5 := q4.grown g5 (fun k e => by have := (hlt5 k e).1; exact ⟨by omega, by omega⟩)
      exact ⟨q5.grown G6 (fun k e => by cases e; exact ⟨by omega, by omega⟩), gr6⟩
    | some p =>
      obtain ⟨h1, h2⟩ := h3
      have q4 := h2.1.below (bel_alloc (Below.refl _ _) (.cells es2 50))
      have hlo := h2.1.lo
      have q5 : QR W b p.2 w5 := q4.grown g5 (fun k e => by have := (hlt5 k e).1; exact ⟨by omega, by omega⟩)
      refine ⟨⟨q5.grown G6 (fun k e => by cases e; exact ⟨by omega, by omega⟩), gr6⟩, fun HN ht x hx => ?_⟩
      have base : NK (fun i => w.heap.size + 2 ≤ i ∧ (Value.slice a n c).ownBlock ≠ some i ∧ i < w3.heap.size) (w3.alloc (.cells es2 50)) x.1 x.2 := by
        refine NK.below ?_ (bel_alloc (Below.refl _ _) _)
        rcases List.mem_append.1 hx with hx | hx
        · exact ((HN x hx).grown (show wr.grownBy w3 (some b) from grown_trans (grown_below (Below.refl _ _).drew) h2.2) (fun g e hk => by cases e; have := hk.1; omega)).mono (fun i hi hl => ⟨hi.1, hi.2, hl⟩)
        · simp only [List.mem_cons, List.not_mem_nil, or_false] at hx
          subst hx
          subst ht
          exact h1.mono (fun i hi hl => ⟨by have hi' : wr.heap.size ≤ i := hi; omega, fun e => by have := (hlt5 i e).2; have hi' : wr.heap.size ≤ i := hi; omega, hl⟩)
      refine ((base.grown g5 (fun g e hk => hk.2.1 e)).mono (K' := fun i => w.heap.size + 2 ≤ i ∧ (Value.slice a' (L ++ [(es2, t)]).length c').ownBlock ≠ some i) (fun i hi _ => ⟨hi.1, fun e => ?_⟩)).grown G6 (fun g e hk => by cases e; have := hk.1; omega)
      rcases g6 with g6 | g6
      · exact hi.2.1 (by rw [← g6]; exact e)
      · rw [g6] at e
        have := Option.some.inj e
        have := hi.2.2
        simp at *
        omega
theorem CI.fin {W w u : World} {b : Nat} {S : ByteArray} {v : Value} {L : List (Array Value × T)} (h : CI W b w S v L u) : Hid ((Instr.loadAt 50 (.pointer (some ⟨w.heap.size + 1, 0, none⟩))).run Tryz.prog u = .ok (.agg (lcs (lab0 7 S) v)) u) ∧ Hid ((Instr.storeAt 50 (.pointer (some ⟨w.heap.size, 0, none⟩)) (.agg (lcs (lab0 7 S) v))).run Tryz.prog u = .ok () (u.setRow w.heap.size (lcs (lab0 7 S) v))) ∧ Hid (u.heap[w.heap.size]? = some (.cells nd0 50)) ∧ Hid ((lcs (lab0 7 S) v).size = 18) ∧ Hid (NA (lcs (lab0 7 S) v)) := by
  obtain ⟨a, c, rfl⟩ := ownN_slice h.own
  have hn : NA (lcs (lab0 7 S) (.slice a L.length c)) := ⟨_, _, _, _, rfl⟩
  exact ⟨hn.lod h.box, hn.sto h.res rfl, h.res, rfl, hn⟩
theorem CI.good {W w u : World} {b : Nat} {S : ByteArray} {a : Option Addr} {n c : Nat} {L : List (Array Value × T)} {r : List Tk.Tok} (h : CI W b w S (.slice a n c) L u) (hb : b < w.heap.size) (hN : ∀ x ∈ L, NK (fun i => w.heap.size + 2 ≤ i ∧ (Value.slice a n c).ownBlock ≠ some i) u x.1 x.2) (hS : Sq W b r w u) :
    RA W b w (some (tree (lab0 7 S) (L.map (·.2)), r)) (lcs (lab0 7 S) (.slice a n c)) (u.setRow w.heap.size (lcs (lab0 7 S) (.slice a n c))) := by
  have G := setRow_grown u w.heap.size (lcs (lab0 7 S) (.slice a n c))
  refine ⟨?_, hS.grown G (Nat.le_refl _) hb⟩
  obtain ⟨a2, c2, e⟩ := ownN_slice h.own
  cases e
  have hr := ownN_row (K := fun i => w.heap.size < i) h.own (fun x hx => (hN x hx).mono (fun i hi _ => by have := hi.1; omega)) (fun g hg => by have := (World.ownsRow.lt h.own g hg).1; omega)
  refine ⟨a, L.length, c, rfl, ?_, ?_⟩
  · show L.length = (kids (Go.Fm.mk (L.map (·.2)))).length
    rw [kids_mk, List.length_map]
  · rcases hr with rfl | ⟨a', rfl, hi⟩
    · exact .inl rfl
    · exact .inr ⟨a', rfl, (hi.grown G (fun g e hk => by cases e; exact Nat.lt_irrefl _ hk)).mono (fun i hi _ => Nat.le_of_lt hi)⟩
abbrev cw0 (w : World) (S : ByteArray) : World := (w.alloc (.cells nd0 50)).alloc (.cells (lcs (lab0 7 S) (.slice none 0 0)) 50)
theorem cw0_facts (w : World) (S : ByteArray) (b : Nat) (W : World) : CI W b w S (.slice none 0 0) [] (cw0 w S) ∧ Below w.heap.size w (cw0 w S) ∧ (Instr.storeAt 50 (.pointer (some ⟨w.heap.size + 1, 0, none⟩)) (.agg (lcs (lab0 7 S) (.slice none 0 0)))).run Tryz.prog ((w.alloc (.cells nd0 50)).alloc (.cells nd0 50)) = .ok () (cw0 w S) := by
  have hz : (w.alloc (.cells nd0 50)).heap.size = w.heap.size + 1 := by simp
  have hB : Below w.heap.size w (cw0 w S) := bel_alloc (bel_alloc (Below.refl _ _) _) _
  refine ⟨⟨?_, (Below.heap_alloc _ _ _ (by simp)).trans (heap_alloc_new w _), World.ownsRow_nil _ _ _ _, grown_below hB⟩, hB, ?_⟩
  · have := heap_alloc_new (w.alloc (.cells nd0 50)) (.cells (lcs (lab0 7 S) (.slice none 0 0)) 50)
    rw [hz] at this; exact this
  · have := run_storeAt_new (P := Tryz.prog) (w.alloc (.cells nd0 50)) 50 nd0 (lcs (lab0 7 S) (.slice none 0 0)) (by rw [lcs_size]; exact inf50) rfl (lcs_all _ _ _ _)
    rw [hz] at this; exact this
theorem build_c (u : World) (S : ByteArray) : (Instr.build 50 #[(0, .int .i64 7), (1, .string S)]).run Tryz.prog u = .ok (.agg (lcs (lab0 7 S) (.slice none 0 0))) u := by kernel_rfl
end Go.Proofs.YtlndkjcincflpaaGreatDoor
