/- RPar6, RPar7. -/
import Derived.Test.YtnibldnfbikipaaGreatDoorRPar5By
set_option linter.unusedVariables false
set_option linter.unusedSimpArgs false
set_option maxHeartbeats 16000000
set_option maxRecDepth 100000
namespace Go.Proofs.YtnibldnfbikipaaGreatDoor
open Go.RowKit Go.Fm
theorem wp_append_run {P : Program} {o : Oper} {a : Act} {w w' : World} {K : Act → World → Prop} {Q : Exit → Act → World → Prop} (d : Option Tmp) (hd : o.dst = d) (ty : TypeId) (hty : o.type = ty) (s x : Operand) (t : TypeId)
  (ho : o.op = .call { callee := .builtin .append, args := #[s, x], argTypes := #[t, t] }) (v bv v' : Value) (hs : a.eval s = v) (hx : a.eval x = bv) (hrun : (Builtin.append_ #[t, t] ty #[v, bv]).run P w = .ok v' w')
  (h : K (a.put d v') w') : Oper.wp P o a w K Q := by
 subst hd hty
 unfold Oper.wp
 simp [execOp, ho, resolve, invoke, builtin, hs, hx, hrun, Result.andThen]
 exact h
theorem run_store26 {u : World} {g o : Nat} {a : Option Addr} {n c : Nat} {old : Value} (hc : u.cell? ⟨g, o, none⟩ = some old) (hf : u.frozen? ⟨g, o, none⟩ = false) : (Instr.storeAt 65 (.pointer (some ⟨g, o, none⟩)) (.slice a n c)).run Tryz.prog u = .ok () (u.setCell ⟨g, o, none⟩ (.slice a n c)) := by
 have h1 := Tryz.underlying65
 have h2 := Tryz.isAgg65
 have h3 := Tryz.sizeOf65
 go_simp
theorem ownN_appA {base : Nat} {w : World} {v : Value} {L : List (Array Value × T)} (h : OwnN base w v L) {es : Array Value} {t : T} (hN : NA es) {g : Nat} (hg : w.heap[g]? = some (.cells es 67)) (hn : L.length ≤ 100000) (hbase : base ≤ w.heap.size) :
  ∃ v' w', Hid ((Builtin.append_ #[65, 65] 65 #[v, .slice (some ⟨g, 0, none⟩) 1 1]).run Tryz.prog w = .ok v' w') ∧ OwnN base w' v' (L ++ [(es, t)]) ∧ w.grownBy w' v.ownBlock ∧ (v'.ownBlock = v.ownBlock ∨ v'.ownBlock = some w.heap.size) := by
 obtain ⟨i0, hi, hz0, hz1, hz2⟩ := info_parts inf28z
 have hz := hN.size
 obtain ⟨v', w', r1, o1, g1, _, g2⟩ := run_append_own_at w base 65 65 67 i0 _ 18 192 Tryz.underlying65 hi hz0 hz1 hz2 rfl (by decide) v _ _ h ⟨g, 0, none⟩ 1 1 es.toList (by simp [hz])
  (fun j x hj => by rw [add_none, Nat.zero_add, cell_of_row w g j _ _ _ hg, ← hj]; simp) (by
   have := hN.one
   intro x hx
   rw [Array.all_eq_true_iff_forall_mem] at this
   exact this x (by simpa using hx)) (by simp only [maxLen]; omega) (by omega) hbase
 refine ⟨v', w', r1, ?_, g1, g2⟩
 unfold OwnN
 rw [List.length_append, List.flatMap_append]
 simpa using o1
def goF (acc : List T) (r : List Tk.Tok) : Option (List T × List Tk.Tok) :=
 (PP 1 r).bind fun p => (argsF (PP 1) (p.2.length + 1) (acc ++ [p.1]) p.2).bind fun q => if q.1.length ≤ 16 then some q else none
theorem AA_go {ts : List Tk.Tok} (h : opOf ts ≠ [41]) : AA ts = goF [] ts := by unfold AA goF; rw [if_neg h]; rfl
theorem go_comma {acc : List T} {r : List Tk.Tok} {p : T × List Tk.Tok} (hp : PP 1 r = some p) (h' : opOf p.2 = [44]) : goF acc r = goF (acc ++ [p.1]) p.2.tail := by
 have h : opOf p.2 ≠ [41] := by rw [h']; decide
 unfold goF
 rw [hp, Option.bind_some, args_comma h h']
 cases PP 1 p.2.tail with
 | none => rfl
 | some q => rfl
theorem go_close {acc : List T} {r : List Tk.Tok} {p : T × List Tk.Tok} (hp : PP 1 r = some p) (h : opOf p.2 = [41]) : goF acc r = if (acc ++ [p.1]).length ≤ 16 then some (acc ++ [p.1], p.2.tail) else none := by
 unfold goF
 rw [hp, Option.bind_some, args_close h, Option.bind_some]
theorem go_bad {acc : List T} {r : List Tk.Tok} {p : T × List Tk.Tok} (hp : PP 1 r = some p) (h : opOf p.2 ≠ [41]) (h' : opOf p.2 ≠ [44]) : goF acc r = none := by
 unfold goF
 rw [hp, Option.bind_some, args_bad h h']; rfl
theorem go_none {acc : List T} {r : List Tk.Tok} (hp : PP 1 r = none) : goF acc r = none := by unfold goF; rw [hp]; rfl
structure CI (W : World) (b : Nat) (w : World) (S : ByteArray) (v : Value) (L : List (Array Value × T)) (u : World) : Prop where
 box : u.heap[w.heap.size + 1]? = some (.cells (lcs (lab0 7 S) v) 67)
 res : u.heap[w.heap.size]? = some (.cells nd0 67)
 own : OwnN (w.heap.size + 2) u v L
 grow : w.grownBy u (some b)
theorem CI.cells {W w u : World} {b : Nat} {S : ByteArray} {v : Value} {L : List (Array Value × T)} (h : CI W b w S v L u) : u.cell? ⟨w.heap.size + 1, 17, none⟩ = some v ∧ u.frozen? ⟨w.heap.size + 1, 17, none⟩ = false := ⟨cell17 h.box, by unfold World.frozen?; rw [h.box]; rfl⟩
theorem set17 {u : World} {g : Nat} {a : Lab} {v v' : Value} (h : u.heap[g]? = some (.cells (lcs a v) 67)) : (u.setCell ⟨g, 17, none⟩ v').heap[g]? = some (.cells (lcs a v') 67) := by
 simp [World.setCell, Array.getElem?_modify, h]
 rfl
abbrev mS (W : World) (b : Nat) (w : World) (o2 : Option (T × List Tk.Tok)) (P : T → Prop) (u : World) : Prop := match o2 with
 | none => Sw W b w u
 | some p => Sq W b p.2 w u ∧ P p.1
theorem CI.more {W w wr u w3 : World} {b : Nat} {S : ByteArray} {a : Option Addr} {n c : Nat} {L : List (Array Value × T)} {es2 : Array Value} {o2 : Option (T × List Tk.Tok)} (h : CI W b w S (.slice a n c) L wr) (hb : b < w.heap.size) (hL : L.length ≤ 1000) (hd : wr.drew = u) (hn : NA es2) (h3 : RA W b u o2 es2 w3) (t : T) :
  Hid ((Instr.buildSlice 65 1 #[(0, .agg es2)]).run Tryz.prog w3 = .ok (.slice (some ⟨w3.heap.size, 0, none⟩) 1 1) (w3.alloc (.cells es2 67))) ∧
  ∃ a' n' c' w5, Hid ((Builtin.append_ #[65, 65] 65 #[.slice a n c, .slice (some ⟨w3.heap.size, 0, none⟩) 1 1]).run Tryz.prog (w3.alloc (.cells es2 67)) = .ok (.slice a' n' c') w5) ∧ n' = L.length + 1 ∧
   Hid ((Instr.storeAt 65 (.pointer (some ⟨w.heap.size + 1, 17, none⟩)) (.slice a' n' c')).run Tryz.prog w5 = .ok () (w5.setCell ⟨w.heap.size + 1, 17, none⟩ (.slice a' n' c'))) ∧
   Hid (w3.cell? ⟨w.heap.size + 1, 17, none⟩ = some (.slice a n c)) ∧ Hid ((w3.alloc (.cells es2 67)).cell? ⟨w.heap.size + 1, 17, none⟩ = some (.slice a n c)) ∧ Hid (w5.cell? ⟨w.heap.size + 1, 17, none⟩ = some (.slice a n c)) ∧
   Hid (CI W b w S (.slice a' n' c') (L ++ [(es2, t)]) (w5.setCell ⟨w.heap.size + 1, 17, none⟩ (.slice a' n' c'))) ∧
   Hid (mS W b w o2 (fun m => (∀ x ∈ L, NK (fun i => w.heap.size + 2 ≤ i ∧ (Value.slice a n c).ownBlock ≠ some i) wr x.1 x.2) → t = m → ∀ x ∈ L ++ [(es2, t)], NK (fun i => w.heap.size + 2 ≤ i ∧ (Value.slice a' n' c').ownBlock ≠ some i) (w5.setCell ⟨w.heap.size + 1, 17, none⟩ (.slice a' n' c')) x.1 x.2) (w5.setCell ⟨w.heap.size + 1, 17, none⟩ (.slice a' n' c'))) := by
 subst hd
 have hbx := lt_of h.box
 have hs3 : wr.heap.size ≤ w3.heap.size := h3.grow.size
 have B3 : w3.heap[w.heap.size + 1]? = some (.cells (lcs (lab0 7 S) (.slice a n c)) 67) := h3.kept (w := wr.drew) h.box (by omega)
 have R3 : w3.heap[w.heap.size]? = some (.cells nd0 67) := h3.kept (w := wr.drew) h.res (by omega)
 have hob := ownN_ob h.own (show b < w.heap.size + 2 by omega)
 have own3 : OwnN (w.heap.size + 2) w3 (.slice a n c) L := ownN_kept h.own (show wr.grownBy w3 (some b) from grown_trans (grown_below (Below.refl _ _).drew) h3.grow) hob
 have B4 : (w3.alloc (.cells es2 67)).heap[w.heap.size + 1]? = some (.cells (lcs (lab0 7 S) (.slice a n c)) 67) := (Below.heap_alloc _ _ _ (by omega)).trans B3
 have R4 : (w3.alloc (.cells es2 67)).heap[w.heap.size]? = some (.cells nd0 67) := (Below.heap_alloc _ _ _ (by omega)).trans R3
 have own4 := ownN_kept own3 (World.grownBy_alloc w3 (.cells es2 67) none) (by cases (Value.slice a n c).ownBlock <;> simp)
 obtain ⟨v', w5, RA5, o5, g5, g6⟩ := ownN_appA (t := t) own4 hn (g := w3.heap.size) (heap_alloc_new _ _) (by omega) (by simp; omega)
 obtain ⟨a', c', rfl⟩ := ownN_slice o5
 have hlt5 : ∀ g, (Value.slice a n c).ownBlock = some g → w.heap.size + 2 ≤ g ∧ g < wr.heap.size := fun g hg => World.ownsRow.lt h.own g hg
 have hne1 : (Value.slice a n c).ownBlock ≠ some (w.heap.size + 1) := fun e => by have := (hlt5 _ e).1; omega
 have hne0 : (Value.slice a n c).ownBlock ≠ some w.heap.size := fun e => by have := (hlt5 _ e).1; omega
 have B5 : w5.heap[w.heap.size + 1]? = some (.cells (lcs (lab0 7 S) (.slice a n c)) 67) := (g5.block _ (lt_of B4) (Ne.symm hne1)).trans B4
 have R5 : w5.heap[w.heap.size]? = some (.cells nd0 67) := (g5.block _ (lt_of R4) (Ne.symm hne0)).trans R4
 have hf5 : w5.frozen? ⟨w.heap.size + 1, 17, none⟩ = false := by unfold World.frozen?; rw [B5]; rfl
 have G6 := Lib.grownBy_setCell w5 (w.heap.size + 1) 17 (.slice a' (L ++ [(es2, t)]).length c')
 have hob5 : ∀ g, (Value.slice a' (L ++ [(es2, t)]).length c').ownBlock = some g → w.heap.size + 2 ≤ g := fun g hg => (World.ownsRow.lt o5 g hg).1
 have gr3 : w.grownBy w3 (some b) := grown_trans h.grow (grown_trans (grown_below (Below.refl _ _).drew) h3.grow)
 have gr4 : w.grownBy (w3.alloc (.cells es2 67)) (some b) := grown_trans gr3 (World.grownBy_alloc _ _ _)
 have gr5 : w.grownBy w5 (some b) := World.grownBy.andThen gr4 g5 (fun j e => .inl (by have := (hlt5 j e).1; omega))
 have gr6 : w.grownBy (w5.setCell ⟨w.heap.size + 1, 17, none⟩ (.slice a' (L ++ [(es2, t)]).length c')) (some b) := World.grownBy.andThen gr5 G6 (fun j e => by cases e; exact .inl (by omega))
 have st : ∀ {M : World → Prop}, True := fun {M} => trivial
 refine ⟨one_na hn, a', _, c', w5, RA5, by simp, run_store26 (cell17 B5) hf5, cell17 B3, cell17 B4, cell17 B5, ⟨set17 B5, (G6.block _ (lt_of R5) (by intro e; have := Option.some.inj e; omega)).trans R5, ?_, gr6⟩, ?_⟩
 ·refine ownN_kept o5 G6 (.inr fun e => ?_)
  have := hob5 _ e
  omega
 ·cases o2 with
  | none =>
   have h3' : Sw W b wr.drew w3 := h3
   show Sw W b w _
   have q4 := h3'.1.below (bel_alloc (Below.refl _ _) (.cells es2 67))
   have hlo := h3'.1.lo
   have q5 : QW W b w5 := q4.grown g5 (fun k e => by have := (hlt5 k e).1; exact ⟨by omega, by omega⟩)
   exact ⟨q5.grown G6 (fun k e => by cases e; exact ⟨by omega, by omega⟩), gr6⟩
  | some p =>
   obtain ⟨h1, h2⟩ := h3
   have q4 := h2.1.below (bel_alloc (Below.refl _ _) (.cells es2 67))
   have hlo := h2.1.lo
   have q5 : QR W b p.2 w5 := q4.grown g5 (fun k e => by have := (hlt5 k e).1; exact ⟨by omega, by omega⟩)
   refine ⟨⟨q5.grown G6 (fun k e => by cases e; exact ⟨by omega, by omega⟩), gr6⟩, fun HN ht x hx => ?_⟩
   have base : NK (fun i => w.heap.size + 2 ≤ i ∧ (Value.slice a n c).ownBlock ≠ some i ∧ i < w3.heap.size) (w3.alloc (.cells es2 67)) x.1 x.2 := by
    refine NK.below ?_ (bel_alloc (Below.refl _ _) _)
    rcases List.mem_append.1 hx with hx | hx
    ·exact ((HN x hx).grown (show wr.grownBy w3 (some b) from grown_trans (grown_below (Below.refl _ _).drew) h2.2) (fun g e hk => by cases e; have := hk.1; omega)).mono (fun i hi hl => ⟨hi.1, hi.2, hl⟩)
    ·simp only [List.mem_cons, List.not_mem_nil, or_false] at hx
     subst hx
     subst ht
     exact h1.mono (fun i hi hl => ⟨by have hi' : wr.heap.size ≤ i := hi; omega, fun e => by have := (hlt5 i e).2; have hi' : wr.heap.size ≤ i := hi; omega, hl⟩)
   refine ((base.grown g5 (fun g e hk => hk.2.1 e)).mono (K' := fun i => w.heap.size + 2 ≤ i ∧ (Value.slice a' (L ++ [(es2, t)]).length c').ownBlock ≠ some i) (fun i hi _ => ⟨hi.1, fun e => ?_⟩)).grown G6 (fun g e hk => by cases e; have := hk.1; omega)
   rcases g6 with g6 | g6
   ·exact hi.2.1 (by rw [← g6]; exact e)
   ·rw [g6] at e
    have := Option.some.inj e
    have := hi.2.2
    simp at *
    omega
theorem CI.fin {W w u : World} {b : Nat} {S : ByteArray} {v : Value} {L : List (Array Value × T)} (h : CI W b w S v L u) : Hid ((Instr.loadAt 67 (.pointer (some ⟨w.heap.size + 1, 0, none⟩))).run Tryz.prog u = .ok (.agg (lcs (lab0 7 S) v)) u) ∧ Hid ((Instr.storeAt 67 (.pointer (some ⟨w.heap.size, 0, none⟩)) (.agg (lcs (lab0 7 S) v))).run Tryz.prog u = .ok () (u.setRow w.heap.size (lcs (lab0 7 S) v))) ∧ Hid (u.heap[w.heap.size]? = some (.cells nd0 67)) ∧ Hid ((lcs (lab0 7 S) v).size = 18) ∧ Hid (NA (lcs (lab0 7 S) v)) := by
 obtain ⟨a, c, rfl⟩ := ownN_slice h.own
 have hn : NA (lcs (lab0 7 S) (.slice a L.length c)) := ⟨_, _, _, _, rfl⟩
 exact ⟨hn.lod h.box, hn.sto h.res rfl, h.res, rfl, hn⟩
theorem CI.good {W w u : World} {b : Nat} {S : ByteArray} {a : Option Addr} {n c : Nat} {L : List (Array Value × T)} {r : List Tk.Tok} (h : CI W b w S (.slice a n c) L u) (hb : b < w.heap.size) (hN : ∀ x ∈ L, NK (fun i => w.heap.size + 2 ≤ i ∧ (Value.slice a n c).ownBlock ≠ some i) u x.1 x.2) (hS : Sq W b r w u) :
  RA W b w (some (tree (lab0 7 S) (L.map (·.2)), r)) (lcs (lab0 7 S) (.slice a n c)) (u.setRow w.heap.size (lcs (lab0 7 S) (.slice a n c))) := by
 have G := setRow_grown u w.heap.size (lcs (lab0 7 S) (.slice a n c))
 refine ⟨?_, hS.grown G (Nat.le_refl _) hb⟩
 obtain ⟨a2, c2, e⟩ := ownN_slice h.own
 cases e
 have hr := ownN_row (K := fun i => w.heap.size < i) h.own (fun x hx => (hN x hx).mono (fun i hi _ => by have := hi.1; omega)) (fun g hg => by have := (World.ownsRow.lt h.own g hg).1; omega)
 refine ⟨a, L.length, c, rfl, ?_, ?_⟩
 ·show L.length = (kids (Go.Fm.mk (L.map (·.2)))).length
  rw [kids_mk, List.length_map]
 ·rcases hr with rfl | ⟨a', rfl, hi⟩
  ·exact .inl rfl
  ·exact .inr ⟨a', rfl, (hi.grown G (fun g e hk => by cases e; exact Nat.lt_irrefl _ hk)).mono (fun i hi _ => Nat.le_of_lt hi)⟩
abbrev cw0 (w : World) (S : ByteArray) : World := (w.alloc (.cells nd0 67)).alloc (.cells (lcs (lab0 7 S) (.slice none 0 0)) 67)
theorem cw0_facts (w : World) (S : ByteArray) (b : Nat) (W : World) : CI W b w S (.slice none 0 0) [] (cw0 w S) ∧ Below w.heap.size w (cw0 w S) ∧ (Instr.storeAt 67 (.pointer (some ⟨w.heap.size + 1, 0, none⟩)) (.agg (lcs (lab0 7 S) (.slice none 0 0)))).run Tryz.prog ((w.alloc (.cells nd0 67)).alloc (.cells nd0 67)) = .ok () (cw0 w S) := by
 have hz : (w.alloc (.cells nd0 67)).heap.size = w.heap.size + 1 := by simp
 have hB : Below w.heap.size w (cw0 w S) := bel_alloc (bel_alloc (Below.refl _ _) _) _
 refine ⟨⟨?_, (Below.heap_alloc _ _ _ (by simp)).trans (heap_alloc_new w _), World.ownsRow_nil _ _ _ _, grown_below hB⟩, hB, ?_⟩
 ·have := heap_alloc_new (w.alloc (.cells nd0 67)) (.cells (lcs (lab0 7 S) (.slice none 0 0)) 67)
  rw [hz] at this; exact this
 ·have := run_storeAt_new (P := Tryz.prog) (w.alloc (.cells nd0 67)) 67 nd0 (lcs (lab0 7 S) (.slice none 0 0)) (by rw [lcs_size]; exact inf67) rfl (lcs_all _ _ _ _)
  rw [hz] at this; exact this
theorem build_c (u : World) (S : ByteArray) : (Instr.build 67 #[(0, .int .i64 7), (1, .string S)]).run Tryz.prog u = .ok (.agg (lcs (lab0 7 S) (.slice none 0 0))) u := by kernel_rfl
theorem CI.keep {W w u u' : World} {b : Nat} {S : ByteArray} {v : Value} {L : List (Array Value × T)} (h : CI W b w S v L u) (hb : b < w.heap.size) (hg : u.grownBy u' (some b)) : CI W b w S v L u' :=
 ⟨(hg.block _ (lt_of h.box) (by intro e; have := Option.some.inj e; omega)).trans h.box, (hg.block _ (lt_of h.res) (by intro e; have := Option.some.inj e; omega)).trans h.res, ownN_kept h.own hg (ownN_ob h.own (by omega)), grown_trans h.grow hg⟩
theorem CI.bad {W w u : World} {b : Nat} {S : ByteArray} {v : Value} {L : List (Array Value × T)} (h : CI W b w S v L u) (hb : b < w.heap.size) (hS : Sw W b w u) : RA W b w none (lcs (lab0 7 S) v) (u.setRow w.heap.size (lcs (lab0 7 S) v)) := hS.grown (setRow_grown _ _ _) (Nat.le_refl _) hb
theorem CI.fail {W w u u' : World} {b : Nat} {S : ByteArray} {v : Value} {L : List (Array Value × T)} (h : CI W b w S v L u) (hb : b < w.heap.size) (hX : Sw W b u u') : Hid ((Instr.storeAt 67 (.pointer (some ⟨w.heap.size, 0, none⟩)) (.agg nd0)).run Tryz.prog u' = .ok () (u'.setRow w.heap.size nd0)) ∧ Hid (u'.heap[w.heap.size]? = some (.cells nd0 67)) ∧ Hid (RA W b w none nd0 (u'.setRow w.heap.size nd0)) := by
 have hr : u'.heap[w.heap.size]? = some (.cells nd0 67) := hX.kept h.res (by omega)
 have hS : Sw W b w u' := ⟨hX.1, grown_trans h.grow hX.2⟩
 exact ⟨NA.zero.sto hr rfl, hr, hS.grown (setRow_grown _ _ _) (Nat.le_refl _) hb⟩
theorem rcall_nil {W : World} {b : Nat} {S : ByteArray} {L : List Tk.Tok} (hn : L.length ≤ 256) (h40 : opOf L = [40]) (h41 : opOf L.tail = [41]) {w : World} (X : QR W b L w) :
  Calls Tryz.prog 270 #[.pointer (some ⟨b, 0, none⟩), .string S] w (RO W b w (some (tree (lab0 7 S) [], L.tail.tail))) := by
 have hb := X.lt
 have hl1 := (op_tail (ts := L) h40 (by decide)).1
 obtain ⟨hC, hB, hR⟩ := cw0_facts w S b W
 have RB : Hid _ := build_c (w.alloc (.cells nd0 67)) S
 have RS0 : Hid _ := hR
 have TK1 : Calls Tryz.prog 157 #[.pointer (some ⟨b, 0, none⟩), .string ⟨#[40]⟩] (cw0 w S) fun e w' => e = .returned (.tuple #[]) ∧ Sq W b L.tail (cw0 w S) w' := rtake_yes (s := [40]) (X.below hB) hn (by decide) h40
 have OP : Hid (∀ u, Sq W b L.tail (cw0 w S) u → Calls Tryz.prog 156 #[.pointer (some ⟨b, 0, none⟩)] u fun e w' => e = .returned (.string ⟨#[41]⟩) ∧ w' = u) := fun u hu => by
  have := rop_any hu.1 (by omega)
  rw [h41] at this
  exact this
 have TK2 : Hid (∀ u, Sq W b L.tail (cw0 w S) u → Calls Tryz.prog 157 #[.pointer (some ⟨b, 0, none⟩), .string ⟨#[41]⟩] u fun e w' => e = .returned (.tuple #[]) ∧ Hid (CI W b w S (.slice none 0 0) [] w') ∧ Hid (RA W b w (some (tree (lab0 7 S) [], L.tail.tail)) (lcs (lab0 7 S) (.slice none 0 0)) (w'.setRow w.heap.size (lcs (lab0 7 S) (.slice none 0 0))))) := fun u hu => (rtake_yes (s := [41]) hu.1 (by omega) (by decide) h41).mono (by
  rintro e w' ⟨rfl, h2⟩
  have hc := (hC.keep hb hu.2).keep hb h2.2
  refine ⟨rfl, hc, ?_⟩
  exact hc.good (L := []) hb (fun x hx => by cases hx) ⟨h2.1, hc.grow⟩)
 clear X h40 h41 hC hB hR
 go_enter Tryz.func270, Tryz.ntmps270
 go_wp2_with (first
  | (refine wpList_build_run rfl 67 _ rfl _ _ (by go_simp) RB.out ?_; clear RB)
  | (refine wpList_store_run rfl 67 _ _ rfl _ _ _ rfl rfl RS0.out ?_; clear RS0)
  | (go_at_call 157; refine TK1.mono ?_; rintro e w1 ⟨rfl, hw⟩; have HS1 : Hid (Sq W b L.tail (cw0 w S) w1) := hw; clear hw TK1)
  | (go_at_call 156; refine (OP.out _ HS1.out).mono ?_; rintro e w' ⟨rfl, hw⟩; obtain rfl := hw.symm; clear hw)
  | (go_at_call 157; refine (TK2.out _ HS1.out).mono ?_; rintro e w2 ⟨rfl, HC, HF⟩; obtain ⟨RL, RS, HG, HZ, HNA⟩ := HC.out.fin)
  | (refine wpList_load_run rfl 67 _ rfl _ _ rfl RL.out ?_; clear RL)
  | (refine wpList_store_run rfl 67 _ _ rfl _ _ _ rfl rfl RS.out ?_; clear RS))
 exact bodyPost_ret (nd_res HG.out HZ.out rfl rfl) rfl ⟨_, rfl, HNA.out, HF.out⟩
theorem rcall_some {W : World} {b : Nat} {S : ByteArray} {L0 : List Tk.Tok} (hn : L0.length ≤ 256) (h40 : opOf L0 = [40]) (h41 : opOf L0.tail ≠ [41]) {w : World} (X : QR W b L0 w)
  (C : ∀ ts' u, ts'.length ≤ L0.tail.length → QR W b ts' u → Calls Tryz.prog 109 #[.pointer (some ⟨b, 0, none⟩), .int .i64 1] u (RO W b u (PP 1 ts'))) :
  Calls Tryz.prog 270 #[.pointer (some ⟨b, 0, none⟩), .string S] w (RO W b w ((goF [] L0.tail).map fun q => (tree (lab0 7 S) q.1, q.2))) := by
 have hb := X.lt
 have hl1 := (op_tail (ts := L0) h40 (by decide)).1
 obtain ⟨hC, hB, hR⟩ := cw0_facts w S b W
 have RB : Hid _ := build_c (w.alloc (.cells nd0 67)) S
 have RS0 : Hid _ := hR
 have hts : L0.tail.length ≤ 255 := by omega
 have TK1 : Calls Tryz.prog 157 #[.pointer (some ⟨b, 0, none⟩), .string ⟨#[40]⟩] (cw0 w S) fun e w' => e = .returned (.tuple #[]) ∧ Hid (CI W b w S (.slice none 0 0) [] w') ∧ Hid (Sq W b L0.tail w w') := (rtake_yes (s := [40]) (X.below hB) hn (by decide) h40).mono (by
  rintro e w' ⟨rfl, h2⟩
  have hc := hC.keep hb h2.2
  exact ⟨rfl, hc, h2.1, hc.grow⟩)
 have OP0 : Hid (∀ u, Sq W b L0.tail w u → Calls Tryz.prog 156 #[.pointer (some ⟨b, 0, none⟩)] u fun e w' => e = .returned (.string (ba (opOf L0.tail))) ∧ w' = u) := fun u hu => rop_any hu.1 (by omega)
 have hne : ((ba (opOf L0.tail)).toList == [41]) = false := ne_list h41
 generalize ho : goF [] L0.tail = o
 have HO : Hid (goF [] L0.tail = o) := ho
 have HC : Hid (∀ ts' u, ts'.length ≤ L0.tail.length → QR W b ts' u → Calls Tryz.prog 109 #[.pointer (some ⟨b, 0, none⟩), .int .i64 1] u (RO W b u (PP 1 ts'))) := C
 clear ho C X h40 h41 hC hB hR hn hl1
 generalize L0.tail = ts at *
 generalize ba (opOf ts) = A at *
 go_enter Tryz.func270, Tryz.ntmps270
 go_wp2_with (first
  | (refine wpList_build_run rfl 67 _ rfl _ _ (by go_simp) RB.out ?_; clear RB)
  | (refine wpList_store_run rfl 67 _ _ rfl _ _ _ rfl rfl RS0.out ?_; clear RS0)
  | (go_at_call 157; refine TK1.mono ?_; rintro e w1 ⟨rfl, HC1, HS1⟩; clear TK1)
  | (go_at_call 156; refine (OP0.out _ HS1.out).mono ?_; rintro e w' ⟨rfl, hw⟩; obtain rfl := hw.symm; clear hw))
 clear OP0 hne
 try simp only [Act.put, List.setIfInBounds_toArray, List.set_cons_zero, List.set_cons_succ]
 go_loopw [] (fun wr => ∃ (L : List (Array Value × T)) (r : List Tk.Tok) (a : Option Addr) (n c : Nat), Hid (goF (L.map (·.2)) r = o) ∧ L.length + r.length ≤ 255 ∧ r.length ≤ ts.length ∧ Hid (CI W b w S (.slice a n c) L wr) ∧ Hid (∀ x ∈ L, NK (fun i => w.heap.size + 2 ≤ i ∧ (Value.slice a n c).ownBlock ≠ some i) wr x.1 x.2) ∧ Hid (Sq W b r w wr)) (fun wr => leftP b wr)
 case atStart => exact ⟨[], ts, none, 0, 0, HO, by simp; omega, Nat.le_refl _, HC1, fun x hx => (by cases hx), HS1⟩
 case round =>
  obtain ⟨L, r, a, n, c, HL, hlen, hr, HCI, HN, HS⟩ := hrel
  clear HO HC1 HS1
  have hnot : wr.cell? ⟨b, 1, none⟩ = some (.bool false) := HS.out.1.not
  have hleft := HS.out.1.left
  have hc17 := HCI.out.cells.1
  have HRT : Hid (∀ p, PP 1 r = some p → p.2.length < r.length) := fun p hp => ps_lt upF trF (by omega) _ p.1 p.2 hp
  have C1 : Calls Tryz.prog 109 #[.pointer (some ⟨b, 0, none⟩), .int .i64 1] wr.drew fun e w3 => ∃ es2, e = .returned (.agg es2) ∧ NA es2 ∧ RA W b wr.drew (PP 1 r) es2 w3 := HC.out r wr.drew hr HS.out.1.drew
  go_wp2
  refine wp_region_d (fun u => u.cell? ⟨w.heap.size + 1, 17, none⟩ = some (.slice a n c)) (fun j => j == 7) (by kernel_rfl) ?_
  have hc17d : wr.drew.cell? ⟨w.heap.size + 1, 17, none⟩ = some (.slice a n c) := hc17
  refine dwp 0 (.pointer (some ⟨w.heap.size + 1, 17, none⟩)) (h := ?_)
  refine dwl 1 (.slice a n c) (hS := hc17d) (hy := (fun u hSu => by have h1 := hSu; go_simp)) (h := ?_)
  refine dwp 2 (.pointer (some ⟨b, 0, none⟩)) (h := ?_)
  refine wpAnyD_one (i := 3) (by kernel_rfl) rfl ?_
  intro K hK
  go_simp
  refine C1.mono ?_
  rintro e w3 ⟨es2, rfl, hn2, h3⟩
  obtain ⟨R1, a', n', c', w5, R2, hn', R3, k3, k4, k5, HC6, HM⟩ := HCI.out.more (t := ((PP 1 r).map (·.1)).getD (tree (lab0 0 nb) [])) hb (by omega) rfl hn2 h3
  clear C1 hn2 h3
  refine hK _ _ (.inr fun _ => k3.out) ?_
  clear hK
  try simp only [Act.put, List.setIfInBounds_toArray, List.set_cons_zero, List.set_cons_succ]
  refine wpAnyD_one (i := 4) (by kernel_rfl) rfl ?_
  intro K hK
  rw [if_pos (by go_simp)]
  refine wp_bslice_run (some 25) rfl 65 1 _ rfl _ _ (by go_simp) R1.out (hK _ _ (.inr fun _ => k4.out) ?_)
  clear hK
  try simp only [Act.put, List.setIfInBounds_toArray, List.set_cons_zero, List.set_cons_succ]
  refine wpAnyD_one (i := 5) (by kernel_rfl) rfl ?_
  intro K hK
  rw [if_pos (by go_simp)]
  refine wp_append_run (some 26) rfl 65 rfl _ _ 65 rfl _ _ _ rfl rfl R2.out (hK _ _ (.inr fun _ => k5.out) ?_)
  clear hK
  try simp only [Act.put, List.setIfInBounds_toArray, List.set_cons_zero, List.set_cons_succ]
  refine dwp 6 (.pointer (some ⟨w.heap.size + 1, 17, none⟩)) (h := ?_)
  refine wpAnyD_one (i := 7) (by kernel_rfl) rfl ?_
  intro K hK
  rw [if_pos (by go_simp)]
  refine wp_store_run none rfl 65 _ _ rfl _ _ rfl rfl R3.out (hK _ _ (.inl rfl) ?_)
  clear hK
  try simp only [Act.put, List.setIfInBounds_toArray, List.set_cons_zero, List.set_cons_succ]
  refine wpAnyD_done (by kernel_rfl) ?_ _
  clear R1 R2 R3 k3 k4 k5 hc17 hc17d hnot HCI
  obtain ⟨w6, hw6⟩ : ∃ w6, w5.setCell ⟨w.heap.size + 1, 17, none⟩ (.slice a' n' c') = w6 := ⟨_, rfl⟩
  rw [hw6] at HC6 HM ⊢
  clear hw6 HC
  obtain ⟨RLs, RSs, HGs, HZs, HNAs⟩ := HC6.out.fin
  have hFA : Hid (∀ u, CI W b w S (.slice a' n' c') (L ++ [(es2, ((PP 1 r).map (·.1)).getD (tree (lab0 0 nb) []))]) u → QB W b u → Calls Tryz.prog 244 #[.pointer (some ⟨b, 0, none⟩)] u fun e w3 => e = .returned (.agg nd0) ∧ Hid ((Instr.storeAt 67 (.pointer (some ⟨w.heap.size, 0, none⟩)) (.agg nd0)).run Tryz.prog w3 = .ok () (w3.setRow w.heap.size nd0)) ∧ Hid (w3.heap[w.heap.size]? = some (.cells nd0 67)) ∧ Hid (RA W b w none nd0 (w3.setRow w.heap.size nd0))) := fun u hu hX => (rfail_any hX).mono (by
   rintro e w3 ⟨rfl, h3⟩
   exact ⟨rfl, hu.fail hb h3⟩)
  cases hP : PP 1 r with
  | none =>
   rw [hP] at HM
   have HSW : Hid (Sw W b w w6) := HM.out
   have HQ : Hid (none = o) := by show _ = _; rw [← HL.out]; exact (go_none hP).symm
   have OP : Calls Tryz.prog 156 #[.pointer (some ⟨b, 0, none⟩)] w6 fun e w' => e = .returned (.string noB) ∧ w' = w6 := rop_bad HSW.out.1
   have TK : Calls Tryz.prog 157 #[.pointer (some ⟨b, 0, none⟩), .string ⟨#[41]⟩] w6 fun e w' => e = .returned (.tuple #[]) ∧ w'.cell? ⟨w.heap.size + 1, 17, none⟩ = some (.slice a' n' c') ∧ Hid (CI W b w S (.slice a' n' c') (L ++ [(es2, ((PP 1 r).map (·.1)).getD (tree (lab0 0 nb) []))]) w') ∧ Hid (Sw W b w w') := (rtake_bad (s := [41]) HSW.out.1 (by decide)).mono (by
    rintro e w' ⟨rfl, h2⟩
    have hc := HC6.out.keep hb h2.2
    exact ⟨rfl, hc.cells.1, hc, h2.1, hc.grow⟩)
   clear HM HL hP HN HS HRT
   by_cases h16 : (16 : Int) < (n' : Int)
   ·go_wp2_with (first
     | (go_at_call 156; refine OP.mono ?_; rintro e w' ⟨rfl, hw⟩; obtain rfl := hw.symm; clear hw)
     | (go_at_call 157; refine TK.mono ?_; rintro e w7 ⟨rfl, hc7, HC7, HS7⟩)
     | (go_at_call 244; refine (hFA.out _ HC7.out HS7.out.1.b).mono ?_; rintro e w8 ⟨rfl, RS8, HG8, HF8⟩)
     | (refine wpList_store_run rfl 67 _ _ rfl _ _ _ rfl rfl RS8.out ?_; clear RS8))
    refine bodyPost_ret (nd_res HG8.out rfl rfl rfl) rfl ?_
    rw [← HQ.out]
    exact ⟨_, rfl, NA.zero, HF8.out⟩
   ·go_wp2_with (first
     | (go_at_call 156; refine OP.mono ?_; rintro e w' ⟨rfl, hw⟩; obtain rfl := hw.symm; clear hw)
     | (go_at_call 157; refine TK.mono ?_; rintro e w7 ⟨rfl, hc7, HC7, HS7⟩; obtain ⟨RL7, RS7, HG7, HZ7, HNA7⟩ := HC7.out.fin; have HF7 : Hid _ := HC7.out.bad hb HS7.out)
     | (refine wpList_load_run rfl 67 _ rfl _ _ rfl RL7.out ?_; clear RL7)
     | (refine wpList_store_run rfl 67 _ _ rfl _ _ _ rfl rfl RS7.out ?_; clear RS7))
    refine bodyPost_ret (nd_res HG7.out HZ7.out rfl rfl) rfl ?_
    rw [← HQ.out]
    exact ⟨_, rfl, HNA7.out, HF7.out⟩
  | some p =>
   obtain ⟨m, r2⟩ := p
   have hr2 : r2.length < r.length := HRT.out _ hP
   rw [hP] at HM HC6 hFA
   obtain ⟨hS6, hN6⟩ := HM.out
   have HS6 : Hid (Sq W b r2 w w6) := hS6
   have HN6 : Hid (∀ x ∈ L ++ [(es2, m)], NK (fun i => w.heap.size + 2 ≤ i ∧ (Value.slice a' n' c').ownBlock ≠ some i) w6 x.1 x.2) := hN6 HN.out rfl
   have HC6' : Hid (CI W b w S (.slice a' n' c') (L ++ [(es2, m)]) w6) := HC6.out
   have hFA' : Hid (∀ u, CI W b w S (.slice a' n' c') (L ++ [(es2, m)]) u → QB W b u → _) := hFA.out
   have OP := rop_any HS6.out.1 (by omega)
   clear HM HC6 hFA hS6 hN6 HN HS HRT
   by_cases h44 : opOf r2 = [44]
   ·have TK : Calls Tryz.prog 157 #[.pointer (some ⟨b, 0, none⟩), .string ⟨#[44]⟩] w6 fun e w' => e = .returned (.tuple #[]) ∧ Hid (CI W b w S (.slice a' n' c') (L ++ [(es2, m)]) w') ∧ Hid (Sq W b r2.tail w w') ∧ Hid (∀ x ∈ L ++ [(es2, m)], NK (fun i => w.heap.size + 2 ≤ i ∧ (Value.slice a' n' c').ownBlock ≠ some i) w' x.1 x.2) := (rtake_yes (s := [44]) HS6.out.1 (by omega) (by decide) h44).mono (by
     rintro e w' ⟨rfl, h2⟩
     have hc := HC6'.out.keep hb h2.2
     exact ⟨rfl, hc, ⟨h2.1, hc.grow⟩, fun x hx => (HN6.out x hx).grown h2.2 (fun g e hk => by cases e; have := hk.1; omega)⟩)
    have hrt := (op_tail (ts := r2) h44 (by decide)).1
    have HQ : Hid (goF ((L ++ [(es2, m)]).map (·.2)) r2.tail = o) := by
     show _ = _
     rw [← HL.out, go_comma hP h44]
     simp
    rw [h44] at OP
    have OP' : Calls Tryz.prog 156 #[.pointer (some ⟨b, 0, none⟩)] w6 fun e w' => e = .returned (.string ⟨#[44]⟩) ∧ w' = w6 := OP
    clear HL hP h44 OP HC6' HN6 hFA'
    go_wp2_with (first
     | (go_at_call 156; refine OP'.mono ?_; rintro e w' ⟨rfl, hw⟩; obtain rfl := hw.symm; clear hw)
     | (go_at_call 157; refine TK.mono ?_; rintro e w7 ⟨rfl, HC7, HS7, HN7⟩))
    try simp only [Act.put, List.setIfInBounds_toArray, List.set_cons_zero, List.set_cons_succ]
    go_roundw
    case rel => exact ⟨L ++ [(es2, m)], r2.tail, a', n', c', HQ, by simp; omega, by omega, HC7, HN7, HS7⟩
    case measure => rw [HS7.out.1.left, hleft]; omega
   ·have hne44 : ((ba (opOf r2)).toList == [44]) = false := ne_list h44
    have hn16 : n' = (L ++ [(es2, m)]).length := by simp [hn']
    by_cases h41 : opOf r2 = [41]
    ·have TK : Calls Tryz.prog 157 #[.pointer (some ⟨b, 0, none⟩), .string ⟨#[41]⟩] w6 fun e w' => e = .returned (.tuple #[]) ∧ w'.cell? ⟨w.heap.size + 1, 17, none⟩ = some (.slice a' n' c') ∧ Hid (CI W b w S (.slice a' n' c') (L ++ [(es2, m)]) w') ∧ Hid (Sq W b r2.tail w w') ∧ Hid (∀ x ∈ L ++ [(es2, m)], NK (fun i => w.heap.size + 2 ≤ i ∧ (Value.slice a' n' c').ownBlock ≠ some i) w' x.1 x.2) := (rtake_yes (s := [41]) HS6.out.1 (by omega) (by decide) h41).mono (by
      rintro e w' ⟨rfl, h2⟩
      have hc := HC6'.out.keep hb h2.2
      exact ⟨rfl, hc.cells.1, hc, ⟨h2.1, hc.grow⟩, fun x hx => (HN6.out x hx).grown h2.2 (fun g e hk => by cases e; have := hk.1; omega)⟩)
     have HQ : Hid (o = if n' ≤ 16 then some ((L ++ [(es2, m)]).map (·.2), r2.tail) else none) := by
      show _ = _
      rw [← HL.out, go_close hP h41, hn16]
      simp
     clear HL hP h41 h44 HC6' HN6
     generalize ba (opOf r2) = A2 at *
     by_cases h16 : n' ≤ 16
     ·have h16i : ¬ (16 : Int) < (n' : Int) := by omega
      go_wp2_with (first
       | (go_at_call 156; refine OP.mono ?_; rintro e w' ⟨rfl, hw⟩; obtain rfl := hw.symm; clear hw)
       | (go_at_call 157; refine TK.mono ?_; rintro e w7 ⟨rfl, hc7, HC7, HS7, HN7⟩; obtain ⟨RL7, RS7, HG7, HZ7, HNA7⟩ := HC7.out.fin; have HF7 : Hid _ := HC7.out.good hb HN7.out HS7.out)
       | (refine wpList_load_run rfl 67 _ rfl _ _ rfl RL7.out ?_; clear RL7)
       | (refine wpList_store_run rfl 67 _ _ rfl _ _ _ rfl rfl RS7.out ?_; clear RS7))
      refine bodyPost_ret (nd_res HG7.out HZ7.out rfl rfl) rfl ?_
      rw [HQ.out, if_pos h16]
      exact ⟨_, rfl, HNA7.out, HF7.out⟩
     ·have h16i : (16 : Int) < (n' : Int) := by omega
      go_wp2_with (first
       | (go_at_call 156; refine OP.mono ?_; rintro e w' ⟨rfl, hw⟩; obtain rfl := hw.symm; clear hw)
       | (go_at_call 157; refine TK.mono ?_; rintro e w7 ⟨rfl, hc7, HC7, HS7, HN7⟩)
       | (go_at_call 244; refine (hFA'.out _ HC7.out HS7.out.1.b).mono ?_; rintro e w8 ⟨rfl, RS8, HG8, HF8⟩)
       | (refine wpList_store_run rfl 67 _ _ rfl _ _ _ rfl rfl RS8.out ?_; clear RS8))
      refine bodyPost_ret (nd_res HG8.out rfl rfl rfl) rfl ?_
      rw [HQ.out, if_neg h16]
      exact ⟨_, rfl, NA.zero, HF8.out⟩
    ·have HQ : Hid (none = o) := by show _ = _; rw [← HL.out]; exact (go_bad hP h41 h44).symm
     have TK : Calls Tryz.prog 157 #[.pointer (some ⟨b, 0, none⟩), .string ⟨#[41]⟩] w6 fun e w' => e = .returned (.tuple #[]) ∧ w'.cell? ⟨w.heap.size + 1, 17, none⟩ = some (.slice a' n' c') ∧ Hid (CI W b w S (.slice a' n' c') (L ++ [(es2, m)]) w') ∧ Hid (Sw W b w w') := (rtake_no (s := [41]) HS6.out.1 (by omega) h41).mono (by
      rintro e w' ⟨rfl, h2⟩
      have hc := HC6'.out.keep hb h2.2
      exact ⟨rfl, hc.cells.1, hc, h2.1, hc.grow⟩)
     clear HL hP h41 h44 HC6' HN6
     generalize ba (opOf r2) = A2 at *
     by_cases h16 : (16 : Int) < (n' : Int)
     ·go_wp2_with (first
       | (go_at_call 156; refine OP.mono ?_; rintro e w' ⟨rfl, hw⟩; obtain rfl := hw.symm; clear hw)
       | (go_at_call 157; refine TK.mono ?_; rintro e w7 ⟨rfl, hc7, HC7, HS7⟩)
       | (go_at_call 244; refine (hFA'.out _ HC7.out HS7.out.1.b).mono ?_; rintro e w8 ⟨rfl, RS8, HG8, HF8⟩)
       | (refine wpList_store_run rfl 67 _ _ rfl _ _ _ rfl rfl RS8.out ?_; clear RS8))
      refine bodyPost_ret (nd_res HG8.out rfl rfl rfl) rfl ?_
      rw [← HQ.out]
      exact ⟨_, rfl, NA.zero, HF8.out⟩
     ·go_wp2_with (first
       | (go_at_call 156; refine OP.mono ?_; rintro e w' ⟨rfl, hw⟩; obtain rfl := hw.symm; clear hw)
       | (go_at_call 157; refine TK.mono ?_; rintro e w7 ⟨rfl, hc7, HC7, HS7⟩; obtain ⟨RL7, RS7, HG7, HZ7, HNA7⟩ := HC7.out.fin; have HF7 : Hid _ := HC7.out.bad hb HS7.out)
       | (refine wpList_load_run rfl 67 _ rfl _ _ rfl RL7.out ?_; clear RL7)
       | (refine wpList_store_run rfl 67 _ _ rfl _ _ _ rfl rfl RS7.out ?_; clear RS7))
      refine bodyPost_ret (nd_res HG7.out HZ7.out rfl rfl) rfl ?_
      rw [← HQ.out]
      exact ⟨_, rfl, HNA7.out, HF7.out⟩
theorem rcall_any {W : World} {b : Nat} {S : ByteArray} {L0 : List Tk.Tok} (hn : L0.length ≤ 256) (h40 : opOf L0 = [40]) {w : World} (X : QR W b L0 w)
  (C : ∀ ts' u, ts'.length ≤ L0.tail.length → QR W b ts' u → Calls Tryz.prog 109 #[.pointer (some ⟨b, 0, none⟩), .int .i64 1] u (RO W b u (PP 1 ts'))) :
  Calls Tryz.prog 270 #[.pointer (some ⟨b, 0, none⟩), .string S] w (RO W b w ((AA L0.tail).map fun q => (tree (lab0 7 S) q.1, q.2))) := by
 by_cases h : opOf L0.tail = [41]
 ·unfold AA
  rw [if_pos h]
  exact rcall_nil hn h40 h X
 ·rw [AA_go h]
  exact rcall_some hn h40 h X C
end Go.Proofs.YtnibldnfbikipaaGreatDoor
