/- TSeq, TSame, BPure, PTok. -/
import Derived.Test.YtljfkkpkcjigpaaGreatDoorTNextq
import Derived.Lib.Replace
import Derived.Lib.IndexBytes
import Derived.Lib.SplitLaws
set_option linter.unusedVariables false
set_option linter.unusedSimpArgs false
namespace Go.Proofs.YtljfkkpkcjigpaaGreatDoor
open Go.RowKit
set_option maxRecDepth 100000
def TT.cl (t : TT) : List Value := [.int .i64 t.k, .int .i64 t.n, .string t.s, .string t.b, .string t.h, .int .i64 t.r, .int .i64 t.c, .bool t.fr, .bool t.fc]
theorem cl_len (t : TT) : t.cl.length = 9 := rfl
theorem cl_one (t : TT) : ∀ u ∈ t.cl, u.oneCell' = true := by
  intro u hu
  simp only [TT.cl, List.mem_cons, List.not_mem_nil, or_false] at hu
  rcases hu with rfl | rfl | rfl | rfl | rfl | rfl | rfl | rfl | rfl <;> rfl
theorem flat_len : ∀ L : List TT, (L.flatMap TT.cl).length = L.length * 9
  | [] => rfl
  | t :: L => by rw [List.flatMap_cons, List.length_append, flat_len L, cl_len, List.length_cons]; omega
theorem flat_at : ∀ (L : List TT) (i j : Nat) (v : Value) (hi : i < L.length), L[i].cl[j]? = some v → (L.flatMap TT.cl)[i * 9 + j]? = some v
  | t :: L, 0, j, v, _, h => by
    have hj : j < t.cl.length := (List.getElem?_eq_some_iff.1 h).1
    rw [List.flatMap_cons, Nat.zero_mul, Nat.zero_add, List.getElem?_append_left hj]
    exact h
  | t :: L, i + 1, j, v, hi, h => by
    rw [List.flatMap_cons, List.getElem?_append_right (by rw [cl_len]; omega), cl_len, show (i + 1) * 9 + j - 9 = i * 9 + j by omega]
    exact flat_at L i j v (by simpa using hi) h
def OwnT (e : TypeId) (base : Nat) (w : World) (v : Value) (L : List TT) : Prop := w.ownsRow base e 9 v L.length (L.flatMap TT.cl)
theorem OwnT.nil (e : TypeId) (base : Nat) (w : World) : OwnT e base w (.slice none 0 0) [] := World.ownsRow_nil w base e 9
theorem OwnT.slice {e : TypeId} {base : Nat} {w : World} {v : Value} {L : List TT} (h : OwnT e base w v L) : ∃ a c, v = .slice a L.length c := by
  rcases h.2 with ⟨rfl, h0⟩ | ⟨g, cap, cur, rfl, _⟩
  · exact ⟨none, 0, by rw [h0]⟩
  · exact ⟨_, _, rfl⟩
theorem OwnT.ne {e : TypeId} {base : Nat} {w : World} {v : Value} {L : List TT} (h : OwnT e base w v L) {b : Nat} {o : Obj} (hb : w.heap[b]? = some o) (ho : ∀ c z, o ≠ .cells c e z) : v.ownBlock = none ∨ v.ownBlock ≠ some b := by
  rcases h.2 with ⟨rfl, _⟩ | ⟨g, cap, cur, rfl, _, hg, _⟩
  · exact .inl rfl
  · refine .inr fun e => ?_
    have : g = b := by simpa [Value.ownBlock] using e
    subst this
    rw [hb] at hg
    cases hg
    exact ho _ _ rfl
theorem OwnT.kept {e : TypeId} {base : Nat} {w w' : World} {v : Value} {L : List TT} {row : Option Nat} (h : OwnT e base w v L) (hg : w.grownBy w' row) (hne : v.ownBlock = none ∨ v.ownBlock ≠ row) : OwnT e base w' v L := World.ownsRow.kept h hg hne
theorem OwnT.below {e : TypeId} {base : Nat} {w w' : World} {v : Value} {L : List TT} (h : OwnT e base w v L) (hb : Below w.heap.size w w') : OwnT e base w' v L :=
  h.kept (grown_below (row := none) hb) (by cases v.ownBlock <;> simp)
theorem OwnT.base {e : TypeId} {base base' : Nat} {w : World} {v : Value} {L : List TT} (h : OwnT e base w v L) (hb : base' ≤ base) : OwnT e base' w v L := by
  obtain ⟨h1, h2⟩ := h
  refine ⟨h1, h2.imp id ?_⟩
  rintro ⟨g, cap, cur, e1, e2, r⟩
  exact ⟨g, cap, cur, e1, by omega, r⟩
theorem inf35z : (Tryz.prog.info? 70).map (fun i => (i.zero, i.size, i.bytes)) = some (some (.agg tk0), 9, 88) := by kernel_rfl
theorem inf46z : (Tryz.prog.info? 75).map (fun i => (i.zero, i.size, i.bytes)) = some (some (.agg tk0), 9, 88) := by kernel_rfl
theorem ownT_app {e st : TypeId} (hst : Tryz.prog.underlying st = some (.slice e)) (hinf : (Tryz.prog.info? e).map (fun i => (i.zero, i.size, i.bytes)) = some (some (.agg tk0), 9, 88))
    {base : Nat} {w : World} {v : Value} {L : List TT} (h : OwnT e base w v L) {g : Nat} {t : TT} {z : Nat × Nat} {e' : TypeId} (hg : w.heap[g]? = some (.cells t.cs e' z)) (hn : L.length + 1 ≤ 1000000) (hbase : base ≤ w.heap.size) :
    ∃ v' w', Hid ((Builtin.append_ #[st, st] st #[v, .slice (some ⟨g, 0, none⟩) 1 1]).run Tryz.prog w = .ok v' w') ∧ OwnT e base w' v' (L ++ [t]) ∧ w.grownBy w' v.ownBlock ∧ Below base w w' := by
  obtain ⟨i0, hi, hz0, hz1, hz2⟩ := info_parts hinf
  have hadd : ∀ k, (⟨g, 0, none⟩ : Addr).add k = ⟨g, k, none⟩ := fun k => by unfold Addr.add; split <;> simp_all
  obtain ⟨v', w', r1, o1, g1, _, _⟩ := run_append_own_at w base st st e i0 _ 9 88 hst hi hz0 hz1 hz2 rfl (by decide) v _ _ h ⟨g, 0, none⟩ 1 1 t.cl rfl
    (fun j u hj => by rw [hadd, cell_of_row w g j _ _ _ hg, ← hj]; simp [TT.cs, TT.cl]) (cl_one t) (by simp only [maxLen]; omega) (by omega) hbase
  refine ⟨v', w', r1, ?_, g1, (Below.refl base w).grown g1 hbase fun k hk => (World.ownsRow.lt h k hk).1⟩
  unfold OwnT
  rw [List.length_append, List.flatMap_append]
  simpa using o1
theorem wpList_append_run {P : Program} {w : World} {ops : Array Oper} {rest : List Oper} {o : Oper} {a : Act} {Q : Exit → Act → World → Prop} (hgd : o.guard = none) (s x : Operand) (t : TypeId)
    (ho : o.op = .call { callee := .builtin .append, args := #[s, x], argTypes := #[t, t] }) (v bv v' : Value) (w' : World) (hs : a.eval s = v) (hx : a.eval x = bv) (hrun : (Builtin.append_ #[t, t] o.type #[v, bv]).run P w = .ok v' w')
    (h : wpList P ops Q rest (a.put o.dst v') w') : wpList P ops Q (o :: rest) a w := by
  refine wpList_plain hgd fun K hK => ?_
  unfold Oper.wp
  simp [execOp, ho, resolve, invoke, builtin, hs, hx, hrun, Result.andThen]
  exact hK _ _ h
theorem OwnT.load {e : TypeId} {base : Nat} {w : World} {a : Option Addr} {n c : Nat} {L : List TT} (h : OwnT e base w (.slice a n c) L) {i : Nat} (hi : i < L.length) {d : TypeDesc} (hd : d.isRow = true) (hu : Tryz.prog.underlying e = some d) (hinf : (Tryz.prog.info? e).map (·.size) = some 9) :
    ∃ g, a = some ⟨g, 0, none⟩ ∧ (Instr.loadAt e (.pointer (some ⟨g, i * 9, none⟩))).run Tryz.prog w = .ok (.agg L[i].cs) w := by
  have hc := fun g (hg : (Value.slice a n c).ownBlock = some g) => World.ownsRow.cells h hg
  rcases h.2 with ⟨e1, e2⟩ | ⟨g, cap, cur, e1, _⟩
  · omega
  · cases e1
    refine ⟨g, rfl, ?_⟩
    have hadd : ∀ k, (⟨g, 0, none⟩ : Addr).add k = ⟨g, k, none⟩ := fun k => by unfold Addr.add; split <;> simp_all
    exact run_loadAt_mid (P := Tryz.prog) w g (i * 9) e L[i].cl d (fun j v hv => by
      have := hc g rfl (i * 9 + j) v (flat_at L i j v hi hv)
      rw [hadd] at this
      exact this) hu hd (by rw [hinf]; rfl)
theorem one_len {l m : List UInt8} {t : Tk.Tok} (h : Tk.one gnF trB pnF l = some (t, m)) : m.length < l.length := by
  cases l with
  | nil => cases h
  | cons c r =>
    unfold Tk.one at h
    simp only at h
    split at h
    · rename_i hd
      cases hp : pnF ((c :: r).takeWhile Tk.numC) with
      | none => rw [hp] at h; cases h
      | some n =>
        rw [hp] at h
        cases h
        exact Tk.drop_lt _ (by unfold Tk.numC; rw [hd]; rfl)
    · split at h
      · cases hq : Tk.quoF r with
        | none => rw [hq] at h; cases h
        | some p =>
          rw [hq] at h
          cases h
          have := Tk.quo_len r.length r p.1 p.2 (Nat.le_refl _) hq
          simp only [List.length_cons]; omega
      · split at h
        · exact Tk.bad_len h
        · split at h
          · rename_i hn
            unfold Tk.named at h
            split at h
            · rename_i m' he
              cases he
              cases ha : Ad.at_ 93 r with
              | none => rw [ha] at h; cases h
              | some p =>
                obtain ⟨a, q⟩ := p
                rw [ha] at h
                simp only at h
                split at h
                · have h1 := Tk.tail_len h
                  have h2 := congrArg List.length (at_eq ha)
                  simp at h2 ⊢
                  omega
                · cases h
            · rename_i hne
              have hrun : Tk.runC c = true := by
                rcases hn with h1 | h1 | h1
                · subst h1; exact absurd rfl (hne r)
                · subst h1; rfl
                · exact Tk.isL_run h1
              unfold Tk.tailN at h
              have hlt := Tk.drop_lt (p := Tk.runC) (c := c) (r := r) hrun
              split at h
              · rename_i q hq
                rw [hq] at hlt
                have hd := Tk.drop_le Tk.runC q
                cases hp : Ad.refP gnF ([] ++ (c :: r).takeWhile Tk.runC ++ 33 :: q.takeWhile Tk.runC) with
                | none => rw [hp] at h; cases h
                | some x =>
                  rw [hp] at h
                  cases h
                  simp only [List.length_cons] at hlt ⊢
                  omega
              · rw [if_pos rfl] at h
                split at h
                · cases h; exact hlt
                · split at h
                  · cases h; exact hlt
                  · cases h
          · exact Tk.op_len h
def lexF (l : List UInt8) : Option (List Tk.Tok) := Tk.lexN gnF trB pnF (l.length + 1) l
theorem lex_fuel : ∀ (k : Nat) (l : List UInt8), l.length < k → ∀ k', l.length < k' → Tk.lexN gnF trB pnF k l = Tk.lexN gnF trB pnF k' l
  | 0, l, h, _, _ => absurd h (Nat.not_lt_zero _)
  | k + 1, [], _, 0, h => absurd h (Nat.not_lt_zero _)
  | k + 1, [], _, k' + 1, _ => rfl
  | k + 1, c :: r, h, 0, h' => absurd h' (Nat.not_lt_zero _)
  | k + 1, c :: r, h, k' + 1, h' => by
    simp only [List.length_cons] at h h'
    unfold Tk.lexN
    split
    · exact lex_fuel k r (by omega) k' (by omega)
    · cases ho : Tk.one gnF trB pnF (c :: r) with
      | none => rfl
      | some p =>
        have := one_len (t := p.1) (m := p.2) ho
        simp only [List.length_cons] at this
        simp only
        rw [lex_fuel k p.2 (by omega) k' (by omega)]
theorem lex_blank {c : UInt8} {r : List UInt8} (h : Tk.blank c = true) : lexF (c :: r) = lexF r := by
  unfold lexF
  conv => lhs; unfold Tk.lexN
  rw [if_pos h]
  exact lex_fuel _ r (by simp) _ (by simp)
theorem lex_cons {c : UInt8} {r : List UInt8} (h : Tk.blank c = false) : lexF (c :: r) = match Tk.one gnF trB pnF (c :: r) with
    | none => none
    | some (t, m) => (lexF m).map (t :: ·) := by
  conv => lhs; unfold lexF Tk.lexN
  rw [if_neg (by rw [h]; decide)]
  cases ho : Tk.one gnF trB pnF (c :: r) with
  | none => rfl
  | some p =>
    have := one_len (t := p.1) (m := p.2) ho
    simp only
    unfold lexF
    rw [lex_fuel _ p.2 this _ (Nat.lt_succ_self _)]
theorem lex_drop : ∀ l : List UInt8, lexF (l.dropWhile Tk.blank) = lexF l
  | [] => rfl
  | c :: r => by
    rw [List.dropWhile_cons]
    split
    · rename_i h; rw [lex_drop r, lex_blank h]
    · rfl
end Go.Proofs.YtljfkkpkcjigpaaGreatDoor

namespace Go.Proofs.YtljfkkpkcjigpaaGreatDoor
open Go.RowKit
set_option maxRecDepth 100000
theorem exec_load_run {P : Program} {ev : Operand → Value} {o : Oper} {ty : TypeId} {x : Operand} {p v : Value} {u : World} (ho : o.op = .load ty x) (hx : ev x = p) (hrun : (Instr.loadAt ty p).run P u = .ok v u) : (execOp ev o).run P u = .ok (.value v) u := by
  unfold execOp
  simp only [ho, hx, Sem.run_bind, Sem.run_pure, hrun, Result.andThen_ok]
theorem OwnT.load2 {e : TypeId} {base : Nat} {w : World} {a : Option Addr} {n c : Nat} {L : List TT} (h : OwnT e base w (.slice a n c) L) {i : Nat} (hi : i < L.length) {d : TypeDesc} (hd : d.isRow = true) (hu : Tryz.prog.underlying e = some d) (hinf : (Tryz.prog.info? e).map (·.size) = some 9) :
    ∃ a', a = some a' ∧ (Instr.loadAt e (.pointer (some (a'.add (i * 9))))).run Tryz.prog w = .ok (.agg (tcs L[i].k L[i].n L[i].s L[i].b L[i].h L[i].r L[i].c L[i].fr L[i].fc)) w := by
  obtain ⟨g, rfl, hr⟩ := h.load hi hd hu hinf
  refine ⟨_, rfl, ?_⟩
  have hadd : (⟨g, 0, none⟩ : Addr).add (i * 9) = ⟨g, i * 9, none⟩ := by unfold Addr.add; split <;> simp_all
  rw [hadd]
  exact hr
end Go.Proofs.YtljfkkpkcjigpaaGreatDoor

namespace Go.Proofs.YtljfkkpkcjigpaaGreatDoor
open Go.RowKit
set_option maxRecDepth 100000
def okN (n : Int) : Prop := 0 ≤ n ∧ n ≤ 100000000000
theorem isD_eq (c : UInt8) : isD c = Ad.isD c := rfl
theorem gn_parts {l : List UInt8} (h : gnF l = true) : l.length ≤ 16 ∧ headL l = true ∧ l.all okC = true ∧ lcF l = false := by
  unfold gnF at h
  simp only [Bool.and_eq_true, Bool.not_eq_true'] at h
  obtain ⟨a, b, c⟩ := sp_parts h.1.1
  exact ⟨a, b, c, h.1.2⟩
theorem num_shape {n : Int} (h : okN n) : (∃ c r, printF n = c :: r ∧ Ad.isD c = true) ∧ (∀ x ∈ printF n, Tk.numC x = true) ∧ (printF n).length ≤ 20 := by
  have hn : ¬ n < 0 := by have := h.1; omega
  have hq : n.natAbs / 10000 < 10 ^ 8 := by have := h.2; omega
  obtain ⟨l1, l2⟩ := dec_len 8 (n.natAbs / 10000) (by decide) hq
  have ha := dec_all (n.natAbs / 10000)
  have hd : ∀ x ∈ Lib.decDigits (n.natAbs / 10000), Tk.numC x = true := fun x hx => by
    have := List.all_eq_true.1 ha x hx
    unfold Tk.numC
    rw [← isD_eq, this]; rfl
  unfold printF
  rw [if_neg hn, List.nil_append]
  have hr : n.natAbs % 10000 < 10000 := by omega
  have ht : (∀ x ∈ (if n.natAbs % 10000 = 0 then [] else 46 :: tailP (n.natAbs % 10000)), Tk.numC x = true) ∧ (if n.natAbs % 10000 = 0 then [] else 46 :: tailP (n.natAbs % 10000)).length ≤ 5 := by
    by_cases h0 : n.natAbs % 10000 = 0
    · rw [if_pos h0]; exact ⟨fun x hx => (by cases hx), Nat.zero_le _⟩
    · rw [if_neg h0]
      obtain ⟨a, b, c⟩ := (digs_iff _ _ _).1 (tail_facts _ hr h0).1
      refine ⟨fun x hx => ?_, by simp only [List.length_cons]; omega⟩
      rcases List.mem_cons.1 hx with rfl | hx
      · rfl
      · have := List.all_eq_true.1 a x hx
        unfold Tk.numC
        rw [← isD_eq, this]; rfl
  refine ⟨?_, fun x hx => ?_, by rw [List.length_append]; have := ht.2; omega⟩
  · cases hdd : Lib.decDigits (n.natAbs / 10000) with
    | nil => rw [hdd] at l1; simp at l1
    | cons c r =>
      refine ⟨c, _, rfl, ?_⟩
      rw [hdd, List.all_cons, Bool.and_eq_true] at ha
      exact ha.1
  · rcases List.mem_append.1 hx with hx | hx
    · exact hd x hx
    · exact ht.1 x hx
theorem sgn_pos (n : Nat) : sgnI (n : Int) false = n := rfl
theorem num_ok {c : UInt8} {r : List UInt8} {n : Int} (hc : Ad.isD c = true) (h : pnF (c :: r) = some n) : okN n := by
  unfold pnF at h
  split at h
  · rename_i h2
    have hg := parse_gd (c :: r)
    cases h
    unfold gd at hg
    simp only [Bool.and_eq_true, decide_eq_true_eq] at hg
    refine ⟨?_, hg.2⟩
    have hd : dash (c :: r) = false := by
      unfold dash
      rw [List.head?_cons]
      simp only [beq_eq_false_iff_ne, ne_eq, Option.some.injEq]
      rintro rfl
      exact absurd hc (by decide)
    unfold parseF
    split
    · rw [hd, sgn_pos]
      unfold ans
      split
      · exact Int.natCast_nonneg _
      · exact Int.le_refl _
    · exact Int.le_refl _
  · cases h
theorem tail_ok {b pre l m : List UInt8} {t : Tk.Tok} (hb : b = [] ∨ gnF b = true) (h : Tk.tailN gnF trB b pre l = some (t, m)) : Tk.okT gnF trB okN t := by
  unfold Tk.tailN at h
  split at h
  · rename_i q hq
    cases hp : Ad.refP gnF (pre ++ l.takeWhile Tk.runC ++ 33 :: q.takeWhile Tk.runC) with
    | none => rw [hp] at h; cases h
    | some x =>
      rw [hp] at h
      cases h
      exact (Ad.ref_of gn_names hp).1
  · split at h
    · split at h
      · rename_i c hc
        cases h
        exact ⟨(Ad.cell_of hc).1, .inl rfl, .inl rfl⟩
      · split at h
        · rename_i hw
          cases h
          exact .inl ⟨rfl, hw⟩
        · cases h
    · rename_i hne
      split at h
      · rename_i hw
        cases h
        exact .inr ⟨hb.resolve_left hne, hw⟩
      · cases h
theorem one_ok {l m : List UInt8} {t : Tk.Tok} (h : Tk.one gnF trB pnF l = some (t, m)) : Tk.okT gnF trB okN t := by
  cases l with
  | nil => cases h
  | cons c r =>
    unfold Tk.one at h
    simp only at h
    split at h
    · rename_i hd
      cases hp : pnF ((c :: r).takeWhile Tk.numC) with
      | none => rw [hp] at h; cases h
      | some n =>
        rw [hp] at h
        cases h
        rw [List.takeWhile_cons, if_pos (by unfold Tk.numC; rw [hd]; rfl)] at hp
        exact num_ok hd hp
    · split at h
      · cases hq : Tk.quoF r with
        | none => rw [hq] at h; cases h
        | some p => rw [hq] at h; cases h; exact trivial
      · split at h
        · unfold Tk.badF at h
          cases hf : [1, 2, 3, 4, 5, 6, 7, 8].find? fun i => (Tk.errN i).isPrefixOf (c :: r) with
          | none => rw [hf] at h; cases h
          | some i =>
            rw [hf] at h
            cases h
            have := List.mem_of_find?_eq_some hf
            simp only [List.mem_cons, List.not_mem_nil, or_false] at this
            show 1 ≤ i ∧ i ≤ 8
            omega
        · split at h
          · unfold Tk.named at h
            split at h
            · rename_i m' he
              cases he
              cases ha : Ad.at_ 93 r with
              | none => rw [ha] at h; cases h
              | some p =>
                obtain ⟨a, q⟩ := p
                rw [ha] at h
                simp only at h
                split at h
                · rename_i hg; exact tail_ok (.inr hg) h
                · cases h
            · exact tail_ok (.inl rfl) h
          · rcases r with _ | ⟨d, r⟩
            · simp only [Tk.opF] at h
              split at h
              · rename_i hm; cases h; exact .inl ⟨c, hm, rfl⟩
              · cases h
            · simp only [Tk.opF] at h
              split at h
              · rename_i hm; cases h; exact .inr ⟨c, d, hm, rfl⟩
              · split at h
                · rename_i hm; cases h; exact .inl ⟨c, hm, rfl⟩
                · cases h
theorem lexN_ok : ∀ (k : Nat) (l : List UInt8) (L : List Tk.Tok), Tk.lexN gnF trB pnF k l = some L → ∀ t ∈ L, Tk.okT gnF trB okN t
  | 0, l, L, h => by cases h
  | k + 1, [], L, h => by cases h; intro t ht; cases ht
  | k + 1, c :: r, L, h => by
    unfold Tk.lexN at h
    split at h
    · exact lexN_ok k r L h
    · cases ho : Tk.one gnF trB pnF (c :: r) with
      | none => rw [ho] at h; cases h
      | some p =>
        rw [ho] at h
        simp only at h
        cases hk : Tk.lexN gnF trB pnF k p.2 with
        | none => rw [hk] at h; cases h
        | some M =>
          rw [hk] at h
          cases h
          intro t ht
          rcases List.mem_cons.1 ht with rfl | ht
          · exact one_ok (m := p.2) ho
          · exact lexN_ok k p.2 M hk t ht
theorem lex_ok {l : List UInt8} {L : List Tk.Tok} (h : lexF l = some L) : ∀ t ∈ L, Tk.okT gnF trB okN t := lexN_ok _ _ _ h
def oaF (x y : List UInt8) : Bool := if x = [60] then (y == [61] || y == [62] || y == [62, 61]) else if x = [62] then y == [61] else false
def apT : Tk.Tok → Tk.Tok → Bool
  | .inr (.inr (.inr (.inr (.inl x)))), .inr (.inr (.inr (.inr (.inl y)))) => oaF x y
  | .inr (.inr (.inr (.inr (.inl _)))), _ => false
  | _, .inr (.inr (.inr (.inr (.inl _)))) => false
  | _, _ => true
def sepT : Option Tk.Tok → Tk.Tok → List UInt8
  | none, _ => []
  | some p, t => if apT p t = true then [32] else []
def txT (t : Tk.Tok) : List UInt8 := Tk.text printF t
def prT : Option Tk.Tok → List Tk.Tok → List UInt8
  | _, [] => []
  | o, t :: r => sepT o t ++ (txT t ++ prT (some t) r)
def lastT : Option Tk.Tok → List Tk.Tok → Option Tk.Tok
  | o, [] => o
  | _, t :: r => lastT (some t) r
theorem prT_snoc : ∀ (L : List Tk.Tok) (o : Option Tk.Tok) (t : Tk.Tok), prT o (L ++ [t]) = prT o L ++ (sepT (lastT o L) t ++ txT t)
  | [], o, t => by simp [prT, lastT]
  | x :: L, o, t => by
    rw [List.cons_append]
    show sepT o x ++ (txT x ++ prT (some x) (L ++ [t])) = sepT o x ++ (txT x ++ prT (some x) L) ++ (sepT (lastT (some x) L) t ++ txT t)
    rw [prT_snoc L (some x) t]
    simp
theorem lastT_snoc : ∀ (L : List Tk.Tok) (o : Option Tk.Tok) (t : Tk.Tok), lastT o (L ++ [t]) = some t
  | [], _, _ => rfl
  | x :: L, _, t => lastT_snoc L (some x) t
end Go.Proofs.YtljfkkpkcjigpaaGreatDoor

namespace Go.Proofs.YtljfkkpkcjigpaaGreatDoor
open Go.RowKit
set_option maxRecDepth 100000
theorem quoW_app : ∀ (a r : List UInt8), (∀ x ∈ a, x ≠ 34) → Tk.quoW (a ++ r) = a ++ Tk.quoW r
  | [], r, _ => rfl
  | x :: a, r, h => by
    show (if x = 34 then _ else x :: Tk.quoW (a ++ r)) = _
    rw [if_neg (h x (by simp)), quoW_app a r (fun y hy => h y (by simp [hy]))]
    rfl
theorem at_no2 {c : UInt8} : ∀ {l a r : List UInt8}, Ad.at_ c l = some (a, r) → ∀ x ∈ a, x ≠ c
  | [], a, r, h => by cases h
  | y :: l, a, r, h => by
    unfold Ad.at_ at h
    split at h
    · cases h; intro x hx; cases hx
    · rename_i hy
      cases hq : Ad.at_ c l with
      | none => rw [hq] at h; cases h
      | some p =>
        rw [hq] at h
        cases h
        intro x hx
        rcases List.mem_cons.1 hx with rfl | hx
        · exact hy
        · exact at_no2 (a := p.1) (r := p.2) hq x hx
theorem at_none2 {c : UInt8} : ∀ {l : List UInt8}, Ad.at_ c l = none → ∀ x ∈ l, x ≠ c
  | [], _ => fun x hx => by cases hx
  | y :: l, h => by
    unfold Ad.at_ at h
    split at h
    · cases h
    · rename_i hy
      cases hq : Ad.at_ c l with
      | some p => rw [hq] at h; cases h
      | none =>
        intro x hx
        rcases List.mem_cons.1 hx with rfl | hx
        · exact hy
        · exact at_none2 hq x hx
theorem rep_quo : ∀ (k : Nat) (s : List UInt8), s.length ≤ k → Lib.replaceK [34] [34, 34] (Lib.count s [34]) s ++ [34] = Tk.quoW s := by
  intro k
  induction k with
  | zero =>
    intro s hs
    have : s = [] := List.eq_nil_of_length_eq_zero (by omega)
    subst this
    rw [Lib.count_one]
    rfl
  | succ k ih =>
    intro s hs
    cases ha : Ad.at_ 34 s with
    | none =>
      have hno := at_none2 ha
      rw [Lib.count_one, List.count_eq_zero_of_not_mem (fun h => hno 34 h rfl)]
      have := quoW_app s [] hno
      rw [List.append_nil] at this
      rw [this]
      rfl
    | some p =>
      obtain ⟨a, r⟩ := p
      have hno := at_no2 ha
      have he : s = a ++ 34 :: r := at_eq ha
      have hix : Lib.index s [34] = (a.length : Nat) := by
        rw [Lib.index_one]
        have hge := Lib.indexByte_ge s 34
        by_cases h1 : Lib.indexByte s 34 = -1
        · rw [(at_index 34 s).1 h1] at ha; cases ha
        · obtain ⟨i, hi⟩ : ∃ i : Nat, Lib.indexByte s 34 = i := ⟨(Lib.indexByte s 34).toNat, by omega⟩
          have h2 := (at_index 34 s).2 i hi
          rw [ha] at h2
          cases h2
          rw [hi, List.length_take]
          have := congrArg List.length he
          simp at this
          omega
      have hc : Lib.count s [34] = Lib.count r [34] + 1 := by
        rw [Lib.count_one, Lib.count_one, he, List.count_append, List.count_eq_zero_of_not_mem (fun h => hno 34 h rfl)]
        simp
      have hr : r.length ≤ k := by have := congrArg List.length he; simp at this; omega
      rw [hc, Lib.replaceK_hit _ _ _ _ _ hix]
      have e1 : s.take a.length = a := by rw [he]; exact List.take_left
      have e2 : s.drop (a.length + ([34] : List UInt8).length) = r := by
        rw [he]
        show (a ++ 34 :: r).drop (a.length + 1) = r
        rw [← List.drop_drop]
        rw [List.drop_left]
        rfl
      rw [e1, e2, List.append_assoc, List.append_assoc, ih r hr, he, quoW_app a (34 :: r) hno]
      rfl
theorem repl_eq (s : List UInt8) : Lib.replaceAll s [34] [34, 34] ++ [34] = Tk.quoW s := by
  show (if ([34] == [34, 34] : Bool) = true then s else Lib.replaceK [34] [34, 34] (Lib.replaceNum s [34] (-1)) s) ++ [34] = _
  rw [if_neg (by decide)]
  have : Lib.replaceNum s [34] (-1) = Lib.count s [34] := by unfold Lib.replaceNum; rw [if_pos (.inl (by decide))]
  rw [this]
  exact rep_quo s.length s (Nat.le_refl _)
theorem quoW_len : ∀ s : List UInt8, (Tk.quoW s).length ≤ 2 * s.length + 1
  | [] => Nat.le_refl _
  | c :: r => by
    have := quoW_len r
    show (if c = 34 then 34 :: 34 :: Tk.quoW r else c :: Tk.quoW r).length ≤ _
    split <;> simp <;> omega
def smT : Tk.Tok → Prop
  | .inr (.inl s) => s.length ≤ 255
  | _ => True
theorem quo_len2 : ∀ (k : Nat) (l s r : List UInt8), l.length ≤ k → Tk.quoF l = some (s, r) → s.length ≤ l.length
  | 0, l, s, r, hk, h => by
    have : l = [] := List.eq_nil_of_length_eq_zero (by omega)
    subst this; cases h
  | k + 1, [], s, r, hk, h => by cases h
  | k + 1, [c], s, r, hk, h => by
    unfold Tk.quoF at h
    split at h
    · cases h; simp
    · cases h
  | k + 1, c :: d :: l, s, r, hk, h => by
    unfold Tk.quoF at h
    simp only [List.length_cons] at hk ⊢
    split at h
    · split at h
      · cases hq : Tk.quoF l with
        | none => rw [hq] at h; cases h
        | some p =>
          rw [hq] at h
          cases h
          have := quo_len2 k l p.1 p.2 (by omega) hq
          simp only [List.length_cons]; omega
      · cases h; simp
    · cases hq : Tk.quoF (d :: l) with
      | none => rw [hq] at h; cases h
      | some p =>
        rw [hq] at h
        cases h
        have := quo_len2 k (d :: l) p.1 p.2 (by simp only [List.length_cons]; omega) hq
        simp only [List.length_cons] at this ⊢; omega
theorem one_sm {l m : List UInt8} {t : Tk.Tok} (hl : l.length ≤ 255) (h : Tk.one gnF trB pnF l = some (t, m)) : smT t := by
  cases t using Tk.Tok.cs with
  | str s =>
    cases l with
    | nil => cases h
    | cons c r =>
      unfold Tk.one at h
      simp only at h
      split at h
      · cases hp : pnF ((c :: r).takeWhile Tk.numC) with
        | none => rw [hp] at h; cases h
        | some n => rw [hp] at h; cases h
      · split at h
        · cases hq : Tk.quoF r with
          | none => rw [hq] at h; cases h
          | some p =>
            rw [hq] at h
            cases h
            have := quo_len2 r.length r p.1 p.2 (Nat.le_refl _) hq
            show p.1.length ≤ 255
            simp only [List.length_cons] at hl; omega
        · split at h
          · unfold Tk.badF at h
            cases hf : [1, 2, 3, 4, 5, 6, 7, 8].find? fun i => (Tk.errN i).isPrefixOf (c :: r) with
            | none => rw [hf] at h; cases h
            | some i => rw [hf] at h; cases h
          · have tl : ∀ {b pre q : List UInt8}, Tk.tailN gnF trB b pre q = some (.str s, m) → False := fun {b pre q} h => by
              unfold Tk.tailN at h
              split at h
              · rename_i z hz
                cases hp : Ad.refP gnF (pre ++ q.takeWhile Tk.runC ++ 33 :: z.takeWhile Tk.runC) with
                | none => rw [hp] at h; cases h
                | some x => rw [hp] at h; cases h
              · split at h
                · split at h
                  · cases h
                  · split at h <;> cases h
                · split at h <;> cases h
            split at h
            · unfold Tk.named at h
              split at h
              · rename_i m' he
                cases he
                cases ha : Ad.at_ 93 r with
                | none => rw [ha] at h; cases h
                | some p =>
                  obtain ⟨a, q⟩ := p
                  rw [ha] at h
                  simp only at h
                  split at h
                  · exact (tl h).elim
                  · cases h
              · exact (tl h).elim
            · rcases r with _ | ⟨d, r⟩
              · simp only [Tk.opF] at h
                split at h <;> cases h
              · simp only [Tk.opF] at h
                split at h
                · cases h
                · split at h <;> cases h
  | num n => trivial
  | ref r => trivial
  | word b s => trivial
  | op x => trivial
  | bad n => trivial
theorem lexN_sm : ∀ (k : Nat) (l : List UInt8) (L : List Tk.Tok), l.length ≤ 255 → Tk.lexN gnF trB pnF k l = some L → ∀ t ∈ L, smT t
  | 0, l, L, _, h => by cases h
  | k + 1, [], L, _, h => by cases h; intro t ht; cases ht
  | k + 1, c :: r, L, hl, h => by
    unfold Tk.lexN at h
    split at h
    · exact lexN_sm k r L (by simp only [List.length_cons] at hl; omega) h
    · cases ho : Tk.one gnF trB pnF (c :: r) with
      | none => rw [ho] at h; cases h
      | some p =>
        rw [ho] at h
        simp only at h
        cases hk : Tk.lexN gnF trB pnF k p.2 with
        | none => rw [hk] at h; cases h
        | some M =>
          rw [hk] at h
          cases h
          intro t ht
          rcases List.mem_cons.1 ht with rfl | ht
          · exact one_sm (m := p.2) hl ho
          · exact lexN_sm k p.2 M (by have := one_len (t := p.1) (m := p.2) ho; omega) hk t ht
theorem lex_sm {l : List UInt8} {L : List Tk.Tok} (hl : l.length ≤ 255) (h : lexF l = some L) : ∀ t ∈ L, smT t := lexN_sm _ _ _ hl h
theorem cellW_len {c : Ad.Cell} (h : Ad.inF c) : (Ad.cellW c).length ≤ 5 := by
  have := (dec_len 2 c.row (by decide) (by have := h.2.1; omega)).2
  unfold Ad.cellW
  rw [List.length_append, List.length_cons, List.length_append]
  have h1 : (if c.fc = true then ([36] : List UInt8) else []).length ≤ 1 := by split <;> simp
  have h2 : (if c.fr = true then ([36] : List UInt8) else []).length ≤ 1 := by split <;> simp
  omega
theorem tx_len {t : Tk.Tok} (h : Tk.okT gnF trB okN t) (hs : smT t) : (txT t).length ≤ 600 := by
  cases t using Tk.Tok.cs with
  | num n => have := (num_shape h).2.2; show (printF n).length ≤ 600; omega
  | str s =>
    have : s.length ≤ 255 := hs
    have := quoW_len s
    show (34 :: Tk.quoW s).length ≤ 600
    simp only [List.length_cons]; omega
  | ref r =>
    obtain ⟨hc, h1, h2⟩ := h
    have hcl := cellW_len hc
    show (Ad.refW r).length ≤ 600
    unfold Ad.refW
    rw [List.length_append, List.length_append]
    have g1 : (if r.book = [] then ([] : List UInt8) else 91 :: (r.book ++ [93])).length ≤ 18 := by
      split
      · simp
      · rename_i e
        have := (gn_parts (h2.resolve_left e).1).1
        simp; omega
    have g2 : (if r.sheet = [] then ([] : List UInt8) else r.sheet ++ [33]).length ≤ 17 := by
      split
      · simp
      · rename_i e
        have := (gn_parts (h1.resolve_left e)).1
        simp; omega
    omega
  | word b s =>
    show (if b = [] then s else 91 :: (b ++ 93 :: s)).length ≤ 600
    rcases h with ⟨rfl, h⟩ | ⟨h1, h2⟩
    · rw [if_pos rfl]
      rcases h with h | h
      · have := (gn_parts h).1; omega
      · have e : (szF 97 65 s).length = s.length := by simp [szF]
        rcases tru_word h with h | h
        · rw [h] at e; simp at e; omega
        · rw [h] at e; simp at e; omega
    · have a1 := (gn_parts h1).1
      have a2 := (gn_parts h2).1
      split <;> simp <;> omega
  | op x =>
    show x.length ≤ 600
    rcases h with ⟨c, _, rfl⟩ | ⟨c, d, _, rfl⟩ <;> simp
  | bad n =>
    have h' : 1 ≤ n ∧ n ≤ 8 := h
    have : n = 1 ∨ n = 2 ∨ n = 3 ∨ n = 4 ∨ n = 5 ∨ n = 6 ∨ n = 7 ∨ n = 8 := by omega
    show (Tk.errN n).length ≤ 600
    rcases this with rfl | rfl | rfl | rfl | rfl | rfl | rfl | rfl <;> decide
end Go.Proofs.YtljfkkpkcjigpaaGreatDoor
