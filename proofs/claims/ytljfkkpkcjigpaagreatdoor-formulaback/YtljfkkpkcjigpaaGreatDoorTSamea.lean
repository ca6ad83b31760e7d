/- TSeq, TSame. -/
import Derived.Test.YtljfkkpkcjigpaaGreatDoorTNexta
set_option linter.unusedVariables false
set_option linter.unusedSimpArgs false
namespace Go.Proofs.YtljfkkpkcjigpaaGreatDoor
open Go.RowKit
set_option maxRecDepth 100000
def TT.cl (t : TT) : List Value := [.int .i64 t.k, .int .i64 t.n, .string t.s, .string t.b, .string t.h, .int .i64 t.r, .int .i64 t.c, .bool t.fr, .bool t.fc]
theorem cl_len (t : TT) : t.cl.length = 9 := rfl
theorem cl_one (t : TT) : ∀ u ∈ t.cl, u.oneCell' = true := by
  intro u hu
  simp only [TT.cl, List.mem_cons, List.not_mem_nil, or_false] at hu
  rcases hu with rfl | rfl | rfl | rfl | rfl | rfl | rfl | rfl | rfl <;> rfl
theorem flat_len : ∀ L : List TT, (L.flatMap TT.cl).length = L.length * 9
  | [] => rfl
  | t :: L => by rw [List.flatMap_cons, List.length_append, flat_len L, cl_len, List.length_cons]; omega
theorem flat_at : ∀ (L : List TT) (i j : Nat) (v : Value) (hi : i < L.length), L[i].cl[j]? = some v → (L.flatMap TT.cl)[i * 9 + j]? = some v
  | t :: L, 0, j, v, _, h => by
    have hj : j < t.cl.length := (List.getElem?_eq_some_iff.1 h).1
    rw [List.flatMap_cons, Nat.zero_mul, Nat.zero_add, List.getElem?_append_left hj]
    exact h
  | t :: L, i + 1, j, v, hi, h => by
    rw [List.flatMap_cons, List.getElem?_append_right (by rw [cl_len]; omega), cl_len, show (i + 1) * 9 + j - 9 = i * 9 + j by omega]
    exact flat_at L i j v (by simpa using hi) h
def OwnT (e : TypeId) (base : Nat) (w : World) (v : Value) (L : List TT) : Prop := w.ownsRow base e 9 v L.length (L.flatMap TT.cl)
theorem OwnT.nil (e : TypeId) (base : Nat) (w : World) : OwnT e base w (.slice none 0 0) [] := World.ownsRow_nil w base e 9
theorem OwnT.slice {e : TypeId} {base : Nat} {w : World} {v : Value} {L : List TT} (h : OwnT e base w v L) : ∃ a c, v = .slice a L.length c := by
  rcases h.2 with ⟨rfl, h0⟩ | ⟨g, cap, cur, rfl, _⟩
  · exact ⟨none, 0, by rw [h0]⟩
  · exact ⟨_, _, rfl⟩
theorem OwnT.ne {e : TypeId} {base : Nat} {w : World} {v : Value} {L : List TT} (h : OwnT e base w v L) {b : Nat} {o : Obj} (hb : w.heap[b]? = some o) (ho : ∀ c z, o ≠ .cells c e z) : v.ownBlock = none ∨ v.ownBlock ≠ some b := by
  rcases h.2 with ⟨rfl, _⟩ | ⟨g, cap, cur, rfl, _, hg, _⟩
  · exact .inl rfl
  · refine .inr fun e => ?_
    have : g = b := by simpa [Value.ownBlock] using e
    subst this
    rw [hb] at hg
    cases hg
    exact ho _ _ rfl
theorem OwnT.kept {e : TypeId} {base : Nat} {w w' : World} {v : Value} {L : List TT} {row : Option Nat} (h : OwnT e base w v L) (hg : w.grownBy w' row) (hne : v.ownBlock = none ∨ v.ownBlock ≠ row) : OwnT e base w' v L := World.ownsRow.kept h hg hne
theorem OwnT.below {e : TypeId} {base : Nat} {w w' : World} {v : Value} {L : List TT} (h : OwnT e base w v L) (hb : Below w.heap.size w w') : OwnT e base w' v L :=
  h.kept (grown_below (row := none) hb) (by cases v.ownBlock <;> simp)
theorem OwnT.base {e : TypeId} {base base' : Nat} {w : World} {v : Value} {L : List TT} (h : OwnT e base w v L) (hb : base' ≤ base) : OwnT e base' w v L := by
  obtain ⟨h1, h2⟩ := h
  refine ⟨h1, h2.imp id ?_⟩
  rintro ⟨g, cap, cur, e1, e2, r⟩
  exact ⟨g, cap, cur, e1, by omega, r⟩
theorem inf35z : (Tryz.prog.info? 70).map (fun i => (i.zero, i.size, i.bytes)) = some (some (.agg tk0), 9, 88) := by kernel_rfl
theorem ownT_app {e st : TypeId} (hst : Tryz.prog.underlying st = some (.slice e)) (hinf : (Tryz.prog.info? e).map (fun i => (i.zero, i.size, i.bytes)) = some (some (.agg tk0), 9, 88))
    {base : Nat} {w : World} {v : Value} {L : List TT} (h : OwnT e base w v L) {g : Nat} {t : TT} {z : Nat × Nat} {e' : TypeId} (hg : w.heap[g]? = some (.cells t.cs e' z)) (hn : L.length + 1 ≤ 1000000) (hbase : base ≤ w.heap.size) :
    ∃ v' w', Hid ((Builtin.append_ #[st, st] st #[v, .slice (some ⟨g, 0, none⟩) 1 1]).run Tryz.prog w = .ok v' w') ∧ OwnT e base w' v' (L ++ [t]) ∧ w.grownBy w' v.ownBlock ∧ Below base w w' := by
  obtain ⟨i0, hi, hz0, hz1, hz2⟩ := info_parts hinf
  have hadd : ∀ k, (⟨g, 0, none⟩ : Addr).add k = ⟨g, k, none⟩ := fun k => by unfold Addr.add; split <;> simp_all
  obtain ⟨v', w', r1, o1, g1, _, _⟩ := run_append_own_at w base st st e i0 _ 9 88 hst hi hz0 hz1 hz2 rfl (by decide) v _ _ h ⟨g, 0, none⟩ 1 1 t.cl rfl
    (fun j u hj => by rw [hadd, cell_of_row w g j _ _ _ hg, ← hj]; simp [TT.cs, TT.cl]) (cl_one t) (by simp only [maxLen]; omega) (by omega) hbase
  refine ⟨v', w', r1, ?_, g1, (Below.refl base w).grown g1 hbase fun k hk => (World.ownsRow.lt h k hk).1⟩
  unfold OwnT
  rw [List.length_append, List.flatMap_append]
  simpa using o1
theorem wpList_append_run {P : Program} {w : World} {ops : Array Oper} {rest : List Oper} {o : Oper} {a : Act} {Q : Exit → Act → World → Prop} (hgd : o.guard = none) (s x : Operand) (t : TypeId)
    (ho : o.op = .call { callee := .builtin .append, args := #[s, x], argTypes := #[t, t] }) (v bv v' : Value) (w' : World) (hs : a.eval s = v) (hx : a.eval x = bv) (hrun : (Builtin.append_ #[t, t] o.type #[v, bv]).run P w = .ok v' w')
    (h : wpList P ops Q rest (a.put o.dst v') w') : wpList P ops Q (o :: rest) a w := by
  refine wpList_plain hgd fun K hK => ?_
  unfold Oper.wp
  simp [execOp, ho, resolve, invoke, builtin, hs, hx, hrun, Result.andThen]
  exact hK _ _ h
theorem OwnT.load {e : TypeId} {base : Nat} {w : World} {a : Option Addr} {n c : Nat} {L : List TT} (h : OwnT e base w (.slice a n c) L) {i : Nat} (hi : i < L.length) {d : TypeDesc} (hd : d.isRow = true) (hu : Tryz.prog.underlying e = some d) (hinf : (Tryz.prog.info? e).map (·.size) = some 9) :
    ∃ g, a = some ⟨g, 0, none⟩ ∧ (Instr.loadAt e (.pointer (some ⟨g, i * 9, none⟩))).run Tryz.prog w = .ok (.agg L[i].cs) w := by
  have hc := fun g (hg : (Value.slice a n c).ownBlock = some g) => World.ownsRow.cells h hg
  rcases h.2 with ⟨e1, e2⟩ | ⟨g, cap, cur, e1, _⟩
  · omega
  · cases e1
    refine ⟨g, rfl, ?_⟩
    have hadd : ∀ k, (⟨g, 0, none⟩ : Addr).add k = ⟨g, k, none⟩ := fun k => by unfold Addr.add; split <;> simp_all
    exact run_loadAt_mid (P := Tryz.prog) w g (i * 9) e L[i].cl d (fun j v hv => by
      have := hc g rfl (i * 9 + j) v (flat_at L i j v hi hv)
      rw [hadd] at this
      exact this) hu hd (by rw [hinf]; rfl)
theorem one_len {l m : List UInt8} {t : Tk.Tok} (h : Tk.one gnF trB pnF l = some (t, m)) : m.length < l.length := by
  cases l with
  | nil => cases h
  | cons c r =>
    unfold Tk.one at h
    simp only at h
    split at h
    · rename_i hd
      cases hp : pnF ((c :: r).takeWhile Tk.numC) with
      | none => rw [hp] at h; cases h
      | some n =>
        rw [hp] at h
        cases h
        exact Tk.drop_lt _ (by unfold Tk.numC; rw [hd]; rfl)
    · split at h
      · cases hq : Tk.quoF r with
        | none => rw [hq] at h; cases h
        | some p =>
          rw [hq] at h
          cases h
          have := Tk.quo_len r.length r p.1 p.2 (Nat.le_refl _) hq
          simp only [List.length_cons]; omega
      · split at h
        · exact Tk.bad_len h
        · split at h
          · rename_i hn
            unfold Tk.named at h
            split at h
            · rename_i m' he
              cases he
              cases ha : Ad.at_ 93 r with
              | none => rw [ha] at h; cases h
              | some p =>
                obtain ⟨a, q⟩ := p
                rw [ha] at h
                simp only at h
                split at h
                · have h1 := Tk.tail_len h
                  have h2 := congrArg List.length (at_eq ha)
                  simp at h2 ⊢
                  omega
                · cases h
            · rename_i hne
              have hrun : Tk.runC c = true := by
                rcases hn with h1 | h1 | h1
                · subst h1; exact absurd rfl (hne r)
                · subst h1; rfl
                · exact Tk.isL_run h1
              unfold Tk.tailN at h
              have hlt := Tk.drop_lt (p := Tk.runC) (c := c) (r := r) hrun
              split at h
              · rename_i q hq
                rw [hq] at hlt
                have hd := Tk.drop_le Tk.runC q
                cases hp : Ad.refP gnF ([] ++ (c :: r).takeWhile Tk.runC ++ 33 :: q.takeWhile Tk.runC) with
                | none => rw [hp] at h; cases h
                | some x =>
                  rw [hp] at h
                  cases h
                  simp only [List.length_cons] at hlt ⊢
                  omega
              · rw [if_pos rfl] at h
                split at h
                · cases h; exact hlt
                · split at h
                  · cases h; exact hlt
                  · cases h
          · exact Tk.op_len h
def lexF (l : List UInt8) : Option (List Tk.Tok) := Tk.lexN gnF trB pnF (l.length + 1) l
theorem lex_fuel : ∀ (k : Nat) (l : List UInt8), l.length < k → ∀ k', l.length < k' → Tk.lexN gnF trB pnF k l = Tk.lexN gnF trB pnF k' l
  | 0, l, h, _, _ => absurd h (Nat.not_lt_zero _)
  | k + 1, [], _, 0, h => absurd h (Nat.not_lt_zero _)
  | k + 1, [], _, k' + 1, _ => rfl
  | k + 1, c :: r, h, 0, h' => absurd h' (Nat.not_lt_zero _)
  | k + 1, c :: r, h, k' + 1, h' => by
    simp only [List.length_cons] at h h'
    unfold Tk.lexN
    split
    · exact lex_fuel k r (by omega) k' (by omega)
    · cases ho : Tk.one gnF trB pnF (c :: r) with
      | none => rfl
      | some p =>
        have := one_len (t := p.1) (m := p.2) ho
        simp only [List.length_cons] at this
        simp only
        rw [lex_fuel k p.2 (by omega) k' (by omega)]
theorem lex_blank {c : UInt8} {r : List UInt8} (h : Tk.blank c = true) : lexF (c :: r) = lexF r := by
  unfold lexF
  conv => lhs; unfold Tk.lexN
  rw [if_pos h]
  exact lex_fuel _ r (by simp) _ (by simp)
theorem lex_cons {c : UInt8} {r : List UInt8} (h : Tk.blank c = false) : lexF (c :: r) = match Tk.one gnF trB pnF (c :: r) with
    | none => none
    | some (t, m) => (lexF m).map (t :: ·) := by
  conv => lhs; unfold lexF Tk.lexN
  rw [if_neg (by rw [h]; decide)]
  cases ho : Tk.one gnF trB pnF (c :: r) with
  | none => rfl
  | some p =>
    have := one_len (t := p.1) (m := p.2) ho
    simp only
    unfold lexF
    rw [lex_fuel _ p.2 this _ (Nat.lt_succ_self _)]
theorem lex_drop : ∀ l : List UInt8, lexF (l.dropWhile Tk.blank) = lexF l
  | [] => rfl
  | c :: r => by
    rw [List.dropWhile_cons]
    split
    · rename_i h; rw [lex_drop r, lex_blank h]
    · rfl
end Go.Proofs.YtljfkkpkcjigpaaGreatDoor

namespace Go.Proofs.YtljfkkpkcjigpaaGreatDoor
open Go.RowKit
set_option maxRecDepth 100000
theorem exec_load_run {P : Program} {ev : Operand → Value} {o : Oper} {ty : TypeId} {x : Operand} {p v : Value} {u : World} (ho : o.op = .load ty x) (hx : ev x = p) (hrun : (Instr.loadAt ty p).run P u = .ok v u) : (execOp ev o).run P u = .ok (.value v) u := by
  unfold execOp
  simp only [ho, hx, Sem.run_bind, Sem.run_pure, hrun, Result.andThen_ok]
theorem OwnT.load2 {e : TypeId} {base : Nat} {w : World} {a : Option Addr} {n c : Nat} {L : List TT} (h : OwnT e base w (.slice a n c) L) {i : Nat} (hi : i < L.length) {d : TypeDesc} (hd : d.isRow = true) (hu : Tryz.prog.underlying e = some d) (hinf : (Tryz.prog.info? e).map (·.size) = some 9) :
    ∃ a', a = some a' ∧ (Instr.loadAt e (.pointer (some (a'.add (i * 9))))).run Tryz.prog w = .ok (.agg (tcs L[i].k L[i].n L[i].s L[i].b L[i].h L[i].r L[i].c L[i].fr L[i].fc)) w := by
  obtain ⟨g, rfl, hr⟩ := h.load hi hd hu hinf
  refine ⟨_, rfl, ?_⟩
  have hadd : (⟨g, 0, none⟩ : Addr).add (i * 9) = ⟨g, i * 9, none⟩ := by unfold Addr.add; split <;> simp_all
  rw [hadd]
  exact hr
end Go.Proofs.YtljfkkpkcjigpaaGreatDoor
