/- NmOps, NmPlace, NmFind, NmFind2. -/
import Derived.Test.YtlndkjcincflpaaGreatDoorNmCmpX
import Derived.Deep.WholeRow
set_option linter.unusedVariables false
set_option linter.unusedSimpArgs false
namespace Go.Proofs.YtlndkjcincflpaaGreatDoor
open Go.RowKit Go.Nm
set_option maxRecDepth 100000
section
variable {P : Program} {ops : Array Oper} {rest : List Oper} {o : Oper} {a : Act} {w : World} {Q : Exit → Act → World → Prop}
theorem nl_load (hgd : o.guard = none) (ty : TypeId) (x : Operand) (ho : o.op = .load ty x)
    (p v : Value) (hx : a.eval x = p) (hrun : (Instr.loadAt ty p).run P w = .ok v w) (h : wpList P ops Q rest (a.put o.dst v) w) : wpList P ops Q (o :: rest) a w := by
  refine wpList_plain hgd fun K hK => ?_
  unfold Oper.wp execOp
  simp only [ho, hx, Sem.run_bind, Sem.run_pure, hrun, Result.andThen_ok]
  exact hK _ _ h
theorem nl_loadg (ty : TypeId) (x : Operand) (ho : o.op = .load ty x)
    (p v : Value) (hx : a.eval x = p) (hrun : (Instr.loadAt ty p).run P w = .ok v w) (hw : Region.wanted o (yielded ops a.tmps) = true) (h : wpList P ops Q rest (a.put o.dst v) w) : wpList P ops Q (o :: rest) a w := by
  refine wpList_step fun K hK => ?_
  rw [if_pos hw]
  unfold Oper.wp execOp
  simp only [ho, hx, Sem.run_bind, Sem.run_pure, hrun, Result.andThen_ok]
  exact hK _ _ h
theorem nl_store (hgd : o.guard = none) (ty : TypeId) (x y : Operand) (ho : o.op = .store ty x y)
    (p v : Value) (w' : World) (hx : a.eval x = p) (hy : a.eval y = v) (hrun : (Instr.storeAt ty p v).run P w = .ok () w') (h : wpList P ops Q rest (a.put o.dst undef) w') : wpList P ops Q (o :: rest) a w := by
  refine wpList_plain hgd fun K hK => ?_
  unfold Oper.wp execOp
  simp only [ho, hx, hy, Sem.run_bind, Sem.run_pure, hrun, Result.andThen_ok]
  exact hK _ _ h
theorem nl_build (hgd : o.guard = none) (ty : TypeId) (xs : Array (Nat × Operand)) (ho : o.op = .build ty xs)
    (ps : Array (Nat × Value)) (v : Value) (hx : (xs.map fun (i, x) => (i, a.eval x)) = ps) (hrun : (Instr.build ty ps).run P w = .ok v w) (h : wpList P ops Q rest (a.put o.dst v) w) : wpList P ops Q (o :: rest) a w := by
  refine wpList_plain hgd fun K hK => ?_
  unfold Oper.wp execOp
  simp only [ho, hx, Sem.run_bind, Sem.run_pure, hrun, Result.andThen_ok]
  exact hK _ _ h
theorem nl_bslice (hgd : o.guard = none) (ty : TypeId) (len : Nat) (xs : Array (Nat × Operand)) (ho : o.op = .buildSlice ty len xs)
    (ps : Array (Nat × Value)) (v : Value) (w' : World) (hx : (xs.map fun (i, x) => (i, a.eval x)) = ps) (hrun : (Instr.buildSlice ty len ps).run P w = .ok v w') (h : wpList P ops Q rest (a.put o.dst v) w') : wpList P ops Q (o :: rest) a w := by
  refine wpList_plain hgd fun K hK => ?_
  unfold Oper.wp execOp
  simp only [ho, hx, Sem.run_bind, Sem.run_pure, hrun, Result.andThen_ok]
  exact hK _ _ h
theorem nl_append (hgd : o.guard = none) (s x : Operand) (t t2 : TypeId)
    (ho : o.op = .call { callee := .builtin .append, args := #[s, x], argTypes := #[t, t2] }) (v bv v' : Value) (w' : World) (hs : a.eval s = v) (hx : a.eval x = bv) (hrun : (Builtin.append_ #[t, t2] o.type #[v, bv]).run P w = .ok v' w')
    (h : wpList P ops Q rest (a.put o.dst v') w') : wpList P ops Q (o :: rest) a w := by
  refine wpList_plain hgd fun K hK => ?_
  unfold Oper.wp
  simp [execOp, ho, resolve, invoke, builtin, hs, hx, hrun, Result.andThen]
  exact hK _ _ h
end
theorem mbox (u : World) (y : NM) : (Instr.storeAt 24 (.pointer (some ⟨u.heap.size, 0, none⟩)) (nmV y)).run Tryz.prog (u.alloc (nmO nm0)) = .ok () (u.alloc (nmO y)) :=
  run_storeAt_new u 24 (ncs nm0) (ncs y) ninf rfl (by simp [Value.oneCell'])
theorem nload {u : World} {g : Nat} {x : NM} {z : Nat × Nat} (hg : u.heap[g]? = some (.cells (ncs x) 24 z)) : (Instr.loadAt 24 (.pointer (some ⟨g, 0, none⟩))).run Tryz.prog u = .ok (nmV x) u := by
  obtain ⟨c0, c1, c2⟩ := n_cells hg
  have hr := run_loadVar_row (P := Tryz.prog) u g 24 24 (ncs x) z _ hg Tryz.underlying24 rfl ninf
  simp only [Instr.loadAt, Instr.sureAddr, Sem.run_bind, Sem.run_pure, Result.andThen_ok, hr]
theorem nbuild2 (w : World) (s n : ByteArray) : (Instr.build 24 #[(0, .string s), (1, .string n)]).run Tryz.prog w = .ok (nmV ⟨s, n, ⟨#[]⟩⟩) w := by kernel_rfl
theorem nbuild0 (w : World) : (Instr.build 24 #[]).run Tryz.prog w = .ok (nmV nm0) w := by kernel_rfl
theorem nres {fn : Func} {p u : Tmp} (h : fn.results = #[.cell p 24, .tmp u]) {tmps : Array Value} {w : World} {g : Nat} {x : NM} {z : Nat × Nat} {v2 : Value}
    (hp : tmps.getD p undef = .pointer (some ⟨g, 0, none⟩)) (hg : w.heap[g]? = some (.cells (ncs x) 24 z)) (hv : tmps.getD u undef = v2) :
    (results fn tmps).run Tryz.prog w = .ok (.tuple #[nmV x, v2]) w := by
  rw [results_cell_tmp h, hp, hv]
  simp [asAddr, run_loadVar_row (P := Tryz.prog) w g 24 24 (ncs x) z _ hg Tryz.underlying24 rfl ninf, Result.andThen]
def AtR (L : List NM) (x : NM) (k at_ : Nat) : Prop :=
  (∀ z ∈ L.take k, cmpK z x ≠ 0) ∧ ((at_ = L.length ∧ ∀ z ∈ L.take k, ¬ 0 < cmpK z x) ∨ (at_ < k ∧ (∀ z ∈ L.take at_, ¬ 0 < cmpK z x) ∧ ∃ h : at_ < L.length, 0 < cmpK L[at_] x))
theorem AtR.begin (L : List NM) (x : NM) : AtR L x 0 L.length := ⟨fun z hz => by simp at hz, .inl ⟨rfl, fun z hz => by simp at hz⟩⟩
theorem take_succ_mem {L : List NM} {k : Nat} (hk : k < L.length) {z : NM} (hz : z ∈ L.take (k + 1)) : z ∈ L.take k ∨ z = L[k] := by
  rw [List.take_succ_eq_append_getElem hk, List.mem_append, List.mem_singleton] at hz
  exact hz
theorem AtR.hit {L : List NM} {x : NM} {k p : Nat} (h : AtR L x k p) (hk : k < L.length) (hc : cmpK L[k] x = 0) : PlaceR L x k true :=
  ⟨L.take k, L.drop (k + 1), L[k], by rw [← List.drop_eq_getElem_cons hk, List.take_append_drop], by rw [List.length_take]; omega, hc, h.1⟩
theorem AtR.less {L : List NM} {x : NM} {k p : Nat} (h : AtR L x k p) (hk : k < L.length) (hc : cmpK L[k] x < 0) : AtR L x (k + 1) p := by
  refine ⟨fun z hz => ?_, ?_⟩
  · rcases take_succ_mem hk hz with hz | rfl
    · exact h.1 z hz
    · omega
  · rcases h.2 with ⟨e, h2⟩ | ⟨e, h2, h3⟩
    · refine .inl ⟨e, fun z hz => ?_⟩
      rcases take_succ_mem hk hz with hz | rfl
      · exact h2 z hz
      · omega
    · exact .inr ⟨by omega, h2, h3⟩
theorem AtR.more {L : List NM} {x : NM} {k p : Nat} (h : AtR L x k p) (hk : k < L.length) (hc : 0 < cmpK L[k] x) : AtR L x (k + 1) (if p < k then p else k) := by
  refine ⟨fun z hz => ?_, ?_⟩
  · rcases take_succ_mem hk hz with hz | rfl
    · exact h.1 z hz
    · omega
  · rcases h.2 with ⟨e, h2⟩ | ⟨e, h2, h3⟩
    · rw [if_neg (by omega)]
      exact .inr ⟨by omega, h2, hk, hc⟩
    · rw [if_pos e]
      exact .inr ⟨by omega, h2, h3⟩
theorem AtR.done {L : List NM} {x : NM} {p : Nat} (h : AtR L x L.length p) : PlaceR L x p false ∧ p ≤ L.length := by
  have h1 := h.1
  rw [List.take_length] at h1
  rcases h.2 with ⟨rfl, h2⟩ | ⟨e, h2, h3, h4⟩
  · rw [List.take_length] at h2
    exact ⟨⟨L, [], by simp, rfl, h1, h2, fun z r e => by cases e⟩, Nat.le_refl _⟩
  · refine ⟨⟨L.take p, L.drop p, by rw [List.take_append_drop], by rw [List.length_take]; omega, h1, h2, fun z r e => ?_⟩, by omega⟩
    rw [List.drop_eq_getElem_cons h3] at e
    cases e
    exact h4
theorem AtR.le {L : List NM} {x : NM} {k p : Nat} (h : AtR L x k p) : p ≤ L.length := by
  rcases h.2 with ⟨rfl, _⟩ | ⟨_, _, h, _⟩ <;> omega
end Go.Proofs.YtlndkjcincflpaaGreatDoor

namespace Go.Proofs.YtlndkjcincflpaaGreatDoor
open Go.RowKit Go.Nm
set_option maxRecDepth 100000
abbrev cmpV : Value := .func (.func 23) #[] #[]
def PlaceE (L : List NM) (x : NM) (e : Ending) : Prop := ∃ (k : Nat) (b : Bool), e = .returned (.tuple #[.int .i64 (k : Nat), .bool b]) ∧ PlaceR L x k b ∧ k ≤ L.length
set_option maxHeartbeats 8000000 in
theorem place_any (L : List NM) (x : NM) (hn : L.length ≤ 1000) (w : World) (p : Option Addr) (n c : Nat) (h : Rds w p n L) :
    Calls Tryz.prog 37 #[.slice p n c, nmV x, cmpV] w fun e w' => PlaceE L x e ∧ Below w.heap.size w w' := by
  have HR : Hid (Rds w p n L) := h
  have HA0 : Hid (AtR L x 0 n) := by show AtR _ _ _ _; rw [h.1]; exact AtR.begin L x
  have HN : Hid (n = L.length) := h.1
  have hn2 : n ≤ 1000 := by rw [h.1]; exact hn
  have HB0 : Hid (Below w.heap.size w (w.alloc (nmO x))) := bel_alloc (Below.refl _ _) _
  clear h hn
  go_enter Tryz.func37, Tryz.ntmps37
  go_wp2
  go_loopw [8, 16] (fun a i wr => ∃ (k q : Nat), k ≤ n ∧ a = .int .i64 (q : Nat) ∧ q ≤ n ∧ i = .int .i64 (k : Nat) ∧ Hid (AtR L x k q) ∧ Hid (Below w.heap.size w wr) ∧ Hid (wr.heap[w.heap.size]? = some (nmO x))) (fun _ i _ => n - (intOf i).toNat)
  case atStart => exact ⟨0, n, Nat.zero_le _, rfl, Nat.le_refl _, rfl, HA0, HB0, heap_alloc_new w _⟩
  case round =>
    obtain ⟨k, q, hk, rfl, hq, rfl, HA, HB, HX⟩ := hrel
    clear HA0 HB0
    by_cases hlt : k < n
    · have hki : (k : Int) < n := by omega
      have hkL : k < L.length := by rw [← HN.out]; exact hlt
      obtain ⟨a', rfl, RL⟩ := (HR.out.below HB.out).load hkL
      have RLh : Hid _ := RL
      have RS : Hid _ := mbox wr L[k]
      have RL2 : Hid _ := nload (heap_alloc_new wr (nmO L[k]))
      have HXb : (wr.alloc (nmO L[k])).heap[w.heap.size]? = some (nmO x) := by exact (heap_alloc_old wr _ (lt_of HX.out)).trans HX.out
      have RX : Hid _ := nload HXb
      have HKE : Hid (hkL = hkL) := rfl
      have C := ncmp_any L[k] x (wr.alloc (nmO L[k]))
      have HBa : Hid (Below w.heap.size w (wr.alloc (nmO L[k]))) := bel_alloc HB.out _
      have HXc : Hid ((wr.alloc (nmO L[k])).heap[w.heap.size]? = some (nmO x)) := HXb
      clear RL HXb HX
      have HH := AtR.hit HA.out hkL
      have HL := AtR.less HA.out hkL
      have HM := AtR.more HA.out hkL
      have HHh : Hid _ := HH
      have HLh : Hid _ := HL
      have HMh : Hid _ := HM
      clear HH HL HM
      have HWY := cmpK_ways L[k] x
      generalize hc : cmpK L[k] x = cv at *
      generalize L[k] = y at *
      clear hc HKE
      rcases HWY with rfl | rfl | rfl
      · go_wp2_with (first
          | (refine nl_load rfl 24 _ rfl _ _ rfl RLh.out ?_; clear RLh)
          | (refine nl_store rfl 24 _ _ rfl _ _ _ rfl rfl RS.out ?_; clear RS)
          | (refine nl_load rfl 24 _ rfl _ _ rfl RL2.out ?_; clear RL2)
          | (refine nl_load rfl 24 _ rfl _ _ rfl RX.out ?_; clear RX)
          | (go_at_call 23; refine C.mono ?_; rintro e w1 ⟨rfl, hb1⟩))
        go_roundw
        case rel => exact ⟨k + 1, q, by omega, rfl, hq, by go_num, HLh.out (by omega), bel_step HBa.out hb1, (hb1.block _ (lt_of HXc.out)).trans HXc.out⟩
        case measure => simp [intOf]; omega
      · go_wp2_with (first
          | (refine nl_load rfl 24 _ rfl _ _ rfl RLh.out ?_; clear RLh)
          | (refine nl_store rfl 24 _ _ rfl _ _ _ rfl rfl RS.out ?_; clear RS)
          | (refine nl_load rfl 24 _ rfl _ _ rfl RL2.out ?_; clear RL2)
          | (refine nl_load rfl 24 _ rfl _ _ rfl RX.out ?_; clear RX)
          | (go_at_call 23; refine C.mono ?_; rintro e w1 ⟨rfl, hb1⟩))
        go_ret2
        exact ⟨⟨k, true, rfl, HHh.out trivial, by omega⟩, bel_step HBa.out hb1⟩
      · go_wp2_with (first
          | (refine nl_load rfl 24 _ rfl _ _ rfl RLh.out ?_; clear RLh)
          | (refine nl_store rfl 24 _ _ rfl _ _ _ rfl rfl RS.out ?_; clear RS)
          | (refine nl_load rfl 24 _ rfl _ _ rfl RL2.out ?_; clear RL2)
          | (refine nl_load rfl 24 _ rfl _ _ rfl RX.out ?_; clear RX)
          | (go_at_call 23; refine C.mono ?_; rintro e w1 ⟨rfl, hb1⟩))
        go_roundw
        case rel =>
          refine ⟨k + 1, if q < k then q else k, by omega, ?_, by split <;> omega, by go_num, HMh.out (by decide), bel_step HBa.out hb1, (hb1.block _ (lt_of HXc.out)).trans HXc.out⟩
          congr 1
          by_cases e : k < q
          · rw [if_pos e, if_neg (by omega)]
          · rw [if_neg e]
            by_cases e2 : q < k
            · rw [if_pos e2]
            · rw [if_neg e2]; omega
        case measure => simp [intOf]; omega
    · have hki : ¬ (k : Int) < n := by omega
      have HD : Hid _ := AtR.done (show AtR L x L.length q by have := HN.out; have e : k = L.length := by omega
                                                              rw [← e]; exact HA.out)
      go_wp2
      go_ret2
      exact ⟨⟨q, false, rfl, HD.out.1, HD.out.2⟩, HB.out⟩
end Go.Proofs.YtlndkjcincflpaaGreatDoor

namespace Go.Proofs.YtlndkjcincflpaaGreatDoor
open Go.RowKit Go.Nm
set_option maxRecDepth 100000
theorem nsto {u : World} {g : Nat} {x : NM} (hg : u.heap[g]? = some (nmO x)) (y : NM) : (Instr.storeAt 24 (.pointer (some ⟨g, 0, none⟩)) (nmV y)).run Tryz.prog u = .ok () (u.setRow g (ncs y)) := by
  have hr := run_storeVar_row (P := Tryz.prog) u g 24 24 (ncs x) (ncs y) hg ninf (by simp) (by simp [Value.oneCell'])
  simp only [Instr.storeAt, Instr.sureAddr, Sem.run_bind, Sem.run_pure, Result.andThen_ok, hr]
theorem nset_heap {u : World} {g : Nat} {x : NM} (hg : u.heap[g]? = some (nmO x)) (y : NM) : (u.setRow g (ncs y)).heap[g]? = some (nmO y) := setRow_heap u g _ _ _ _ hg
theorem nset_grown (w : World) (g : Nat) (es : Array Value) : w.grownBy (w.setRow g es) (some g) :=
  ⟨rfl, rfl, rfl, by simp [World.setRow], fun i _ hi => setRow_other w g i es (fun e => hi (by rw [e]))⟩
theorem nset_bel {w u : World} {g : Nat} (h : Below w.heap.size w u) (hg : w.heap.size ≤ g) (es : Array Value) : Below w.heap.size w (u.setRow g es) :=
  h.grown (nset_grown u g es) h.size (fun k hk => by cases hk; exact hg)
def fnd : Option NM → NM × Bool
  | some y => (y, true)
  | none => (nm0, false)
def fndV (o : Option NM) : Value := .tuple #[nmV (fnd o).1, .bool (fnd o).2]
set_option maxHeartbeats 8000000 in
theorem find_any (L : List NM) (s n : ByteArray) (hn : L.length ≤ 1000) (w : World) (p : Option Addr) (m c : Nat) (h : Rds w p m L) :
    Calls Tryz.prog 17 #[.slice p m c, .string s, .string n] w fun e w' => e = .returned (fndV (findK ⟨s, n, ⟨#[]⟩⟩ L)) ∧ Below w.heap.size w w' := by
  have HB : Below w.heap.size w (w.alloc (nmO nm0)) := bel_alloc (Below.refl _ _) _
  have C0 := place_any L ⟨s, n, ⟨#[]⟩⟩ hn _ p m c (h.below HB)
  have RB : Hid _ := nbuild2 (w.alloc (nmO nm0)) s n
  have HN : Hid (m = L.length) := h.1
  have hn2 : m ≤ 1000 := by rw [h.1]; exact hn
  have C : Calls Tryz.prog 37 #[.slice p m c, nmV ⟨s, n, ⟨#[]⟩⟩, cmpV] (w.alloc (nmO nm0)) fun e w' => ∃ (k : Nat) (o : Option NM), e = .returned (.tuple #[.int .i64 (k : Nat), .bool (fnd o).2]) ∧ o = findK ⟨s, n, ⟨#[]⟩⟩ L ∧ (∀ y, o = some y → k < m ∧ ∃ a, p = some a ∧ Hid ((Instr.loadAt 24 (.pointer (some (a.add (k * 3))))).run Tryz.prog w' = .ok (nmV y) w')) ∧ Hid (w'.heap[w.heap.size]? = some (nmO nm0)) ∧ Hid (Below w.heap.size w w') := C0.mono (by
    rintro e w' ⟨⟨k, b, rfl, hP, hk⟩, hb⟩
    have hb2 := bel_step HB hb
    refine ⟨k, findK ⟨s, n, ⟨#[]⟩⟩ L, ?_, rfl, fun y hy => ?_, (hb.block _ (lt_of (heap_alloc_new w _))).trans (heap_alloc_new w _), hb2⟩
    · rcases find_place hP with ⟨rfl, e⟩ | ⟨y, rfl, _, e⟩ <;> rw [e] <;> rfl
    · rcases find_place hP with ⟨rfl, e⟩ | ⟨z, rfl, hz, e⟩
      · rw [e] at hy; cases hy
      · rw [e] at hy
        cases hy
        obtain ⟨hlt, hg⟩ := List.getElem?_eq_some_iff.1 hz
        obtain ⟨a, rfl, R⟩ := (h.below hb2).load hlt
        rw [hg] at R
        exact ⟨by rw [h.1]; exact hlt, a, rfl, R⟩)
  clear C0 h HB hn
  generalize hO : findK ⟨s, n, ⟨#[]⟩⟩ L = o at *
  cases o with
  | none =>
    go_enter Tryz.func17, Tryz.ntmps17
    go_wp2_with (first
      | (refine nl_build rfl 24 _ rfl _ _ (by go_simp) RB.out ?_; clear RB)
      | (go_at_call 37; refine C.mono ?_; rintro e w1 ⟨k, o, rfl, rfl, -, HG, HB⟩; have RZ : Hid _ := nbuild0 w1; have RS : Hid _ := nsto HG.out nm0; have HG2 : Hid _ := nset_heap HG.out nm0; have HB2 : Hid _ := nset_bel HB.out (Nat.le_refl _) (ncs nm0))
      | (refine nl_build rfl 24 _ rfl _ _ (by go_simp) RZ.out ?_; clear RZ)
      | (refine nl_store rfl 24 _ _ rfl _ _ _ rfl rfl RS.out ?_; clear RS))
    refine bodyPost_ret (nres (x := nm0) rfl rfl HG2.out rfl) rfl ?_
    exact ⟨rfl, HB2.out⟩
  | some y =>
    go_enter Tryz.func17, Tryz.ntmps17
    go_wp2_with (first
      | (refine nl_build rfl 24 _ rfl _ _ (by go_simp) RB.out ?_; clear RB)
      | (go_at_call 37; refine C.mono ?_; rintro e w1 ⟨k, o, rfl, rfl, HY, HG, HB⟩; obtain ⟨hk, a, rfl, RL⟩ := HY _ rfl; clear HY; have hki : (k : Int) < m := by omega
         have RS : Hid _ := nsto HG.out y; have HG2 : Hid _ := nset_heap HG.out y; have HB2 : Hid _ := nset_bel HB.out (Nat.le_refl _) (ncs y))
      | (refine nl_load rfl 24 _ rfl _ _ rfl RL.out ?_; clear RL)
      | (refine nl_store rfl 24 _ _ rfl _ _ _ rfl rfl RS.out ?_; clear RS))
    refine bodyPost_ret (nres (x := y) rfl rfl HG2.out rfl) rfl ?_
    exact ⟨rfl, HB2.out⟩
end Go.Proofs.YtlndkjcincflpaaGreatDoor

namespace Go.Proofs.YtlndkjcincflpaaGreatDoor
open Go.RowKit Go.Nm
set_option maxRecDepth 100000
theorem find_take {x : NM} {L : List NM} {k : Nat} (h : ∀ z ∈ L.take k, cmpK z x ≠ 0) (hk : k < L.length) (hc : cmpK L[k] x = 0) : findK x L = some L[k] := by
  have e : L = L.take k ++ L[k] :: L.drop (k + 1) := by rw [← List.drop_eq_getElem_cons hk, List.take_append_drop]
  conv => lhs; rw [e]
  exact find_some h hc
theorem beq_l {a b : List UInt8} (h : ¬ a = b) : (a == b) = false := by simpa using h
set_option maxHeartbeats 8000000 in
theorem rfind_any (L : List NM) (s n : ByteArray) (hn : L.length ≤ 1000) (w : World) (p : Option Addr) (m c : Nat) (h : Rds w p m L) :
    Calls Tryz.prog 18 #[.slice p m c, .string s, .string n] w fun e w' => e = .returned (fndV (findK ⟨s, n, ⟨#[]⟩⟩ L)) ∧ Below w.heap.size w w' := by
  have HR : Hid (Rds w p m L) := h
  have HN : Hid (m = L.length) := h.1
  have hn2 : m ≤ 1000 := by rw [h.1]; exact hn
  have HB0 : Hid (Below w.heap.size w (w.alloc (nmO nm0))) := bel_alloc (Below.refl _ _) _
  generalize hO : findK ⟨s, n, ⟨#[]⟩⟩ L = o
  have HO : Hid (findK ⟨s, n, ⟨#[]⟩⟩ L = o) := hO
  clear h hn hO
  go_enter Tryz.func18, Tryz.ntmps18
  go_wp2
  go_loopw [12] (fun i wr => ∃ (k : Nat), k ≤ m ∧ i = .int .i64 (k : Nat) ∧ Hid (∀ z ∈ L.take k, cmpK z ⟨s, n, ⟨#[]⟩⟩ ≠ 0) ∧ Hid (Below w.heap.size w wr) ∧ Hid (wr.heap[w.heap.size]? = some (nmO nm0))) (fun i _ => m - (intOf i).toNat)
  case atStart => exact ⟨0, Nat.zero_le _, rfl, fun z hz => by simp at hz, HB0, heap_alloc_new w _⟩
  case round =>
    obtain ⟨k, hk, rfl, HA, HB, HX⟩ := hrel
    clear HB0
    by_cases hlt : k < m
    · have hki : (k : Int) < m := by omega
      have hkL : k < L.length := by rw [← HN.out]; exact hlt
      obtain ⟨a', rfl, RL⟩ := (HR.out.below HB.out).load hkL
      have RLh : Hid _ := RL
      have RS : Hid _ := mbox wr L[k]
      have hcc := n_cells (heap_alloc_new wr (nmO L[k]))
      have RL2 : Hid _ := nload (heap_alloc_new wr (nmO L[k]))
      have HXc : Hid ((wr.alloc (nmO L[k])).heap[w.heap.size]? = some (nmO nm0)) := (heap_alloc_old wr _ (lt_of HX.out)).trans HX.out
      have HBa : Hid (Below w.heap.size w (wr.alloc (nmO L[k]))) := bel_alloc HB.out _
      have HH : Hid (cmpK L[k] ⟨s, n, ⟨#[]⟩⟩ = 0 → o = some L[k]) := fun e => by rw [← HO.out]; exact find_take HA.out hkL e
      have HL : Hid (cmpK L[k] ⟨s, n, ⟨#[]⟩⟩ ≠ 0 → ∀ z ∈ L.take (k + 1), cmpK z ⟨s, n, ⟨#[]⟩⟩ ≠ 0) := fun e z hz => by
        rcases take_succ_mem hkL hz with hz | rfl
        · exact HA.out z hz
        · exact e
      clear RL HX
      generalize L[k] = y at *
      obtain ⟨ys, yn, yt⟩ := y
      by_cases e1 : ys.toList = s.toList
      · by_cases e2 : yn.toList = n.toList
        · obtain rfl := HH.out (cmpK_zero.2 ⟨e1, e2⟩)
          clear HL HH
          have RS2 : Hid _ := nsto HXc.out ⟨ys, yn, yt⟩
          have HG2 : Hid _ := nset_heap HXc.out ⟨ys, yn, yt⟩
          have HB2 : Hid _ := nset_bel HBa.out (Nat.le_refl _) (ncs ⟨ys, yn, yt⟩)
          have e1b : (ys.toList == s.toList) = true := by simpa using e1
          have e2b : (yn.toList == n.toList) = true := by simpa using e2
          clear e1 e2
          go_wp2_with (first
            | (refine nl_load rfl 24 _ rfl _ _ rfl RLh.out ?_; clear RLh)
            | (refine nl_store rfl 24 _ _ rfl _ _ _ rfl rfl RS.out ?_; clear RS)
            | (refine nl_load rfl 24 _ rfl _ _ rfl RL2.out ?_; clear RL2)
            | (refine nl_store rfl 24 _ _ rfl _ _ _ rfl rfl RS2.out ?_; clear RS2))
          refine bodyPost_ret (nres (x := ⟨ys, yn, yt⟩) rfl rfl HG2.out rfl) rfl ?_
          exact ⟨rfl, HB2.out⟩
        · have HL2 := HL.out (fun e => e2 (cmpK_zero.1 e).2)
          have HL2h : Hid _ := HL2
          have e1b : (ys.toList == s.toList) = true := by simpa using e1
          have e2b := beq_l e2
          clear HL HH HL2 e1 e2 RL2
          go_wp2_with (first
            | (refine nl_load rfl 24 _ rfl _ _ rfl RLh.out ?_; clear RLh)
            | (refine nl_store rfl 24 _ _ rfl _ _ _ rfl rfl RS.out ?_; clear RS))
          go_roundw
          case rel => exact ⟨k + 1, by omega, by go_num, HL2h, HBa, HXc⟩
          case measure => simp [intOf]; omega
      · have HL2 := HL.out (fun e => e1 (cmpK_zero.1 e).1)
        have HL2h : Hid _ := HL2
        have e1b := beq_l e1
        clear HL HH HL2 e1 RL2
        go_wp2_with (first
          | (refine nl_load rfl 24 _ rfl _ _ rfl RLh.out ?_; clear RLh)
          | (refine nl_store rfl 24 _ _ rfl _ _ _ rfl rfl RS.out ?_; clear RS))
        go_roundw
        case rel => exact ⟨k + 1, by omega, by go_num, HL2h, HBa, HXc⟩
        case measure => simp [intOf]; omega
    · have hki : ¬ (k : Int) < m := by omega
      have ho : o = none := by
        have := HA.out
        rw [List.take_of_length_le (by rw [← HN.out]; omega)] at this
        rw [← HO.out]
        exact find_none this
      clear HO
      subst ho
      have RZ : Hid _ := nbuild0 wr
      have RS : Hid _ := nsto HX.out nm0
      have HG2 : Hid _ := nset_heap HX.out nm0
      have HB2 : Hid _ := nset_bel HB.out (Nat.le_refl _) (ncs nm0)
      go_wp2_with (first
        | (refine nl_build rfl 24 _ rfl _ _ (by go_simp) RZ.out ?_; clear RZ)
        | (refine nl_store rfl 24 _ _ rfl _ _ _ rfl rfl RS.out ?_; clear RS))
      refine bodyPost_ret (nres (x := nm0) rfl rfl HG2.out rfl) rfl ?_
      exact ⟨rfl, HB2.out⟩
def resK (s n : ByteArray) (L : List NM) : Option NM := match findK ⟨s, n, ⟨#[]⟩⟩ L with | some y => some y | none => findK ⟨⟨#[]⟩, n, ⟨#[]⟩⟩ L
set_option maxHeartbeats 8000000 in
theorem resolve_any (L : List NM) (s n : ByteArray) (hn : L.length ≤ 1000) (w : World) (p : Option Addr) (m c : Nat) (h : Rds w p m L) :
    Calls Tryz.prog 19 #[.slice p m c, .string s, .string n] w fun e w' => e = .returned (fndV (resK s n L)) ∧ Below w.heap.size w w' := by
  have HR : Hid (Rds w p m L) := h
  have HB0 : Below w.heap.size w (w.alloc (nmO nm0)) := bel_alloc (Below.refl _ _) _
  have C1 := find_any L s n hn _ p m c (h.below HB0)
  have HC : Hid (∀ u, Below w.heap.size w u → Calls Tryz.prog 17 #[.slice p m c, .string ⟨#[]⟩, .string n] u fun e w' => e = .returned (fndV (findK ⟨⟨#[]⟩, n, ⟨#[]⟩⟩ L)) ∧ Below u.heap.size u w') := fun u hu => find_any L ⟨#[]⟩ n hn u p m c (h.below hu)
  unfold resK
  generalize findK ⟨s, n, ⟨#[]⟩⟩ L = o at *
  generalize findK ⟨⟨#[]⟩, n, ⟨#[]⟩⟩ L = o2 at *
  have HBh : Hid _ := HB0
  clear h hn HB0
  have HW0 : Hid ((w.alloc (nmO nm0)).heap[w.heap.size]? = some (nmO nm0)) := heap_alloc_new w _
  cases o with
  | some y =>
    go_enter Tryz.func19, Tryz.ntmps19
    go_wp2_with (first
      | (go_at_call 17; refine C1.mono ?_; rintro e w1 ⟨rfl, hb⟩; unfold fndV fnd; have RS : Hid _ := mbox w1 y; have RL : Hid _ := nload (heap_alloc_new w1 (nmO y))
         have HG : Hid ((w1.alloc (nmO y)).heap[w.heap.size]? = some (nmO nm0)) := (heap_alloc_old w1 _ (by have := hb.size; simp at this; omega)).trans ((hb.block _ (lt_of HW0.out)).trans HW0.out)
         have RS2 : Hid _ := nsto HG.out y; have HG2 : Hid _ := nset_heap HG.out y; have HB2 : Hid _ := nset_bel (bel_alloc (bel_step HBh.out hb) (nmO y)) (Nat.le_refl _) (ncs y); clear C1)
      | (refine nl_store rfl 24 _ _ rfl _ _ _ rfl rfl RS.out ?_; clear RS)
      | (refine nl_load rfl 24 _ rfl _ _ rfl RL.out ?_; clear RL)
      | (refine nl_store rfl 24 _ _ rfl _ _ _ rfl rfl RS2.out ?_; clear RS2))
    refine bodyPost_ret (nres (x := y) rfl rfl HG2.out rfl) rfl ?_
    exact ⟨rfl, HB2.out⟩
  | none =>
    go_enter Tryz.func19, Tryz.ntmps19
    go_wp2_with (first
      | (go_at_call_of 17 s; refine C1.mono ?_; rintro e w1 ⟨rfl, hb⟩; unfold fndV fnd; have RS : Hid _ := mbox w1 nm0
         have HG : Hid ((w1.alloc (nmO nm0)).heap[w.heap.size]? = some (nmO nm0)) := (heap_alloc_old w1 _ (by have := hb.size; simp at this; omega)).trans ((hb.block _ (lt_of HW0.out)).trans HW0.out)
         have HBb : Hid (Below w.heap.size w (w1.alloc (nmO nm0))) := bel_alloc (bel_step HBh.out hb) (nmO nm0); have C2 := HC.out _ HBb.out; clear C1)
      | (refine nl_store rfl 24 _ _ rfl _ _ _ rfl rfl RS.out ?_; clear RS)
      | (go_at_call 17; refine C2.mono ?_; rintro e w2 ⟨rfl, hb2⟩; unfold fndV; generalize hf : fnd o2 = f2; obtain ⟨y, b⟩ := f2; have HF : Hid (fnd o2 = (y, b)) := hf; clear hf
         have HG2 : Hid (w2.heap[w.heap.size]? = some (nmO nm0)) := (hb2.block _ (lt_of HG.out)).trans HG.out
         have RS2 : Hid _ := nsto HG2.out y; have HG3 : Hid _ := nset_heap HG2.out y; have HB2 : Hid _ := nset_bel (bel_step HBb.out hb2) (Nat.le_refl _) (ncs y); clear C2)
      | (refine nl_store rfl 24 _ _ rfl _ _ _ rfl rfl RS2.out ?_; clear RS2))
    refine bodyPost_ret (nres (x := y) rfl rfl HG3.out rfl) rfl ?_
    exact ⟨by rw [show fndV o2 = .tuple #[nmV y, .bool b] by unfold fndV; rw [HF.out]]; rfl, HB2.out⟩
set_option maxHeartbeats 8000000 in
theorem rresolve_any (L : List NM) (s n : ByteArray) (hn : L.length ≤ 1000) (w : World) (p : Option Addr) (m c : Nat) (h : Rds w p m L) :
    Calls Tryz.prog 20 #[.slice p m c, .string s, .string n] w fun e w' => e = .returned (fndV (resK s n L)) ∧ Below w.heap.size w w' := by
  have HR : Hid (Rds w p m L) := h
  have HB0 : Below w.heap.size w (w.alloc (nmO nm0)) := bel_alloc (Below.refl _ _) _
  have C1 := rfind_any L s n hn _ p m c (h.below HB0)
  have HC : Hid (∀ u, Below w.heap.size w u → Calls Tryz.prog 18 #[.slice p m c, .string ⟨#[]⟩, .string n] u fun e w' => e = .returned (fndV (findK ⟨⟨#[]⟩, n, ⟨#[]⟩⟩ L)) ∧ Below u.heap.size u w') := fun u hu => rfind_any L ⟨#[]⟩ n hn u p m c (h.below hu)
  unfold resK
  generalize findK ⟨s, n, ⟨#[]⟩⟩ L = o at *
  generalize findK ⟨⟨#[]⟩, n, ⟨#[]⟩⟩ L = o2 at *
  have HBh : Hid _ := HB0
  clear h hn HB0
  have HW0 : Hid ((w.alloc (nmO nm0)).heap[w.heap.size]? = some (nmO nm0)) := heap_alloc_new w _
  cases o with
  | some y =>
    go_enter Tryz.func20, Tryz.ntmps20
    go_wp2_with (first
      | (go_at_call 18; refine C1.mono ?_; rintro e w1 ⟨rfl, hb⟩; unfold fndV fnd; have RS : Hid _ := mbox w1 y; have RL : Hid _ := nload (heap_alloc_new w1 (nmO y))
         have HG : Hid ((w1.alloc (nmO y)).heap[w.heap.size]? = some (nmO nm0)) := (heap_alloc_old w1 _ (by have := hb.size; simp at this; omega)).trans ((hb.block _ (lt_of HW0.out)).trans HW0.out)
         have RS2 : Hid _ := nsto HG.out y; have HG2 : Hid _ := nset_heap HG.out y; have HB2 : Hid _ := nset_bel (bel_alloc (bel_step HBh.out hb) (nmO y)) (Nat.le_refl _) (ncs y); clear C1)
      | (refine nl_store rfl 24 _ _ rfl _ _ _ rfl rfl RS.out ?_; clear RS)
      | (refine nl_load rfl 24 _ rfl _ _ rfl RL.out ?_; clear RL)
      | (refine nl_store rfl 24 _ _ rfl _ _ _ rfl rfl RS2.out ?_; clear RS2))
    refine bodyPost_ret (nres (x := y) rfl rfl HG2.out rfl) rfl ?_
    exact ⟨rfl, HB2.out⟩
  | none =>
    go_enter Tryz.func20, Tryz.ntmps20
    go_wp2_with (first
      | (go_at_call_of 18 s; refine C1.mono ?_; rintro e w1 ⟨rfl, hb⟩; unfold fndV fnd; have RS : Hid _ := mbox w1 nm0
         have HG : Hid ((w1.alloc (nmO nm0)).heap[w.heap.size]? = some (nmO nm0)) := (heap_alloc_old w1 _ (by have := hb.size; simp at this; omega)).trans ((hb.block _ (lt_of HW0.out)).trans HW0.out)
         have HBb : Hid (Below w.heap.size w (w1.alloc (nmO nm0))) := bel_alloc (bel_step HBh.out hb) (nmO nm0); have C2 := HC.out _ HBb.out; clear C1)
      | (refine nl_store rfl 24 _ _ rfl _ _ _ rfl rfl RS.out ?_; clear RS)
      | (go_at_call 18; refine C2.mono ?_; rintro e w2 ⟨rfl, hb2⟩; unfold fndV; generalize hf : fnd o2 = f2; obtain ⟨y, b⟩ := f2; have HF : Hid (fnd o2 = (y, b)) := hf; clear hf
         have HG2 : Hid (w2.heap[w.heap.size]? = some (nmO nm0)) := (hb2.block _ (lt_of HG.out)).trans HG.out
         have RS2 : Hid _ := nsto HG2.out y; have HG3 : Hid _ := nset_heap HG2.out y; have HB2 : Hid _ := nset_bel (bel_step HBb.out hb2) (Nat.le_refl _) (ncs y); clear C2)
      | (refine nl_store rfl 24 _ _ rfl _ _ _ rfl rfl RS2.out ?_; clear RS2))
    refine bodyPost_ret (nres (x := y) rfl rfl HG3.out rfl) rfl ?_
    exact ⟨by rw [show fndV o2 = .tuple #[nmV y, .bool b] by unfold fndV; rw [HF.out]]; rfl, HB2.out⟩
end Go.Proofs.YtlndkjcincflpaaGreatDoor
