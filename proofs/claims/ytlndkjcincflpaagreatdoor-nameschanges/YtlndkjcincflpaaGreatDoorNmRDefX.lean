/- NmRDef. -/
import Derived.Test.YtlndkjcincflpaaGreatDoorRPar2X
import Derived.Test.YtlndkjcincflpaaGreatDoorNmMayX
set_option linter.unusedVariables false
set_option linter.unusedSimpArgs false
namespace Go.Proofs.YtlndkjcincflpaaGreatDoor
open Go.RowKit Go.Nm
set_option maxRecDepth 100000
theorem find_key (x : NM) : ∀ L : List NM, findK ⟨x.s, x.n, ⟨#[]⟩⟩ L = findK x L
  | [] => rfl
  | y :: L => by
    unfold findK
    rw [find_key x L]
    rfl
theorem ownM_put {base : Nat} {u : World} {v : Value} {L : List NM} (h : OwnM base u v L) (x : NM) (hn : L.length + 1 ≤ 100000) (hbase : base ≤ u.heap.size) :
    ∃ v' w', Hid ((Builtin.append_ #[22, 22] 22 #[v, .slice (some ⟨u.heap.size, 0, none⟩) 1 1]).run Tryz.prog (u.alloc (nmO x)) = .ok v' w') ∧ OwnM base w' v' (L ++ [x]) ∧ Below base u w' ∧
      (∀ b o, u.heap[b]? = some o → v.ownBlock ≠ some b → w'.heap[b]? = some o ∧ v'.ownBlock ≠ some b) := by
  obtain ⟨i, z, hi, hz, hz1, hz2, hz3, _⟩ := ninfo
  have hb : Below u.heap.size u (u.alloc (nmO x)) := bel_alloc (Below.refl _ _) _
  have h2 := h.below hb
  have hrow := fun k hk => (World.ownsRow.lt h2 k hk).1
  obtain ⟨v', w', r1, o1, g1, _, g2⟩ := run_append_own_at (u.alloc (nmO x)) base 22 22 24 i z 3 48 Tryz.underlying22 hi hz hz1 hz2 hz3 (by decide) v _ _ h2 ⟨u.heap.size, 0, none⟩ 1 1 (ncl x) rfl
    (fun j v hj => by
      rw [Addr.add_mid, cell_of_row _ u.heap.size (0 + j) _ _ _ (heap_alloc_new u (nmO x)), Nat.zero_add, ← hj]
      simp) (fun y hy => by simp only [ncl, List.mem_cons, List.not_mem_nil, or_false] at hy; rcases hy with rfl | rfl | rfl <;> rfl) (by simp only [maxLen]; omega) (by omega) (Nat.le_trans hbase hb.size)
  refine ⟨v', w', r1, ?_, ((hb.mono hbase).grown g1 (Nat.le_trans hbase hb.size) hrow), fun b o hbo hne => ?_⟩
  · unfold OwnM
    rw [List.length_append, List.flatMap_append]
    simpa using o1
  · have hlt := lt_of hbo
    have e1 := heap_alloc_old u (nmO x) hlt
    refine ⟨(g1.block b (by simp; omega) (fun e => hne e.symm)).trans (e1.trans hbo), ?_⟩
    rcases g2 with e | e
    · rw [e]; exact hne
    · rw [e]
      intro e2
      have := Option.some.inj e2
      simp at this
      omega
theorem OwnM.other {base : Nat} {u : World} {v : Value} {L : List NM} (h : OwnM base u v L) {b : Nat} (hb : b < base ∨ u.heap.size ≤ b) : v.ownBlock ≠ some b := fun e => by
  have := World.ownsRow.lt h b e
  omega
section
variable {x : NM} {w : World} {p : Option Addr} {m c : Nat} {L : List NM}
set_option maxHeartbeats 8000000 in
theorem rdef_wrong (hw : wrN x ≠ 0) (hz : ZN x) (T : Tab9 w) : Calls Tryz.prog 11 #[.slice p m c, nmV x] w fun e w' => OutM w.heap.size w' e [] (wrN x) ∧ Below w.heap.size w w' := by
  have HB0 : Below w.heap.size w (w.alloc (nmO x)) := bel_alloc (Below.refl _ _) _
  have C := rmay_any x hz _ (T.below HB0)
  have RX : Hid _ := nload (heap_alloc_new w (nmO x))
  have HBh : Hid _ := HB0
  clear HB0 T hz
  generalize wrN x = er at *
  have hwb : (er != 0) = true := by simpa using hw
  clear hw
  go_enter Tryz.func11, Tryz.ntmps11
  go_wp2_with (first
    | (refine nl_load rfl 24 _ rfl _ _ rfl RX.out ?_; clear RX)
    | (go_at_call 39; refine C.mono ?_; rintro e w1 ⟨rfl, hb⟩; have HB1 : Hid _ := bel_step HBh.out hb; clear hb))
  go_ret2
  exact ⟨⟨_, rfl, OwnM.nil _ _⟩, HB1.out⟩
set_option maxHeartbeats 8000000 in
theorem rdef_much (hw : wrN x = 0) (hz : ZN x) (T : Tab9 w) (h : Rds w p m L) (hn : L.length ≤ 900) (hm : 32 ≤ L.length) (hf : findK x L = none) : Calls Tryz.prog 11 #[.slice p m c, nmV x] w fun e w' => OutM w.heap.size w' e [] 9 ∧ Below w.heap.size w w' := by
  have HB0 : Below w.heap.size w (w.alloc (nmO x)) := bel_alloc (Below.refl _ _) _
  have C := rmay_any x hz _ (T.below HB0)
  rw [hw] at C
  have hX := heap_alloc_new w (nmO x)
  have RX : Hid _ := nload hX
  have HX : Hid _ := hX
  have HC2 : Hid (∀ u, Below w.heap.size w u → Calls Tryz.prog 18 #[.slice p m c, .string x.s, .string x.n] u fun e w' => e = .returned (fndV none) ∧ Below u.heap.size u w') := fun u hu => by
    have := rfind_any L x.s x.n (by omega) u p m c (h.below hu)
    rw [find_key, hf] at this
    exact this
  have HBh : Hid _ := HB0
  have hni : (32 : Int) ≤ m := by have := h.1; omega
  clear HB0 T hz hw hX h hn hm hf
  go_enter Tryz.func11, Tryz.ntmps11
  go_wp2_with (first
    | (refine nl_load rfl 24 _ rfl _ _ rfl RX.out ?_; clear RX)
    | (go_at_call 39; refine C.mono ?_; rintro e w1 ⟨rfl, hb⟩; have HB1 : Hid _ := bel_step HBh.out hb; have hcc := n_cells ((hb.block _ (lt_of HX.out)).trans HX.out); clear hb)
    | (go_at_call 18; refine (HC2.out _ HB1.out).mono ?_; rintro e w2 ⟨rfl, hb⟩; unfold fndV fnd; have RS : Hid _ := mbox w2 nm0; have HB2 : Hid (Below w.heap.size w (w2.alloc (nmO nm0))) := bel_alloc (bel_step HB1.out hb) _; clear hb)
    | (refine nl_store rfl 24 _ _ rfl _ _ _ rfl rfl RS.out ?_; clear RS))
  go_ret2
  exact ⟨⟨_, rfl, OwnM.nil _ _⟩, HB2.out⟩
set_option maxHeartbeats 16000000 in
theorem rdef_put (hw : wrN x = 0) (hz : ZN x) (T : Tab9 w) (h : Rds w p m L) (hn : L.length ≤ 900) (o : Option NM) (hf : findK x L = o) (ho : o = none → L.length < 32) : Calls Tryz.prog 11 #[.slice p m c, nmV x] w fun e w' => OutM w.heap.size w' e (insR x L false) 0 ∧ Below w.heap.size w w' := by
  have HB0 : Below w.heap.size w (w.alloc (nmO x)) := bel_alloc (Below.refl _ _) _
  have C := rmay_any x hz _ (T.below HB0)
  rw [hw] at C
  have hX := heap_alloc_new w (nmO x)
  have RX : Hid _ := nload hX
  have HX : Hid _ := hX
  have HC2 : Hid (∀ u, Below w.heap.size w u → Calls Tryz.prog 18 #[.slice p m c, .string x.s, .string x.n] u fun e w' => e = .returned (fndV o) ∧ Below u.heap.size u w') := fun u hu => by
    have := rfind_any L x.s x.n (by omega) u p m c (h.below hu)
    rw [find_key, hf] at this
    exact this
  have HBh : Hid _ := HB0
  have HR : Hid (Rds w p m L) := h
  have HN : Hid (m = L.length) := h.1
  have hm9 : m ≤ 900 := by rw [h.1]; exact hn
  have hni : o = none → ¬ (32 : Int) ≤ m := fun e => by have := ho e; have := h.1; omega
  clear HB0 T hz hw hX h hn hf ho
  have key : Calls Tryz.prog 11 #[.slice p m c, nmV x] w fun e w' => OutM (w.heap.size + 1) w' e (insR x L false) 0 ∧ Below w.heap.size w w' := by
    cases o with
    | none =>
      have hni := hni rfl
      go_enter Tryz.func11, Tryz.ntmps11
      go_wp2_with (first
        | (refine nl_load rfl 24 _ rfl _ _ rfl RX.out ?_; clear RX)
        | (go_at_call 39; refine C.mono ?_; rintro e w1 ⟨rfl, hb⟩; have HB1 : Hid _ := bel_step HBh.out hb; have HX1 : Hid _ := (hb.block _ (lt_of HX.out)).trans HX.out; have hcc := n_cells HX1.out; clear hb)
        | (go_at_call 18; refine (HC2.out _ HB1.out).mono ?_; rintro e w2 ⟨rfl, hb⟩; unfold fndV fnd; have RS : Hid _ := mbox w2 nm0; have HX2 : Hid ((w2.alloc (nmO nm0)).heap[w.heap.size]? = some (nmO x)) := (heap_alloc_old w2 _ (by have := hb.size; have := lt_of HX1.out; omega)).trans ((hb.block _ (lt_of HX1.out)).trans HX1.out); have HB2 : Hid (Below w.heap.size w (w2.alloc (nmO nm0))) := bel_alloc (bel_step HB1.out hb) _; clear hb)
        | (refine nl_store rfl 24 _ _ rfl _ _ _ rfl rfl RS.out ?_; clear RS))
      clear C HC2 hcc HX HX1 HBh HB1
      go_loopw [9, 10, 37] (fun v dn i wr => ∃ (k : Nat) (d : Bool) (M : List NM), k ≤ m ∧ i = .int .i64 (k : Nat) ∧ dn = .bool d ∧ Hid (OwnM (w.heap.size + 1) wr v M) ∧ Hid (M.length ≤ 2 * k) ∧ Hid (insR x L false = M ++ insR x (L.drop k) d) ∧ Hid (wr.heap[w.heap.size]? = some (nmO x)) ∧ Hid (Below w.heap.size w wr)) (fun _ _ i _ => m - (intOf i).toNat)
      case atStart => exact ⟨0, false, [], Nat.zero_le _, rfl, rfl, OwnM.nil _ _, Nat.zero_le _, rfl, HX2, HB2⟩
      case round =>
        clear HX2 HB2
        obtain ⟨k, d, M, hk, rfl, rfl, HW, HL, HI, HX, HB⟩ := hrel
        obtain ⟨va, vc, rfl, _⟩ := HW.out.slice
        have hbx : w.heap.size + 1 ≤ wr.heap.size := lt_of HX.out
        by_cases hlt : k < m
        · have hki : (k : Int) < m := by omega
          have hkL : k < L.length := by rw [← HN.out]; exact hlt
          obtain ⟨a', rfl, RL⟩ := (HR.out.below HB.out).load hkL
          have RLh : Hid _ := RL
          have RS : Hid _ := mbox wr L[k]
          have hY := heap_alloc_new wr (nmO L[k])
          have RL2 : Hid _ := nload hY
          have hX1 := (heap_alloc_old wr (nmO L[k]) (lt_of HX.out)).trans HX.out
          have RX1 : Hid _ := nload hX1
          have HD : Hid (insR x (L.drop k) d = (if 0 ≤ cmpK L[k] x ∧ d = false then [x] else []) ++ (if cmpK L[k] x ≠ 0 then [L[k]] else []) ++ insR x (L.drop (k + 1)) (d || decide (0 ≤ cmpK L[k] x))) := by
            show _ = _
            rw [List.drop_eq_getElem_cons hkL]
            rfl
          have C : Calls Tryz.prog 9 #[nmV L[k], nmV x] (wr.alloc (nmO L[k])) fun e w' => e = .returned (.int .i64 (cmpK L[k] x)) ∧ Hid (OwnM (w.heap.size + 1) w' (.slice va M.length vc) M) ∧ Hid (w'.heap[w.heap.size]? = some (nmO x)) ∧ Hid (w'.heap[wr.heap.size]? = some (nmO L[k])) ∧ Hid (Below w.heap.size w w') ∧ Hid (wr.heap.size < w'.heap.size) := (rcmp_any L[k] x (wr.alloc (nmO L[k]))).mono (by
            rintro e w' ⟨rfl, hb⟩
            have hb2 := bel_step (bel_alloc (Below.refl wr.heap.size wr) (nmO L[k])) hb
            exact ⟨rfl, HW.out.below hb2, (hb.block _ (lt_of hX1)).trans hX1, (hb.block _ (lt_of hY)).trans hY, bel_step HB.out hb2, by have := hb.size; simp at this; show _ < _; omega⟩)
          have HOB : Hid ((Value.slice va M.length vc).ownBlock ≠ some wr.heap.size ∧ (Value.slice va M.length vc).ownBlock ≠ some w.heap.size) := ⟨HW.out.other (.inr (Nat.le_refl _)), HW.out.other (.inl (by omega))⟩
          have hML := HL.out
          clear RL hY hX1 HX HB HW HL
          have HWY := cmpK_ways L[k] x
          generalize L[k] = y at *
          generalize cmpK y x = cv at *
          rcases HWY with rfl | rfl | rfl
          · -- less: y behind
            have HI2 : Hid (insR x L false = (M ++ [y]) ++ insR x (L.drop (k + 1)) d) := by show _ = _; rw [HI.out, HD.out, if_neg (by omega), if_pos (by decide), show (d || decide ((0 : Int) ≤ -1)) = d by simp]; simp
            clear HI HD
            cases d with
            | false =>
              go_wp2_with (first
                | (refine nl_load rfl 24 _ rfl _ _ rfl RLh.out ?_; clear RLh)
                | (refine nl_store rfl 24 _ _ rfl _ _ _ rfl rfl RS.out ?_; clear RS)
                | (refine nl_load rfl 24 _ rfl _ _ rfl RL2.out ?_; clear RL2)
                | (refine nl_load rfl 24 _ rfl _ _ rfl RX1.out ?_; clear RX1)
                | (go_at_call 9; refine C.mono ?_; rintro e w2 ⟨rfl, HW2, HX2, HY2, HB2, HS2⟩; clear C; have RL4 : Hid _ := nload HY2.out; have RB : Hid _ := nslice_one w2 y; obtain ⟨v', w', RA, o1, b1, k1⟩ := ownM_put HW2.out y (by omega) (by have := HS2.out; omega); have HO3 : Hid _ := o1; have HX3 : Hid _ := (k1 _ _ HX2.out HOB.out.2).1; have HB3 : Hid (Below w.heap.size w w') := HB2.out.trans (b1.mono (by omega)); clear o1 b1 k1)
                | (refine nl_load rfl 24 _ rfl _ _ rfl RL4.out ?_; clear RL4)
                | (refine nl_bslice rfl 22 1 _ rfl _ _ _ (by go_simp) RB.out ?_; clear RB)
                | (at_builtin; refine nl_append rfl _ _ 22 22 rfl _ _ _ _ rfl rfl RA.out ?_; clear RA))
              go_roundw
              case rel => exact ⟨k + 1, false, _, by omega, by go_num, rfl, HO3, by show _ ≤ _; simp; omega, HI2, HX3, HB3⟩
              case measure => simp [intOf]; omega
            | true =>
              go_wp2_with (first
                | (refine nl_load rfl 24 _ rfl _ _ rfl RLh.out ?_; clear RLh)
                | (refine nl_store rfl 24 _ _ rfl _ _ _ rfl rfl RS.out ?_; clear RS)
                | (refine nl_load rfl 24 _ rfl _ _ rfl RL2.out ?_; clear RL2)
                | (refine nl_load rfl 24 _ rfl _ _ rfl RX1.out ?_; clear RX1)
                | (go_at_call 9; refine C.mono ?_; rintro e w2 ⟨rfl, HW2, HX2, HY2, HB2, HS2⟩; clear C; have RL4 : Hid _ := nload HY2.out; have RB : Hid _ := nslice_one w2 y; obtain ⟨v', w', RA, o1, b1, k1⟩ := ownM_put HW2.out y (by omega) (by have := HS2.out; omega); have HO3 : Hid _ := o1; have HX3 : Hid _ := (k1 _ _ HX2.out HOB.out.2).1; have HB3 : Hid (Below w.heap.size w w') := HB2.out.trans (b1.mono (by omega)); clear o1 b1 k1)
                | (refine nl_load rfl 24 _ rfl _ _ rfl RL4.out ?_; clear RL4)
                | (refine nl_bslice rfl 22 1 _ rfl _ _ _ (by go_simp) RB.out ?_; clear RB)
                | (at_builtin; refine nl_append rfl _ _ 22 22 rfl _ _ _ _ rfl rfl RA.out ?_; clear RA))
              go_roundw
              case rel => exact ⟨k + 1, true, _, by omega, by go_num, rfl, HO3, by show _ ≤ _; simp; omega, HI2, HX3, HB3⟩
              case measure => simp [intOf]; omega
          · cases d with
            | false =>
              have HI2 : Hid (insR x L false = (M ++ [x]) ++ insR x (L.drop (k + 1)) true) := by show _ = _; rw [HI.out, HD.out]; simp
              clear HI HD
              go_wp2_with (first
                | (refine nl_load rfl 24 _ rfl _ _ rfl RLh.out ?_; clear RLh)
                | (refine nl_store rfl 24 _ _ rfl _ _ _ rfl rfl RS.out ?_; clear RS)
                | (refine nl_load rfl 24 _ rfl _ _ rfl RL2.out ?_; clear RL2)
                | (refine nl_load rfl 24 _ rfl _ _ rfl RX1.out ?_; clear RX1)
                | (go_at_call 9; refine C.mono ?_; rintro e w2 ⟨rfl, HW2, HX2, HY2, HB2, HS2⟩; clear C; have RL4 : Hid _ := nload HX2.out; have RB : Hid _ := nslice_one w2 x; obtain ⟨v', w', RA, o1, b1, k1⟩ := ownM_put HW2.out x (by omega) (by have := HS2.out; omega); have HO3 : Hid _ := o1; have HX3 : Hid _ := (k1 _ _ HX2.out HOB.out.2).1; have HB3 : Hid (Below w.heap.size w w') := HB2.out.trans (b1.mono (by omega)); clear o1 b1 k1)
                | (refine nl_load rfl 24 _ rfl _ _ rfl RL4.out ?_; clear RL4)
                | (refine nl_bslice rfl 22 1 _ rfl _ _ _ (by go_simp) RB.out ?_; clear RB)
                | (at_builtin; refine nl_append rfl _ _ 22 22 rfl _ _ _ _ rfl rfl RA.out ?_; clear RA))
              go_roundw
              case rel => exact ⟨k + 1, true, _, by omega, by go_num, rfl, HO3, by show _ ≤ _; simp; omega, HI2, HX3, HB3⟩
              case measure => simp [intOf]; omega
            | true =>
              have HI2 : Hid (insR x L false = M ++ insR x (L.drop (k + 1)) true) := by show _ = _; rw [HI.out, HD.out]; simp
              clear HI HD
              go_wp2_with (first
                | (refine nl_load rfl 24 _ rfl _ _ rfl RLh.out ?_; clear RLh)
                | (refine nl_store rfl 24 _ _ rfl _ _ _ rfl rfl RS.out ?_; clear RS)
                | (refine nl_load rfl 24 _ rfl _ _ rfl RL2.out ?_; clear RL2)
                | (refine nl_load rfl 24 _ rfl _ _ rfl RX1.out ?_; clear RX1)
                | (go_at_call 9; refine C.mono ?_; rintro e w2 ⟨rfl, HW2, HX2, HY2, HB2, HS2⟩; clear C))
              go_roundw
              case rel => exact ⟨k + 1, true, _, by omega, by go_num, rfl, HW2, by show _ ≤ _; omega, HI2, HX2, HB2⟩
              case measure => simp [intOf]; omega
          · cases d with
            | false =>
              obtain ⟨M2, hM2⟩ : ∃ M2, M ++ [x] = M2 := ⟨_, rfl⟩
              have HM2 : Hid (M ++ [x] = M2) := hM2
              have hML2 : M2.length ≤ 2 * k + 1 := by rw [← hM2]; simp; omega
              have HI2 : Hid (insR x L false = (M2 ++ [y]) ++ insR x (L.drop (k + 1)) true) := by show _ = _; rw [HI.out, HD.out, ← hM2]; simp
              clear HI HD hM2
              go_wp2_with (first
                | (refine nl_load rfl 24 _ rfl _ _ rfl RLh.out ?_; clear RLh)
                | (refine nl_store rfl 24 _ _ rfl _ _ _ rfl rfl RS.out ?_; clear RS)
                | (refine nl_load rfl 24 _ rfl _ _ rfl RL2.out ?_; clear RL2)
                | (refine nl_load rfl 24 _ rfl _ _ rfl RX1.out ?_; clear RX1)
                | (go_at_call 9; refine C.mono ?_; rintro e w2 ⟨rfl, HW2, HX2, HY2, HB2, HS2⟩; clear C; have RL4 : Hid _ := nload HX2.out; have RB : Hid _ := nslice_one w2 x; obtain ⟨v', w', RA, o1, b1, k1⟩ := ownM_put HW2.out x (by omega) (by have := HS2.out; omega); rw [HM2.out] at o1; have HX3 : Hid _ := (k1 _ _ HX2.out HOB.out.2).1; have HY3 : Hid _ := (k1 _ _ HY2.out HOB.out.1).1; have hne3 : Hid _ := (k1 _ _ HX2.out HOB.out.2).2; have hlt3 : Hid _ := lt_of HX3.out; have RL5 : Hid _ := nload HY3.out; have RB5 : Hid _ := nslice_one w' y; obtain ⟨v5, w5, RA5, o5, b5, k5⟩ := ownM_put o1 y (by omega) (by have := hlt3.out; omega); have HO5 : Hid _ := o5; have HX5 : Hid _ := (k5 _ _ HX3.out hne3.out).1; have HB5 : Hid (Below w.heap.size w w5) := (HB2.out.trans (b1.mono (by omega))).trans (b5.mono (by omega)); obtain ⟨qa, qc, rfl, _⟩ := o1.slice; clear o1 b1 k1 o5 b5 k5 hlt3)
                | (refine nl_load rfl 24 _ rfl _ _ rfl RL4.out ?_; clear RL4)
                | (refine nl_bslice rfl 22 1 _ rfl _ _ _ (by go_simp) RB.out ?_; clear RB)
                | (at_builtin; refine nl_append rfl _ _ 22 22 rfl _ _ _ _ rfl rfl RA.out ?_; clear RA)
                | (refine nl_load rfl 24 _ rfl _ _ rfl RL5.out ?_; clear RL5)
                | (refine nl_bslice rfl 22 1 _ rfl _ _ _ (by go_simp) RB5.out ?_; clear RB5)
                | (at_builtin; refine nl_append rfl _ _ 22 22 rfl _ _ _ _ rfl rfl RA5.out ?_; clear RA5))
              go_roundw
              case rel => exact ⟨k + 1, true, _, by omega, by go_num, rfl, HO5, by show _ ≤ _; simp; omega, HI2, HX5, HB5⟩
              case measure => simp [intOf]; omega
            | true =>
              have HI2 : Hid (insR x L false = (M ++ [y]) ++ insR x (L.drop (k + 1)) true) := by show _ = _; rw [HI.out, HD.out]; simp
              clear HI HD
              go_wp2_with (first
                | (refine nl_load rfl 24 _ rfl _ _ rfl RLh.out ?_; clear RLh)
                | (refine nl_store rfl 24 _ _ rfl _ _ _ rfl rfl RS.out ?_; clear RS)
                | (refine nl_load rfl 24 _ rfl _ _ rfl RL2.out ?_; clear RL2)
                | (refine nl_load rfl 24 _ rfl _ _ rfl RX1.out ?_; clear RX1)
                | (go_at_call 9; refine C.mono ?_; rintro e w2 ⟨rfl, HW2, HX2, HY2, HB2, HS2⟩; clear C; have RL4 : Hid _ := nload HY2.out; have RB : Hid _ := nslice_one w2 y; obtain ⟨v', w', RA, o1, b1, k1⟩ := ownM_put HW2.out y (by omega) (by have := HS2.out; omega); have HO3 : Hid _ := o1; have HX3 : Hid _ := (k1 _ _ HX2.out HOB.out.2).1; have HB3 : Hid (Below w.heap.size w w') := HB2.out.trans (b1.mono (by omega)); clear o1 b1 k1)
                | (refine nl_load rfl 24 _ rfl _ _ rfl RL4.out ?_; clear RL4)
                | (refine nl_bslice rfl 22 1 _ rfl _ _ _ (by go_simp) RB.out ?_; clear RB)
                | (at_builtin; refine nl_append rfl _ _ 22 22 rfl _ _ _ _ rfl rfl RA.out ?_; clear RA))
              go_roundw
              case rel => exact ⟨k + 1, true, _, by omega, by go_num, rfl, HO3, by show _ ≤ _; simp; omega, HI2, HX3, HB3⟩
              case measure => simp [intOf]; omega
        · have hki : ¬ (k : Int) < m := by omega
          have HE : Hid (insR x L false = M ++ insR x [] d) := by have := HI.out; rw [List.drop_of_length_le (by rw [← HN.out]; omega)] at this; exact this
          have hML := HL.out
          cases d with
          | true =>
            go_wp2
            go_ret2
            exact ⟨⟨_, rfl, by rw [HE.out, show insR x [] true = [] from rfl, List.append_nil]; exact HW.out⟩, HB.out⟩
          | false =>
            have RX1 : Hid _ := nload HX.out
            have RB : Hid _ := nslice_one wr x
            obtain ⟨v', w', RA, o1, b1, _⟩ := ownM_put HW.out x (by omega) hbx
            have HO2 : Hid (OwnM (w.heap.size + 1) w' v' (M ++ [x])) := o1
            have HB2 : Hid (Below w.heap.size w w') := HB.out.trans (b1.mono (by omega))
            clear o1 b1
            go_wp2_with (first
              | (refine nl_load rfl 24 _ rfl _ _ rfl RX1.out ?_; clear RX1)
              | (refine nl_bslice rfl 22 1 _ rfl _ _ _ (by go_simp) RB.out ?_; clear RB)
              | (at_builtin; refine nl_append rfl _ _ 22 22 rfl _ _ _ _ rfl rfl RA.out ?_; clear RA))
            go_ret2
            exact ⟨⟨_, rfl, by rw [HE.out]; exact HO2.out⟩, HB2.out⟩
    | some y0 =>
      clear hni
      go_enter Tryz.func11, Tryz.ntmps11
      go_wp2_with (first
        | (refine nl_load rfl 24 _ rfl _ _ rfl RX.out ?_; clear RX)
        | (go_at_call 39; refine C.mono ?_; rintro e w1 ⟨rfl, hb⟩; have HB1 : Hid _ := bel_step HBh.out hb; have HX1 : Hid _ := (hb.block _ (lt_of HX.out)).trans HX.out; have hcc := n_cells HX1.out; clear hb)
        | (go_at_call 18; refine (HC2.out _ HB1.out).mono ?_; rintro e w2 ⟨rfl, hb⟩; unfold fndV fnd; have RS : Hid _ := mbox w2 y0; have HX2 : Hid ((w2.alloc (nmO y0)).heap[w.heap.size]? = some (nmO x)) := (heap_alloc_old w2 _ (by have := hb.size; have := lt_of HX1.out; omega)).trans ((hb.block _ (lt_of HX1.out)).trans HX1.out); have HB2 : Hid (Below w.heap.size w (w2.alloc (nmO y0))) := bel_alloc (bel_step HB1.out hb) _; clear hb)
        | (refine nl_store rfl 24 _ _ rfl _ _ _ rfl rfl RS.out ?_; clear RS))
      clear C HC2 hcc HX HX1 HBh HB1
      go_loopw [9, 10, 37] (fun v dn i wr => ∃ (k : Nat) (d : Bool) (M : List NM), k ≤ m ∧ i = .int .i64 (k : Nat) ∧ dn = .bool d ∧ Hid (OwnM (w.heap.size + 1) wr v M) ∧ Hid (M.length ≤ 2 * k) ∧ Hid (insR x L false = M ++ insR x (L.drop k) d) ∧ Hid (wr.heap[w.heap.size]? = some (nmO x)) ∧ Hid (Below w.heap.size w wr)) (fun _ _ i _ => m - (intOf i).toNat)
      case atStart => exact ⟨0, false, [], Nat.zero_le _, rfl, rfl, OwnM.nil _ _, Nat.zero_le _, rfl, HX2, HB2⟩
      case round =>
        clear HX2 HB2
        obtain ⟨k, d, M, hk, rfl, rfl, HW, HL, HI, HX, HB⟩ := hrel
        obtain ⟨va, vc, rfl, _⟩ := HW.out.slice
        have hbx : w.heap.size + 1 ≤ wr.heap.size := lt_of HX.out
        by_cases hlt : k < m
        · have hki : (k : Int) < m := by omega
          have hkL : k < L.length := by rw [← HN.out]; exact hlt
          obtain ⟨a', rfl, RL⟩ := (HR.out.below HB.out).load hkL
          have RLh : Hid _ := RL
          have RS : Hid _ := mbox wr L[k]
          have hY := heap_alloc_new wr (nmO L[k])
          have RL2 : Hid _ := nload hY
          have hX1 := (heap_alloc_old wr (nmO L[k]) (lt_of HX.out)).trans HX.out
          have RX1 : Hid _ := nload hX1
          have HD : Hid (insR x (L.drop k) d = (if 0 ≤ cmpK L[k] x ∧ d = false then [x] else []) ++ (if cmpK L[k] x ≠ 0 then [L[k]] else []) ++ insR x (L.drop (k + 1)) (d || decide (0 ≤ cmpK L[k] x))) := by
            show _ = _
            rw [List.drop_eq_getElem_cons hkL]
            rfl
          have C : Calls Tryz.prog 9 #[nmV L[k], nmV x] (wr.alloc (nmO L[k])) fun e w' => e = .returned (.int .i64 (cmpK L[k] x)) ∧ Hid (OwnM (w.heap.size + 1) w' (.slice va M.length vc) M) ∧ Hid (w'.heap[w.heap.size]? = some (nmO x)) ∧ Hid (w'.heap[wr.heap.size]? = some (nmO L[k])) ∧ Hid (Below w.heap.size w w') ∧ Hid (wr.heap.size < w'.heap.size) := (rcmp_any L[k] x (wr.alloc (nmO L[k]))).mono (by
            rintro e w' ⟨rfl, hb⟩
            have hb2 := bel_step (bel_alloc (Below.refl wr.heap.size wr) (nmO L[k])) hb
            exact ⟨rfl, HW.out.below hb2, (hb.block _ (lt_of hX1)).trans hX1, (hb.block _ (lt_of hY)).trans hY, bel_step HB.out hb2, by have := hb.size; simp at this; show _ < _; omega⟩)
          have HOB : Hid ((Value.slice va M.length vc).ownBlock ≠ some wr.heap.size ∧ (Value.slice va M.length vc).ownBlock ≠ some w.heap.size) := ⟨HW.out.other (.inr (Nat.le_refl _)), HW.out.other (.inl (by omega))⟩
          have hML := HL.out
          clear RL hY hX1 HX HB HW HL
          have HWY := cmpK_ways L[k] x
          generalize L[k] = y at *
          generalize cmpK y x = cv at *
          rcases HWY with rfl | rfl | rfl
          · -- less: y behind
            have HI2 : Hid (insR x L false = (M ++ [y]) ++ insR x (L.drop (k + 1)) d) := by show _ = _; rw [HI.out, HD.out, if_neg (by omega), if_pos (by decide), show (d || decide ((0 : Int) ≤ -1)) = d by simp]; simp
            clear HI HD
            cases d with
            | false =>
              go_wp2_with (first
                | (refine nl_load rfl 24 _ rfl _ _ rfl RLh.out ?_; clear RLh)
                | (refine nl_store rfl 24 _ _ rfl _ _ _ rfl rfl RS.out ?_; clear RS)
                | (refine nl_load rfl 24 _ rfl _ _ rfl RL2.out ?_; clear RL2)
                | (refine nl_load rfl 24 _ rfl _ _ rfl RX1.out ?_; clear RX1)
                | (go_at_call 9; refine C.mono ?_; rintro e w2 ⟨rfl, HW2, HX2, HY2, HB2, HS2⟩; clear C; have RL4 : Hid _ := nload HY2.out; have RB : Hid _ := nslice_one w2 y; obtain ⟨v', w', RA, o1, b1, k1⟩ := ownM_put HW2.out y (by omega) (by have := HS2.out; omega); have HO3 : Hid _ := o1; have HX3 : Hid _ := (k1 _ _ HX2.out HOB.out.2).1; have HB3 : Hid (Below w.heap.size w w') := HB2.out.trans (b1.mono (by omega)); clear o1 b1 k1)
                | (refine nl_load rfl 24 _ rfl _ _ rfl RL4.out ?_; clear RL4)
                | (refine nl_bslice rfl 22 1 _ rfl _ _ _ (by go_simp) RB.out ?_; clear RB)
                | (at_builtin; refine nl_append rfl _ _ 22 22 rfl _ _ _ _ rfl rfl RA.out ?_; clear RA))
              go_roundw
              case rel => exact ⟨k + 1, false, _, by omega, by go_num, rfl, HO3, by show _ ≤ _; simp; omega, HI2, HX3, HB3⟩
              case measure => simp [intOf]; omega
            | true =>
              go_wp2_with (first
                | (refine nl_load rfl 24 _ rfl _ _ rfl RLh.out ?_; clear RLh)
                | (refine nl_store rfl 24 _ _ rfl _ _ _ rfl rfl RS.out ?_; clear RS)
                | (refine nl_load rfl 24 _ rfl _ _ rfl RL2.out ?_; clear RL2)
                | (refine nl_load rfl 24 _ rfl _ _ rfl RX1.out ?_; clear RX1)
                | (go_at_call 9; refine C.mono ?_; rintro e w2 ⟨rfl, HW2, HX2, HY2, HB2, HS2⟩; clear C; have RL4 : Hid _ := nload HY2.out; have RB : Hid _ := nslice_one w2 y; obtain ⟨v', w', RA, o1, b1, k1⟩ := ownM_put HW2.out y (by omega) (by have := HS2.out; omega); have HO3 : Hid _ := o1; have HX3 : Hid _ := (k1 _ _ HX2.out HOB.out.2).1; have HB3 : Hid (Below w.heap.size w w') := HB2.out.trans (b1.mono (by omega)); clear o1 b1 k1)
                | (refine nl_load rfl 24 _ rfl _ _ rfl RL4.out ?_; clear RL4)
                | (refine nl_bslice rfl 22 1 _ rfl _ _ _ (by go_simp) RB.out ?_; clear RB)
                | (at_builtin; refine nl_append rfl _ _ 22 22 rfl _ _ _ _ rfl rfl RA.out ?_; clear RA))
              go_roundw
              case rel => exact ⟨k + 1, true, _, by omega, by go_num, rfl, HO3, by show _ ≤ _; simp; omega, HI2, HX3, HB3⟩
              case measure => simp [intOf]; omega
          · cases d with
            | false =>
              have HI2 : Hid (insR x L false = (M ++ [x]) ++ insR x (L.drop (k + 1)) true) := by show _ = _; rw [HI.out, HD.out]; simp
              clear HI HD
              go_wp2_with (first
                | (refine nl_load rfl 24 _ rfl _ _ rfl RLh.out ?_; clear RLh)
                | (refine nl_store rfl 24 _ _ rfl _ _ _ rfl rfl RS.out ?_; clear RS)
                | (refine nl_load rfl 24 _ rfl _ _ rfl RL2.out ?_; clear RL2)
                | (refine nl_load rfl 24 _ rfl _ _ rfl RX1.out ?_; clear RX1)
                | (go_at_call 9; refine C.mono ?_; rintro e w2 ⟨rfl, HW2, HX2, HY2, HB2, HS2⟩; clear C; have RL4 : Hid _ := nload HX2.out; have RB : Hid _ := nslice_one w2 x; obtain ⟨v', w', RA, o1, b1, k1⟩ := ownM_put HW2.out x (by omega) (by have := HS2.out; omega); have HO3 : Hid _ := o1; have HX3 : Hid _ := (k1 _ _ HX2.out HOB.out.2).1; have HB3 : Hid (Below w.heap.size w w') := HB2.out.trans (b1.mono (by omega)); clear o1 b1 k1)
                | (refine nl_load rfl 24 _ rfl _ _ rfl RL4.out ?_; clear RL4)
                | (refine nl_bslice rfl 22 1 _ rfl _ _ _ (by go_simp) RB.out ?_; clear RB)
                | (at_builtin; refine nl_append rfl _ _ 22 22 rfl _ _ _ _ rfl rfl RA.out ?_; clear RA))
              go_roundw
              case rel => exact ⟨k + 1, true, _, by omega, by go_num, rfl, HO3, by show _ ≤ _; simp; omega, HI2, HX3, HB3⟩
              case measure => simp [intOf]; omega
            | true =>
              have HI2 : Hid (insR x L false = M ++ insR x (L.drop (k + 1)) true) := by show _ = _; rw [HI.out, HD.out]; simp
              clear HI HD
              go_wp2_with (first
                | (refine nl_load rfl 24 _ rfl _ _ rfl RLh.out ?_; clear RLh)
                | (refine nl_store rfl 24 _ _ rfl _ _ _ rfl rfl RS.out ?_; clear RS)
                | (refine nl_load rfl 24 _ rfl _ _ rfl RL2.out ?_; clear RL2)
                | (refine nl_load rfl 24 _ rfl _ _ rfl RX1.out ?_; clear RX1)
                | (go_at_call 9; refine C.mono ?_; rintro e w2 ⟨rfl, HW2, HX2, HY2, HB2, HS2⟩; clear C))
              go_roundw
              case rel => exact ⟨k + 1, true, _, by omega, by go_num, rfl, HW2, by show _ ≤ _; omega, HI2, HX2, HB2⟩
              case measure => simp [intOf]; omega
          · cases d with
            | false =>
              obtain ⟨M2, hM2⟩ : ∃ M2, M ++ [x] = M2 := ⟨_, rfl⟩
              have HM2 : Hid (M ++ [x] = M2) := hM2
              have hML2 : M2.length ≤ 2 * k + 1 := by rw [← hM2]; simp; omega
              have HI2 : Hid (insR x L false = (M2 ++ [y]) ++ insR x (L.drop (k + 1)) true) := by show _ = _; rw [HI.out, HD.out, ← hM2]; simp
              clear HI HD hM2
              go_wp2_with (first
                | (refine nl_load rfl 24 _ rfl _ _ rfl RLh.out ?_; clear RLh)
                | (refine nl_store rfl 24 _ _ rfl _ _ _ rfl rfl RS.out ?_; clear RS)
                | (refine nl_load rfl 24 _ rfl _ _ rfl RL2.out ?_; clear RL2)
                | (refine nl_load rfl 24 _ rfl _ _ rfl RX1.out ?_; clear RX1)
                | (go_at_call 9; refine C.mono ?_; rintro e w2 ⟨rfl, HW2, HX2, HY2, HB2, HS2⟩; clear C; have RL4 : Hid _ := nload HX2.out; have RB : Hid _ := nslice_one w2 x; obtain ⟨v', w', RA, o1, b1, k1⟩ := ownM_put HW2.out x (by omega) (by have := HS2.out; omega); rw [HM2.out] at o1; have HX3 : Hid _ := (k1 _ _ HX2.out HOB.out.2).1; have HY3 : Hid _ := (k1 _ _ HY2.out HOB.out.1).1; have hne3 : Hid _ := (k1 _ _ HX2.out HOB.out.2).2; have hlt3 : Hid _ := lt_of HX3.out; have RL5 : Hid _ := nload HY3.out; have RB5 : Hid _ := nslice_one w' y; obtain ⟨v5, w5, RA5, o5, b5, k5⟩ := ownM_put o1 y (by omega) (by have := hlt3.out; omega); have HO5 : Hid _ := o5; have HX5 : Hid _ := (k5 _ _ HX3.out hne3.out).1; have HB5 : Hid (Below w.heap.size w w5) := (HB2.out.trans (b1.mono (by omega))).trans (b5.mono (by omega)); obtain ⟨qa, qc, rfl, _⟩ := o1.slice; clear o1 b1 k1 o5 b5 k5 hlt3)
                | (refine nl_load rfl 24 _ rfl _ _ rfl RL4.out ?_; clear RL4)
                | (refine nl_bslice rfl 22 1 _ rfl _ _ _ (by go_simp) RB.out ?_; clear RB)
                | (at_builtin; refine nl_append rfl _ _ 22 22 rfl _ _ _ _ rfl rfl RA.out ?_; clear RA)
                | (refine nl_load rfl 24 _ rfl _ _ rfl RL5.out ?_; clear RL5)
                | (refine nl_bslice rfl 22 1 _ rfl _ _ _ (by go_simp) RB5.out ?_; clear RB5)
                | (at_builtin; refine nl_append rfl _ _ 22 22 rfl _ _ _ _ rfl rfl RA5.out ?_; clear RA5))
              go_roundw
              case rel => exact ⟨k + 1, true, _, by omega, by go_num, rfl, HO5, by show _ ≤ _; simp; omega, HI2, HX5, HB5⟩
              case measure => simp [intOf]; omega
            | true =>
              have HI2 : Hid (insR x L false = (M ++ [y]) ++ insR x (L.drop (k + 1)) true) := by show _ = _; rw [HI.out, HD.out]; simp
              clear HI HD
              go_wp2_with (first
                | (refine nl_load rfl 24 _ rfl _ _ rfl RLh.out ?_; clear RLh)
                | (refine nl_store rfl 24 _ _ rfl _ _ _ rfl rfl RS.out ?_; clear RS)
                | (refine nl_load rfl 24 _ rfl _ _ rfl RL2.out ?_; clear RL2)
                | (refine nl_load rfl 24 _ rfl _ _ rfl RX1.out ?_; clear RX1)
                | (go_at_call 9; refine C.mono ?_; rintro e w2 ⟨rfl, HW2, HX2, HY2, HB2, HS2⟩; clear C; have RL4 : Hid _ := nload HY2.out; have RB : Hid _ := nslice_one w2 y; obtain ⟨v', w', RA, o1, b1, k1⟩ := ownM_put HW2.out y (by omega) (by have := HS2.out; omega); have HO3 : Hid _ := o1; have HX3 : Hid _ := (k1 _ _ HX2.out HOB.out.2).1; have HB3 : Hid (Below w.heap.size w w') := HB2.out.trans (b1.mono (by omega)); clear o1 b1 k1)
                | (refine nl_load rfl 24 _ rfl _ _ rfl RL4.out ?_; clear RL4)
                | (refine nl_bslice rfl 22 1 _ rfl _ _ _ (by go_simp) RB.out ?_; clear RB)
                | (at_builtin; refine nl_append rfl _ _ 22 22 rfl _ _ _ _ rfl rfl RA.out ?_; clear RA))
              go_roundw
              case rel => exact ⟨k + 1, true, _, by omega, by go_num, rfl, HO3, by show _ ≤ _; simp; omega, HI2, HX3, HB3⟩
              case measure => simp [intOf]; omega
        · have hki : ¬ (k : Int) < m := by omega
          have HE : Hid (insR x L false = M ++ insR x [] d) := by have := HI.out; rw [List.drop_of_length_le (by rw [← HN.out]; omega)] at this; exact this
          have hML := HL.out
          cases d with
          | true =>
            go_wp2
            go_ret2
            exact ⟨⟨_, rfl, by rw [HE.out, show insR x [] true = [] from rfl, List.append_nil]; exact HW.out⟩, HB.out⟩
          | false =>
            have RX1 : Hid _ := nload HX.out
            have RB : Hid _ := nslice_one wr x
            obtain ⟨v', w', RA, o1, b1, _⟩ := ownM_put HW.out x (by omega) hbx
            have HO2 : Hid (OwnM (w.heap.size + 1) w' v' (M ++ [x])) := o1
            have HB2 : Hid (Below w.heap.size w w') := HB.out.trans (b1.mono (by omega))
            clear o1 b1
            go_wp2_with (first
              | (refine nl_load rfl 24 _ rfl _ _ rfl RX1.out ?_; clear RX1)
              | (refine nl_bslice rfl 22 1 _ rfl _ _ _ (by go_simp) RB.out ?_; clear RB)
              | (at_builtin; refine nl_append rfl _ _ 22 22 rfl _ _ _ _ rfl rfl RA.out ?_; clear RA))
            go_ret2
            exact ⟨⟨_, rfl, by rw [HE.out]; exact HO2.out⟩, HB2.out⟩
  exact key.mono fun e w' hh => ⟨hh.1.base (by omega), hh.2⟩
end
end Go.Proofs.YtlndkjcincflpaaGreatDoor
