/- NamesScopes: a sheet's own name counts ahead of the book's. -/
import Derived.Test.YtlndkjcincflpaaGreatDoorNmOpenX
import Derived.Test.YtlndkjcincflpaaGreatDoorNmSameX
namespace Go.Proofs.YtlndkjcincflpaaGreatDoor
open Go.RowKit Go.Nm
set_option maxRecDepth 100000
set_option linter.unusedVariables false
set_option linter.unusedSimpArgs false
theorem nl_buildg {P : Program} {ops : Array Oper} {rest : List Oper} {o : Oper} {a : Act} {w : World} {Q : Exit → Act → World → Prop} (ty : TypeId) (xs : Array (Nat × Operand)) (ho : o.op = .build ty xs)
    (ps : Array (Nat × Value)) (v : Value) (hx : (xs.map fun (i, x) => (i, a.eval x)) = ps) (hrun : (Instr.build ty ps).run P w = .ok v w) (hw : Region.wanted o (yielded ops a.tmps) = true) (h : wpList P ops Q rest (a.put o.dst v) w) : wpList P ops Q (o :: rest) a w := by
  refine wpList_step fun K hK => ?_
  rw [if_pos hw]
  unfold Oper.wp execOp
  simp only [ho, hx, Sem.run_bind, Sem.run_pure, hrun, Result.andThen_ok]
  exact hK _ _ h
set_option maxHeartbeats 8000000 in
theorem scopes_small (L : List NM) (hn : L.length ≤ 100) (s n : ByteArray) (w : World) (T : Tab9 w) (p : Option Addr) (m c : Nat) (h : Rds w p m L) :
    Calls Tryz.prog 6 #[.slice p m c, .string s, .string n] w fun e w' => e = .returned (.bool true) ∧ Below w.heap.size w w' := by
  have C1 := find_any L s n (by omega) w p m c h
  have HC2 : Hid (∀ u, Below w.heap.size w u → Calls Tryz.prog 17 #[.slice p m c, .string ⟨#[]⟩, .string n] u fun e w' => e = .returned (fndV (findK ⟨⟨#[]⟩, n, ⟨#[]⟩⟩ L)) ∧ Below u.heap.size u w') := fun u hu => find_any L ⟨#[]⟩ n (by omega) u p m c (h.below hu)
  have HC3 : Hid (∀ u, Below w.heap.size w u → Calls Tryz.prog 19 #[.slice p m c, .string s, .string n] u fun e w' => e = .returned (fndV (resK s n L)) ∧ Below u.heap.size u w') := fun u hu => resolve_any L s n (by omega) u p m c (h.below hu)
  have CL : Hid (∀ u, Below w.heap.size w u → Calls Tryz.prog 8 #[] u fun e w' => e = .returned (.bool true) ∧ Below u.heap.size u w') := fun u hu => nlives_any u (T.below hu)
  have hmi : ¬ (100 : Int) < m := by have := h.1; omega
  have NE := fun x W => nrun_eq x W
  unfold resK at HC3
  generalize findK ⟨s, n, ⟨#[]⟩⟩ L = o1 at *
  generalize findK ⟨⟨#[]⟩, n, ⟨#[]⟩⟩ L = o2 at *
  clear h hn T
  cases o1 with
  | some y =>
    obtain ⟨y2, b2, hf2⟩ : ∃ y2 b2, fnd o2 = (y2, b2) := ⟨_, _, rfl⟩
    have HF2 : Hid (fndV o2 = .tuple #[nmV y2, .bool b2]) := by show fndV o2 = _; unfold fndV; rw [hf2]
    clear hf2
    go_enter Tryz.func6, Tryz.ntmps6
    go_wp2_with (first
      | (go_at_call 17; refine C1.mono ?_; clear C1; rintro e w1 ⟨rfl, hb⟩; unfold fndV fnd; have RS1 : Hid _ := mbox w1 y; have HX1 : Hid _ := heap_alloc_new w1 (nmO y); have HB1 : Hid (Below w.heap.size w (w1.alloc (nmO y))) := bel_alloc hb _; clear hb)
      | (refine nl_store rfl 24 _ _ rfl _ _ _ rfl rfl RS1.out ?_; clear RS1)
      | (go_at_call 17; refine (HC2.out _ HB1.out).mono ?_; clear HC2; rintro e w2 ⟨rfl, hb⟩; rw [HF2.out]; have RS2 : Hid _ := mbox w2 y2; have HX12 : Hid ((w2.alloc (nmO y2)).heap[w1.heap.size]? = some (nmO y)) := (heap_alloc_old w2 _ (by have := hb.size; simp at this; omega)).trans ((hb.block _ (lt_of HX1.out)).trans HX1.out); have HX2 : Hid _ := heap_alloc_new w2 (nmO y2); have HB2 : Hid (Below w.heap.size w (w2.alloc (nmO y2))) := bel_alloc (bel_step HB1.out hb) _; clear hb)
      | (refine nl_store rfl 24 _ _ rfl _ _ _ rfl rfl RS2.out ?_; clear RS2)
      | (go_at_call 19; refine (HC3.out _ HB2.out).mono ?_; clear HC3; rintro e w3 ⟨rfl, hb⟩; unfold fndV fnd; have RS3 : Hid _ := mbox w3 y; have HX13 : Hid ((w3.alloc (nmO y)).heap[w1.heap.size]? = some (nmO y)) := (heap_alloc_old w3 _ (by have := hb.size; have := lt_of HX12.out; omega)).trans ((hb.block _ (lt_of HX12.out)).trans HX12.out); have HX23 : Hid ((w3.alloc (nmO y)).heap[w2.heap.size]? = some (nmO y2)) := (heap_alloc_old w3 _ (by have := hb.size; have := lt_of HX2.out; omega)).trans ((hb.block _ (lt_of HX2.out)).trans HX2.out); have HX3 : Hid _ := heap_alloc_new w3 (nmO y); have HB3 : Hid (Below w.heap.size w (w3.alloc (nmO y))) := bel_alloc (bel_step HB2.out hb) _; have RL3 : Hid _ := nload HX3.out; have RL1 : Hid _ := nload HX13.out; have RZ : Hid _ := nbuild0 (w3.alloc (nmO y)); clear hb)
      | (refine nl_store rfl 24 _ _ rfl _ _ _ rfl rfl RS3.out ?_; clear RS3)
      | (refine nl_loadg 24 _ rfl _ _ rfl RL3.out (by go_simp) ?_; clear RL3)
      | (refine nl_loadg 24 _ rfl _ _ rfl RL1.out (by go_simp) ?_; clear RL1)
      | (refine nl_buildg 24 _ rfl _ _ (by go_simp) RZ.out (by go_simp) ?_; clear RZ)
      | (go_at_call 8; refine (CL.out _ HB3.out).mono ?_; clear CL; rintro e w4 ⟨rfl, hb⟩; have HB4 : Hid _ := bel_step HB3.out hb; clear hb))
    go_ret
    exact ⟨rfl, HB4.out⟩
  | none =>
    cases o2 with
    | some y2 =>
      go_enter Tryz.func6, Tryz.ntmps6
      go_wp2_with (first
        | (go_at_call 17; refine C1.mono ?_; clear C1; rintro e w1 ⟨rfl, hb⟩; unfold fndV fnd; have RS1 : Hid _ := mbox w1 nm0; have HX1 : Hid _ := heap_alloc_new w1 (nmO nm0); have HB1 : Hid (Below w.heap.size w (w1.alloc (nmO nm0))) := bel_alloc hb _; clear hb)
        | (refine nl_store rfl 24 _ _ rfl _ _ _ rfl rfl RS1.out ?_; clear RS1)
        | (go_at_call 17; refine (HC2.out _ HB1.out).mono ?_; clear HC2; rintro e w2 ⟨rfl, hb⟩; unfold fndV fnd; have RS2 : Hid _ := mbox w2 y2; have HX12 : Hid ((w2.alloc (nmO y2)).heap[w1.heap.size]? = some (nmO nm0)) := (heap_alloc_old w2 _ (by have := hb.size; simp at this; omega)).trans ((hb.block _ (lt_of HX1.out)).trans HX1.out); have HX2 : Hid _ := heap_alloc_new w2 (nmO y2); have HB2 : Hid (Below w.heap.size w (w2.alloc (nmO y2))) := bel_alloc (bel_step HB1.out hb) _; clear hb)
        | (refine nl_store rfl 24 _ _ rfl _ _ _ rfl rfl RS2.out ?_; clear RS2)
        | (go_at_call 19; refine (HC3.out _ HB2.out).mono ?_; clear HC3; rintro e w3 ⟨rfl, hb⟩; unfold fndV fnd; have RS3 : Hid _ := mbox w3 y2; have HX13 : Hid ((w3.alloc (nmO y2)).heap[w1.heap.size]? = some (nmO nm0)) := (heap_alloc_old w3 _ (by have := hb.size; have := lt_of HX12.out; omega)).trans ((hb.block _ (lt_of HX12.out)).trans HX12.out); have HX23 : Hid ((w3.alloc (nmO y2)).heap[w2.heap.size]? = some (nmO y2)) := (heap_alloc_old w3 _ (by have := hb.size; have := lt_of HX2.out; omega)).trans ((hb.block _ (lt_of HX2.out)).trans HX2.out); have HX3 : Hid _ := heap_alloc_new w3 (nmO y2); have HB3 : Hid (Below w.heap.size w (w3.alloc (nmO y2))) := bel_alloc (bel_step HB2.out hb) _; have RL3 : Hid _ := nload HX3.out; have RL1 : Hid _ := nload HX23.out; have RZ : Hid _ := nbuild0 (w3.alloc (nmO y2)); clear hb)
        | (refine nl_store rfl 24 _ _ rfl _ _ _ rfl rfl RS3.out ?_; clear RS3)
        | (refine nl_loadg 24 _ rfl _ _ rfl RL3.out (by go_simp) ?_; clear RL3)
        | (refine nl_loadg 24 _ rfl _ _ rfl RL1.out (by go_simp) ?_; clear RL1)
        | (refine nl_buildg 24 _ rfl _ _ (by go_simp) RZ.out (by go_simp) ?_; clear RZ)
        | (go_at_call 8; refine (CL.out _ HB3.out).mono ?_; clear CL; rintro e w4 ⟨rfl, hb⟩; have HB4 : Hid _ := bel_step HB3.out hb; clear hb))
      go_ret
      exact ⟨rfl, HB4.out⟩
    | none =>
      go_enter Tryz.func6, Tryz.ntmps6
      go_wp2_with (first
        | (go_at_call 17; refine C1.mono ?_; clear C1; rintro e w1 ⟨rfl, hb⟩; unfold fndV fnd; have RS1 : Hid _ := mbox w1 nm0; have HX1 : Hid _ := heap_alloc_new w1 (nmO nm0); have HB1 : Hid (Below w.heap.size w (w1.alloc (nmO nm0))) := bel_alloc hb _; clear hb)
        | (refine nl_store rfl 24 _ _ rfl _ _ _ rfl rfl RS1.out ?_; clear RS1)
        | (go_at_call 17; refine (HC2.out _ HB1.out).mono ?_; clear HC2; rintro e w2 ⟨rfl, hb⟩; unfold fndV fnd; have RS2 : Hid _ := mbox w2 nm0; have HX12 : Hid ((w2.alloc (nmO nm0)).heap[w1.heap.size]? = some (nmO nm0)) := (heap_alloc_old w2 _ (by have := hb.size; simp at this; omega)).trans ((hb.block _ (lt_of HX1.out)).trans HX1.out); have HX2 : Hid _ := heap_alloc_new w2 (nmO nm0); have HB2 : Hid (Below w.heap.size w (w2.alloc (nmO nm0))) := bel_alloc (bel_step HB1.out hb) _; clear hb)
        | (refine nl_store rfl 24 _ _ rfl _ _ _ rfl rfl RS2.out ?_; clear RS2)
        | (go_at_call 19; refine (HC3.out _ HB2.out).mono ?_; clear HC3; rintro e w3 ⟨rfl, hb⟩; unfold fndV fnd; have RS3 : Hid _ := mbox w3 nm0; have HX13 : Hid ((w3.alloc (nmO nm0)).heap[w1.heap.size]? = some (nmO nm0)) := (heap_alloc_old w3 _ (by have := hb.size; have := lt_of HX12.out; omega)).trans ((hb.block _ (lt_of HX12.out)).trans HX12.out); have HX23 : Hid ((w3.alloc (nmO nm0)).heap[w2.heap.size]? = some (nmO nm0)) := (heap_alloc_old w3 _ (by have := hb.size; have := lt_of HX2.out; omega)).trans ((hb.block _ (lt_of HX2.out)).trans HX2.out); have HX3 : Hid _ := heap_alloc_new w3 (nmO nm0); have HB3 : Hid (Below w.heap.size w (w3.alloc (nmO nm0))) := bel_alloc (bel_step HB2.out hb) _; have RL3 : Hid _ := nload HX3.out; have RL1 : Hid _ := nload HX23.out; have RZ : Hid _ := nbuild0 (w3.alloc (nmO nm0)); clear hb)
        | (refine nl_store rfl 24 _ _ rfl _ _ _ rfl rfl RS3.out ?_; clear RS3)
        | (refine nl_loadg 24 _ rfl _ _ rfl RL3.out (by go_simp) ?_; clear RL3)
        | (refine nl_loadg 24 _ rfl _ _ rfl RL1.out (by go_simp) ?_; clear RL1)
        | (refine nl_buildg 24 _ rfl _ _ (by go_simp) RZ.out (by go_simp) ?_; clear RZ)
        | (go_at_call 8; refine (CL.out _ HB3.out).mono ?_; clear CL; rintro e w4 ⟨rfl, hb⟩; have HB4 : Hid _ := bel_step HB3.out hb; clear hb))
      go_ret
      exact ⟨rfl, HB4.out⟩
theorem scopes_big (L : List NM) (hn : 100 < L.length) (s n : ByteArray) (w : World) (T : Tab9 w) (p : Option Addr) (m c : Nat) (h : Rds w p m L) :
    Calls Tryz.prog 6 #[.slice p m c, .string s, .string n] w fun e w' => e = .returned (.bool true) ∧ Below w.heap.size w w' := by
  have C := nlives_any w T
  have hmi : (100 : Int) < m := by have := h.1; omega
  clear h hn T
  go_enter Tryz.func6, Tryz.ntmps6
  go_wp2_with (go_at_call 8; refine C.mono ?_; rintro e w1 ⟨rfl, hb⟩; have HB : Hid _ := hb; clear hb)
  go_ret
  exact ⟨rfl, HB.out⟩
theorem scopes_walk {L : List NM} {s n : ByteArray} {w : World} (T : Tab9 w) {p : Option Addr} {m c : Nat} (h : Slc w p m c L) :
    Calls Tryz.prog 6 #[.slice p m c, .string s, .string n] w fun e w' => e = .returned (.bool true) ∧ Below w.heap.size w w' := by
  by_cases hn : 100 < L.length
  · exact scopes_big L hn s n w T p m c h.r
  · exact scopes_small L (by omega) s n w T p m c h.r
end Go.Proofs.YtlndkjcincflpaaGreatDoor
