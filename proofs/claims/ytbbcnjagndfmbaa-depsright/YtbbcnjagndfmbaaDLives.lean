/- lives: the document's examples. The contract of the program's Order is a hypothesis here. -/
import Derived.Test.YtbbcnjagndfmbaaDOrd4
import Derived.Test.YtbbcnjagndfmbaaDSame
namespace Go.Proofs.Ytbbcnjagndfmbaa
open Go.RowKit Go.Dp
set_option maxRecDepth 100000
set_option linter.unusedVariables false
set_option linter.unusedSimpArgs false
/-- The program's Order answers as the document asks. -/
def OrdC : Prop := ∀ (w : World) (av : Value) (n0 : Int) (L : List (Int × Int)), Pr w av L → L.length ≤ 1000 → n0 ≤ 60 → Calls Try.prog 7 #[.int .i64 n0, av] w fun e w' => OAns w.heap.size w' e n0.toNat (kept n0.toNat L) ∧ Below w.heap.size w w'
theorem pslice_two (w : World) (x y : Int × Int) : (Instr.buildSlice 22 2 #[(0, pV x), (1, pV y)]).run Try.prog w = .ok (.slice (some ⟨w.heap.size, 0, none⟩) 2 2) (w.alloc (.cells #[.int .i64 x.1, .int .i64 x.2, .int .i64 y.1, .int .i64 y.2] 33)) := by kernel_rfl
theorem pslice_three (w : World) (x y z : Int × Int) : (Instr.buildSlice 22 3 #[(0, pV x), (1, pV y), (2, pV z)]).run Try.prog w = .ok (.slice (some ⟨w.heap.size, 0, none⟩) 3 3) (w.alloc (.cells #[.int .i64 x.1, .int .i64 x.2, .int .i64 y.1, .int .i64 y.2, .int .i64 z.1, .int .i64 z.2] 33)) := by kernel_rfl
theorem rd_new (w : World) (cs : List Value) (t : TypeId) (n : Nat) (hn : n ≤ 1000) : Rd (w.alloc (.cells cs.toArray t)) (.slice (some ⟨w.heap.size, 0, none⟩) n n) n cs := by
  refine ⟨_, _, rfl, Nat.le_refl _, by simp only [maxLen]; omega, .inr ⟨_, rfl, fun j u hj => ?_⟩⟩
  rw [Addr.add_mid, cell_of_row _ w.heap.size (0 + j) _ _ _ (heap_alloc_new w _), Nat.zero_add, ← hj]
  simp
theorem ex1 : orderB 3 (kept 3 [(0, 1), (1, 2)]) = [2, 1, 0] := by decide +kernel
theorem ex2 : ringB 3 (kept 3 [(0, 1), (1, 2)]) = [false, false, false] := by decide +kernel
theorem ex3 : orderB 3 (kept 3 [(0, 1), (1, 2), (2, 0)]) = [0, 1, 2] := by decide +kernel
theorem ex4 : ringB 3 (kept 3 [(0, 1), (1, 2), (2, 0)]) = [true, true, true] := by decide +kernel
section
variable {P : Program} {ops : Array Oper} {rest : List Oper} {o : Oper} {a : Act} {w : World} {Q : Exit → Act → World → Prop}
theorem nl_build (hgd : o.guard = none) (ty : TypeId) (xs : Array (Nat × Operand)) (ho : o.op = .build ty xs)
    (ps : Array (Nat × Value)) (v : Value) (hx : (xs.map fun (i, x) => (i, a.eval x)) = ps) (hrun : (Instr.build ty ps).run P w = .ok v w) (h : wpList P ops Q rest (a.put o.dst v) w) : wpList P ops Q (o :: rest) a w := by
  refine wpList_plain hgd fun K hK => ?_
  unfold Oper.wp execOp
  simp only [ho, hx, Sem.run_bind, Sem.run_pure, hrun, Result.andThen_ok]
  exact hK _ _ h
end
set_option maxHeartbeats 8000000 in
theorem lives_any (HC : OrdC) (w : World) : Calls Try.prog 6 #[] w fun e w' => e = .returned (.bool true) ∧ Below w.heap.size w w' := by
  have HH : Hid OrdC := HC
  have HB0 : Hid (Below w.heap.size w (w.alloc (.cells #[.int .i64 0, .int .i64 1, .int .i64 1, .int .i64 2] 33))) := bel_alloc (Below.refl _ _) _
  have C1 := HC _ _ 3 [(0, 1), (1, 2)] (rd_new w [.int .i64 0, .int .i64 1, .int .i64 1, .int .i64 2] 33 2 (by decide)) (by decide) (by decide)
  rw [show (3 : Int).toNat = 3 from rfl] at C1
  have C1 : Hid _ := C1
  clear HC
  go_enter Try.func6, Try.ntmps6
  go_wp2_with fail
  refine Calls.mono C1.out ?_
  clear C1
  rintro e w1 ⟨⟨ov, rv, rfl, ho, hr⟩, hb⟩
  unfold OAns at *
  rw [ex1] at ho
  rw [ex2] at hr
  have HB1 : Hid (Below w.heap.size w w1) := bel_step HB0.out hb
  have HO1 : Hid (Rd w1 ov [2, 1, 0].length (nV [2, 1, 0])) := own_rd ho
  have HR1 : Hid (Rd w1 rv 3 (bV [false, false, false])) := own_rd hr
  obtain ⟨oa, oc, rfl⟩ := own_slice ho
  obtain ⟨ra, rc, rfl⟩ := own_slice hr
  clear ho hr hb HB0
  go_wp2_with fail
  have HB2 : Hid (Below w1.heap.size w1 (w1.alloc (.cells #[.int .i64 0, .int .i64 1, .int .i64 1, .int .i64 2, .int .i64 2, .int .i64 0] 33))) := bel_alloc (Below.refl _ _) _
  have C2 := HH.out _ _ 3 [(0, 1), (1, 2), (2, 0)] (rd_new w1 [.int .i64 0, .int .i64 1, .int .i64 1, .int .i64 2, .int .i64 2, .int .i64 0] 33 3 (by decide)) (by decide) (by decide)
  rw [show (3 : Int).toNat = 3 from rfl] at C2
  refine Calls.mono C2 ?_
  clear C2
  rintro e w2 ⟨⟨ov2, rv2, rfl, ho, hr⟩, hb⟩
  rw [ex3] at ho
  rw [ex4] at hr
  have HB3 : Hid (Below w1.heap.size w1 w2) := bel_step HB2.out hb
  have HO2 : Hid (Rd w2 ov2 [0, 1, 2].length (nV [0, 1, 2])) := own_rd ho
  have HR2 : Hid (Rd w2 rv2 3 (bV [true, true, true])) := own_rd hr
  obtain ⟨oa2, oc2, rfl⟩ := own_slice ho
  obtain ⟨ra2, rc2, rfl⟩ := own_slice hr
  clear ho hr hb HB2 HH
  go_wp2_with fail
  have HB4 : Hid (Below w2.heap.size w2 (w2.alloc (.cells #[.int .i64 2, .int .i64 1, .int .i64 0] 3))) := bel_alloc (Below.refl _ _) _
  have C3 := ints_same (L := [2, 1, 0]) ((HO1.out.below HB3.out).below HB4.out) (rd_new w2 (nV [2, 1, 0]) 3 3 (by decide)) (by decide)
  refine Calls.mono C3 ?_
  clear C3
  rintro e w3 ⟨rfl, hb⟩
  have HB5 : Hid (Below w2.heap.size w2 w3) := bel_step HB4.out hb
  have HR1' := (HR1.out.below HB3.out).below HB5.out
  obtain ⟨A1, c1, e1, q1⟩ := HR1'.at (j := 0) (by decide)
  cases e1
  have q1 : w3.cell? A1 = some (.bool false) := by simpa [Addr.add] using q1
  clear hb HB4 HO1 HR1 HR1'
  go_wp2_with fail
  have HB6 : Hid (Below w3.heap.size w3 (w3.alloc (.cells #[.int .i64 0, .int .i64 1, .int .i64 2] 3))) := bel_alloc (Below.refl _ _) _
  have C4 := ints_same (L := [0, 1, 2]) ((HO2.out.below HB5.out).below HB6.out) (rd_new w3 (nV [0, 1, 2]) 3 3 (by decide)) (by decide)
  refine Calls.mono C4 ?_
  clear C4
  rintro e w4 ⟨rfl, hb⟩
  have HB7 : Hid (Below w3.heap.size w3 w4) := bel_step HB6.out hb
  have HR2' := (HR2.out.below HB5.out).below HB7.out
  obtain ⟨A2, c2, e2, q2⟩ := HR2'.at (j := 2) (by decide)
  cases e2
  have q2 : w4.cell? ⟨A2.block, A2.off + 2, none⟩ = some (.bool true) := by simpa [Addr.add] using q2
  have HZ : Hid (Below w.heap.size w w4) := bel_step (bel_step (bel_step HB1.out HB3.out) HB5.out) HB7.out
  clear hb HB6 HO2 HR2 HR2' HB1 HB3 HB5 HB7 q1
  go_wp2
  go_ret
  exact ⟨rfl, HZ.out⟩
end Go.Proofs.Ytbbcnjagndfmbaa
