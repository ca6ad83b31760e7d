/- NmCut, NmDef, NmDef2. -/
import Derived.Test.YtlndkjcincflpaaGreatDoorFPureX
import Derived.Test.YtlndkjcincflpaaGreatDoorNmWrongX
set_option linter.unusedVariables false
set_option linter.unusedSimpArgs false
namespace Go.Proofs.YtlndkjcincflpaaGreatDoor
open Go.RowKit Go.Nm
set_option maxRecDepth 100000
section
variable {P : Program} {ops : Array Oper} {rest : List Oper} {o : Oper} {a : Act} {w w' : World} {Q : Exit → Act → World → Prop} {K : Act → World → Prop}
theorem nl_slice (hgd : o.guard = none) (ty : TypeId) (x : Operand) (lo hi mx : Option Operand) (ho : o.op = .slice ty x lo hi mx) (vx : Value) (vl vh vm : Option Value) (v : Value)
    (hx : a.eval x = vx) (hl : lo.map a.eval = vl) (hh : hi.map a.eval = vh) (hm : mx.map a.eval = vm) (hrun : (Instr.sliceAt ty vx vl vh vm).run P w = .ok v w) (h : wpList P ops Q rest (a.put o.dst v) w) : wpList P ops Q (o :: rest) a w := by
  refine wpList_plain hgd fun K hK => ?_
  unfold Oper.wp execOp
  simp only [ho, hx, hl, hh, hm, Sem.run_bind, Sem.run_pure, hrun, Result.andThen_ok]
  exact hK _ _ h
theorem nexec_slice {ev : Operand → Value} {ty : TypeId} {x : Operand} {lo hi mx : Option Operand} {vx v : Value} {vl vh vm : Option Value} {u : World} (ho : o.op = .slice ty x lo hi mx) (hx : ev x = vx) (hl : lo.map ev = vl) (hh : hi.map ev = vh) (hm : mx.map ev = vm)
    (hrun : (Instr.sliceAt ty vx vl vh vm).run P u = .ok v u) : (execOp ev o).run P u = .ok (.value v) u := by
  unfold execOp
  simp only [ho, hx, hl, hh, hm, Sem.run_bind, Sem.run_pure, hrun, Result.andThen_ok]
theorem nwp_bslice (d : Option Tmp) (hd : o.dst = d) (ty : TypeId) (len : Nat) (xs : Array (Nat × Operand)) (ho : o.op = .buildSlice ty len xs) (ps : Array (Nat × Value)) (v : Value) (hx : (xs.map fun (i, x) => (i, a.eval x)) = ps) (hrun : (Instr.buildSlice ty len ps).run P w = .ok v w') (h : K (a.put d v) w') : Oper.wp P o a w K Q := by
  subst hd
  unfold Oper.wp execOp
  simp only [ho, hx, Sem.run_bind, Sem.run_pure, hrun, Result.andThen_ok]
  exact h
end
structure Slc (w : World) (p : Option Addr) (n c : Nat) (L : List NM) : Prop where
  r : Rds w p n L
  le : n ≤ c
  z : p = none → c = 0
theorem Slc.below {w w' : World} {p : Option Addr} {n c : Nat} {L : List NM} (h : Slc w p n c L) (hb : Below w.heap.size w w') : Slc w' p n c L := ⟨h.r.below hb, h.le, h.z⟩
theorem OwnM.slc {base : Nat} {w : World} {v : Value} {L : List NM} (h : OwnM base w v L) : ∃ p c, v = .slice p L.length c ∧ Slc w p L.length c L := by
  have hc := fun g (hg : v.ownBlock = some g) => World.ownsRow.cells h hg
  rcases h.2 with ⟨rfl, h0⟩ | ⟨g, cap, cur, rfl, _, _, hle, _⟩
  · exact ⟨none, 0, by rw [h0], ⟨⟨rfl, .inl (List.eq_nil_of_length_eq_zero h0)⟩, by omega, fun _ => rfl⟩⟩
  · exact ⟨_, _, rfl, ⟨⟨rfl, .inr ⟨_, rfl, fun j u hj => hc g rfl j u hj⟩⟩, hle, fun e => by cases e⟩⟩
theorem add_zero (a : Addr) : a.add 0 = a := by unfold Addr.add; split <;> simp_all
theorem cut_pre {w : World} {p : Option Addr} {n c k : Nat} {L : List NM} (h : Slc w p n c L) (hk : k ≤ n) :
    ∃ p1, (∀ u, (Instr.sliceAt 22 (.slice p n c) none (some (.int .i64 (k : Nat))) none).run Tryz.prog u = .ok (.slice p1 k c) u) ∧ ∀ u, Slc u p n c L → Slc u p1 k c (L.take k) := by
  have hle := h.le
  refine ⟨if c = 0 then p else p.map (·.add (0 * 3)), fun u => ?_, fun u hu => ⟨⟨?_, ?_⟩, by omega, fun e => ?_⟩⟩
  · have h24 := Tryz.sizeOf24
    have h22 : Tryz.prog.underlying 22 = some (.slice (Tryz.prog.elem 22)) := by kernel_rfl
    have he : Tryz.prog.elem 22 = 24 := by kernel_rfl
    rw [run_sliceAt_slice u 22 _ _ _ _ h22, run_slice_h u 22 p n c h22 .i64 (k : Nat) (by omega) (by omega), he, h24 u]
    simp [sliced, Result.andThen]
  · have := hu.r.1
    rw [List.length_take]
    omega
  · rcases hu.r.2 with rfl | ⟨a, rfl, hc⟩
    · exact .inl (by simp)
    · right
      refine ⟨a, ?_, fun j v hj => ?_⟩
      · rw [Option.map_some, Nat.zero_mul, add_zero, ite_self]
      · rw [nfl_take] at hj
        exact hc j v (by rw [List.getElem?_take] at hj; split at hj; exact hj; cases hj)
  · by_cases hc : c = 0
    · exact hc
    · rw [if_neg hc] at e
      cases p with
      | none => exact h.z rfl
      | some a => cases e
theorem cut_suf {w : World} {p : Option Addr} {n c k : Nat} {L : List NM} (h : Slc w p n c L) (hk : k ≤ n) :
    ∃ p1, (∀ u, (Instr.sliceAt 22 (.slice p n c) (some (.int .i64 (k : Nat))) none none).run Tryz.prog u = .ok (.slice p1 (n - k) (c - k)) u) ∧ ∀ u, Slc u p n c L → Slc u p1 (n - k) (c - k) (L.drop k) := by
  have hle := h.le
  refine ⟨if c = k then p else p.map (·.add (k * 3)), fun u => ?_, fun u hu => ⟨⟨?_, ?_⟩, by omega, fun e => ?_⟩⟩
  · have h24 := Tryz.sizeOf24
    have h22 : Tryz.prog.underlying 22 = some (.slice (Tryz.prog.elem 22)) := by kernel_rfl
    have he : Tryz.prog.elem 22 = 24 := by kernel_rfl
    rw [run_sliceAt_slice u 22 _ _ _ _ h22, run_slice_l u 22 p n c h22 .i64 (k : Nat) (by omega) (by omega), he, h24 u]
    simp [sliced, Result.andThen]
  · have := hu.r.1
    rw [List.length_drop]
    omega
  · rcases hu.r.2 with rfl | ⟨a, rfl, hc⟩
    · exact .inl (by simp)
    · by_cases hck : c = k
      · left
        apply List.drop_of_length_le
        have := hu.r.1
        omega
      · right
        refine ⟨a.add (k * 3), by rw [if_neg hck]; rfl, fun j v hj => ?_⟩
        rw [nfl_drop, List.getElem?_drop] at hj
        rw [Go.Deep.add_add]
        exact hc _ v hj
  · by_cases hc : c = k
    · omega
    · rw [if_neg hc] at e
      cases p with
      | none => have := h.z rfl; omega
      | some a => cases e
theorem nslice3 (u : World) (p1 p2 p3 : Option Addr) (n1 c1 n2 c2 n3 c3 : Nat) : (Instr.buildSlice 77 3 #[(0, .slice p1 n1 c1), (1, .slice p2 n2 c2), (2, .slice p3 n3 c3)]).run Tryz.prog u = .ok (.slice (some ⟨u.heap.size, 0, none⟩) 3 3) (u.alloc (.cells #[.slice p1 n1 c1, .slice p2 n2 c2, .slice p3 n3 c3] 22)) := by kernel_rfl
theorem nslice2 (u : World) (p1 p2 : Option Addr) (n1 c1 n2 c2 : Nat) : (Instr.buildSlice 77 2 #[(0, .slice p1 n1 c1), (1, .slice p2 n2 c2)]).run Tryz.prog u = .ok (.slice (some ⟨u.heap.size, 0, none⟩) 2 2) (u.alloc (.cells #[.slice p1 n1 c1, .slice p2 n2 c2] 22)) := by kernel_rfl
theorem concat3 (u : World) {p1 p2 p3 : Option Addr} {n1 c1 n2 c2 n3 c3 : Nat} {L1 L2 L3 : List NM} (h1 : Slc u p1 n1 c1 L1) (h2 : Slc u p2 n2 c2 L2) (h3 : Slc u p3 n3 c3 L3) (hn : L1.length + L2.length + L3.length ≤ 1000) :
    Calls Tryz.prog 38 #[.slice (some ⟨u.heap.size, 0, none⟩) 3 3] (u.alloc (.cells #[.slice p1 n1 c1, .slice p2 n2 c2, .slice p3 n3 c3] 22)) fun e w' => ∃ v, e = .returned v ∧ OwnM u.heap.size w' v (L1 ++ (L2 ++ L3)) ∧ Below u.heap.size u w' := by
  have hb : Below u.heap.size u (u.alloc (.cells #[.slice p1 n1 c1, .slice p2 n2 c2, .slice p3 n3 c3] 22)) := bel_alloc (Below.refl _ _) _
  obtain ⟨d0, d1, d2⟩ := n_cells (heap_alloc_new u (.cells #[.slice p1 n1 c1, .slice p2 n2 c2, .slice p3 n3 c3] 22))
  obtain rfl := h1.r.1
  obtain rfl := h2.r.1
  obtain rfl := h3.r.1
  have C := concat_any [⟨p1, c1, L1⟩, ⟨p2, c2, L2⟩, ⟨p3, c3, L3⟩] (by simp) (by simp [catP]; omega) (u.alloc (.cells #[.slice p1 L1.length c1, .slice p2 L2.length c2, .slice p3 L3.length c3] 22)) u.heap.size
    (fun i h => by
      have : i = 0 ∨ i = 1 ∨ i = 2 := by simp at h; omega
      rcases this with rfl | rfl | rfl
      · exact d0
      · exact d1
      · exact d2)
    (fun q hq => by
      simp only [List.mem_cons, List.not_mem_nil, or_false] at hq
      rcases hq with rfl | rfl | rfl
      · exact ⟨h1.r.below hb, h1.z⟩
      · exact ⟨h2.r.below hb, h2.z⟩
      · exact ⟨h3.r.below hb, h3.z⟩)
  refine C.mono ?_
  rintro e w' ⟨v, rfl, ho, hb2⟩
  refine ⟨v, rfl, ?_, bel_step hb hb2⟩
  have := ho.base (base' := u.heap.size) (by simp)
  simpa [catP] using this
theorem concat2 (u : World) {p1 p2 : Option Addr} {n1 c1 n2 c2 : Nat} {L1 L2 : List NM} (h1 : Slc u p1 n1 c1 L1) (h2 : Slc u p2 n2 c2 L2) (hn : L1.length + L2.length ≤ 1000) :
    Calls Tryz.prog 38 #[.slice (some ⟨u.heap.size, 0, none⟩) 2 2] (u.alloc (.cells #[.slice p1 n1 c1, .slice p2 n2 c2] 22)) fun e w' => ∃ v, e = .returned v ∧ OwnM u.heap.size w' v (L1 ++ L2) ∧ Below u.heap.size u w' := by
  have hb : Below u.heap.size u (u.alloc (.cells #[.slice p1 n1 c1, .slice p2 n2 c2] 22)) := bel_alloc (Below.refl _ _) _
  have hcc : (u.alloc (.cells #[.slice p1 n1 c1, .slice p2 n2 c2] 22)).cell? ⟨u.heap.size, 0, none⟩ = some (.slice p1 n1 c1) ∧ (u.alloc (.cells #[.slice p1 n1 c1, .slice p2 n2 c2] 22)).cell? ⟨u.heap.size, 1, none⟩ = some (.slice p2 n2 c2) := by
    have := heap_alloc_new u (.cells #[.slice p1 n1 c1, .slice p2 n2 c2] 22)
    exact ⟨(cell_of_row _ _ 0 _ _ _ this).trans rfl, (cell_of_row _ _ 1 _ _ _ this).trans rfl⟩
  obtain ⟨d0, d1⟩ := hcc
  obtain rfl := h1.r.1
  obtain rfl := h2.r.1
  have C := concat_any [⟨p1, c1, L1⟩, ⟨p2, c2, L2⟩] (by simp) (by simp [catP]; omega) (u.alloc (.cells #[.slice p1 L1.length c1, .slice p2 L2.length c2] 22)) u.heap.size
    (fun i h => by
      have : i = 0 ∨ i = 1 := by simp at h; omega
      rcases this with rfl | rfl
      · exact d0
      · exact d1)
    (fun q hq => by
      simp only [List.mem_cons, List.not_mem_nil, or_false] at hq
      rcases hq with rfl | rfl
      · exact ⟨h1.r.below hb, h1.z⟩
      · exact ⟨h2.r.below hb, h2.z⟩)
  refine C.mono ?_
  rintro e w' ⟨v, rfl, ho, hb2⟩
  refine ⟨v, rfl, ?_, bel_step hb hb2⟩
  have := ho.base (base' := u.heap.size) (by simp)
  simpa [catP] using this
end Go.Proofs.YtlndkjcincflpaaGreatDoor

namespace Go.Proofs.YtlndkjcincflpaaGreatDoor
open Go.RowKit Go.Nm
set_option maxRecDepth 100000
def DefR (L : List NM) (x : NM) (er : Int) (M : List NM) : Prop :=
  (wrN x ≠ 0 ∧ er = wrN x ∧ M = []) ∨ (wrN x = 0 ∧ ∃ k b, PlaceR L x k b ∧ ((b = false ∧ 32 ≤ L.length ∧ er = 9 ∧ M = []) ∨ ((b = true ∨ L.length < 32) ∧ er = 0 ∧ M = insP x L k b)))
def OutM (base : Nat) (w' : World) (e : Ending) (M : List NM) (er : Int) : Prop := ∃ v, e = .returned (.tuple #[v, .int .i64 er]) ∧ OwnM base w' v M
theorem OutM.base {b b' : Nat} {w : World} {e : Ending} {M : List NM} {er : Int} (h : OutM b w e M er) (hb : b' ≤ b) : OutM b' w e M er := h.imp fun _ h => ⟨h.1, h.2.base hb⟩
theorem def_pack (u : World) (x : NM) {p1 p3 : Option Addr} {n1 c1 n3 c3 : Nat} {L1 L3 : List NM} (h1 : Slc u p1 n1 c1 L1) (h3 : Slc u p3 n3 c3 L3) (hn : L1.length + 1 + L3.length ≤ 1000) :
    ∃ (v1 v2 : Value) (w3 w4 : World), Hid (Below u.heap.size u w3) ∧ Hid (Below u.heap.size u w4) ∧ Hid ((Instr.buildSlice 22 1 #[(0, nmV x)]).run Tryz.prog u = .ok v1 w3) ∧ Hid ((Instr.buildSlice 77 3 #[(0, .slice p1 n1 c1), (1, v1), (2, .slice p3 n3 c3)]).run Tryz.prog w3 = .ok v2 w4) ∧
      Calls Tryz.prog 38 #[v2] w4 fun e w' => ∃ v, e = .returned v ∧ Hid (OwnM u.heap.size w' v (L1 ++ ([x] ++ L3))) ∧ Hid (Below u.heap.size u w') := by
  have B3 : Below u.heap.size u (u.alloc (nmO x)) := bel_alloc (Below.refl _ _) _
  have hX3 : Slc (u.alloc (nmO x)) (some ⟨u.heap.size, 0, none⟩) 1 1 [x] := ⟨⟨rfl, .inr ⟨_, rfl, fun j v hj => by
    rw [Addr.add_mid, cell_of_row _ u.heap.size (0 + j) _ _ _ (heap_alloc_new u (nmO x)), Nat.zero_add, ← hj]
    simp⟩⟩, Nat.le_refl _, fun e => by cases e⟩
  refine ⟨_, _, _, _, B3, bel_alloc B3 _, nslice_one u x, nslice3 _ _ _ _ _ _ _ _ _ _, (concat3 (u.alloc (nmO x)) (h1.below B3) hX3 (h3.below B3) (by simpa using hn)).mono ?_⟩
  rintro e w' ⟨v, rfl, hO, hb⟩
  exact ⟨v, rfl, hO.base B3.size, bel_step B3 hb⟩
section
variable {x : NM} {w w2 : World} {p : Option Addr} {n c k : Nat} {L : List NM}
set_option maxHeartbeats 8000000 in
theorem def_wrong (hw : wrN x ≠ 0) (hz : ZN x) (T : Tab9 w) : Calls Tryz.prog 10 #[.slice p n c, nmV x] w fun e w' => OutM w.heap.size w' e [] (wrN x) ∧ Below w.heap.size w w' := by
  have HB0 : Below w.heap.size w (w.alloc (nmO x)) := bel_alloc (Below.refl _ _) _
  have C := wrong_any x hz _ (T.below HB0)
  have RX : Hid _ := nload (heap_alloc_new w (nmO x))
  have HBh : Hid _ := HB0
  clear HB0 T hz
  generalize wrN x = er at *
  have hwb : (er != 0) = true := by simpa using hw
  clear hw
  go_enter Tryz.func10, Tryz.ntmps10
  go_wp2_with (first
    | (refine nl_load rfl 24 _ rfl _ _ rfl RX.out ?_; clear RX)
    | (go_at_call 36; refine C.mono ?_; rintro e w1 ⟨rfl, hb⟩; have HB1 : Hid _ := bel_step HBh.out hb; clear hb))
  go_ret2
  exact ⟨⟨_, rfl, OwnM.nil _ _⟩, HB1.out⟩
theorem def_much (hw : wrN x = 0) (hz : ZN x) (T : Tab9 w) (h : Slc w p n c L) (hn : L.length ≤ 900) (hm : 32 ≤ L.length) (C2 : ∀ u, Below w.heap.size w u → Calls Tryz.prog 37 #[.slice p n c, nmV x, cmpV] u fun e w' => e = .returned (.tuple #[.int .i64 (k : Nat), .bool false]) ∧ Below u.heap.size u w') (hk : k ≤ L.length) :
    Calls Tryz.prog 10 #[.slice p n c, nmV x] w fun e w' => OutM w.heap.size w' e [] 9 ∧ Below w.heap.size w w' := by
  have HB0 : Below w.heap.size w (w.alloc (nmO x)) := bel_alloc (Below.refl _ _) _
  have C := wrong_any x hz _ (T.below HB0)
  rw [hw] at C
  have hX := heap_alloc_new w (nmO x)
  have RX : Hid _ := nload hX
  have HX : Hid _ := hX
  have HC2 : Hid _ := C2
  have HBh : Hid _ := HB0
  obtain ⟨p3, R3, _⟩ := cut_suf (k := k) h (by rw [h.r.1]; exact hk)
  have R3h : Hid _ := R3
  have hni : (32 : Int) ≤ n := by have := h.r.1; omega
  clear HB0 T hz hw R3 hn hm C2 hX h hk
  generalize hn3 : n - k = n3 at *
  generalize hc3 : c - k = c3 at *
  clear hn3 hc3
  go_enter Tryz.func10, Tryz.ntmps10
  go_wp2_with (first
    | (refine nl_load rfl 24 _ rfl _ _ rfl RX.out ?_; clear RX)
    | (go_at_call 36; refine C.mono ?_; rintro e w1 ⟨rfl, hb⟩; have HB1 : Hid _ := bel_step HBh.out hb; have RX : Hid _ := nload ((hb.block _ (lt_of HX.out)).trans HX.out); clear hb)
    | (go_at_call 37; refine (HC2.out _ HB1.out).mono ?_; rintro e w2 ⟨rfl, hb⟩; have HB2 : Hid _ := bel_step HB1.out hb; clear hb)
    | (refine nl_slice rfl 22 _ _ _ _ rfl _ _ _ _ _ rfl rfl rfl rfl (R3h.out _) ?_; clear R3h))
  go_ret2
  exact ⟨⟨_, rfl, OwnM.nil _ _⟩, HB2.out⟩
set_option maxHeartbeats 8000000 in
theorem def_new (hw : wrN x = 0) (hz : ZN x) (T : Tab9 w) (h : Slc w p n c L) (hm : L.length < 32) (C2 : ∀ u, Below w.heap.size w u → Calls Tryz.prog 37 #[.slice p n c, nmV x, cmpV] u fun e w' => e = .returned (.tuple #[.int .i64 (k : Nat), .bool false]) ∧ Below u.heap.size u w') (hk : k ≤ L.length) :
    Calls Tryz.prog 10 #[.slice p n c, nmV x] w fun e w' => OutM w.heap.size w' e (L.take k ++ ([x] ++ L.drop k)) 0 ∧ Below w.heap.size w w' := by
  have HB0 : Below w.heap.size w (w.alloc (nmO x)) := bel_alloc (Below.refl _ _) _
  have C := wrong_any x hz _ (T.below HB0)
  rw [hw] at C
  have hX := heap_alloc_new w (nmO x)
  have RX : Hid _ := nload hX
  have HX : Hid _ := hX
  have HC2 : Hid _ := C2
  have HBh : Hid _ := HB0
  have hkn : k ≤ n := by rw [h.r.1]; exact hk
  obtain ⟨p3, R3, S3⟩ := cut_suf (k := k) h hkn
  obtain ⟨p1, R1', S1⟩ := cut_pre (k := k) h hkn
  have R3h : Hid _ := R3
  have R1 : Hid _ := R1'
  have HS3 : Hid _ := S3
  have HS1 : Hid _ := S1
  have HSL : Hid _ := h
  have hni : ¬ (32 : Int) ≤ n := by have := h.r.1; omega
  have HL : Hid (L.length < 32) := hm
  clear HB0 T hz hw R3 R1' S1 S3 hm C2 hX h hk hkn
  generalize n - k = n3 at *
  generalize c - k = c3 at *
  go_enter Tryz.func10, Tryz.ntmps10
  go_wp2_with (first
    | (refine nl_load rfl 24 _ rfl _ _ rfl RX.out ?_; clear RX)
    | (go_at_call 36; refine C.mono ?_; rintro e w1 ⟨rfl, hb⟩; have HB1 : Hid _ := bel_step HBh.out hb; have HX1 : Hid _ := (hb.block _ (lt_of HX.out)).trans HX.out; have RX : Hid _ := nload HX1.out; clear hb)
    | (go_at_call 37; refine (HC2.out _ HB1.out).mono ?_; rintro e w2 ⟨rfl, hb⟩; have HB2 : Hid _ := bel_step HB1.out hb; have HX2 : Hid _ := (hb.block _ (lt_of HX1.out)).trans HX1.out; clear hb)
    | (refine nl_slice rfl 22 _ _ _ _ rfl _ _ _ _ _ rfl rfl rfl rfl (R3h.out _) ?_; clear R3h))
  have HBd : Hid (Below w.heap.size w w2.drew) := HB2.out.drew
  have HXd : Hid (w2.drew.heap[w.heap.size]? = some (nmO x)) := HX2.out
  clear HB2 HX2 HX1 HX HBh HB1 C HC2
  refine wp_region_d (fun u => (Instr.loadAt 24 (.pointer (some ⟨w.heap.size, 0, none⟩))).run Tryz.prog u = .ok (nmV x) u ∧ True) (fun _ => false) (by kernel_rfl) ?_
  generalize w2.drew = u0 at *
  have HS : Hid ((Instr.loadAt 24 (.pointer (some ⟨w.heap.size, 0, none⟩))).run Tryz.prog u0 = .ok (nmV x) u0 ∧ True) := ⟨nload HXd.out, trivial⟩
  have HSS : Hid (∀ u', Below u0.heap.size u0 u' → (Instr.loadAt 24 (.pointer (some ⟨w.heap.size, 0, none⟩))).run Tryz.prog u' = .ok (nmV x) u' ∧ True) := fun u' hu => ⟨nload ((hu.block _ (lt_of HXd.out)).trans HXd.out), trivial⟩
  obtain ⟨v1, v2, w3, w4, HB3, HB4, RB1, RB2, CC⟩ := def_pack u0 x (HS1.out _ (HSL.out.below HBd.out)) (HS3.out _ (HSL.out.below HBd.out)) (by have := HL.out; simp; omega)
  clear HS1 HS3 HSL HL HXd
  refine wpAnyD_pured (i := 0) (v := .slice p n c) rfl rfl (by kernel_rfl) (by kernel_rfl) (by kernel_rfl) (fun _ _ _ h => h) (by go_simp) (by intro u; go_simp) ?_
  try simp only [Act.put, List.setIfInBounds_toArray, List.set_cons_zero, List.set_cons_succ]
  refine wpAnyD_pured (i := 1) (v := .int .i64 (k : Int)) rfl rfl (by kernel_rfl) (by kernel_rfl) (by kernel_rfl) (fun _ _ _ h => h) (by go_simp) (by intro u; go_simp) ?_
  try simp only [Act.put, List.setIfInBounds_toArray, List.set_cons_zero, List.set_cons_succ]
  refine wpAnyD_pured (i := 2) (v := .slice p1 k c) rfl rfl (by kernel_rfl) (by kernel_rfl) (by kernel_rfl) (fun _ _ _ h => h) (by go_simp) (fun u => nexec_slice rfl rfl rfl rfl rfl (R1.out u)) ?_
  try simp only [Act.put, List.setIfInBounds_toArray, List.set_cons_zero, List.set_cons_succ]
  refine wpAnyD_loadd (i := 3) (v := nmV x) rfl rfl (by kernel_rfl) (by kernel_rfl) (by kernel_rfl) (by kernel_rfl) (fun _ _ _ h => h) (by go_simp) (fun u hSu => nexec_load rfl rfl hSu.1) HS.out ?_
  try simp only [Act.put, List.setIfInBounds_toArray, List.set_cons_zero, List.set_cons_succ]
  refine wpAnyD_pured (i := 5) (v := .slice p3 n3 c3) rfl rfl (by kernel_rfl) (by kernel_rfl) (by kernel_rfl) (fun _ _ _ h => h) (by go_simp) (by intro u; go_simp) ?_
  try simp only [Act.put, List.setIfInBounds_toArray, List.set_cons_zero, List.set_cons_succ]
  refine wpAnyD_one (i := 4) (by kernel_rfl) rfl ?_
  intro K' hK'
  rw [if_pos (by go_simp)]
  refine nwp_bslice (some 34) rfl 22 1 _ rfl _ _ (by go_simp) RB1.out (hK' _ _ (.inr fun _ => HSS.out _ HB3.out) ?_)
  clear hK'
  try simp only [Act.put, List.setIfInBounds_toArray, List.set_cons_zero, List.set_cons_succ]
  refine wpAnyD_one (i := 6) (by kernel_rfl) rfl ?_
  intro K' hK'
  rw [if_pos (by go_simp)]
  refine nwp_bslice (some 36) rfl 77 3 _ rfl _ _ (by go_simp) RB2.out (hK' _ _ (.inr fun _ => HSS.out _ HB4.out) ?_)
  clear hK'
  try simp only [Act.put, List.setIfInBounds_toArray, List.set_cons_zero, List.set_cons_succ]
  refine wpAnyD_one (i := 7) (by kernel_rfl) rfl ?_
  intro K' hK'
  go_simp
  refine CC.mono ?_
  rintro e w5 ⟨v, rfl, HO5, HB5⟩
  refine hK' _ _ (.inr fun _ => HSS.out _ HB5.out) ?_
  clear hK' CC
  try simp only [Act.put, List.setIfInBounds_toArray, List.set_cons_zero, List.set_cons_succ]
  refine wpAnyD_pured (i := 8) (v := v) rfl rfl (by kernel_rfl) (by kernel_rfl) (by kernel_rfl) (fun _ _ _ h => h) (by go_simp) (by intro u; go_simp) ?_
  try simp only [Act.put, List.setIfInBounds_toArray, List.set_cons_zero, List.set_cons_succ]
  refine wpAnyD_pured (i := 9) (v := .int .i64 0) rfl rfl (by kernel_rfl) (by kernel_rfl) (by kernel_rfl) (fun _ _ _ h => h) (by go_simp) (by intro u; go_simp) ?_
  try simp only [Act.put, List.setIfInBounds_toArray, List.set_cons_zero, List.set_cons_succ]
  refine wpAnyD_done (by kernel_rfl) ?_ _
  go_wp2
  go_ret2
  exact ⟨⟨_, rfl, HO5.out.base HBd.out.size⟩, bel_step HBd.out HB5.out⟩
set_option maxHeartbeats 8000000 in
theorem def_there (hw : wrN x = 0) (hz : ZN x) (T : Tab9 w) (h : Slc w p n c L) (hm : L.length ≤ 900) (C2 : ∀ u, Below w.heap.size w u → Calls Tryz.prog 37 #[.slice p n c, nmV x, cmpV] u fun e w' => e = .returned (.tuple #[.int .i64 (k : Nat), .bool true]) ∧ Below u.heap.size u w') (hk : k < L.length) :
    Calls Tryz.prog 10 #[.slice p n c, nmV x] w fun e w' => OutM w.heap.size w' e (L.take k ++ ([x] ++ (L.drop k).drop 1)) 0 ∧ Below w.heap.size w w' := by
  have HB0 : Below w.heap.size w (w.alloc (nmO x)) := bel_alloc (Below.refl _ _) _
  have C := wrong_any x hz _ (T.below HB0)
  rw [hw] at C
  have hX := heap_alloc_new w (nmO x)
  have RX : Hid _ := nload hX
  have HX : Hid _ := hX
  have HC2 : Hid _ := C2
  have HBh : Hid _ := HB0
  have hkn : k ≤ n := by rw [h.r.1]; omega
  obtain ⟨p3, R3, S3⟩ := cut_suf (k := k) h hkn
  obtain ⟨p4, R4, S4⟩ := cut_suf (k := 1) (S3 w h) (by have := h.r.1; omega)
  obtain ⟨p1, R1', S1⟩ := cut_pre (k := k) h hkn
  have R3h : Hid _ := R3
  have R1 : Hid _ := R1'
  have HS3 : Hid _ := S3
  have HS1 : Hid _ := S1
  have R4h : Hid _ := R4
  have HS4 : Hid _ := S4
  have HSL : Hid _ := h
  have HL : Hid (L.length ≤ 900) := hm
  clear HB0 T hz hw R3 R1' R4 S1 S3 S4 hm C2 hX h hk hkn
  generalize n - k = n3 at *
  generalize c - k = c3 at *
  generalize n3 - 1 = n4 at *
  generalize c3 - 1 = c4 at *
  go_enter Tryz.func10, Tryz.ntmps10
  go_wp2_with (first
    | (refine nl_load rfl 24 _ rfl _ _ rfl RX.out ?_; clear RX)
    | (go_at_call 36; refine C.mono ?_; rintro e w1 ⟨rfl, hb⟩; have HB1 : Hid _ := bel_step HBh.out hb; have HX1 : Hid _ := (hb.block _ (lt_of HX.out)).trans HX.out; have RX : Hid _ := nload HX1.out; clear hb)
    | (go_at_call 37; refine (HC2.out _ HB1.out).mono ?_; rintro e w2 ⟨rfl, hb⟩; have HB2 : Hid _ := bel_step HB1.out hb; have HX2 : Hid _ := (hb.block _ (lt_of HX1.out)).trans HX1.out; clear hb)
    | (refine nl_slice rfl 22 _ _ _ _ rfl _ _ _ _ _ rfl rfl rfl rfl (R3h.out _) ?_; clear R3h)
    | (refine nl_slice rfl 22 _ _ _ _ rfl _ _ _ _ _ rfl rfl rfl rfl (R4h.out _) ?_; clear R4h))
  have HBd : Hid (Below w.heap.size w w2.drew) := HB2.out.drew
  have HXd : Hid (w2.drew.heap[w.heap.size]? = some (nmO x)) := HX2.out
  clear HB2 HX2 HX1 HX HBh HB1 C HC2
  refine wp_region_d (fun u => (Instr.loadAt 24 (.pointer (some ⟨w.heap.size, 0, none⟩))).run Tryz.prog u = .ok (nmV x) u ∧ True) (fun _ => false) (by kernel_rfl) ?_
  generalize w2.drew = u0 at *
  have HS : Hid ((Instr.loadAt 24 (.pointer (some ⟨w.heap.size, 0, none⟩))).run Tryz.prog u0 = .ok (nmV x) u0 ∧ True) := ⟨nload HXd.out, trivial⟩
  have HSS : Hid (∀ u', Below u0.heap.size u0 u' → (Instr.loadAt 24 (.pointer (some ⟨w.heap.size, 0, none⟩))).run Tryz.prog u' = .ok (nmV x) u' ∧ True) := fun u' hu => ⟨nload ((hu.block _ (lt_of HXd.out)).trans HXd.out), trivial⟩
  obtain ⟨v1, v2, w3, w4, HB3, HB4, RB1, RB2, CC⟩ := def_pack u0 x (HS1.out _ (HSL.out.below HBd.out)) (HS4.out _ (HS3.out _ (HSL.out.below HBd.out))) (by have := HL.out; simp; omega)
  clear HS1 HS3 HS4 HSL HL HXd
  refine wpAnyD_pured (i := 0) (v := .slice p n c) rfl rfl (by kernel_rfl) (by kernel_rfl) (by kernel_rfl) (fun _ _ _ h => h) (by go_simp) (by intro u; go_simp) ?_
  try simp only [Act.put, List.setIfInBounds_toArray, List.set_cons_zero, List.set_cons_succ]
  refine wpAnyD_pured (i := 1) (v := .int .i64 (k : Int)) rfl rfl (by kernel_rfl) (by kernel_rfl) (by kernel_rfl) (fun _ _ _ h => h) (by go_simp) (by intro u; go_simp) ?_
  try simp only [Act.put, List.setIfInBounds_toArray, List.set_cons_zero, List.set_cons_succ]
  refine wpAnyD_pured (i := 2) (v := .slice p1 k c) rfl rfl (by kernel_rfl) (by kernel_rfl) (by kernel_rfl) (fun _ _ _ h => h) (by go_simp) (fun u => nexec_slice rfl rfl rfl rfl rfl (R1.out u)) ?_
  try simp only [Act.put, List.setIfInBounds_toArray, List.set_cons_zero, List.set_cons_succ]
  refine wpAnyD_loadd (i := 3) (v := nmV x) rfl rfl (by kernel_rfl) (by kernel_rfl) (by kernel_rfl) (by kernel_rfl) (fun _ _ _ h => h) (by go_simp) (fun u hSu => nexec_load rfl rfl hSu.1) HS.out ?_
  try simp only [Act.put, List.setIfInBounds_toArray, List.set_cons_zero, List.set_cons_succ]
  refine wpAnyD_pured (i := 5) (v := .slice p4 n4 c4) rfl rfl (by kernel_rfl) (by kernel_rfl) (by kernel_rfl) (fun _ _ _ h => h) (by go_simp) (by intro u; go_simp) ?_
  try simp only [Act.put, List.setIfInBounds_toArray, List.set_cons_zero, List.set_cons_succ]
  refine wpAnyD_one (i := 4) (by kernel_rfl) rfl ?_
  intro K' hK'
  rw [if_pos (by go_simp)]
  refine nwp_bslice (some 34) rfl 22 1 _ rfl _ _ (by go_simp) RB1.out (hK' _ _ (.inr fun _ => HSS.out _ HB3.out) ?_)
  clear hK'
  try simp only [Act.put, List.setIfInBounds_toArray, List.set_cons_zero, List.set_cons_succ]
  refine wpAnyD_one (i := 6) (by kernel_rfl) rfl ?_
  intro K' hK'
  rw [if_pos (by go_simp)]
  refine nwp_bslice (some 36) rfl 77 3 _ rfl _ _ (by go_simp) RB2.out (hK' _ _ (.inr fun _ => HSS.out _ HB4.out) ?_)
  clear hK'
  try simp only [Act.put, List.setIfInBounds_toArray, List.set_cons_zero, List.set_cons_succ]
  refine wpAnyD_one (i := 7) (by kernel_rfl) rfl ?_
  intro K' hK'
  go_simp
  refine CC.mono ?_
  rintro e w5 ⟨v, rfl, HO5, HB5⟩
  refine hK' _ _ (.inr fun _ => HSS.out _ HB5.out) ?_
  clear hK' CC
  try simp only [Act.put, List.setIfInBounds_toArray, List.set_cons_zero, List.set_cons_succ]
  refine wpAnyD_pured (i := 8) (v := v) rfl rfl (by kernel_rfl) (by kernel_rfl) (by kernel_rfl) (fun _ _ _ h => h) (by go_simp) (by intro u; go_simp) ?_
  try simp only [Act.put, List.setIfInBounds_toArray, List.set_cons_zero, List.set_cons_succ]
  refine wpAnyD_pured (i := 9) (v := .int .i64 0) rfl rfl (by kernel_rfl) (by kernel_rfl) (by kernel_rfl) (fun _ _ _ h => h) (by go_simp) (by intro u; go_simp) ?_
  try simp only [Act.put, List.setIfInBounds_toArray, List.set_cons_zero, List.set_cons_succ]
  refine wpAnyD_done (by kernel_rfl) ?_ _
  go_wp2
  go_ret2
  exact ⟨⟨_, rfl, HO5.out.base HBd.out.size⟩, bel_step HBd.out HB5.out⟩
end
end Go.Proofs.YtlndkjcincflpaaGreatDoor

namespace Go.Proofs.YtlndkjcincflpaaGreatDoor
open Go.RowKit Go.Nm
set_option maxRecDepth 100000
theorem place_ex (L : List NM) (x : NM) : ∃ k b, PlaceR L x k b ∧ k ≤ L.length := by
  have key : ∀ j, j ≤ L.length → (∃ k, PlaceR L x k true ∧ k ≤ L.length) ∨ ∃ q, AtR L x j q := by
    intro j
    induction j with
    | zero => intro _; exact .inr ⟨_, AtR.begin L x⟩
    | succ j ih =>
      intro hj
      rcases ih (by omega) with h | ⟨q, hq⟩
      · exact .inl h
      · have hjl : j < L.length := by omega
        rcases cmpK_ways L[j] x with h | h | h
        · exact .inr ⟨_, hq.less hjl (by omega)⟩
        · exact .inl ⟨_, hq.hit hjl h, by omega⟩
        · exact .inr ⟨_, hq.more hjl (by omega)⟩
  rcases key L.length (Nat.le_refl _) with ⟨k, h, hk⟩ | ⟨q, hq⟩
  · exact ⟨k, true, h, hk⟩
  · exact ⟨q, false, hq.done.1, hq.done.2⟩
theorem place_one {L : List NM} {x : NM} {k k' : Nat} {b b' : Bool} (h : PlaceR L x k b) (h' : PlaceR L x k' b') : k = k' ∧ b = b' := by
  have mid : ∀ {p q : List NM} {y : NM}, y ∈ p ++ y :: q := fun {p q y} => by simp
  cases b with
  | true =>
    obtain ⟨p, q, y, rfl, rfl, hy, hp⟩ := h
    cases b' with
    | true =>
      obtain ⟨p', q', y', e, rfl, hy', hp'⟩ := h'
      refine ⟨?_, rfl⟩
      rcases Nat.lt_trichotomy p.length p'.length with hl | hl | hl
      · exfalso
        have : (p ++ y :: q)[p.length]? = some y := by simp
        rw [e, List.getElem?_append_left hl] at this
        exact hp' y (List.mem_of_getElem? this) hy
      · exact hl
      · exfalso
        have : (p' ++ y' :: q')[p'.length]? = some y' := by simp
        rw [← e, List.getElem?_append_left hl] at this
        exact hp y' (List.mem_of_getElem? this) hy'
    | false =>
      obtain ⟨_, _, _, _, h1, _⟩ := h'
      exact absurd hy (h1 y mid)
  | false =>
    obtain ⟨p, q, rfl, rfl, h1, h2, h3⟩ := h
    cases b' with
    | true =>
      obtain ⟨p', q', y', e, _, hy', _⟩ := h'
      exact absurd hy' (h1 y' (by rw [e]; exact mid))
    | false =>
      obtain ⟨p', q', e, rfl, _, h2', h3'⟩ := h'
      refine ⟨?_, rfl⟩
      rcases Nat.lt_trichotomy p.length p'.length with hl | hl | hl
      · exfalso
        cases q with
        | nil => have := congrArg List.length e; simp at this; omega
        | cons z r =>
          have : (p ++ z :: r)[p.length]? = some z := by simp
          rw [e, List.getElem?_append_left hl] at this
          exact h2' z (List.mem_of_getElem? this) (h3 z r rfl)
      · exact hl
      · exfalso
        cases q' with
        | nil => have := congrArg List.length e; simp at this; omega
        | cons z r =>
          have : (p' ++ z :: r)[p'.length]? = some z := by simp
          rw [← e, List.getElem?_append_left hl] at this
          exact h2 z (List.mem_of_getElem? this) (h3' z r rfl)
theorem place_det {L : List NM} {x : NM} {k : Nat} {b : Bool} (h : PlaceR L x k b) (hn : L.length ≤ 1000) (w : World) (p : Option Addr) (n c : Nat) (hr : Rds w p n L) :
    Calls Tryz.prog 37 #[.slice p n c, nmV x, cmpV] w fun e w' => e = .returned (.tuple #[.int .i64 (k : Nat), .bool b]) ∧ Below w.heap.size w w' :=
  (place_any L x hn w p n c hr).mono (by
    rintro e w' ⟨⟨k', b', rfl, h', _⟩, hb⟩
    obtain ⟨rfl, rfl⟩ := place_one h h'
    exact ⟨rfl, hb⟩)
theorem place_lt {L : List NM} {x : NM} {k : Nat} (h : PlaceR L x k true) : k < L.length := by
  obtain ⟨p, q, y, rfl, rfl, _⟩ := h
  simp
theorem define_any (L : List NM) (x : NM) (hz : ZN x) (w : World) (T : Tab9 w) (p : Option Addr) (n c : Nat) (h : Slc w p n c L) (hn : L.length ≤ 900) :
    ∃ er M, DefR L x er M ∧ Calls Tryz.prog 10 #[.slice p n c, nmV x] w fun e w' => OutM w.heap.size w' e M er ∧ Below w.heap.size w w' := by
  by_cases hw : wrN x = 0
  · obtain ⟨k, b, hP, hk⟩ := place_ex L x
    have C2 : ∀ u, Below w.heap.size w u → Calls Tryz.prog 37 #[.slice p n c, nmV x, cmpV] u fun e w' => e = .returned (.tuple #[.int .i64 (k : Nat), .bool b]) ∧ Below u.heap.size u w' := fun u hu => place_det hP (by omega) u p n c (h.r.below hu)
    cases b with
    | true => exact ⟨0, insP x L k true, .inr ⟨hw, k, true, hP, .inr ⟨.inl rfl, rfl, rfl⟩⟩, def_there hw hz T h hn C2 (place_lt hP)⟩
    | false =>
      by_cases hm : 32 ≤ L.length
      · exact ⟨9, [], .inr ⟨hw, k, false, hP, .inl ⟨rfl, hm, rfl, rfl⟩⟩, def_much hw hz T h hn hm C2 hk⟩
      · exact ⟨0, insP x L k false, .inr ⟨hw, k, false, hP, .inr ⟨.inr (by omega), rfl, rfl⟩⟩, def_new hw hz T h (by omega) C2 hk⟩
  · exact ⟨wrN x, [], .inl ⟨hw, rfl, rfl⟩, def_wrong hw hz T⟩
end Go.Proofs.YtlndkjcincflpaaGreatDoor
