/- SDel. -/
import Derived.Test.YtpafokmkcblcnaaGreatDoorSCopyCr
set_option linter.unusedVariables false
set_option linter.unusedSimpArgs false
namespace Go.Proofs.YtpafokmkcblcnaaGreatDoor.Sh
open Go.RowKit
set_option maxRecDepth 100000
section
variable {P : Program} {ops : Array Oper} {rest : List Oper} {o : Oper} {a : Act} {w w' : World} {Q : Exit → Act → World → Prop} {K : Act → World → Prop}
theorem wpl_slice (hgd : o.guard = none) (ty : TypeId) (x : Operand) (lo hi mx : Option Operand) (ho : o.op = .slice ty x lo hi mx) (vx : Value) (vl vh vm : Option Value) (v : Value)
    (hx : a.eval x = vx) (hl : lo.map a.eval = vl) (hh : hi.map a.eval = vh) (hm : mx.map a.eval = vm) (hrun : (Instr.sliceAt ty vx vl vh vm).run P w = .ok v w) (h : wpList P ops Q rest (a.put o.dst v) w) : wpList P ops Q (o :: rest) a w := by
  refine wpList_plain hgd fun K hK => ?_
  unfold Oper.wp execOp
  simp only [ho, hx, hl, hh, hm, Sem.run_bind, Sem.run_pure, hrun, Result.andThen_ok]
  exact hK _ _ h
theorem exec_slice {ev : Operand → Value} {ty : TypeId} {x : Operand} {lo hi mx : Option Operand} {vx v : Value} {vl vh vm : Option Value} {u : World} (ho : o.op = .slice ty x lo hi mx) (hx : ev x = vx) (hl : lo.map ev = vl) (hh : hi.map ev = vh) (hm : mx.map ev = vm)
    (hrun : (Instr.sliceAt ty vx vl vh vm).run P u = .ok v u) : (execOp ev o).run P u = .ok (.value v) u := by
  unfold execOp
  simp only [ho, hx, hl, hh, hm, Sem.run_bind, Sem.run_pure, hrun, Result.andThen_ok]
theorem op_append {s x : Operand} {t t2 : TypeId} (ho : o.op = .call { callee := .builtin .append, args := #[s, x], argTypes := #[t, t2] }) {v bv v' : Value} (hs : a.eval s = v) (hx : a.eval x = bv) (hrun : (Builtin.append_ #[t, t2] o.type #[v, bv]).run P w = .ok v' w')
    (h : K (a.put o.dst v') w') : Oper.wp P o a w K Q := by
  unfold Oper.wp
  simp [execOp, ho, resolve, invoke, builtin, hs, hx, hrun, Result.andThen]
  exact h
theorem op_copy {s x : Operand} {t t2 : TypeId} (ho : o.op = .call { callee := .builtin .copy, args := #[s, x], argTypes := #[t, t2] }) {v bv v' : Value} (hs : a.eval s = v) (hx : a.eval x = bv) (hrun : (Builtin.copy_ #[t, t2] o.type #[v, bv]).run P w = .ok v' w')
    (h : K (a.put o.dst v') w') : Oper.wp P o a w K Q := by
  unfold Oper.wp
  simp [execOp, ho, resolve, invoke, builtin, hs, hx, hrun, Result.andThen]
  exact h
end
section
variable {S t : TypeId} {sz bytes : Nat} {zv : Value}
theorem RT.elem (R : RT S t sz bytes zv) : Tryz.prog.elem S = t := by
  unfold Program.elem
  rw [R.st]
theorem RT.so (R : RT S t sz bytes zv) (w : World) : (sizeOf t).run Tryz.prog w = .ok sz w := by
  obtain ⟨i, hi, _, hs, _⟩ := R.size
  simp [sizeOf, typeInfo, hi, hs]
theorem add_at (g o k : Nat) : (⟨g, o, none⟩ : Addr).add k = ⟨g, o + k, none⟩ := by unfold Addr.add; split <;> simp_all
def cutA (g o c k sz : Nat) : Addr := if c = k then ⟨g, o, none⟩ else ⟨g, o + k * sz, none⟩
theorem sl_pre (R : RT S t sz bytes zv) (g o n c k : Nat) (hk : k ≤ c) (u : World) : (Instr.sliceAt S (.slice (some ⟨g, o, none⟩) n c) none (some (.int .i64 (k : Nat))) none).run Tryz.prog u = .ok (.slice (some ⟨g, o, none⟩) k c) u := by
  have h2 : Tryz.prog.underlying S = some (.slice (Tryz.prog.elem S)) := by rw [R.elem]; exact R.st
  rw [run_sliceAt_slice u S _ _ _ _ h2, run_slice_h u S _ n c h2 .i64 (k : Nat) (by omega) (by omega), R.elem, R.so u]
  simp [sliced, Result.andThen, add_at]
theorem sl_suf (R : RT S t sz bytes zv) (g o n c k : Nat) (hk : k ≤ n) (u : World) : (Instr.sliceAt S (.slice (some ⟨g, o, none⟩) n c) (some (.int .i64 (k : Nat))) none none).run Tryz.prog u = .ok (.slice (some (cutA g o c k sz)) (n - k) (c - k)) u := by
  have h2 : Tryz.prog.underlying S = some (.slice (Tryz.prog.elem S)) := by rw [R.elem]; exact R.st
  rw [run_sliceAt_slice u S _ _ _ _ h2, run_slice_l u S _ n c h2 .i64 (k : Nat) (by omega) (by omega), R.elem, R.so u]
  simp only [sliced, Result.andThen, Int.toNat_natCast, Option.map_some, add_at, cutA]
  split <;> rfl
theorem sl_lh (R : RT S t sz bytes zv) (g o n c l h : Nat) (hl : l ≤ h) (hh : h ≤ c) (u : World) : (Instr.sliceAt S (.slice (some ⟨g, o, none⟩) n c) (some (.int .i64 (l : Nat))) (some (.int .i64 (h : Nat))) none).run Tryz.prog u = .ok (.slice (some (cutA g o c l sz)) (h - l) (c - l)) u := by
  have h2 : Tryz.prog.underlying S = some (.slice (Tryz.prog.elem S)) := by rw [R.elem]; exact R.st
  rw [run_sliceAt_slice u S _ _ _ _ h2, run_slice_lh u S _ n c h2 .i64 .i64 (l : Nat) (h : Nat) (by omega) (by omega) (by omega), R.elem, R.so u]
  simp only [sliced, Result.andThen, Int.toNat_natCast, Option.map_some, add_at, cutA]
  split <;> rfl
theorem sl_lhm (R : RT S t sz bytes zv) (g o n c l h m : Nat) (hl : l ≤ h) (hh : h ≤ m) (hm : m ≤ c) (u : World) : (Instr.sliceAt S (.slice (some ⟨g, o, none⟩) n c) (some (.int .i64 (l : Nat))) (some (.int .i64 (h : Nat))) (some (.int .i64 (m : Nat)))).run Tryz.prog u = .ok (.slice (some (cutA g o m l sz)) (h - l) (m - l)) u := by
  have h2 : Tryz.prog.underlying S = some (.slice (Tryz.prog.elem S)) := by rw [R.elem]; exact R.st
  rw [run_sliceAt_slice u S _ _ _ _ h2, run_slice_lhm u S _ n c h2 .i64 .i64 .i64 (l : Nat) (h : Nat) (m : Nat) (by omega) (by omega) (by omega) (by omega), R.elem, R.so u]
  simp only [sliced, Result.andThen, Int.toNat_natCast, Option.map_some, add_at, cutA]
  split <;> rfl
theorem del_runs (R : RT S t sz bytes zv) {w : World} {g n i : Nat} {cur : Array Value} (hg : w.heap[g]? = some (.cells cur t (0, 0))) (hs : cur.size = n * sz) (hi : i < n) (h1 : ∀ u ∈ cur.toList, u.oneCell' = true) :
    ∃ w1 w2, (Builtin.append_ #[S, S] S #[.slice (some ⟨g, 0, none⟩) i n, .slice (some (cutA g 0 n (i + 1) sz)) (n - (i + 1)) (n - (i + 1))]).run Tryz.prog w = .ok (.slice (some ⟨g, 0, none⟩) (n - 1) n) w1 ∧
      (∀ ty, (Builtin.clear_ #[S] ty #[.slice (some (cutA g 0 n (n - 1) sz)) 1 1]).run Tryz.prog w1 = .ok (.tuple #[]) w2) ∧
      (∃ cur', w2.heap[g]? = some (.cells cur' t (0, 0)) ∧ cur'.size = n * sz ∧ cur'.toList.take ((n - 1) * sz) = cur.toList.take (i * sz) ++ cur.toList.drop ((i + 1) * sz)) ∧ w2.heap.size = w.heap.size ∧ w.grownBy w2 (some g) := by
  obtain ⟨ti, hti, _, hsz, _⟩ := R.size
  have hp := R.pos
  have e1 : (i + 1) * sz = i * sz + sz := by rw [Nat.add_mul]; omega
  have e2 : (i + 1) * sz + (n - (i + 1)) * sz = n * sz := by rw [← Nat.add_mul]; congr 1; omega
  have e3 : (n - 1) * sz + sz = n * sz := by
    have : (n - 1) * sz + 1 * sz = n * sz := by rw [← Nat.add_mul]; congr 1; omega
    omega
  have hdl : (cur.toList.drop ((i + 1) * sz)).length = (n - (i + 1)) * sz := by rw [List.length_drop, Array.length_toList, hs]; omega
  have hr := run_append_room (P := Tryz.prog) w S S t ti R.st hti g i n cur hg (cutA g 0 n (i + 1) sz) (n - (i + 1)) (n - (i + 1)) (cur.toList.drop ((i + 1) * sz)) (by rw [hdl, hsz])
    (fun j u hj => by
      have hlt := (List.getElem?_eq_some_iff.1 hj).1
      rw [hdl] at hlt
      have hne : ¬ n = i + 1 := fun e => by rw [← e, Nat.sub_self, Nat.zero_mul] at hlt; omega
      unfold cutA
      rw [if_neg hne, add_at, cell_of_row w g _ _ _ _ hg]
      rw [List.getElem?_drop] at hj
      simpa using hj)
    (fun u hu => h1 u (List.mem_of_mem_drop hu)) (by omega) (by rw [hdl, hsz, hs]; omega)
  rw [hsz, show i + (n - (i + 1)) = n - 1 by omega] at hr
  obtain ⟨X, hX⟩ : ∃ X, X = cur.toList.take (i * sz) ++ cur.toList.drop ((i + 1) * sz) ++ cur.toList.drop (i * sz + (cur.toList.drop ((i + 1) * sz)).length) := ⟨_, rfl⟩
  rw [← hX] at hr
  have hXl : X.length = n * sz := by
    rw [hX, List.length_append, List.length_append, List.length_take, hdl, List.length_drop, Array.length_toList, hs]
    omega
  have hXt : X.take ((n - 1) * sz) = cur.toList.take (i * sz) ++ cur.toList.drop ((i + 1) * sz) := by
    rw [hX]
    refine List.take_left' ?_
    rw [List.length_append, List.length_take, hdl, Array.length_toList, hs]
    omega
  obtain ⟨zs, hzl, hcl⟩ := clear_run R (w.setRow g X.toArray) 0 g ((n - 1) * sz) 1 1 X.toArray t (setRow_heap w g cur X.toArray t (0, 0) hg) (by decide) (by rw [List.size_toArray, hXl]; omega)
  have hca : (n - 1) * sz = 0 + (n - 1) * sz := by omega
  obtain ⟨Y, hY⟩ : ∃ Y, Y = (X.toArray.toList.take ((n - 1) * sz) ++ zs ++ X.toArray.toList.drop ((n - 1) * sz + zs.length)).toArray := ⟨_, rfl⟩
  rw [← hY] at hcl
  refine ⟨w.setRow g X.toArray, (w.setRow g X.toArray).setRow g Y, hr, fun ty => ?_, ⟨Y, setRow_heap _ _ _ _ _ _ (setRow_heap w g cur X.toArray t (0, 0) hg), ?_, ?_⟩, by rw [setRow_size, setRow_size], ?_⟩
  · unfold cutA
    rw [if_neg (by omega), ← hca]
    exact hcl
  · rw [hY, List.size_toArray, List.length_append, List.length_append, List.length_take, List.length_drop, List.toList_toArray, hXl, hzl]
    omega
  · rw [hY, List.toList_toArray, List.toList_toArray, List.append_assoc, List.take_append_of_le_length (by rw [List.length_take, hXl]; omega), List.take_take, Nat.min_self, hXt]
  · refine ⟨rfl, rfl, rfl, by rw [setRow_size, setRow_size]; exact Nat.le_refl _, fun k _ hk => ?_⟩
    rw [setRow_other _ _ _ _ (fun e => hk (by rw [e])), setRow_other _ _ _ _ (fun e => hk (by rw [e]))]
end
set_option maxHeartbeats 4000000 in
theorem delete_95 {w : World} {g n i : Nat} {cur : Array Value} (hg : w.heap[g]? = some (.cells cur 57 (0, 0))) (hs : cur.size = n * 3) (hi : i < n) (hn : n ≤ 1000000) (h1 : ∀ u ∈ cur.toList, u.oneCell' = true) :
    Calls Tryz.prog 95 #[.slice (some ⟨g, 0, none⟩) n n, .int .i64 (i : Nat), .int .i64 ((i + 1 : Nat) : Int)] w fun e w' => e = .returned (.slice (some ⟨g, 0, none⟩) (n - 1) n) ∧
      (∃ cur', w'.heap[g]? = some (.cells cur' 57 (0, 0)) ∧ cur'.size = n * 3 ∧ cur'.toList.take ((n - 1) * 3) = cur.toList.take (i * 3) ++ cur.toList.drop ((i + 1) * 3)) ∧ w'.heap.size = w.heap.size ∧ w.grownBy w' (some g) := by
  obtain ⟨w1, w2, hr, hc, HE⟩ := del_runs rtC (w := w.drew) hg hs hi h1
  have HEh : Hid _ := HE
  have hc := hc 0
  have RA : Hid _ := hr
  obtain ⟨ca, hca⟩ : ∃ ca, ca = cutA g 0 n (i + 1) 3 := ⟨_, rfl⟩
  obtain ⟨cb, hcb⟩ : ∃ cb, cb = cutA g 0 n (n - 1) 3 := ⟨_, rfl⟩
  have HSF : Hid (∀ u, (Instr.sliceAt 27 (.slice (some ⟨g, 0, none⟩) n n) (some (.int .i64 ((i + 1 : Nat) : Int))) none none).run Tryz.prog u = .ok (.slice (some ca) (n - (i + 1)) (n - (i + 1))) u) := fun u => by rw [hca]; exact sl_suf rtC g 0 n n (i + 1) (by omega) u
  have HSL : Hid (∀ u, (Instr.sliceAt 27 (.slice (some ⟨g, 0, none⟩) (n - 1) n) (some (.int .i64 ((n - 1 : Nat) : Int))) (some (.int .i64 (n : Nat))) none).run Tryz.prog u = .ok (.slice (some cb) 1 1) u) := fun u => by
    have := sl_lh rtC g 0 (n - 1) n (n - 1) n (by omega) (by omega) u
    rw [show n - (n - 1) = 1 by omega, ← hcb] at this
    exact this
  have HSM : Hid (∀ u, ∃ v, (Instr.sliceAt 27 (.slice (some ⟨g, 0, none⟩) n n) (some (.int .i64 (i : Nat))) (some (.int .i64 ((i + 1 : Nat) : Int))) (some (.int .i64 (n : Nat)))).run Tryz.prog u = .ok v u) := fun u => ⟨_, sl_lhm rtC g 0 n n i (i + 1) n (by omega) (by omega) (by omega) u⟩
  obtain ⟨vm, RM⟩ := HSM.out w
  have RMh : Hid _ := RM
  rw [← hca] at RA
  rw [← hcb] at hc
  obtain ⟨m, hm⟩ : ∃ m, m = i + 1 := ⟨_, rfl⟩
  rw [← hm] at RA HSF RMh HEh ⊢
  have hne : ¬ (i : Int) = (m : Int) := by omega
  obtain ⟨n1, hn1⟩ : ∃ n1, n1 = n - 1 := ⟨_, rfl⟩
  rw [← hn1] at RA HSL HEh ⊢
  have hmn : m ≤ n := by omega
  have hin : i ≤ n := by omega
  clear hg hs hr HE RM HSM hca hcb hn1 h1
  go_enter Tryz.func95, Tryz.ntmps95
  go_wp2_with (refine wpl_slice rfl 27 _ _ _ _ rfl _ _ _ _ _ rfl rfl rfl rfl RMh.out ?_; clear RMh)
  refine wp_region_d (fun u => True) (fun j => false) (by kernel_rfl) ?_
  refine wpAnyD_pured (i := 0) (v := (.slice (some ⟨g, 0, none⟩) n n)) rfl rfl (by kernel_rfl) (by kernel_rfl) (by kernel_rfl) (fun _ _ _ h => h) (by go_simp) (by intro u; go_simp) ?_
  try simp only [Act.put, List.setIfInBounds_toArray, List.set_cons_zero, List.set_cons_succ]
  refine wpAnyD_pured (i := 1) (v := (.int .i64 (i : Int))) rfl rfl (by kernel_rfl) (by kernel_rfl) (by kernel_rfl) (fun _ _ _ h => h) (by go_simp) (by intro u; go_simp) ?_
  try simp only [Act.put, List.setIfInBounds_toArray, List.set_cons_zero, List.set_cons_succ]
  refine wpAnyD_pured (i := 2) (v := (.slice (some ⟨g, 0, none⟩) i n)) rfl rfl (by kernel_rfl) (by kernel_rfl) (by kernel_rfl) (fun _ _ _ h => h) (by go_simp) (fun u => exec_slice rfl rfl rfl rfl rfl (sl_pre rtC g 0 n n i (by omega) u)) ?_
  try simp only [Act.put, List.setIfInBounds_toArray, List.set_cons_zero, List.set_cons_succ]
  refine wpAnyD_pured (i := 3) (v := (.slice (some ⟨g, 0, none⟩) n n)) rfl rfl (by kernel_rfl) (by kernel_rfl) (by kernel_rfl) (fun _ _ _ h => h) (by go_simp) (by intro u; go_simp) ?_
  try simp only [Act.put, List.setIfInBounds_toArray, List.set_cons_zero, List.set_cons_succ]
  refine wpAnyD_pured (i := 4) (v := (.int .i64 (m : Int))) rfl rfl (by kernel_rfl) (by kernel_rfl) (by kernel_rfl) (fun _ _ _ h => h) (by go_simp) (by intro u; go_simp) ?_
  try simp only [Act.put, List.setIfInBounds_toArray, List.set_cons_zero, List.set_cons_succ]
  refine wpAnyD_pured (i := 5) (v := (.slice (some ca) (n - m) (n - m))) rfl rfl (by kernel_rfl) (by kernel_rfl) (by kernel_rfl) (fun _ _ _ h => h) (by go_simp) (fun u => exec_slice rfl rfl rfl rfl rfl (HSF.out u)) ?_
  try simp only [Act.put, List.setIfInBounds_toArray, List.set_cons_zero, List.set_cons_succ]
  refine wpAnyD_one (i := 6) (by kernel_rfl) rfl ?_
  intro K' hK'
  rw [if_pos (by rfl)]
  refine op_append rfl rfl rfl RA.out ?_
  refine hK' _ _ (.inr id) ?_
  clear hK'
  try simp only [Act.put, List.setIfInBounds_toArray, List.set_cons_zero, List.set_cons_succ]
  refine wpAnyD_pured (i := 7) (v := (.slice (some ⟨g, 0, none⟩) n1 n)) rfl rfl (by kernel_rfl) (by kernel_rfl) (by kernel_rfl) (fun _ _ _ h => h) (by go_simp) (by intro u; go_simp) ?_
  try simp only [Act.put, List.setIfInBounds_toArray, List.set_cons_zero, List.set_cons_succ]
  refine wpAnyD_done (by kernel_rfl) ?_ _
  go_wp2_with (refine wpl_slice rfl 27 _ _ _ _ rfl _ _ _ _ _ rfl rfl rfl rfl (HSL.out _) ?_)
  go_ret
  exact ⟨rfl, HEh.out.1, HEh.out.2.1, ⟨HEh.out.2.2.os, HEh.out.2.2.tape, HEh.out.2.2.output, HEh.out.2.2.size, HEh.out.2.2.block⟩⟩
set_option maxHeartbeats 4000000 in
theorem delete_79 {w : World} {g n i : Nat} {cur : Array Value} (hg : w.heap[g]? = some (.cells cur 78 (0, 0))) (hs : cur.size = n * 2) (hi : i < n) (hn : n ≤ 1000000) (h1 : ∀ u ∈ cur.toList, u.oneCell' = true) :
    Calls Tryz.prog 79 #[.slice (some ⟨g, 0, none⟩) n n, .int .i64 (i : Nat), .int .i64 ((i + 1 : Nat) : Int)] w fun e w' => e = .returned (.slice (some ⟨g, 0, none⟩) (n - 1) n) ∧
      (∃ cur', w'.heap[g]? = some (.cells cur' 78 (0, 0)) ∧ cur'.size = n * 2 ∧ cur'.toList.take ((n - 1) * 2) = cur.toList.take (i * 2) ++ cur.toList.drop ((i + 1) * 2)) ∧ w'.heap.size = w.heap.size ∧ w.grownBy w' (some g) := by
  obtain ⟨w1, w2, hr, hc, HE⟩ := del_runs rtS (w := w.drew) hg hs hi h1
  have HEh : Hid _ := HE
  have hc := hc 0
  have RA : Hid _ := hr
  obtain ⟨ca, hca⟩ : ∃ ca, ca = cutA g 0 n (i + 1) 2 := ⟨_, rfl⟩
  obtain ⟨cb, hcb⟩ : ∃ cb, cb = cutA g 0 n (n - 1) 2 := ⟨_, rfl⟩
  have HSF : Hid (∀ u, (Instr.sliceAt 22 (.slice (some ⟨g, 0, none⟩) n n) (some (.int .i64 ((i + 1 : Nat) : Int))) none none).run Tryz.prog u = .ok (.slice (some ca) (n - (i + 1)) (n - (i + 1))) u) := fun u => by rw [hca]; exact sl_suf rtS g 0 n n (i + 1) (by omega) u
  have HSL : Hid (∀ u, (Instr.sliceAt 22 (.slice (some ⟨g, 0, none⟩) (n - 1) n) (some (.int .i64 ((n - 1 : Nat) : Int))) (some (.int .i64 (n : Nat))) none).run Tryz.prog u = .ok (.slice (some cb) 1 1) u) := fun u => by
    have := sl_lh rtS g 0 (n - 1) n (n - 1) n (by omega) (by omega) u
    rw [show n - (n - 1) = 1 by omega, ← hcb] at this
    exact this
  have HSM : Hid (∀ u, ∃ v, (Instr.sliceAt 22 (.slice (some ⟨g, 0, none⟩) n n) (some (.int .i64 (i : Nat))) (some (.int .i64 ((i + 1 : Nat) : Int))) (some (.int .i64 (n : Nat)))).run Tryz.prog u = .ok v u) := fun u => ⟨_, sl_lhm rtS g 0 n n i (i + 1) n (by omega) (by omega) (by omega) u⟩
  obtain ⟨vm, RM⟩ := HSM.out w
  have RMh : Hid _ := RM
  rw [← hca] at RA
  rw [← hcb] at hc
  obtain ⟨m, hm⟩ : ∃ m, m = i + 1 := ⟨_, rfl⟩
  rw [← hm] at RA HSF RMh HEh ⊢
  have hne : ¬ (i : Int) = (m : Int) := by omega
  obtain ⟨n1, hn1⟩ : ∃ n1, n1 = n - 1 := ⟨_, rfl⟩
  rw [← hn1] at RA HSL HEh ⊢
  have hmn : m ≤ n := by omega
  have hin : i ≤ n := by omega
  clear hg hs hr HE RM HSM hca hcb hn1 h1
  go_enter Tryz.func79, Tryz.ntmps79
  go_wp2_with (refine wpl_slice rfl 22 _ _ _ _ rfl _ _ _ _ _ rfl rfl rfl rfl RMh.out ?_; clear RMh)
  refine wp_region_d (fun u => True) (fun j => false) (by kernel_rfl) ?_
  refine wpAnyD_pured (i := 0) (v := (.slice (some ⟨g, 0, none⟩) n n)) rfl rfl (by kernel_rfl) (by kernel_rfl) (by kernel_rfl) (fun _ _ _ h => h) (by go_simp) (by intro u; go_simp) ?_
  try simp only [Act.put, List.setIfInBounds_toArray, List.set_cons_zero, List.set_cons_succ]
  refine wpAnyD_pured (i := 1) (v := (.int .i64 (i : Int))) rfl rfl (by kernel_rfl) (by kernel_rfl) (by kernel_rfl) (fun _ _ _ h => h) (by go_simp) (by intro u; go_simp) ?_
  try simp only [Act.put, List.setIfInBounds_toArray, List.set_cons_zero, List.set_cons_succ]
  refine wpAnyD_pured (i := 2) (v := (.slice (some ⟨g, 0, none⟩) i n)) rfl rfl (by kernel_rfl) (by kernel_rfl) (by kernel_rfl) (fun _ _ _ h => h) (by go_simp) (fun u => exec_slice rfl rfl rfl rfl rfl (sl_pre rtS g 0 n n i (by omega) u)) ?_
  try simp only [Act.put, List.setIfInBounds_toArray, List.set_cons_zero, List.set_cons_succ]
  refine wpAnyD_pured (i := 3) (v := (.slice (some ⟨g, 0, none⟩) n n)) rfl rfl (by kernel_rfl) (by kernel_rfl) (by kernel_rfl) (fun _ _ _ h => h) (by go_simp) (by intro u; go_simp) ?_
  try simp only [Act.put, List.setIfInBounds_toArray, List.set_cons_zero, List.set_cons_succ]
  refine wpAnyD_pured (i := 4) (v := (.int .i64 (m : Int))) rfl rfl (by kernel_rfl) (by kernel_rfl) (by kernel_rfl) (fun _ _ _ h => h) (by go_simp) (by intro u; go_simp) ?_
  try simp only [Act.put, List.setIfInBounds_toArray, List.set_cons_zero, List.set_cons_succ]
  refine wpAnyD_pured (i := 5) (v := (.slice (some ca) (n - m) (n - m))) rfl rfl (by kernel_rfl) (by kernel_rfl) (by kernel_rfl) (fun _ _ _ h => h) (by go_simp) (fun u => exec_slice rfl rfl rfl rfl rfl (HSF.out u)) ?_
  try simp only [Act.put, List.setIfInBounds_toArray, List.set_cons_zero, List.set_cons_succ]
  refine wpAnyD_one (i := 6) (by kernel_rfl) rfl ?_
  intro K' hK'
  rw [if_pos (by rfl)]
  refine op_append rfl rfl rfl RA.out ?_
  refine hK' _ _ (.inr id) ?_
  clear hK'
  try simp only [Act.put, List.setIfInBounds_toArray, List.set_cons_zero, List.set_cons_succ]
  refine wpAnyD_pured (i := 7) (v := (.slice (some ⟨g, 0, none⟩) n1 n)) rfl rfl (by kernel_rfl) (by kernel_rfl) (by kernel_rfl) (fun _ _ _ h => h) (by go_simp) (by intro u; go_simp) ?_
  try simp only [Act.put, List.setIfInBounds_toArray, List.set_cons_zero, List.set_cons_succ]
  refine wpAnyD_done (by kernel_rfl) ?_ _
  go_wp2_with (refine wpl_slice rfl 22 _ _ _ _ rfl _ _ _ _ _ rfl rfl rfl rfl (HSL.out _) ?_)
  go_ret
  exact ⟨rfl, HEh.out.1, HEh.out.2.1, ⟨HEh.out.2.2.os, HEh.out.2.2.tape, HEh.out.2.2.output, HEh.out.2.2.size, HEh.out.2.2.block⟩⟩
end Go.Proofs.YtpafokmkcblcnaaGreatDoor.Sh
