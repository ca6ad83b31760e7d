/- SDel, SIns. -/
import Derived.Lib.AppendZerosOnto
import Derived.Test.YtnibldnfbikipaaGreatDoorSCopyBy
set_option linter.unusedVariables false
set_option linter.unusedSimpArgs false
set_option maxHeartbeats 16000000
set_option maxRecDepth 100000
namespace Go.Proofs.YtnibldnfbikipaaGreatDoor.Sh
open Go.RowKit
section
variable {P : Program} {ops : Array Oper} {rest : List Oper} {o : Oper} {a : Act} {w w' : World} {Q : Exit → Act → World → Prop} {K : Act → World → Prop}
theorem wpl_slice (hgd : o.guard = none) (ty : TypeId) (x : Operand) (lo hi mx : Option Operand) (ho : o.op = .slice ty x lo hi mx) (vx : Value) (vl vh vm : Option Value) (v : Value)
  (hx : a.eval x = vx) (hl : lo.map a.eval = vl) (hh : hi.map a.eval = vh) (hm : mx.map a.eval = vm) (hrun : (Instr.sliceAt ty vx vl vh vm).run P w = .ok v w) (h : wpList P ops Q rest (a.put o.dst v) w) : wpList P ops Q (o :: rest) a w := by
 refine wpList_plain hgd fun K hK => ?_
 unfold Oper.wp execOp
 simp only [ho, hx, hl, hh, hm, Sem.run_bind, Sem.run_pure, hrun, Result.andThen_ok]
 exact hK _ _ h
theorem exec_slice {ev : Operand → Value} {ty : TypeId} {x : Operand} {lo hi mx : Option Operand} {vx v : Value} {vl vh vm : Option Value} {u : World} (ho : o.op = .slice ty x lo hi mx) (hx : ev x = vx) (hl : lo.map ev = vl) (hh : hi.map ev = vh) (hm : mx.map ev = vm)
  (hrun : (Instr.sliceAt ty vx vl vh vm).run P u = .ok v u) : (execOp ev o).run P u = .ok (.value v) u := by
 unfold execOp
 simp only [ho, hx, hl, hh, hm, Sem.run_bind, Sem.run_pure, hrun, Result.andThen_ok]
theorem op_append {s x : Operand} {t t2 : TypeId} (ho : o.op = .call { callee := .builtin .append, args := #[s, x], argTypes := #[t, t2] }) {v bv v' : Value} (hs : a.eval s = v) (hx : a.eval x = bv) (hrun : (Builtin.append_ #[t, t2] o.type #[v, bv]).run P w = .ok v' w')
  (h : K (a.put o.dst v') w') : Oper.wp P o a w K Q := by
 unfold Oper.wp
 simp [execOp, ho, resolve, invoke, builtin, hs, hx, hrun, Result.andThen]
 exact h
theorem op_copy {s x : Operand} {t t2 : TypeId} (ho : o.op = .call { callee := .builtin .copy, args := #[s, x], argTypes := #[t, t2] }) {v bv v' : Value} (hs : a.eval s = v) (hx : a.eval x = bv) (hrun : (Builtin.copy_ #[t, t2] o.type #[v, bv]).run P w = .ok v' w')
  (h : K (a.put o.dst v') w') : Oper.wp P o a w K Q := by
 unfold Oper.wp
 simp [execOp, ho, resolve, invoke, builtin, hs, hx, hrun, Result.andThen]
 exact h
end
section
variable {S t : TypeId} {sz bytes : Nat} {zv : Value}
theorem RT.elem (R : RT S t sz bytes zv) : Tryz.prog.elem S = t := by
 unfold Program.elem
 rw [R.st]
theorem RT.so (R : RT S t sz bytes zv) (w : World) : (sizeOf t).run Tryz.prog w = .ok sz w := by
 obtain ⟨i, hi, _, hs, _⟩ := R.size
 simp [sizeOf, typeInfo, hi, hs]
theorem add_at (g o k : Nat) : (⟨g, o, none⟩ : Addr).add k = ⟨g, o + k, none⟩ := by unfold Addr.add; split <;> simp_all
def cutA (g o c k sz : Nat) : Addr := if c = k then ⟨g, o, none⟩ else ⟨g, o + k * sz, none⟩
theorem sl_pre (R : RT S t sz bytes zv) (g o n c k : Nat) (hk : k ≤ c) (u : World) : (Instr.sliceAt S (.slice (some ⟨g, o, none⟩) n c) none (some (.int .i64 (k : Nat))) none).run Tryz.prog u = .ok (.slice (some ⟨g, o, none⟩) k c) u := by
 have h2 : Tryz.prog.underlying S = some (.slice (Tryz.prog.elem S)) := by rw [R.elem]; exact R.st
 rw [run_sliceAt_slice u S _ _ _ _ h2, run_slice_h u S _ n c h2 .i64 (k : Nat) (by omega) (by omega), R.elem, R.so u]
 simp [sliced, Result.andThen, add_at]
theorem sl_suf (R : RT S t sz bytes zv) (g o n c k : Nat) (hk : k ≤ n) (u : World) : (Instr.sliceAt S (.slice (some ⟨g, o, none⟩) n c) (some (.int .i64 (k : Nat))) none none).run Tryz.prog u = .ok (.slice (some (cutA g o c k sz)) (n - k) (c - k)) u := by
 have h2 : Tryz.prog.underlying S = some (.slice (Tryz.prog.elem S)) := by rw [R.elem]; exact R.st
 rw [run_sliceAt_slice u S _ _ _ _ h2, run_slice_l u S _ n c h2 .i64 (k : Nat) (by omega) (by omega), R.elem, R.so u]
 simp only [sliced, Result.andThen, Int.toNat_natCast, Option.map_some, add_at, cutA]
 split <;> rfl
theorem sl_lh (R : RT S t sz bytes zv) (g o n c l h : Nat) (hl : l ≤ h) (hh : h ≤ c) (u : World) : (Instr.sliceAt S (.slice (some ⟨g, o, none⟩) n c) (some (.int .i64 (l : Nat))) (some (.int .i64 (h : Nat))) none).run Tryz.prog u = .ok (.slice (some (cutA g o c l sz)) (h - l) (c - l)) u := by
 have h2 : Tryz.prog.underlying S = some (.slice (Tryz.prog.elem S)) := by rw [R.elem]; exact R.st
 rw [run_sliceAt_slice u S _ _ _ _ h2, run_slice_lh u S _ n c h2 .i64 .i64 (l : Nat) (h : Nat) (by omega) (by omega) (by omega), R.elem, R.so u]
 simp only [sliced, Result.andThen, Int.toNat_natCast, Option.map_some, add_at, cutA]
 split <;> rfl
theorem sl_lhm (R : RT S t sz bytes zv) (g o n c l h m : Nat) (hl : l ≤ h) (hh : h ≤ m) (hm : m ≤ c) (u : World) : (Instr.sliceAt S (.slice (some ⟨g, o, none⟩) n c) (some (.int .i64 (l : Nat))) (some (.int .i64 (h : Nat))) (some (.int .i64 (m : Nat)))).run Tryz.prog u = .ok (.slice (some (cutA g o m l sz)) (h - l) (m - l)) u := by
 have h2 : Tryz.prog.underlying S = some (.slice (Tryz.prog.elem S)) := by rw [R.elem]; exact R.st
 rw [run_sliceAt_slice u S _ _ _ _ h2, run_slice_lhm u S _ n c h2 .i64 .i64 .i64 (l : Nat) (h : Nat) (m : Nat) (by omega) (by omega) (by omega) (by omega), R.elem, R.so u]
 simp only [sliced, Result.andThen, Int.toNat_natCast, Option.map_some, add_at, cutA]
 split <;> rfl
theorem del_runs (R : RT S t sz bytes zv) {w : World} {g n i : Nat} {cur : Array Value} (hg : w.heap[g]? = some (.cells cur t (0, 0))) (hs : cur.size = n * sz) (hi : i < n) (h1 : ∀ u ∈ cur.toList, u.oneCell' = true) :
  ∃ w1 w2, (Builtin.append_ #[S, S] S #[.slice (some ⟨g, 0, none⟩) i n, .slice (some (cutA g 0 n (i + 1) sz)) (n - (i + 1)) (n - (i + 1))]).run Tryz.prog w = .ok (.slice (some ⟨g, 0, none⟩) (n - 1) n) w1 ∧
   (∀ ty, (Builtin.clear_ #[S] ty #[.slice (some (cutA g 0 n (n - 1) sz)) 1 1]).run Tryz.prog w1 = .ok (.tuple #[]) w2) ∧
   (∃ cur', w2.heap[g]? = some (.cells cur' t (0, 0)) ∧ cur'.size = n * sz ∧ cur'.toList.take ((n - 1) * sz) = cur.toList.take (i * sz) ++ cur.toList.drop ((i + 1) * sz)) ∧ w2.heap.size = w.heap.size ∧ w.grownBy w2 (some g) := by
 obtain ⟨ti, hti, _, hsz, _⟩ := R.size
 have hp := R.pos
 have e1 : (i + 1) * sz = i * sz + sz := by rw [Nat.add_mul]; omega
 have e2 : (i + 1) * sz + (n - (i + 1)) * sz = n * sz := by rw [← Nat.add_mul]; congr 1; omega
 have e3 : (n - 1) * sz + sz = n * sz := by
  have : (n - 1) * sz + 1 * sz = n * sz := by rw [← Nat.add_mul]; congr 1; omega
  omega
 have hdl : (cur.toList.drop ((i + 1) * sz)).length = (n - (i + 1)) * sz := by rw [List.length_drop, Array.length_toList, hs]; omega
 have hr := run_append_room (P := Tryz.prog) w S S t ti R.st hti g i n cur hg (cutA g 0 n (i + 1) sz) (n - (i + 1)) (n - (i + 1)) (cur.toList.drop ((i + 1) * sz)) (by rw [hdl, hsz])
  (fun j u hj => by
   have hlt := (List.getElem?_eq_some_iff.1 hj).1
   rw [hdl] at hlt
   have hne : ¬ n = i + 1 := fun e => by rw [← e, Nat.sub_self, Nat.zero_mul] at hlt; omega
   unfold cutA
   rw [if_neg hne, add_at, cell_of_row w g _ _ _ _ hg]
   rw [List.getElem?_drop] at hj
   simpa using hj)
  (fun u hu => h1 u (List.mem_of_mem_drop hu)) (by omega) (by rw [hdl, hsz, hs]; omega)
 rw [hsz, show i + (n - (i + 1)) = n - 1 by omega] at hr
 obtain ⟨X, hX⟩ : ∃ X, X = cur.toList.take (i * sz) ++ cur.toList.drop ((i + 1) * sz) ++ cur.toList.drop (i * sz + (cur.toList.drop ((i + 1) * sz)).length) := ⟨_, rfl⟩
 rw [← hX] at hr
 have hXl : X.length = n * sz := by
  rw [hX, List.length_append, List.length_append, List.length_take, hdl, List.length_drop, Array.length_toList, hs]
  omega
 have hXt : X.take ((n - 1) * sz) = cur.toList.take (i * sz) ++ cur.toList.drop ((i + 1) * sz) := by
  rw [hX]
  refine List.take_left' ?_
  rw [List.length_append, List.length_take, hdl, Array.length_toList, hs]
  omega
 obtain ⟨zs, hzl, hcl⟩ := clear_run R (w.setRow g X.toArray) 0 g ((n - 1) * sz) 1 1 X.toArray t (setRow_heap w g cur X.toArray t (0, 0) hg) (by decide) (by rw [List.size_toArray, hXl]; omega)
 have hca : (n - 1) * sz = 0 + (n - 1) * sz := by omega
 obtain ⟨Y, hY⟩ : ∃ Y, Y = (X.toArray.toList.take ((n - 1) * sz) ++ zs ++ X.toArray.toList.drop ((n - 1) * sz + zs.length)).toArray := ⟨_, rfl⟩
 rw [← hY] at hcl
 refine ⟨w.setRow g X.toArray, (w.setRow g X.toArray).setRow g Y, hr, fun ty => ?_, ⟨Y, setRow_heap _ _ _ _ _ _ (setRow_heap w g cur X.toArray t (0, 0) hg), ?_, ?_⟩, by rw [setRow_size, setRow_size], ?_⟩
 ·unfold cutA
  rw [if_neg (by omega), ← hca]
  exact hcl
 ·rw [hY, List.size_toArray, List.length_append, List.length_append, List.length_take, List.length_drop, List.toList_toArray, hXl, hzl]
  omega
 ·rw [hY, List.toList_toArray, List.toList_toArray, List.append_assoc, List.take_append_of_le_length (by rw [List.length_take, hXl]; omega), List.take_take, Nat.min_self, hXt]
 ·refine ⟨rfl, rfl, rfl, by rw [setRow_size, setRow_size]; exact Nat.le_refl _, fun k _ hk => ?_⟩
  rw [setRow_other _ _ _ _ (fun e => hk (by rw [e])), setRow_other _ _ _ _ (fun e => hk (by rw [e]))]
end
theorem delete_95 {w : World} {g n i : Nat} {cur : Array Value} (hg : w.heap[g]? = some (.cells cur 57 (0, 0))) (hs : cur.size = n * 3) (hi : i < n) (hn : n ≤ 1000000) (h1 : ∀ u ∈ cur.toList, u.oneCell' = true) :
  Calls Tryz.prog 95 #[.slice (some ⟨g, 0, none⟩) n n, .int .i64 (i : Nat), .int .i64 ((i + 1 : Nat) : Int)] w fun e w' => e = .returned (.slice (some ⟨g, 0, none⟩) (n - 1) n) ∧
   (∃ cur', w'.heap[g]? = some (.cells cur' 57 (0, 0)) ∧ cur'.size = n * 3 ∧ cur'.toList.take ((n - 1) * 3) = cur.toList.take (i * 3) ++ cur.toList.drop ((i + 1) * 3)) ∧ w'.heap.size = w.heap.size ∧ w.grownBy w' (some g) := by
 obtain ⟨w1, w2, hr, hc, HE⟩ := del_runs rtC (w := w.drew) hg hs hi h1
 have HEh : Hid _ := HE
 have hc := hc 0
 have RA : Hid _ := hr
 obtain ⟨ca, hca⟩ : ∃ ca, ca = cutA g 0 n (i + 1) 3 := ⟨_, rfl⟩
 obtain ⟨cb, hcb⟩ : ∃ cb, cb = cutA g 0 n (n - 1) 3 := ⟨_, rfl⟩
 have HSF : Hid (∀ u, (Instr.sliceAt 27 (.slice (some ⟨g, 0, none⟩) n n) (some (.int .i64 ((i + 1 : Nat) : Int))) none none).run Tryz.prog u = .ok (.slice (some ca) (n - (i + 1)) (n - (i + 1))) u) := fun u => by rw [hca]; exact sl_suf rtC g 0 n n (i + 1) (by omega) u
 have HSL : Hid (∀ u, (Instr.sliceAt 27 (.slice (some ⟨g, 0, none⟩) (n - 1) n) (some (.int .i64 ((n - 1 : Nat) : Int))) (some (.int .i64 (n : Nat))) none).run Tryz.prog u = .ok (.slice (some cb) 1 1) u) := fun u => by
  have := sl_lh rtC g 0 (n - 1) n (n - 1) n (by omega) (by omega) u
  rw [show n - (n - 1) = 1 by omega, ← hcb] at this
  exact this
 have HSM : Hid (∀ u, ∃ v, (Instr.sliceAt 27 (.slice (some ⟨g, 0, none⟩) n n) (some (.int .i64 (i : Nat))) (some (.int .i64 ((i + 1 : Nat) : Int))) (some (.int .i64 (n : Nat)))).run Tryz.prog u = .ok v u) := fun u => ⟨_, sl_lhm rtC g 0 n n i (i + 1) n (by omega) (by omega) (by omega) u⟩
 obtain ⟨vm, RM⟩ := HSM.out w
 have RMh : Hid _ := RM
 rw [← hca] at RA
 rw [← hcb] at hc
 obtain ⟨m, hm⟩ : ∃ m, m = i + 1 := ⟨_, rfl⟩
 rw [← hm] at RA HSF RMh HEh ⊢
 have hne : ¬ (i : Int) = (m : Int) := by omega
 obtain ⟨n1, hn1⟩ : ∃ n1, n1 = n - 1 := ⟨_, rfl⟩
 rw [← hn1] at RA HSL HEh ⊢
 have hmn : m ≤ n := by omega
 have hin : i ≤ n := by omega
 clear hg hs hr HE RM HSM hca hcb hn1 h1
 go_enter Tryz.func95, Tryz.ntmps95
 go_wp2_with (refine wpl_slice rfl 27 _ _ _ _ rfl _ _ _ _ _ rfl rfl rfl rfl RMh.out ?_; clear RMh)
 refine wp_region_d (fun u => True) (fun j => false) (by kernel_rfl) ?_
 refine dwp 0 ((.slice (some ⟨g, 0, none⟩) n n)) (h := ?_)
 refine dwp 1 ((.int .i64 (i : Int))) (h := ?_)
 refine dwp 2 ((.slice (some ⟨g, 0, none⟩) i n)) (hy := (fun u => exec_slice rfl rfl rfl rfl rfl (sl_pre rtC g 0 n n i (by omega) u))) (h := ?_)
 refine dwp 3 ((.slice (some ⟨g, 0, none⟩) n n)) (h := ?_)
 refine dwp 4 ((.int .i64 (m : Int))) (h := ?_)
 refine dwp 5 ((.slice (some ca) (n - m) (n - m))) (hy := (fun u => exec_slice rfl rfl rfl rfl rfl (HSF.out u))) (h := ?_)
 refine wpAnyD_one (i := 6) (by kernel_rfl) rfl ?_
 intro K' hK'
 rw [if_pos (by rfl)]
 refine op_append rfl rfl rfl RA.out ?_
 refine hK' _ _ (.inr id) ?_
 clear hK'
 try simp only [Act.put, List.setIfInBounds_toArray, List.set_cons_zero, List.set_cons_succ]
 refine dwp 7 ((.slice (some ⟨g, 0, none⟩) n1 n)) (h := ?_)
 refine wpAnyD_done (by kernel_rfl) ?_ _
 go_wp2_with (refine wpl_slice rfl 27 _ _ _ _ rfl _ _ _ _ _ rfl rfl rfl rfl (HSL.out _) ?_)
 go_ret
 exact ⟨rfl, HEh.out.1, HEh.out.2.1, ⟨HEh.out.2.2.os, HEh.out.2.2.tape, HEh.out.2.2.output, HEh.out.2.2.size, HEh.out.2.2.block⟩⟩
theorem delete_79 {w : World} {g n i : Nat} {cur : Array Value} (hg : w.heap[g]? = some (.cells cur 78 (0, 0))) (hs : cur.size = n * 2) (hi : i < n) (hn : n ≤ 1000000) (h1 : ∀ u ∈ cur.toList, u.oneCell' = true) :
  Calls Tryz.prog 79 #[.slice (some ⟨g, 0, none⟩) n n, .int .i64 (i : Nat), .int .i64 ((i + 1 : Nat) : Int)] w fun e w' => e = .returned (.slice (some ⟨g, 0, none⟩) (n - 1) n) ∧
   (∃ cur', w'.heap[g]? = some (.cells cur' 78 (0, 0)) ∧ cur'.size = n * 2 ∧ cur'.toList.take ((n - 1) * 2) = cur.toList.take (i * 2) ++ cur.toList.drop ((i + 1) * 2)) ∧ w'.heap.size = w.heap.size ∧ w.grownBy w' (some g) := by
 obtain ⟨w1, w2, hr, hc, HE⟩ := del_runs rtS (w := w.drew) hg hs hi h1
 have HEh : Hid _ := HE
 have hc := hc 0
 have RA : Hid _ := hr
 obtain ⟨ca, hca⟩ : ∃ ca, ca = cutA g 0 n (i + 1) 2 := ⟨_, rfl⟩
 obtain ⟨cb, hcb⟩ : ∃ cb, cb = cutA g 0 n (n - 1) 2 := ⟨_, rfl⟩
 have HSF : Hid (∀ u, (Instr.sliceAt 22 (.slice (some ⟨g, 0, none⟩) n n) (some (.int .i64 ((i + 1 : Nat) : Int))) none none).run Tryz.prog u = .ok (.slice (some ca) (n - (i + 1)) (n - (i + 1))) u) := fun u => by rw [hca]; exact sl_suf rtS g 0 n n (i + 1) (by omega) u
 have HSL : Hid (∀ u, (Instr.sliceAt 22 (.slice (some ⟨g, 0, none⟩) (n - 1) n) (some (.int .i64 ((n - 1 : Nat) : Int))) (some (.int .i64 (n : Nat))) none).run Tryz.prog u = .ok (.slice (some cb) 1 1) u) := fun u => by
  have := sl_lh rtS g 0 (n - 1) n (n - 1) n (by omega) (by omega) u
  rw [show n - (n - 1) = 1 by omega, ← hcb] at this
  exact this
 have HSM : Hid (∀ u, ∃ v, (Instr.sliceAt 22 (.slice (some ⟨g, 0, none⟩) n n) (some (.int .i64 (i : Nat))) (some (.int .i64 ((i + 1 : Nat) : Int))) (some (.int .i64 (n : Nat)))).run Tryz.prog u = .ok v u) := fun u => ⟨_, sl_lhm rtS g 0 n n i (i + 1) n (by omega) (by omega) (by omega) u⟩
 obtain ⟨vm, RM⟩ := HSM.out w
 have RMh : Hid _ := RM
 rw [← hca] at RA
 rw [← hcb] at hc
 obtain ⟨m, hm⟩ : ∃ m, m = i + 1 := ⟨_, rfl⟩
 rw [← hm] at RA HSF RMh HEh ⊢
 have hne : ¬ (i : Int) = (m : Int) := by omega
 obtain ⟨n1, hn1⟩ : ∃ n1, n1 = n - 1 := ⟨_, rfl⟩
 rw [← hn1] at RA HSL HEh ⊢
 have hmn : m ≤ n := by omega
 have hin : i ≤ n := by omega
 clear hg hs hr HE RM HSM hca hcb hn1 h1
 go_enter Tryz.func79, Tryz.ntmps79
 go_wp2_with (refine wpl_slice rfl 22 _ _ _ _ rfl _ _ _ _ _ rfl rfl rfl rfl RMh.out ?_; clear RMh)
 refine wp_region_d (fun u => True) (fun j => false) (by kernel_rfl) ?_
 refine dwp 0 ((.slice (some ⟨g, 0, none⟩) n n)) (h := ?_)
 refine dwp 1 ((.int .i64 (i : Int))) (h := ?_)
 refine dwp 2 ((.slice (some ⟨g, 0, none⟩) i n)) (hy := (fun u => exec_slice rfl rfl rfl rfl rfl (sl_pre rtS g 0 n n i (by omega) u))) (h := ?_)
 refine dwp 3 ((.slice (some ⟨g, 0, none⟩) n n)) (h := ?_)
 refine dwp 4 ((.int .i64 (m : Int))) (h := ?_)
 refine dwp 5 ((.slice (some ca) (n - m) (n - m))) (hy := (fun u => exec_slice rfl rfl rfl rfl rfl (HSF.out u))) (h := ?_)
 refine wpAnyD_one (i := 6) (by kernel_rfl) rfl ?_
 intro K' hK'
 rw [if_pos (by rfl)]
 refine op_append rfl rfl rfl RA.out ?_
 refine hK' _ _ (.inr id) ?_
 clear hK'
 try simp only [Act.put, List.setIfInBounds_toArray, List.set_cons_zero, List.set_cons_succ]
 refine dwp 7 ((.slice (some ⟨g, 0, none⟩) n1 n)) (h := ?_)
 refine wpAnyD_done (by kernel_rfl) ?_ _
 go_wp2_with (refine wpl_slice rfl 22 _ _ _ _ rfl _ _ _ _ _ rfl rfl rfl rfl (HSL.out _) ?_)
 go_ret
 exact ⟨rfl, HEh.out.1, HEh.out.2.1, ⟨HEh.out.2.2.os, HEh.out.2.2.tape, HEh.out.2.2.output, HEh.out.2.2.size, HEh.out.2.2.block⟩⟩
section
variable {S t : TypeId} {sz bytes : Nat} {zv : Value}
theorem owns_new {w : World} {base g n : Nat} {xs : List Value} (hg : w.heap[g]? = some (.cells xs.toArray t (0, 0))) (hl : xs.length = n * sz) (hb : base ≤ g) (hn : n ≤ maxLen) : w.ownsRow base t sz (newS g n) n xs :=
 ⟨hl, .inr ⟨g, n, xs.toArray, rfl, hb, hg, Nat.le_refl _, hn, by rw [List.size_toArray]; exact hl, by rw [List.toList_toArray]; exact List.take_of_length_le (by omega)⟩⟩
theorem ins_end (R : RT S t sz bytes zv) {w : World} {base g h n : Nat} {xs es : List Value} {z : Nat × Nat} (hg : w.heap[g]? = some (.cells xs.toArray t (0, 0))) (hl : xs.length = n * sz) (hb : base ≤ g) (hn : n ≤ 1000) (hby : bytes ≤ 100) (hh : w.heap[h]? = some (.cells es.toArray t z)) (hel : es.length = sz) (h1 : ∀ u ∈ es, u.oneCell' = true) :
  ∃ v' w', (Builtin.append_ #[S, S] S #[newS g n, .slice (some ⟨h, 0, none⟩) 1 1]).run Tryz.prog w = .ok v' w' ∧ w'.ownsRow base t sz v' (n + 1) (xs ++ es) ∧ w.grownBy w' (some g) := by
 obtain ⟨ti, hti, hz, hsz, hbb⟩ := R.size
 obtain ⟨v', w', r1, o1, g1, _, _⟩ := run_append_own_at w base S S t ti zv sz bytes R.st hti hz hsz hbb R.zs R.pos (newS g n) n xs (owns_new hg hl hb (le_maxLen hn)) ⟨h, 0, none⟩ 1 1 es (by omega)
  (fun j u hj => by rw [add_at, cell_of_row w h _ _ _ _ hh, Nat.zero_add, ← hj]; simp) h1 (by unfold maxLen; omega) (by have : (n + 1) * bytes ≤ 1001 * 100 := Nat.mul_le_mul (by omega) hby; omega) (Nat.le_trans hb (Nat.le_of_lt (blk_lt hg)))
 exact ⟨v', w', r1, o1, g1⟩
theorem ins_mid (R : RT S t sz bytes zv) (h3 : Tryz.prog.underlying 3 = some (.int .i64)) {w : World} {base g h n i : Nat} {xs es : List Value} {z : Nat × Nat} (hg : w.heap[g]? = some (.cells xs.toArray t (0, 0))) (hl : xs.length = n * sz) (hb : base ≤ g) (hn : n ≤ 1000) (hby : bytes ≤ 100) (hi : i < n) (hh : w.heap[h]? = some (.cells es.toArray t z)) (hel : es.length = sz) (h1 : ∀ u ∈ es, u.oneCell' = true) (h1x : ∀ u ∈ xs, u.oneCell' = true) :
  ∃ (G : Nat) (W1 W2 W3 : World), n + 1 ≤ G ∧ G ≤ 9223372036854775807 ∧
   (∀ ty, (Builtin.append_ #[S, 3] ty #[.slice (some ⟨g, 0, none⟩) i n, .int .i64 ((n + 1 - i : Nat) : Int)]).run Tryz.prog w = .ok (.slice (some ⟨w.heap.size, 0, none⟩) (n + 1) G) W1) ∧
   (∀ ty dc, (Builtin.copy_ #[S, S] ty #[.slice (some ⟨w.heap.size, i * sz, none⟩) (n + 1 - i) dc, .slice (some ⟨h, 0, none⟩) 1 1]).run Tryz.prog W1 = .ok (goInt 1) W2) ∧
   (∀ ty dc sc, (Builtin.copy_ #[S, S] ty #[.slice (some ⟨w.heap.size, (i + 1) * sz, none⟩) (n - i) dc, .slice (some ⟨g, i * sz, none⟩) (n - i) sc]).run Tryz.prog W2.drew = .ok (goInt (n - i : Nat)) W3) ∧
   W3.ownsRow base t sz (.slice (some ⟨w.heap.size, 0, none⟩) (n + 1) G) (n + 1) (xs.take (i * sz) ++ es ++ xs.drop (i * sz)) ∧ w.grownBy W3 (some g) := by
 obtain ⟨ti, hti, hz, hsz, hbb⟩ := R.size
 have hp := R.pos
 have hgl := blk_lt hg
 have hhl := blk_lt hh
 have hbig : (n + 1) * bytes ≤ 140737488355328 := by have : (n + 1) * bytes ≤ 1001 * 100 := Nat.mul_le_mul (by omega) hby; omega
 have e1 : (i + 1) * sz = i * sz + sz := by rw [Nat.add_mul]; omega
 have e2 : i * sz + (n - i) * sz = n * sz := by rw [← Nat.add_mul]; congr 1; omega
 have e3 : (n + 1) * sz = n * sz + sz := by rw [Nat.add_mul]; omega
 have e4 : (n + 1 - i) * sz + i * sz = (n + 1) * sz := by rw [← Nat.add_mul]; congr 1; omega
 have hold : (Builtin.firstCells ti.size i (.slice (some ⟨g, 0, none⟩) i n)).run Tryz.prog w.drew = .ok (xs.take (i * sz)).toArray w.drew := by
  refine run_firstCells_some w.drew ti.size i ⟨g, 0, none⟩ i n (xs.take (i * sz)) (by rw [hsz, List.length_take]; omega) fun j v hj => ?_
  rw [add_at, cell_of_row w.drew g _ _ _ _ hg, Nat.zero_add]
  rw [List.getElem?_take] at hj
  split at hj
  ·simpa using hj
  ·cases hj
 have hbq : (n + 1 - i) * ti.bytes ≤ 281474976710656 := by
  rw [hbb]
  have : (n + 1 - i) * bytes ≤ (n + 1) * bytes := Nat.mul_le_mul_right _ (by omega)
  omega
 have hra : ∀ ty, _ := fun ty => Lib.run_append_grow_zeros (P := Tryz.prog) w S 3 ty t ti zv .i64 .i64 R.st h3 hti hz (some ⟨g, 0, none⟩) i n (xs.take (i * sz)) hold (n + 1 - i) (by omega) (by omega) (by omega) (by omega) hbq (by rw [hbb, show i + (n + 1 - i) = n + 1 by omega]; exact growslice_fits (by omega) hbig)
 rw [show i + (n + 1 - i) = n + 1 by omega] at hra
 obtain ⟨G, hG⟩ : ∃ G, G = grownCap w (n + 1) n t := ⟨_, rfl⟩
 rw [← hG] at hra
 have hGn : n + 1 ≤ G := by rw [hG]; exact grownCap_ge w _ _ _
 have hGm : G ≤ maxLen := by rw [hG]; exact grownCap_le_maxLen w (n + 1) n t (by unfold maxLen; omega)
 obtain ⟨ROW, hROW⟩ : ∃ ROW : Array Value, ROW = (xs.take (i * sz)).toArray ++ Builtin.zeroCells zv.cells (n + 1 - i) ++ Builtin.zeroCells zv.cells (G - (n + 1)) := ⟨_, rfl⟩
 rw [← hROW] at hra
 have hRl : ROW.size = G * sz := by
  rw [hROW, Array.size_append, Array.size_append, size_zeroCells, size_zeroCells, R.zs, List.size_toArray, List.length_take]
  have e5 : (G - (n + 1)) * sz + (n + 1) * sz = G * sz := by rw [← Nat.add_mul]; congr 1; omega
  omega
 have hRt : ROW.toList.take (i * sz) = xs.take (i * sz) := by
  rw [hROW, Array.toList_append, Array.toList_append, List.append_assoc, List.take_append_of_le_length (by rw [List.toList_toArray, List.length_take]; omega), List.toList_toArray, List.take_take, Nat.min_self]
 have hGs : (n + 1) * sz ≤ G * sz := Nat.mul_le_mul_right _ hGn
 obtain ⟨W1, hW1⟩ : ∃ W1, W1 = w.drew.alloc (.cells ROW t) := ⟨_, rfl⟩
 rw [← hW1] at hra
 have g1 : W1.heap[w.heap.size]? = some (.cells ROW t (0, 0)) := by rw [hW1]; exact heap_alloc_new w.drew _
 have old1 : ∀ k, k < w.heap.size → W1.heap[k]? = w.heap[k]? := fun k hk => by rw [hW1]; exact Below.heap_alloc w.drew _ k hk
 obtain ⟨Y1, hY1⟩ : ∃ Y1 : List Value, Y1 = ROW.toList.take (i * sz) ++ es ++ ROW.toList.drop (i * sz + es.length) := ⟨_, rfl⟩
 have hY1l : Y1.length = G * sz := by
  rw [hY1, List.length_append, List.length_append, List.length_take, List.length_drop, Array.length_toList, hRl]
  omega
 have hc1 : ∀ ty dc, (Builtin.copy_ #[S, S] ty #[.slice (some ⟨w.heap.size, i * sz, none⟩) (n + 1 - i) dc, .slice (some ⟨h, 0, none⟩) 1 1]).run Tryz.prog W1 = .ok (goInt 1) (W1.setRow w.heap.size Y1.toArray) := fun ty dc => by
  have hmin : Nat.min 1 (n + 1 - i) = 1 := Nat.min_eq_left (by omega)
  have := copy_run R W1 ty w.heap.size (i * sz) (n + 1 - i) dc ⟨h, 0, none⟩ 1 1 ROW t es g1 (by rw [hmin]; omega) (fun j v hj => by rw [add_at, cell_of_row W1 h _ _ _ _ ((old1 h hhl).trans hh), Nat.zero_add, ← hj]; simp) (by rw [hRl]; omega) h1
  rw [hmin, ← hY1] at this
  exact this
 have g2 : (W1.setRow w.heap.size Y1.toArray).drew.heap[w.heap.size]? = some (.cells Y1.toArray t (0, 0)) := setRow_heap _ _ _ _ _ _ g1
 have old2 : ∀ k, k < w.heap.size → (W1.setRow w.heap.size Y1.toArray).drew.heap[k]? = w.heap[k]? := fun k hk => (setRow_other _ _ _ _ (by omega)).trans (old1 k hk)
 obtain ⟨Y2, hY2⟩ : ∃ Y2 : List Value, Y2 = Y1.toArray.toList.take ((i + 1) * sz) ++ xs.drop (i * sz) ++ Y1.toArray.toList.drop ((i + 1) * sz + (xs.drop (i * sz)).length) := ⟨_, rfl⟩
 have hdl : (xs.drop (i * sz)).length = (n - i) * sz := by rw [List.length_drop, hl]; omega
 have hY2l : Y2.length = G * sz := by
  rw [hY2, List.length_append, List.length_append, List.length_take, hdl, List.length_drop, List.toList_toArray, hY1l]
  omega
 have hc2 : ∀ ty dc sc, (Builtin.copy_ #[S, S] ty #[.slice (some ⟨w.heap.size, (i + 1) * sz, none⟩) (n - i) dc, .slice (some ⟨g, i * sz, none⟩) (n - i) sc]).run Tryz.prog (W1.setRow w.heap.size Y1.toArray).drew = .ok (goInt (n - i : Nat)) ((W1.setRow w.heap.size Y1.toArray).drew.setRow w.heap.size Y2.toArray) := fun ty dc sc => by
  have hmin : Nat.min (n - i) (n - i) = n - i := Nat.min_self _
  have := copy_run R (W1.setRow w.heap.size Y1.toArray).drew ty w.heap.size ((i + 1) * sz) (n - i) dc ⟨g, i * sz, none⟩ (n - i) sc Y1.toArray t (xs.drop (i * sz)) g2 (by rw [hmin, hdl]) (fun j v hj => by
   rw [add_at, cell_of_row _ g _ _ _ _ ((old2 g hgl).trans hg)]
   rw [List.getElem?_drop] at hj
   simpa using hj) (by rw [List.size_toArray, hY1l, hdl]; omega) (fun u hu => h1x u (List.mem_of_mem_drop hu))
  rw [hmin, ← hY2] at this
  exact this
 refine ⟨G, W1, _, _, hGn, by unfold maxLen at hGm; omega, hra, hc1, hc2, ⟨?_, .inr ⟨w.heap.size, G, Y2.toArray, rfl, by omega, setRow_heap _ _ _ _ _ _ g2, hGn, hGm, by rw [List.size_toArray, hY2l], ?_⟩⟩, ⟨by rw [hW1]; rfl, by rw [hW1]; rfl, by rw [hW1]; rfl, ?_, fun k hk hne => ?_⟩⟩
 ·rw [List.length_append, List.length_append, List.length_take, hdl, hel]
  omega
 ·have hA : Y1.take ((i + 1) * sz) = xs.take (i * sz) ++ es := by
   rw [hY1, hRt]
   refine List.take_left' ?_
   rw [List.length_append, List.length_take]
   omega
  rw [List.toList_toArray, hY2, List.toList_toArray, hA]
  refine List.take_left' ?_
  rw [List.length_append, List.length_append, List.length_take, hdl]
  omega
 ·rw [setRow_size]
  show _ ≤ (W1.setRow w.heap.size Y1.toArray).heap.size
  rw [setRow_size, hW1]
  show _ ≤ (w.drew.alloc _).heap.size
  simp
 ·rw [setRow_other _ _ _ _ (by omega)]
  exact old2 k hk
end
theorem insert_96 {w : World} {base g h n i : Nat} {xs es : List Value} {z : Nat × Nat} (hg : w.heap[g]? = some (.cells xs.toArray 57 (0, 0))) (hl : xs.length = n * 3) (hb : base ≤ g) (hn : n ≤ 1000) (hi : i ≤ n) (hh : w.heap[h]? = some (.cells es.toArray 57 z)) (hel : es.length = 3) (h1 : ∀ u ∈ es, u.oneCell' = true) (h1x : ∀ u ∈ xs, u.oneCell' = true) :
  Calls Tryz.prog 96 #[.slice (some ⟨g, 0, none⟩) n n, .int .i64 (i : Nat), .slice (some ⟨h, 0, none⟩) 1 1] w fun e w' => (∃ v', e = .returned v' ∧ w'.ownsRow base 57 3 v' (n + 1) (xs.take (i * 3) ++ es ++ xs.drop (i * 3))) ∧ w.grownBy w' (some g) := by
 have RS1 : Hid _ := sl_suf rtC g 0 n n i hi w
 obtain ⟨ca, hca⟩ : ∃ ca, ca = cutA g 0 n i 3 := ⟨_, rfl⟩
 rw [← hca] at RS1
 by_cases he : i = n
 ·subst he
  obtain ⟨v', w', RA, HO, HG⟩ := ins_end rtC hg hl hb hn (by decide) hh hel h1
  rw [show xs.take (i * 3) = xs from List.take_of_length_le (by omega), show xs.drop (i * 3) = [] from List.drop_of_length_le (by omega), List.append_nil]
  have RAh : Hid _ := RA
  have HOh : Hid _ := HO
  have HGh : Hid _ := HG
  clear hg hl hh hel h1 h1x RA HO HG hca
  go_enter Tryz.func96, Tryz.ntmps96
  go_wp2_with (first
   | (refine wpl_slice rfl 27 _ _ _ _ rfl _ _ _ _ _ rfl rfl rfl rfl RS1.out ?_; clear RS1)
   | (at_builtin; refine wpl_append rfl _ _ 27 27 rfl _ _ _ _ rfl rfl RAh.out ?_; clear RAh))
  go_ret
  exact ⟨⟨_, rfl, HOh.out⟩, HGh.out⟩
 ·have hlt : i < n := by omega
  obtain ⟨G, W1, W2, W3, hGn, hG63, RA, RC1, RC2, HO, HG⟩ := ins_mid rtC Tryz.underlying3 hg hl hb hn (by decide) hlt hh hel h1 h1x
  have RA := RA 27
  have HOh : Hid _ := HO
  have HGh : Hid _ := HG
  obtain ⟨gN, hgN⟩ : ∃ gN, gN = w.heap.size := ⟨_, rfl⟩
  rw [← hgN] at RA RC1 RC2 HOh
  obtain ⟨n1, hn1⟩ : ∃ n1, n1 = n + 1 := ⟨_, rfl⟩
  obtain ⟨i1, hi1⟩ : ∃ i1, i1 = i + 1 := ⟨_, rfl⟩
  have HS2 : Hid (∀ u, (Instr.sliceAt 27 (.slice (some ⟨gN, 0, none⟩) n1 G) (some (.int .i64 (i1 : Nat))) none none).run Tryz.prog u = .ok (.slice (some ⟨gN, i1 * 3, none⟩) (n - i) (G - i1)) u) := fun u => by
   have := sl_suf rtC gN 0 n1 G i1 (by omega) u
   unfold cutA at this
   rw [if_neg (by omega), Nat.zero_add, show n1 - i1 = n - i by omega] at this
   exact this
  have HS3 : Hid (∀ u, (Instr.sliceAt 27 (.slice (some ⟨g, 0, none⟩) n n) (some (.int .i64 (i : Nat))) none none).run Tryz.prog u = .ok (.slice (some ⟨g, i * 3, none⟩) (n - i) (n - i)) u) := fun u => by
   have := sl_suf rtC g 0 n n i (by omega) u
   unfold cutA at this
   rw [if_neg (by omega), Nat.zero_add] at this
   exact this
  have HS4 : Hid (∀ u, (Instr.sliceAt 27 (.slice (some ⟨gN, 0, none⟩) n1 G) (some (.int .i64 (i : Nat))) none none).run Tryz.prog u = .ok (.slice (some ⟨gN, i * 3, none⟩) (n1 - i) (G - i)) u) := fun u => by
   have := sl_suf rtC gN 0 n1 G i (by omega) u
   unfold cutA at this
   rw [if_neg (by omega), Nat.zero_add] at this
   exact this
  have RP : Hid _ := sl_pre rtC g 0 n n i hi w
  have e1 : (n : Int) + 1 = (n1 : Int) := by omega
  have e2 : IntKind.i64.wrap (n1 : Int) = (n1 : Int) := by rw [IntKind.wrap_i64]; omega
  have e3 : (n1 : Int) - (i : Int) = ((n1 - i : Nat) : Int) := by omega
  have e4 : IntKind.i64.wrap ((n1 - i : Nat) : Int) = ((n1 - i : Nat) : Int) := by rw [IntKind.wrap_i64]; omega
  have e5 : (i : Int) + 1 = (i1 : Int) := by omega
  have e6 : IntKind.i64.wrap (i1 : Int) = (i1 : Int) := by rw [IntKind.wrap_i64]; omega
  have e7 : (n : Int) < (n1 : Int) := by omega
  have e8 : ¬ (i : Int) = (n : Int) := by omega
  rw [← hn1] at RA RC1 HOh hGn ⊢
  rw [← hi1] at RC2
  obtain ⟨q, hq⟩ : ∃ q, q = n1 - i := ⟨_, rfl⟩
  rw [← hq] at RA RC1 e3 e4 HS4
  have RAh : Hid _ := RA
  have RC1q := RC1 3 (G - i)
  have RC2 : Hid _ := RC2
  clear hg hl hh hel h1 h1x RA RC1 HO HG hca he hn1 hi1 hq hgN
  go_enter Tryz.func96, Tryz.ntmps96
  go_wp2_with (first
   | (refine wpl_slice rfl 27 _ _ _ _ rfl _ _ _ _ _ rfl rfl rfl rfl RS1.out ?_; clear RS1)
   | (refine wpl_slice rfl 27 _ _ _ _ rfl _ _ _ _ _ rfl rfl rfl rfl RP.out ?_; clear RP)
   | (at_builtin; refine wpl_append rfl _ _ 27 3 rfl _ _ _ _ rfl rfl RAh.out ?_; clear RAh)
   | (refine wpl_slice rfl 27 _ _ _ _ rfl _ _ _ _ _ rfl rfl rfl rfl (HS4.out _) ?_; clear HS4))
  refine wp_region_d (fun u => True) (fun j => false) (by kernel_rfl) ?_
  refine dwp 0 ((.slice (some ⟨gN, 0, none⟩) n1 G)) (h := ?_)
  refine dwp 1 ((.int .i64 (i : Int))) (h := ?_)
  refine dwp 2 ((.int .i64 1)) (h := ?_)
  refine dwp 3 ((.int .i64 (i1 : Int))) (h := ?_)
  refine dwp 4 ((.slice (some ⟨gN, i1 * 3, none⟩) (n - i) (G - i1))) (hy := (fun u => exec_slice rfl rfl rfl rfl rfl (HS2.out u))) (h := ?_)
  refine dwp 5 ((.slice (some ⟨g, 0, none⟩) n n)) (h := ?_)
  refine dwp 6 ((.int .i64 (i : Int))) (h := ?_)
  refine dwp 7 ((.slice (some ⟨g, i * 3, none⟩) (n - i) (n - i))) (hy := (fun u => exec_slice rfl rfl rfl rfl rfl (HS3.out u))) (h := ?_)
  refine wpAnyD_one (i := 8) (by kernel_rfl) rfl ?_
  intro K' hK'
  rw [if_pos (by rfl)]
  refine op_copy rfl rfl rfl (RC2.out _ _ _) ?_
  refine hK' _ _ (.inr id) ?_
  clear hK'
  try simp only [Act.put, List.setIfInBounds_toArray, List.set_cons_zero, List.set_cons_succ]
  refine wpAnyD_done (by kernel_rfl) ?_ _
  go_wp2
  go_ret
  exact ⟨⟨_, rfl, HOh.out⟩, HGh.out⟩
end Go.Proofs.YtnibldnfbikipaaGreatDoor.Sh
