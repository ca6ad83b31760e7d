/- Those that were opened last: cut off, their least one. -/
import Derived.Test.YtbbcnjagndfmbaaXGs
import Derived.Test.YtbbcnjagndfmbaaShelf
namespace Go.Proofs.Ytbbcnjagndfmbaa
open Go.RowKit Go.Dp
set_option maxRecDepth 100000
set_option linter.unusedVariables false
set_option linter.unusedSimpArgs false
section
variable {P : Program} {ops : Array Oper} {rest : List Oper} {o : Oper} {a : Act} {w : World} {Q : Exit → Act → World → Prop}
theorem nl_slice (hgd : o.guard = none) (ty : TypeId) (x : Operand) (lo hi mx : Option Operand) (ho : o.op = .slice ty x lo hi mx) (vx : Value) (vl vh vm : Option Value) (v : Value)
    (hx : a.eval x = vx) (hl : lo.map a.eval = vl) (hh : hi.map a.eval = vh) (hm : mx.map a.eval = vm) (hrun : (Instr.sliceAt ty vx vl vh vm).run P w = .ok v w) (h : wpList P ops Q rest (a.put o.dst v) w) : wpList P ops Q (o :: rest) a w := by
  refine wpList_plain hgd fun K hK => ?_
  unfold Oper.wp execOp
  simp only [ho, hx, hl, hh, hm, Sem.run_bind, Sem.run_pure, hrun, Result.andThen_ok]
  exact hK _ _ h
theorem exec_len {ev : Operand → Value} {x : Operand} {t : TypeId} {u v : Value} {w : World} (ho : o.op = .call { callee := .builtin .len, args := #[x], argTypes := #[t] }) (hx : ev x = u) (hrun : (Builtin.len_ #[t] o.type #[u]).run P w = .ok v w) : (execOp ev o).run P w = .ok (.value v) w := by
  unfold execOp
  simp [ho, resolve, invoke, builtin, hx, hrun, Result.andThen]
theorem op_store {t : TypeId} {x y : Operand} {p v : Value} {w' : World} {K : Act → World → Prop} (ho : o.op = .store t x y) (hx : a.eval x = p) (hy : a.eval y = v) (hrun : (Instr.storeAt t p v).run P w = .ok () w') (h : K (a.put o.dst undef) w') : Oper.wp P o a w K Q := by
  unfold Oper.wp execOp
  simp only [ho, hx, hy, Sem.run_bind, Sem.run_pure, hrun, Result.andThen_ok]
  exact h
theorem op_mapUpdate {t : TypeId} {m x y : Operand} {mv p v : Value} {w' : World} {K : Act → World → Prop} (ho : o.op = .mapUpdate t m x y) (hm : a.eval m = mv) (hx : a.eval x = p) (hy : a.eval y = v) (hrun : (Instr.mapUpdate t mv p v).run P w = .ok () w') (h : K (a.put o.dst undef) w') : Oper.wp P o a w K Q := by
  unfold Oper.wp execOp
  simp only [ho, hm, hx, hy, Sem.run_bind, Sem.run_pure, hrun, Result.andThen_ok]
  exact h
theorem exec_loadx {ev : Operand → Value} {ty : TypeId} {x : Operand} {p v : Value} {u : World} (ho : o.op = .load ty x) (hx : ev x = p) (hrun : (Instr.loadAt ty p).run P u = .ok v u) : (execOp ev o).run P u = .ok (.value v) u := by
  unfold execOp
  simp only [ho, hx, Sem.run_bind, Sem.run_pure, hrun, Result.andThen_ok]
end
theorem ld24 {u : World} {A : Addr} {v : Value} (h : u.cell? A = some v) : (Instr.loadAt 24 (.pointer (some A))).run Try.prog u = .ok v u := by
  go_simp
  try simp [h]
theorem ld36 {u : World} {A : Addr} {v : Value} (h : u.cell? A = some v) : (Instr.loadAt 36 (.pointer (some A))).run Try.prog u = .ok v u := by
  go_simp
  try simp [h]
theorem ld44 {u : World} {A : Addr} {v : Value} (h : u.cell? A = some v) : (Instr.loadAt 44 (.pointer (some A))).run Try.prog u = .ok v u := by
  go_simp
  try simp [h]
theorem sl_lo (u : World) {A : Addr} {n c k : Nat} (hk : k < n) (hn : n ≤ c) : (Instr.sliceAt 24 (.slice (some A) n c) (some (.int .i64 (k : Nat))) none none).run Try.prog u = .ok (.slice (some (A.add k)) (n - k) (c - k)) u := by
  have h24 : Try.prog.underlying 24 = some (.slice (Try.prog.elem 24)) := by kernel_rfl
  have he : Try.prog.elem 24 = 3 := by kernel_rfl
  rw [run_sliceAt_slice u 24 _ _ _ _ h24, run_slice_l u 24 (some A) n c h24 .i64 (k : Nat) (by omega) (by omega), he, Try.sizeOf3 u]
  have : ¬ c = k := by omega
  simp [sliced, Result.andThen, this]
theorem sl_hi (u : World) {p : Option Addr} {n c k : Nat} (hk : k ≤ c) : (Instr.sliceAt 24 (.slice p n c) none (some (.int .i64 (k : Nat))) none).run Try.prog u = .ok (.slice p k c) u := by
  have h24 : Try.prog.underlying 24 = some (.slice (Try.prog.elem 24)) := by kernel_rfl
  have he : Try.prog.elem 24 = 3 := by kernel_rfl
  rw [run_sliceAt_slice u 24 _ _ _ _ h24, run_slice_h u 24 p n c h24 .i64 (k : Nat) (by omega) (by omega), he, Try.sizeOf3 u]
  cases p with
  | none => simp [sliced, Result.andThen]
  | some A =>
    have : A.add 0 = A := by unfold Addr.add; split <;> simp_all
    simp [sliced, Result.andThen, this]
theorem min_list (l : List Nat) (h : l ≠ []) : ∃ m, m ∈ l ∧ (∀ x ∈ l, m ≤ x) ∧ Lib.minOf (l.map fun x : Nat => (x : Int)) = (m : Nat) := by
  have key : ∀ (l : List Nat) (z : Nat), ∃ m, (m = z ∨ m ∈ l) ∧ m ≤ z ∧ (∀ x ∈ l, m ≤ x) ∧ (l.map fun x : Nat => (x : Int)).foldl min ((z : Nat) : Int) = (m : Nat) := by
    intro l
    induction l with
    | nil => intro z; exact ⟨z, .inl rfl, Nat.le_refl _, by simp, rfl⟩
    | cons y l ih =>
      intro z
      obtain ⟨m, h1, h2, h3, h4⟩ := ih (min z y)
      refine ⟨m, ?_, by omega, ?_, ?_⟩
      · rcases h1 with rfl | h1
        · by_cases q : z ≤ y
          · left; omega
          · right; rw [Nat.min_eq_right (by omega)]; exact List.mem_cons_self ..
        · exact .inr (List.mem_cons_of_mem _ h1)
      · intro x hx
        rcases List.mem_cons.1 hx with rfl | hx
        · omega
        · exact h3 x hx
      · rw [List.map_cons, List.foldl_cons, ← h4]
        congr 1
        omega
  cases l with
  | nil => exact absurd rfl h
  | cons y l =>
    obtain ⟨m, h1, h2, h3, h4⟩ := key l y
    refine ⟨m, ?_, ?_, ?_⟩
    · rcases h1 with rfl | h1
      · exact List.mem_cons_self ..
      · exact List.mem_cons_of_mem _ h1
    · intro x hx
      rcases List.mem_cons.1 hx with rfl | hx
      · exact h2
      · exact h3 x hx
    · unfold Lib.minOf
      rw [List.map_cons, List.headD_cons, List.foldl_cons, ← h4]
      congr 1
      omega
section
variable {w0 : World} {A : Addr} {n c ga gb : Nat} {w : World} {sn : Nat → Option Nat} {op : List Nat} {gr : Nat → Nat} {cnt : Nat}
theorem GS.suf {l : List Nat} (h : GS w0 A n c ga gb w sn (op ++ l) gr cnt) (hl : l ≠ []) (hlen : op.length + l.length ≤ 1099511627776) :
    ∃ p j B j2 m, w.cell? ⟨gb + 3, 0, none⟩ = some (.slice p (op.length + l.length) j) ∧ Hid (∀ u, (Instr.sliceAt 24 (.slice p (op.length + l.length) j) (some (.int .i64 (op.length : Nat))) none none).run Try.prog u = .ok (.slice (some B) l.length j2) u) ∧
      m ∈ l ∧ (∀ x ∈ l, m ≤ x) ∧ Hid (∀ i (hi : i < l.length), w.cell? (B.add i) = some (.int .i64 (l[i] : Nat))) ∧ gb + 5 ≤ B.block ∧
      Hid (Calls Try.prog 19 #[.slice (some B) l.length j2] w fun e w' => e = .returned (.int .i64 (m : Nat)) ∧ w' = w) := by
  obtain ⟨a, j, h1, h2⟩ := h.obx
  rw [List.length_append] at h1 h2
  have hpos : 0 < l.length := List.length_pos_iff.2 hl
  obtain ⟨m, m1, m2, m3⟩ := min_list l hl
  rcases h2.2 with ⟨e, q⟩ | ⟨g, cap, cur, e, b1, b2, b3, b4, b5, b6⟩
  · omega
  · cases e
    have hc : ∀ i (hi : i < l.length), w.cell? (((⟨g, 0, none⟩ : Addr).add op.length).add i) = some (.int .i64 (l[i] : Nat)) := fun i hi => by
      rw [Go.Deep.add_add]
      refine World.ownsRow.cells h2 rfl (op.length + i) _ ?_
      show ((op ++ l).map fun x => Value.int .i64 (x : Nat))[op.length + i]? = _
      rw [List.map_append, List.getElem?_append_right (by simp), List.length_map, Nat.add_sub_cancel_left, List.getElem?_map, List.getElem?_eq_getElem hi]
      rfl
    refine ⟨_, _, (⟨g, 0, none⟩ : Addr).add op.length, j - op.length, m, cell0 h1, fun u => ?_, m1, m2, hc, by rw [Addr.add_mid]; exact b1, ?_⟩
    · rw [sl_lo u (by omega) b3, Nat.add_sub_cancel_left]
    · show Calls _ _ _ _ _
      rw [Addr.add_mid]
      have := Try.slices_Min_int g (0 + op.length) l.length (j - op.length) (l.map fun x : Nat => (x : Int)) w hpos (by simp) (by omega) (fun i hi => by
        have hi' : i < l.length := by simpa using hi
        have := hc i hi'
        rw [Addr.add_mid, Addr.add_mid] at this
        rw [this]
        simp [List.getD_eq_getElem?_getD, List.getElem?_eq_getElem hi'])
      rw [List.take_of_length_le (by simp), m3] at this
      exact this
end
end Go.Proofs.Ytbbcnjagndfmbaa
