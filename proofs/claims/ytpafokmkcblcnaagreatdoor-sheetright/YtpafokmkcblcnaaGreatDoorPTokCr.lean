/- TNext, TSeq, TSame, BPure, PTok. -/
import Derived.Test.YtpafokmkcblcnaaGreatDoorTText2Cr
import Derived.Test.YtpafokmkcblcnaaGreatDoorVDrawCr
import Derived.Lib.Replace
import Derived.Lib.IndexBytes
import Derived.Lib.SplitLaws
set_option linter.unusedVariables false
set_option linter.unusedSimpArgs false
namespace Go.Proofs.YtpafokmkcblcnaaGreatDoor
open Go.RowKit
set_option maxRecDepth 100000
def AnsE (W : World) (b : Nat) (w : World) (o : Option (Tk.Tok × List UInt8)) (e : Ending) (w' : World) : Prop :=
  ∃ (t : TT) (ok : Bool) (m : List UInt8), e = .returned (.tuple #[.agg (tcs t.k t.n t.s t.b t.h t.r t.c t.fr t.fc), .bool ok]) ∧ St W b m w w' ∧ ∀ v v', St W b m v v' → Ans W b v o (.returned (.tuple #[.agg (tcs t.k t.n t.s t.b t.h t.r t.c t.fr t.fc), .bool ok])) v'
theorem Ans.e {W : World} {b : Nat} {w : World} {o : Option (Tk.Tok × List UInt8)} {e : Ending} {w' : World} (h : Ans W b w o e w') : AnsE W b w o e w' := by
  rcases o with _ | ⟨t, m⟩
  · obtain ⟨⟨t, rfl⟩, m, hs⟩ := h
    exact ⟨t, false, m, rfl, hs, fun v v' hv => ⟨⟨t, rfl⟩, m, hv⟩⟩
  · obtain ⟨rfl, hs⟩ := h
    exact ⟨tk t, true, m, rfl, hs, fun v v' hv => ⟨rfl, hv⟩⟩
theorem e13 : ∀ args u, (callFunc 149 args).run Tryz.prog u = .ok (.enter 149 args) u := enters_of Tryz.func149 (by kernel_rfl) rfl
theorem eM (c : UInt8) : ∀ args u, (callFunc (mthF c) args).run Tryz.prog u = .ok (.enter (mthF c) args) u := by
  unfold mthF
  split
  · exact enters_of Tryz.func188 (by kernel_rfl) rfl
  · split
    · exact enters_of Tryz.func189 (by kernel_rfl) rfl
    · split
      · exact enters_of Tryz.func190 (by kernel_rfl) rfl
      · split
        · exact enters_of Tryz.func192 (by kernel_rfl) rfl
        · exact enters_of Tryz.func193 (by kernel_rfl) rfl
theorem meth_any {W w : World} {b : Nat} {c : UInt8} {r : List UInt8} (X : LX W b (c :: r) w) (hl : (c :: r).length ≤ 255) :
    Calls Tryz.prog (mthF c) #[.pointer (some ⟨b, 0, none⟩)] w (Ans W b w (Tk.one gnF trB pnF (c :: r))) := by
  unfold mthF Tk.one
  simp only
  by_cases hd : Ad.isD c = true
  · rw [if_pos hd, if_pos hd]
    exact number_any X hl
  rw [if_neg hd, if_neg hd]
  by_cases h34 : c = 34
  · rw [if_pos h34, if_pos h34]
    subst h34
    exact text_any X hl
  rw [if_neg h34, if_neg h34]
  by_cases h35 : c = 35
  · rw [if_pos h35, if_pos h35]
    exact fault_any X
  rw [if_neg h35, if_neg h35]
  by_cases hn : c = 91 ∨ c = 36 ∨ Ad.isL c = true
  · rw [if_pos hn, if_pos hn]
    exact name_any X hl
  rw [if_neg hn, if_neg hn]
  exact operator_any X
set_option maxHeartbeats 4000000 in
theorem next_core {W w : World} {b k n : Nat} {l : List UInt8} {A : ByteArray} {o : Option (Tk.Tok × List UInt8)} (X : LX W b l w) (hA : A = ba l) (hz : 0 < A.size) (hn : (A[0].toNat : Int) = (n : Int)) (h8 : n < 256)
    (hE : ∀ args u, (callFunc k args).run Tryz.prog u = .ok (.enter k args) u)
    (SG : ∀ u, Calls Tryz.prog 149 #[.int .i32 (n : Int)] u fun e w' => e = .returned (.func (.func k) #[] #[]) ∧ w' = u)
    (M : ∀ u, LX W b l u → Calls Tryz.prog k #[.pointer (some ⟨b, 0, none⟩)] u (AnsE W b u o)) :
    Calls Tryz.prog 151 #[.pointer (some ⟨b, 0, none⟩)] w (Ans W b w o) := by
  have hb := X.lt
  have e13 := e13
  obtain ⟨c0, c1, f0⟩ := X.cells
  obtain ⟨a0, a1, a2⟩ := (X.alloc tkO).cells
  have H0 : Hid (LX W b l (w.alloc tkO)) := X.alloc tkO
  have SG2 : ∀ u, Calls Tryz.prog 149 #[.int .i32 (A[0].toNat : Int)] u fun e w' => e = .returned (.func (.func k) #[] #[]) ∧ w' = u := by rw [hn]; exact SG
  rw [← hA] at c0 a0
  have HA : Hid (A = ba l) := hA
  have hwr : IntKind.i32.wrap (A[0].toNat : Int) = (A[0].toNat : Int) := by rw [hn]; unfold IntKind.wrap; simp [IntKind.bits, IntKind.signed]; omega
  have H1 : Hid (St W b l (w.alloc tkO) (w.alloc tkO).drew) := (St.refl H0.out).drew
  clear X hA hn SG
  go_enter Tryz.func151, Tryz.ntmps151
  go_wp2
  have HC : Hid ((w.alloc tkO).drew.cell? ⟨b, 0, none⟩ = some (.string A) ∧ (w.alloc tkO).drew.cell? ⟨b, 1, none⟩ = some chooseV) := ⟨a0, a1⟩
  refine wp_region_d (fun u => u.cell? ⟨b, 0, none⟩ = some (.string A) ∧ u.cell? ⟨b, 1, none⟩ = some chooseV) (fun _ => false) (by kernel_rfl) ?_
  refine wpAnyD_pured (i := 0) (v := .pointer (some ⟨b, 0, none⟩)) rfl rfl (by kernel_rfl) (by kernel_rfl) (by kernel_rfl) (fun _ _ _ h => h) (by go_simp) (by intro u; go_simp) ?_
  try simp only [Act.put, List.setIfInBounds_toArray, List.set_cons_zero, List.set_cons_succ]
  refine wpAnyD_pured (i := 1) (v := .pointer (some ⟨b, 0, none⟩)) rfl rfl (by kernel_rfl) (by kernel_rfl) (by kernel_rfl) (fun _ _ _ h => h) (by go_simp) (by intro u; go_simp) ?_
  try simp only [Act.put, List.setIfInBounds_toArray, List.set_cons_zero, List.set_cons_succ]
  refine wpAnyD_pured (i := 2) (v := .pointer (some ⟨b, 1, none⟩)) rfl rfl (by kernel_rfl) (by kernel_rfl) (by kernel_rfl) (fun _ _ _ h => h) (by go_simp) (by intro u; go_simp) ?_
  try simp only [Act.put, List.setIfInBounds_toArray, List.set_cons_zero, List.set_cons_succ]
  refine wpAnyD_loadd (i := 3) (v := chooseV) rfl rfl (by kernel_rfl) (by kernel_rfl) (by kernel_rfl) (by kernel_rfl) (fun _ _ _ h => h) (by go_simp) (fun u hSu => by obtain ⟨k0, k1⟩ := hSu; go_simp) HC.out ?_
  try simp only [Act.put, List.setIfInBounds_toArray, List.set_cons_zero, List.set_cons_succ]
  refine wpAnyD_pured (i := 4) (v := .pointer (some ⟨b, 0, none⟩)) rfl rfl (by kernel_rfl) (by kernel_rfl) (by kernel_rfl) (fun _ _ _ h => h) (by go_simp) (by intro u; go_simp) ?_
  try simp only [Act.put, List.setIfInBounds_toArray, List.set_cons_zero, List.set_cons_succ]
  refine wpAnyD_pured (i := 5) (v := .pointer (some ⟨b, 0, none⟩)) rfl rfl (by kernel_rfl) (by kernel_rfl) (by kernel_rfl) (fun _ _ _ h => h) (by go_simp) (by intro u; go_simp) ?_
  try simp only [Act.put, List.setIfInBounds_toArray, List.set_cons_zero, List.set_cons_succ]
  refine wpAnyD_pured (i := 6) (v := .pointer (some ⟨b, 0, none⟩)) rfl rfl (by kernel_rfl) (by kernel_rfl) (by kernel_rfl) (fun _ _ _ h => h) (by go_simp) (by intro u; go_simp) ?_
  try simp only [Act.put, List.setIfInBounds_toArray, List.set_cons_zero, List.set_cons_succ]
  refine wpAnyD_loadd (i := 7) (v := .string A) rfl rfl (by kernel_rfl) (by kernel_rfl) (by kernel_rfl) (by kernel_rfl) (fun _ _ _ h => h) (by go_simp) (fun u hSu => by obtain ⟨k0, k1⟩ := hSu; go_simp) HC.out ?_
  try simp only [Act.put, List.setIfInBounds_toArray, List.set_cons_zero, List.set_cons_succ]
  refine wpAnyD_pured (i := 8) (v := .int .u8 (A[0].toNat : Int)) rfl rfl (by kernel_rfl) (by kernel_rfl) (by kernel_rfl) (fun _ _ _ h => h) (by go_simp) (by intro u; go_simp) ?_
  try simp only [Act.put, List.setIfInBounds_toArray, List.set_cons_zero, List.set_cons_succ]
  refine wpAnyD_pured (i := 9) (v := .int .i32 (A[0].toNat : Int)) rfl rfl (by kernel_rfl) (by kernel_rfl) (by kernel_rfl) (fun _ _ _ h => h) (by go_simp) (by intro u; go_simp) ?_
  try simp only [Act.put, List.setIfInBounds_toArray, List.set_cons_zero, List.set_cons_succ]
  refine wpAnyD_one (i := 10) (by kernel_rfl) rfl ?_
  intro K hK
  go_simp
  refine (SG2 _).mono ?_
  rintro e w' ⟨rfl, hw⟩
  obtain rfl := hw.symm
  clear hw
  refine hK _ _ (.inr fun h => h) ?_
  clear hK
  try simp only [Act.put, List.setIfInBounds_toArray, List.set_cons_zero, List.set_cons_succ]
  refine wpAnyD_pured (i := 11) (v := .func (.func k) #[] #[]) rfl rfl (by kernel_rfl) (by kernel_rfl) (by kernel_rfl) (fun _ _ _ h => h) (by go_simp) (by intro u; go_simp) ?_
  try simp only [Act.put, List.setIfInBounds_toArray, List.set_cons_zero, List.set_cons_succ]
  refine wpAnyD_done (by kernel_rfl) ?_ _
  go_wp2_with (first
    | (go_at_fn k; refine (M _ H1.out.1).mono ?_; rintro e w2 ⟨t, ok, m, rfl, hs, ha⟩; have H2 : Hid (St W b m (w.alloc tkO) w2) := H1.out.step hs; have HF : Hid (∀ v v', St W b m v v' → Ans W b v o (.returned (.tuple #[.agg (tcs t.k t.n t.s t.b t.h t.r t.c t.fr t.fc), .bool ok])) v') := ha; have RR := H2.out.put hb t.k t.n t.s t.b t.h t.r t.c t.fr t.fc; clear hs ha)
    | (refine wpList_store_run rfl 156 _ _ rfl _ _ _ rfl rfl RR.out ?_))
  exact bodyPost_ret (v := .tuple #[.agg (tcs t.k t.n t.s t.b t.h t.r t.c t.fr t.fc), .bool ok]) (H2.out.ans hb (tcs t.k t.n t.s t.b t.h t.r t.c t.fr t.fc) rfl rfl rfl rfl) rfl (HF.out _ _ (H2.out.fin hb _))
theorem next_any {W w : World} {b : Nat} {c : UInt8} {r : List UInt8} (X : LX W b (c :: r) w) (hl : (c :: r).length ≤ 255) :
    Calls Tryz.prog 151 #[.pointer (some ⟨b, 0, none⟩)] w (Ans W b w (Tk.one gnF trB pnF (c :: r))) := by
  have hz : 0 < (ba (c :: r)).size := by rw [size_mk]; simp
  refine next_core (A := ba (c :: r)) X rfl hz (n := c.toNat) ?_ c.toNat_lt (eM c) (fun u => sign_any c u) (fun u Y => (meth_any Y hl).mono fun e w' h => h.e)
  rw [ba_get (c :: r) 0 (by simp) hz]
  rfl
end Go.Proofs.YtpafokmkcblcnaaGreatDoor

namespace Go.Proofs.YtpafokmkcblcnaaGreatDoor
open Go.RowKit
set_option maxRecDepth 100000
def TT.cl (t : TT) : List Value := [.int .i64 t.k, .int .i64 t.n, .string t.s, .string t.b, .string t.h, .int .i64 t.r, .int .i64 t.c, .bool t.fr, .bool t.fc]
theorem cl_len (t : TT) : t.cl.length = 9 := rfl
theorem cl_one (t : TT) : ∀ u ∈ t.cl, u.oneCell' = true := by
  intro u hu
  simp only [TT.cl, List.mem_cons, List.not_mem_nil, or_false] at hu
  rcases hu with rfl | rfl | rfl | rfl | rfl | rfl | rfl | rfl | rfl <;> rfl
theorem flat_at : ∀ (L : List TT) (i j : Nat) (v : Value) (hi : i < L.length), L[i].cl[j]? = some v → (L.flatMap TT.cl)[i * 9 + j]? = some v
  | t :: L, 0, j, v, _, h => by
    have hj : j < t.cl.length := (List.getElem?_eq_some_iff.1 h).1
    rw [List.flatMap_cons, Nat.zero_mul, Nat.zero_add, List.getElem?_append_left hj]
    exact h
  | t :: L, i + 1, j, v, hi, h => by
    rw [List.flatMap_cons, List.getElem?_append_right (by rw [cl_len]; omega), cl_len, show (i + 1) * 9 + j - 9 = i * 9 + j by omega]
    exact flat_at L i j v (by simpa using hi) h
def OwnT (e : TypeId) (base : Nat) (w : World) (v : Value) (L : List TT) : Prop := w.ownsRow base e 9 v L.length (L.flatMap TT.cl)
theorem OwnT.nil (e : TypeId) (base : Nat) (w : World) : OwnT e base w (.slice none 0 0) [] := World.ownsRow_nil w base e 9
theorem OwnT.slice {e : TypeId} {base : Nat} {w : World} {v : Value} {L : List TT} (h : OwnT e base w v L) : ∃ a c, v = .slice a L.length c := by
  rcases h.2 with ⟨rfl, h0⟩ | ⟨g, cap, cur, rfl, _⟩
  · exact ⟨none, 0, by rw [h0]⟩
  · exact ⟨_, _, rfl⟩
theorem OwnT.ne {e : TypeId} {base : Nat} {w : World} {v : Value} {L : List TT} (h : OwnT e base w v L) {b : Nat} {o : Obj} (hb : w.heap[b]? = some o) (ho : ∀ c z, o ≠ .cells c e z) : v.ownBlock = none ∨ v.ownBlock ≠ some b := by
  rcases h.2 with ⟨rfl, _⟩ | ⟨g, cap, cur, rfl, _, hg, _⟩
  · exact .inl rfl
  · refine .inr fun e => ?_
    have : g = b := by simpa [Value.ownBlock] using e
    subst this
    rw [hb] at hg
    cases hg
    exact ho _ _ rfl
theorem OwnT.kept {e : TypeId} {base : Nat} {w w' : World} {v : Value} {L : List TT} {row : Option Nat} (h : OwnT e base w v L) (hg : w.grownBy w' row) (hne : v.ownBlock = none ∨ v.ownBlock ≠ row) : OwnT e base w' v L := World.ownsRow.kept h hg hne
theorem OwnT.below {e : TypeId} {base : Nat} {w w' : World} {v : Value} {L : List TT} (h : OwnT e base w v L) (hb : Below w.heap.size w w') : OwnT e base w' v L :=
  h.kept (grown_below (row := none) hb) (by cases v.ownBlock <;> simp)
theorem OwnT.base {e : TypeId} {base base' : Nat} {w : World} {v : Value} {L : List TT} (h : OwnT e base w v L) (hb : base' ≤ base) : OwnT e base' w v L := by
  obtain ⟨h1, h2⟩ := h
  refine ⟨h1, h2.imp id ?_⟩
  rintro ⟨g, cap, cur, e1, e2, r⟩
  exact ⟨g, cap, cur, e1, by omega, r⟩
theorem inf35z : (Tryz.prog.info? 156).map (fun i => (i.zero, i.size, i.bytes)) = some (some (.agg tk0), 9, 88) := by kernel_rfl
theorem ownT_app {e st : TypeId} (hst : Tryz.prog.underlying st = some (.slice e)) (hinf : (Tryz.prog.info? e).map (fun i => (i.zero, i.size, i.bytes)) = some (some (.agg tk0), 9, 88))
    {base : Nat} {w : World} {v : Value} {L : List TT} (h : OwnT e base w v L) {g : Nat} {t : TT} {z : Nat × Nat} {e' : TypeId} (hg : w.heap[g]? = some (.cells t.cs e' z)) (hn : L.length + 1 ≤ 1000000) (hbase : base ≤ w.heap.size) :
    ∃ v' w', Hid ((Builtin.append_ #[st, st] st #[v, .slice (some ⟨g, 0, none⟩) 1 1]).run Tryz.prog w = .ok v' w') ∧ OwnT e base w' v' (L ++ [t]) ∧ w.grownBy w' v.ownBlock ∧ Below base w w' := by
  obtain ⟨i0, hi, hz0, hz1, hz2⟩ := info_parts hinf
  have hadd : ∀ k, (⟨g, 0, none⟩ : Addr).add k = ⟨g, k, none⟩ := fun k => by unfold Addr.add; split <;> simp_all
  obtain ⟨v', w', r1, o1, g1, _, _⟩ := run_append_own_at w base st st e i0 _ 9 88 hst hi hz0 hz1 hz2 rfl (by decide) v _ _ h ⟨g, 0, none⟩ 1 1 t.cl rfl
    (fun j u hj => by rw [hadd, cell_of_row w g j _ _ _ hg, ← hj]; simp [TT.cs, TT.cl]) (cl_one t) (by simp only [maxLen]; omega) (by omega) hbase
  refine ⟨v', w', r1, ?_, g1, (Below.refl base w).grown g1 hbase fun k hk => (World.ownsRow.lt h k hk).1⟩
  unfold OwnT
  rw [List.length_append, List.flatMap_append]
  simpa using o1
theorem wpList_append_run {P : Program} {w : World} {ops : Array Oper} {rest : List Oper} {o : Oper} {a : Act} {Q : Exit → Act → World → Prop} (hgd : o.guard = none) (s x : Operand) (t : TypeId)
    (ho : o.op = .call { callee := .builtin .append, args := #[s, x], argTypes := #[t, t] }) (v bv v' : Value) (w' : World) (hs : a.eval s = v) (hx : a.eval x = bv) (hrun : (Builtin.append_ #[t, t] o.type #[v, bv]).run P w = .ok v' w')
    (h : wpList P ops Q rest (a.put o.dst v') w') : wpList P ops Q (o :: rest) a w := by
  refine wpList_plain hgd fun K hK => ?_
  unfold Oper.wp
  simp [execOp, ho, resolve, invoke, builtin, hs, hx, hrun, Result.andThen]
  exact hK _ _ h
theorem OwnT.load {e : TypeId} {base : Nat} {w : World} {a : Option Addr} {n c : Nat} {L : List TT} (h : OwnT e base w (.slice a n c) L) {i : Nat} (hi : i < L.length) {d : TypeDesc} (hd : d.isRow = true) (hu : Tryz.prog.underlying e = some d) (hinf : (Tryz.prog.info? e).map (·.size) = some 9) :
    ∃ g, a = some ⟨g, 0, none⟩ ∧ (Instr.loadAt e (.pointer (some ⟨g, i * 9, none⟩))).run Tryz.prog w = .ok (.agg L[i].cs) w := by
  have hc := fun g (hg : (Value.slice a n c).ownBlock = some g) => World.ownsRow.cells h hg
  rcases h.2 with ⟨e1, e2⟩ | ⟨g, cap, cur, e1, _⟩
  · omega
  · cases e1
    refine ⟨g, rfl, ?_⟩
    have hadd : ∀ k, (⟨g, 0, none⟩ : Addr).add k = ⟨g, k, none⟩ := fun k => by unfold Addr.add; split <;> simp_all
    exact run_loadAt_mid (P := Tryz.prog) w g (i * 9) e L[i].cl d (fun j v hv => by
      have := hc g rfl (i * 9 + j) v (flat_at L i j v hi hv)
      rw [hadd] at this
      exact this) hu hd (by rw [hinf]; rfl)
theorem one_len {l m : List UInt8} {t : Tk.Tok} (h : Tk.one gnF trB pnF l = some (t, m)) : m.length < l.length := by
  cases l with
  | nil => cases h
  | cons c r =>
    unfold Tk.one at h
    simp only at h
    split at h
    · rename_i hd
      cases hp : pnF ((c :: r).takeWhile Tk.numC) with
      | none => rw [hp] at h; cases h
      | some n =>
        rw [hp] at h
        cases h
        exact Tk.drop_lt _ (by unfold Tk.numC; rw [hd]; rfl)
    · split at h
      · cases hq : Tk.quoF r with
        | none => rw [hq] at h; cases h
        | some p =>
          rw [hq] at h
          cases h
          have := Tk.quo_len r.length r p.1 p.2 (Nat.le_refl _) hq
          simp only [List.length_cons]; omega
      · split at h
        · exact Tk.bad_len h
        · split at h
          · rename_i hn
            unfold Tk.named at h
            split at h
            · rename_i m' he
              cases he
              cases ha : Ad.at_ 93 r with
              | none => rw [ha] at h; cases h
              | some p =>
                obtain ⟨a, q⟩ := p
                rw [ha] at h
                simp only at h
                split at h
                · have h1 := Tk.tail_len h
                  have h2 := congrArg List.length (at_eq ha)
                  simp at h2 ⊢
                  omega
                · cases h
            · rename_i hne
              have hrun : Tk.runC c = true := by
                rcases hn with h1 | h1 | h1
                · subst h1; exact absurd rfl (hne r)
                · subst h1; rfl
                · exact Tk.isL_run h1
              unfold Tk.tailN at h
              have hlt := Tk.drop_lt (p := Tk.runC) (c := c) (r := r) hrun
              split at h
              · rename_i q hq
                rw [hq] at hlt
                have hd := Tk.drop_le Tk.runC q
                cases hp : Ad.refP gnF ([] ++ (c :: r).takeWhile Tk.runC ++ 33 :: q.takeWhile Tk.runC) with
                | none => rw [hp] at h; cases h
                | some x =>
                  rw [hp] at h
                  cases h
                  simp only [List.length_cons] at hlt ⊢
                  omega
              · rw [if_pos rfl] at h
                split at h
                · cases h; exact hlt
                · split at h
                  · cases h; exact hlt
                  · cases h
          · exact Tk.op_len h
def lexF (l : List UInt8) : Option (List Tk.Tok) := Tk.lexN gnF trB pnF (l.length + 1) l
theorem lex_fuel : ∀ (k : Nat) (l : List UInt8), l.length < k → ∀ k', l.length < k' → Tk.lexN gnF trB pnF k l = Tk.lexN gnF trB pnF k' l
  | 0, l, h, _, _ => absurd h (Nat.not_lt_zero _)
  | k + 1, [], _, 0, h => absurd h (Nat.not_lt_zero _)
  | k + 1, [], _, k' + 1, _ => rfl
  | k + 1, c :: r, h, 0, h' => absurd h' (Nat.not_lt_zero _)
  | k + 1, c :: r, h, k' + 1, h' => by
    simp only [List.length_cons] at h h'
    unfold Tk.lexN
    split
    · exact lex_fuel k r (by omega) k' (by omega)
    · cases ho : Tk.one gnF trB pnF (c :: r) with
      | none => rfl
      | some p =>
        have := one_len (t := p.1) (m := p.2) ho
        simp only [List.length_cons] at this
        simp only
        rw [lex_fuel k p.2 (by omega) k' (by omega)]
theorem lex_blank {c : UInt8} {r : List UInt8} (h : Tk.blank c = true) : lexF (c :: r) = lexF r := by
  unfold lexF
  conv => lhs; unfold Tk.lexN
  rw [if_pos h]
  exact lex_fuel _ r (by simp) _ (by simp)
theorem lex_cons {c : UInt8} {r : List UInt8} (h : Tk.blank c = false) : lexF (c :: r) = match Tk.one gnF trB pnF (c :: r) with
    | none => none
    | some (t, m) => (lexF m).map (t :: ·) := by
  conv => lhs; unfold lexF Tk.lexN
  rw [if_neg (by rw [h]; decide)]
  cases ho : Tk.one gnF trB pnF (c :: r) with
  | none => rfl
  | some p =>
    have := one_len (t := p.1) (m := p.2) ho
    simp only
    unfold lexF
    rw [lex_fuel _ p.2 this _ (Nat.lt_succ_self _)]
theorem lex_drop : ∀ l : List UInt8, lexF (l.dropWhile Tk.blank) = lexF l
  | [] => rfl
  | c :: r => by
    rw [List.dropWhile_cons]
    split
    · rename_i h; rw [lex_drop r, lex_blank h]
    · rfl
end Go.Proofs.YtpafokmkcblcnaaGreatDoor

namespace Go.Proofs.YtpafokmkcblcnaaGreatDoor
open Go.RowKit
set_option maxRecDepth 100000
theorem exec_load_run {P : Program} {ev : Operand → Value} {o : Oper} {ty : TypeId} {x : Operand} {p v : Value} {u : World} (ho : o.op = .load ty x) (hx : ev x = p) (hrun : (Instr.loadAt ty p).run P u = .ok v u) : (execOp ev o).run P u = .ok (.value v) u := by
  unfold execOp
  simp only [ho, hx, Sem.run_bind, Sem.run_pure, hrun, Result.andThen_ok]
end Go.Proofs.YtpafokmkcblcnaaGreatDoor

namespace Go.Proofs.YtpafokmkcblcnaaGreatDoor
open Go.RowKit
set_option maxRecDepth 100000
def okN (n : Int) : Prop := 0 ≤ n ∧ n ≤ 100000000000
theorem gn_parts {l : List UInt8} (h : gnF l = true) : l.length ≤ 16 ∧ headL l = true ∧ l.all okC = true ∧ lcF l = false := by
  unfold gnF at h
  simp only [Bool.and_eq_true, Bool.not_eq_true'] at h
  obtain ⟨a, b, c⟩ := sp_parts h.1.1
  exact ⟨a, b, c, h.1.2⟩
theorem sgn_pos (n : Nat) : sgnI (n : Int) false = n := rfl
theorem num_ok {c : UInt8} {r : List UInt8} {n : Int} (hc : Ad.isD c = true) (h : pnF (c :: r) = some n) : okN n := by
  unfold pnF at h
  split at h
  · rename_i h2
    have hg := parse_gd (c :: r)
    cases h
    unfold gd at hg
    simp only [Bool.and_eq_true, decide_eq_true_eq] at hg
    refine ⟨?_, hg.2⟩
    have hd : dash (c :: r) = false := by
      unfold dash
      rw [List.head?_cons]
      simp only [beq_eq_false_iff_ne, ne_eq, Option.some.injEq]
      rintro rfl
      exact absurd hc (by decide)
    unfold parseF
    split
    · rw [hd, sgn_pos]
      unfold ans
      split
      · exact Int.natCast_nonneg _
      · exact Int.le_refl _
    · exact Int.le_refl _
  · cases h
theorem tail_ok {b pre l m : List UInt8} {t : Tk.Tok} (hb : b = [] ∨ gnF b = true) (h : Tk.tailN gnF trB b pre l = some (t, m)) : Tk.okT gnF trB okN t := by
  unfold Tk.tailN at h
  split at h
  · rename_i q hq
    cases hp : Ad.refP gnF (pre ++ l.takeWhile Tk.runC ++ 33 :: q.takeWhile Tk.runC) with
    | none => rw [hp] at h; cases h
    | some x =>
      rw [hp] at h
      cases h
      exact (Ad.ref_of gn_names hp).1
  · split at h
    · split at h
      · rename_i c hc
        cases h
        exact ⟨(Ad.cell_of hc).1, .inl rfl, .inl rfl⟩
      · split at h
        · rename_i hw
          cases h
          exact .inl ⟨rfl, hw⟩
        · cases h
    · rename_i hne
      split at h
      · rename_i hw
        cases h
        exact .inr ⟨hb.resolve_left hne, hw⟩
      · cases h
theorem one_ok {l m : List UInt8} {t : Tk.Tok} (h : Tk.one gnF trB pnF l = some (t, m)) : Tk.okT gnF trB okN t := by
  cases l with
  | nil => cases h
  | cons c r =>
    unfold Tk.one at h
    simp only at h
    split at h
    · rename_i hd
      cases hp : pnF ((c :: r).takeWhile Tk.numC) with
      | none => rw [hp] at h; cases h
      | some n =>
        rw [hp] at h
        cases h
        rw [List.takeWhile_cons, if_pos (by unfold Tk.numC; rw [hd]; rfl)] at hp
        exact num_ok hd hp
    · split at h
      · cases hq : Tk.quoF r with
        | none => rw [hq] at h; cases h
        | some p => rw [hq] at h; cases h; exact trivial
      · split at h
        · unfold Tk.badF at h
          cases hf : [1, 2, 3, 4, 5, 6, 7, 8].find? fun i => (Tk.errN i).isPrefixOf (c :: r) with
          | none => rw [hf] at h; cases h
          | some i =>
            rw [hf] at h
            cases h
            have := List.mem_of_find?_eq_some hf
            simp only [List.mem_cons, List.not_mem_nil, or_false] at this
            show 1 ≤ i ∧ i ≤ 8
            omega
        · split at h
          · unfold Tk.named at h
            split at h
            · rename_i m' he
              cases he
              cases ha : Ad.at_ 93 r with
              | none => rw [ha] at h; cases h
              | some p =>
                obtain ⟨a, q⟩ := p
                rw [ha] at h
                simp only at h
                split at h
                · rename_i hg; exact tail_ok (.inr hg) h
                · cases h
            · exact tail_ok (.inl rfl) h
          · rcases r with _ | ⟨d, r⟩
            · simp only [Tk.opF] at h
              split at h
              · rename_i hm; cases h; exact .inl ⟨c, hm, rfl⟩
              · cases h
            · simp only [Tk.opF] at h
              split at h
              · rename_i hm; cases h; exact .inr ⟨c, d, hm, rfl⟩
              · split at h
                · rename_i hm; cases h; exact .inl ⟨c, hm, rfl⟩
                · cases h
theorem lexN_ok : ∀ (k : Nat) (l : List UInt8) (L : List Tk.Tok), Tk.lexN gnF trB pnF k l = some L → ∀ t ∈ L, Tk.okT gnF trB okN t
  | 0, l, L, h => by cases h
  | k + 1, [], L, h => by cases h; intro t ht; cases ht
  | k + 1, c :: r, L, h => by
    unfold Tk.lexN at h
    split at h
    · exact lexN_ok k r L h
    · cases ho : Tk.one gnF trB pnF (c :: r) with
      | none => rw [ho] at h; cases h
      | some p =>
        rw [ho] at h
        simp only at h
        cases hk : Tk.lexN gnF trB pnF k p.2 with
        | none => rw [hk] at h; cases h
        | some M =>
          rw [hk] at h
          cases h
          intro t ht
          rcases List.mem_cons.1 ht with rfl | ht
          · exact one_ok (m := p.2) ho
          · exact lexN_ok k p.2 M hk t ht
theorem lex_ok {l : List UInt8} {L : List Tk.Tok} (h : lexF l = some L) : ∀ t ∈ L, Tk.okT gnF trB okN t := lexN_ok _ _ _ h
end Go.Proofs.YtpafokmkcblcnaaGreatDoor

namespace Go.Proofs.YtpafokmkcblcnaaGreatDoor
open Go.RowKit
set_option maxRecDepth 100000
def smT : Tk.Tok → Prop
  | .inr (.inl s) => s.length ≤ 255
  | _ => True
theorem quo_len2 : ∀ (k : Nat) (l s r : List UInt8), l.length ≤ k → Tk.quoF l = some (s, r) → s.length ≤ l.length
  | 0, l, s, r, hk, h => by
    have : l = [] := List.eq_nil_of_length_eq_zero (by omega)
    subst this; cases h
  | k + 1, [], s, r, hk, h => by cases h
  | k + 1, [c], s, r, hk, h => by
    unfold Tk.quoF at h
    split at h
    · cases h; simp
    · cases h
  | k + 1, c :: d :: l, s, r, hk, h => by
    unfold Tk.quoF at h
    simp only [List.length_cons] at hk ⊢
    split at h
    · split at h
      · cases hq : Tk.quoF l with
        | none => rw [hq] at h; cases h
        | some p =>
          rw [hq] at h
          cases h
          have := quo_len2 k l p.1 p.2 (by omega) hq
          simp only [List.length_cons]; omega
      · cases h; simp
    · cases hq : Tk.quoF (d :: l) with
      | none => rw [hq] at h; cases h
      | some p =>
        rw [hq] at h
        cases h
        have := quo_len2 k (d :: l) p.1 p.2 (by simp only [List.length_cons]; omega) hq
        simp only [List.length_cons] at this ⊢; omega
theorem one_sm {l m : List UInt8} {t : Tk.Tok} (hl : l.length ≤ 255) (h : Tk.one gnF trB pnF l = some (t, m)) : smT t := by
  cases t using Tk.Tok.cs with
  | str s =>
    cases l with
    | nil => cases h
    | cons c r =>
      unfold Tk.one at h
      simp only at h
      split at h
      · cases hp : pnF ((c :: r).takeWhile Tk.numC) with
        | none => rw [hp] at h; cases h
        | some n => rw [hp] at h; cases h
      · split at h
        · cases hq : Tk.quoF r with
          | none => rw [hq] at h; cases h
          | some p =>
            rw [hq] at h
            cases h
            have := quo_len2 r.length r p.1 p.2 (Nat.le_refl _) hq
            show p.1.length ≤ 255
            simp only [List.length_cons] at hl; omega
        · split at h
          · unfold Tk.badF at h
            cases hf : [1, 2, 3, 4, 5, 6, 7, 8].find? fun i => (Tk.errN i).isPrefixOf (c :: r) with
            | none => rw [hf] at h; cases h
            | some i => rw [hf] at h; cases h
          · have tl : ∀ {b pre q : List UInt8}, Tk.tailN gnF trB b pre q = some (.str s, m) → False := fun {b pre q} h => by
              unfold Tk.tailN at h
              split at h
              · rename_i z hz
                cases hp : Ad.refP gnF (pre ++ q.takeWhile Tk.runC ++ 33 :: z.takeWhile Tk.runC) with
                | none => rw [hp] at h; cases h
                | some x => rw [hp] at h; cases h
              · split at h
                · split at h
                  · cases h
                  · split at h <;> cases h
                · split at h <;> cases h
            split at h
            · unfold Tk.named at h
              split at h
              · rename_i m' he
                cases he
                cases ha : Ad.at_ 93 r with
                | none => rw [ha] at h; cases h
                | some p =>
                  obtain ⟨a, q⟩ := p
                  rw [ha] at h
                  simp only at h
                  split at h
                  · exact (tl h).elim
                  · cases h
              · exact (tl h).elim
            · rcases r with _ | ⟨d, r⟩
              · simp only [Tk.opF] at h
                split at h <;> cases h
              · simp only [Tk.opF] at h
                split at h
                · cases h
                · split at h <;> cases h
  | num n => trivial
  | ref r => trivial
  | word b s => trivial
  | op x => trivial
  | bad n => trivial
theorem lexN_sm : ∀ (k : Nat) (l : List UInt8) (L : List Tk.Tok), l.length ≤ 255 → Tk.lexN gnF trB pnF k l = some L → ∀ t ∈ L, smT t
  | 0, l, L, _, h => by cases h
  | k + 1, [], L, _, h => by cases h; intro t ht; cases ht
  | k + 1, c :: r, L, hl, h => by
    unfold Tk.lexN at h
    split at h
    · exact lexN_sm k r L (by simp only [List.length_cons] at hl; omega) h
    · cases ho : Tk.one gnF trB pnF (c :: r) with
      | none => rw [ho] at h; cases h
      | some p =>
        rw [ho] at h
        simp only at h
        cases hk : Tk.lexN gnF trB pnF k p.2 with
        | none => rw [hk] at h; cases h
        | some M =>
          rw [hk] at h
          cases h
          intro t ht
          rcases List.mem_cons.1 ht with rfl | ht
          · exact one_sm (m := p.2) hl ho
          · exact lexN_sm k p.2 M (by have := one_len (t := p.1) (m := p.2) ho; omega) hk t ht
theorem lex_sm {l : List UInt8} {L : List Tk.Tok} (hl : l.length ≤ 255) (h : lexF l = some L) : ∀ t ∈ L, smT t := lexN_sm _ _ _ hl h
end Go.Proofs.YtpafokmkcblcnaaGreatDoor
