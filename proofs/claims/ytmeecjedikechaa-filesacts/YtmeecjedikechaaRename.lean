/- The contracts of Rename and of Read of a name that nobody has. -/
import Derived.Test.YtmeecjedikechaaSame
namespace Go.Proofs.Ytmeecjedikechaa
open Go.RowKit Go.Maps
open Go.WideMaps

/-- A file gets another name, in the place of what was called so. -/
theorem S.moveF {K : Nat → Prop} {base : Nat} {w w' : World} {b bm : Nat} {s : WS} {D : DataW Value} {F : List UInt8 → Option FileS} (h : S K base w b bm s D F) {l l' : List UInt8} {f : FileS} (hf : F l = some f) {n : Nat}
    (hk : ∀ i, i < w.heap.size → i ≠ bm → w'.heap[i]? = w.heap[i]?) (hown : w'.ownsMap Try.prog 9 RV bm n ((D.del (.string l)).put (.string l') (.held (ptrOf f.fb)))) :
    S K base w' b bm s ((D.del (.string l)).put (.string l') (.held (ptrOf f.fb))) (upd (upd F l none) l' (some f)) := by
  have hD : Maps.IsMap D := h.own.isMap
  have hT := h.own.tidy K9
  have hkl : ∀ x : List UInt8, WideAt.IsKeyLit (.string x) := fun x => by simp [WideAt.IsKeyLit]
  have hmap : ∃ es c, w.heap[bm]? = some (.map es c) := by obtain ⟨es, c, h1, _⟩ := h.own; exact ⟨es, c, h1⟩
  obtain ⟨es0, c0, hm0⟩ := hmap
  have hbne : b ≠ bm := by rintro rfl; rw [h.hB] at hm0; simp [blk] at hm0
  have hfile : ∀ l2 f2, F l2 = some f2 → FileAt K base w' f2 := by
    intro l2 f2 h2
    obtain ⟨k1, k2, k3, k4⟩ := h.files l2 f2 h2
    refine ⟨k1, (hk _ (lt_of_some k2) ?_).trans k2, ownsRow_of_block k3 fun g hg => ?_, k4⟩
    · rintro e2; rw [e2, hm0] at k2; simp at k2
    · obtain ⟨_, cur, hc⟩ := ownsRow_type k3 hg
      refine hk g (lt_of_some hc) ?_
      rintro e2; rw [e2, hm0] at hc; simp at hc
  -- what the new names lead to
  have hF : ∀ l2 f2, upd (upd F l none) l' (some f) l2 = some f2 → (l2 = l' ∧ f2 = f) ∨ (l2 ≠ l' ∧ l2 ≠ l ∧ F l2 = some f2) := by
    intro l2 f2 h2
    by_cases e : l2 = l'
    · subst e; rw [upd_same] at h2; cases h2; exact .inl ⟨rfl, rfl⟩
    · rw [upd_other _ e] at h2
      by_cases e2 : l2 = l
      · subst e2; rw [upd_same] at h2; cases h2
      · rw [upd_other _ e2] at h2; exact .inr ⟨e, e2, h2⟩
  refine ⟨kb_of h.kb fun i hi => hk i (h.kb i hi) (fun e => h.hbm.2 (e ▸ hi)), h.hb, h.hbm, (hk b (lt_of_some h.hB) hbne).trans h.hB, ownsMap_tight hown ?_, ?_, ?_, ?_⟩
  · have h1 := Maps.size_put (k := .string l') (hT.del (.string l)) (.held (ptrOf f.fb))
    have h2 := Maps.size_del (k := .string l) hT
    have h3 : Maps.has D (.string l) = true := by rw [has_of_at h.at_, hf]; rfl
    have h4 := h.own.size_le
    rw [h3] at h2
    rw [h1]
    split <;> simp at h2 <;> omega
  · intro l2 z
    by_cases e : l2 = l'
    · subst e; rw [upd_same, Maps.atKey_put_same (hD.del _) (hkl _)]
    · rw [upd_other _ e, Maps.atKey_put_other (by simpa using e)]
      by_cases e2 : l2 = l
      · subst e2; rw [upd_same, Maps.atKey_del_same]
      · rw [upd_other _ e2, Maps.atKey_del_other (by simpa using e2), h.at_]
  · intro l2 f2 h2
    rcases hF l2 f2 h2 with ⟨_, rfl⟩ | ⟨_, _, h3⟩
    · exact hfile l f2 hf
    · exact hfile l2 f2 h3
  · intro l1 l2 f1 f2 h1 h2 hne
    rcases hF l1 f1 h1 with ⟨e1, rfl⟩ | ⟨e1, e1', g1⟩
    · rcases hF l2 f2 h2 with ⟨e2, rfl⟩ | ⟨e2, e2', g2⟩
      · exact absurd (e1.trans e2.symm) hne
      · exact h.apart l l2 f1 f2 hf g2 (Ne.symm e2')
    · rcases hF l2 f2 h2 with ⟨e2, rfl⟩ | ⟨e2, e2', g2⟩
      · exact h.apart l1 l f1 f2 g1 hf e1'
      · exact h.apart l1 l2 f1 f2 g1 g2 hne

/-- A delete whose run is known, as one step of a region that draws. -/
theorem step_delete_run {P : Program} {ops : Array Oper} {o : Oper} {a : Act} {w : World} {K : Act → World → Prop} {Q : Exit → Act → World → Prop} {E : Prop}
    (hg : o.guard = none) (s x : Operand) (t k : TypeId) (hop : o.op = Op.call { callee := Callee.builtin Builtin.delete, args := #[s, x], argTypes := #[t, k] })
    (v bv v' : Value) (w' : World) (hs : a.eval s = v) (hx : a.eval x = bv) (hrun : (Builtin.delete_ #[t, k] o.type #[v, bv]).run P w = .ok v' w')
    (hK : K (a.put o.dst v') w') : if Region.wanted o (yielded ops a.tmps) = true then Oper.wp P o a w K Q else E := by
  have hw : Region.wanted o (yielded ops a.tmps) = true := by simp [Region.wanted, hg]
  rw [if_pos hw]
  unfold Oper.wp
  simp [execOp, hop, resolve, invoke, builtin, hs, hx, hrun, Result.andThen]
  exact hK

set_option maxHeartbeats 1000000 in
theorem clo52 {K : Nat → Prop} {base : Nat} {w : World} {b bm : Nat} {s : WS} {D : DataW Value} {F : List UInt8 → Option FileS} (h : S K base w b bm s D F) (hbase : base ≤ w.heap.size) (nm to : ByteArray) (hn : nm.size ≤ maxLen) (ht : to.size ≤ maxLen) {f : FileS} (hf : F nm.data.toList = some f)
    (x0 x1 x2 x3 : Nat) (h0 : w.heap[x0]? = some (.cells #[ptrOf b] 23 (0, 0))) (h1 : w.heap[x1]? = some (.cells #[.string nm] 9 (0, 0))) (h2 : w.heap[x2]? = some (.cells #[ptrOf f.fb] 73 (0, 0))) (h3 : w.heap[x3]? = some (.cells #[.string to] 9 (0, 0))) :
    Calls Try.prog 52 #[ptrOf x0, ptrOf x1, ptrOf x2, ptrOf x3] w fun e w' => e = .returned (.tuple #[]) ∧
      S K base w' b bm s ((D.del (.string nm.data.toList)).put (.string to.data.toList) (.held (ptrOf f.fb))) (upd (upd F nm.data.toList none) to.data.toList (some f)) ∧ Bel K base w w' := by
  obtain ⟨w1, run1, own1, turn1⟩ := h.drew.own.drop K9 Try.underlying49 (keyOf_string_mk Try.underlying9 hn) 0
  have g1 := turn1.grown
  obtain ⟨w2, run2, own2, g2⟩ := World.ownsMap.update (w := w1.drew) (val := ptrOf f.fb) (d := .held (ptrOf f.fb)) (ps := []) own1 K9 Try.underlying49 (by simp [maxLen]) (keyOf_string_mk Try.underlying9 ht) rfl
  obtain ⟨es, cl, hm⟩ : ∃ es c, w.heap[bm]? = some (.map es c) := by obtain ⟨es, c, h1, _⟩ := h.own; exact ⟨es, c, h1⟩
  have hk1 : ∀ i, i < w.heap.size → i ≠ bm → w1.heap[i]? = w.heap[i]? := fun i hi hne => g1.block i hi (by simpa using hne)
  have hk2 : ∀ i, i < w.heap.size → i ≠ bm → w2.heap[i]? = w.heap[i]? := fun i hi hne => (g2.block i (Nat.lt_of_lt_of_le hi g1.size) (by simpa using hne)).trans (hk1 i hi hne)
  have kc : ∀ (i : Nat) (c : Array Value) (t : TypeId), w.heap[i]? = some (.cells c t (0, 0)) → w1.heap[i]? = some (.cells c t (0, 0)) := fun i c t hi =>
    (hk1 i (lt_of_some hi) (by rintro rfl; rw [hm] at hi; simp at hi)).trans hi
  have E : Hid (S K base w2 b bm s ((D.del (.string nm.data.toList)).put (.string to.data.toList) (.held (ptrOf f.fb))) (upd (upd F nm.data.toList none) to.data.toList (some f)) ∧ Bel K base w w2) :=
    ⟨h.moveF hf hk2 own2, (((h.refl.drew.grown g1 hbase (by intro k hk; cases hk; exact h.hbm)).drew).grown g2 (Nat.le_trans hbase g1.size) (by intro k hk; cases hk; exact h.hbm))⟩
  have c0 := cell0 h0
  have c1 := cell0 h1
  have d0 := cell0 (kc _ _ _ h0)
  have d2 := cell0 (kc _ _ _ h2)
  have d3 := cell0 (kc _ _ _ h3)
  obtain ⟨e0, -⟩ := blk_cells h.hB
  obtain ⟨e1, -⟩ := blk_cells (w := w1) (b := b) (bm := bm) (s := s) (kc _ _ _ h.hB)
  have HR1 : Hid _ := run1
  clear h own1 own2 turn1 g1 g2 hk1 hk2 kc h0 h1 h2 h3 hm run1 hn ht hf
  go_enter Try.func52, Try.ntmps52
  go_wp2
  go_region_law (refine step_delete_run rfl _ _ 49 9 rfl _ _ _ _ rfl rfl HR1.out ?_)
  all_goals (go_wp2; go_region)
  all_goals (go_end0)
  all_goals exact ⟨rfl, E.out⟩

theorem enters52 : ∀ (args : Array Value) (w : World), (callFunc 52 args).run Try.prog w = .ok (.enter 52 args) w := enters_of Try.func52 (by kernel_rfl) rfl

/-- the world ahead of find, in Rename -/
abbrev rnW (w : World) (b : Nat) (nm to : ByteArray) : World := (((w.alloc (.cells #[ptrOf b] 23)).alloc (.cells #[.string nm] 9)).alloc (.cells #[.string to] 9)).alloc (.cells #[.string nm, .string to] 9)

theorem rnW_size (w : World) (b : Nat) (nm to : ByteArray) : (rnW w b nm to).heap.size = w.heap.size + 4 := by simp
theorem rnW_facts {K : Nat → Prop} {base : Nat} {w : World} {b bm : Nat} {s : WS} {D : DataW Value} {F : List UInt8 → Option FileS} (h : S K base w b bm s D F) (hbase : base ≤ w.heap.size) (nm to : ByteArray) :
    S K base (rnW w b nm to) b bm s D F ∧ Bel K base w (rnW w b nm to) ∧ (rnW w b nm to).heap[w.heap.size]? = some (.cells #[ptrOf b] 23 (0, 0)) ∧ (rnW w b nm to).heap[w.heap.size + 1]? = some (.cells #[.string nm] 9 (0, 0)) ∧
    (rnW w b nm to).heap[w.heap.size + 2]? = some (.cells #[.string to] 9 (0, 0)) ∧ (rnW w b nm to).heap[w.heap.size + 3]? = some (.cells #[.string nm, .string to] 9 (0, 0)) := by
  have e2 := heap_new ((w.alloc (.cells #[ptrOf b] 23)).alloc (.cells #[.string nm] 9)) (.cells #[.string to] 9)
  rw [size_alloc, size_alloc] at e2
  have e3 := heap_new (((w.alloc (.cells #[ptrOf b] 23)).alloc (.cells #[.string nm] 9)).alloc (.cells #[.string to] 9)) (.cells #[.string nm, .string to] 9)
  rw [size_alloc, size_alloc, size_alloc] at e3
  exact ⟨(((h.alloc _).alloc _).alloc _).alloc _, (((h.refl.alloc hbase _).alloc (by simp; omega) _).alloc (by simp; omega) _).alloc (by simp; omega) _,
    heap_old (heap_old (heap_old (heap_new w _) _) _) _, heap_old (heap_old (heap_new1 w _ _) _) _, heap_old e2 _, e3⟩

theorem rename_refusal {K : Nat → Prop} {base : Nat} {w : World} {b bm : Nat} {s : WS} {D : DataW Value} {F : List UInt8 → Option FileS} (h : S K base w b bm s D F) (hbase : base ≤ w.heap.size) (ho : s.off = false) (nm to : ByteArray) (hn : nm.size ≤ maxLen) (ht : to.size ≤ maxLen) :
    Calls Try.prog 43 #[ptrOf b, .slice (some ⟨w.heap.size + 3, 0, none⟩) 2 2] (rnW w b nm to) fun e w' => e = .returned (.int .i64 (refE false [nm, to])) ∧ w' = rnW w b nm to := by
  obtain ⟨hS, -, -, -, -, h3⟩ := rnW_facts h hbase nm to
  refine refusal_on hS.hB ho (w.heap.size + 3) 2 [nm, to] (by simp [maxLen]) ?_ ?_
  · intro j hj
    match j, hj with
    | 0, _ => exact (fcells h3).1
    | 1, _ => exact (fcells h3).2.1
  · intro j hj
    match j, hj with
    | 0, _ => exact hn
    | 1, _ => exact ht

theorem rename_do {K : Nat → Prop} {base : Nat} {w : World} {b bm : Nat} {s : WS} {D : DataW Value} {F : List UInt8 → Option FileS} (h : S K base w b bm s D F) (hbase : base ≤ w.heap.size) (nm to : ByteArray) (hn : nm.size ≤ maxLen) (ht : to.size ≤ maxLen) {f : FileS} (hf : F nm.data.toList = some f) (o : Obj)
    (h0 : 0 ≤ s.left) (h1 : s.left ≠ 1) (hmx : s.left ≤ 9223372036854775807) :
    Calls Try.prog 45 #[ptrOf b, .bool false, .func (.func 52) #[] #[ptrOf w.heap.size, ptrOf (w.heap.size + 1), ptrOf (w.heap.size + 5), ptrOf (w.heap.size + 2)]] (((rnW w b nm to).alloc o).alloc (.cells #[ptrOf f.fb] 73)) fun e w' => e = .returned (.int .i64 0) ∧
      (S K base w' b bm (stepped s) ((D.del (.string nm.data.toList)).put (.string to.data.toList) (.held (ptrOf f.fb))) (upd (upd F nm.data.toList none) to.data.toList (some f)) ∧ Bel K base w w') := by
  have hb : b < w.heap.size := lt_of_some h.hB
  obtain ⟨hS0, hbel0, x0, x1, x2, _⟩ := rnW_facts h hbase nm to
  have hS := (hS0.alloc o).alloc (.cells #[ptrOf f.fb] 73)
  have hbel : Bel K base w (((rnW w b nm to).alloc o).alloc (.cells #[ptrOf f.fb] 73)) := (hbel0.alloc (Nat.le_trans hbase hbel0.size) _).alloc (by have := hbel0.size; simp; omega) _
  have x5 := heap_new1 (rnW w b nm to) o (.cells #[ptrOf f.fb] 73)
  rw [rnW_size] at x5
  have y0 := heap_old (heap_old x0 o) (.cells #[ptrOf f.fb] 73)
  have y1 := heap_old (heap_old x1 o) (.cells #[ptrOf f.fb] 73)
  have y2 := heap_old (heap_old x2 o) (.cells #[ptrOf f.fb] 73)
  refine operate_go hS.hB h0 h1 hmx false 52 _ enters52 _ ?_
  intro w1 k1 k2
  have hS1 := hS.setB (fun i hi hne => k2.block i hi (by simpa using hne)) k1
  have kk : ∀ (i : Nat) (x : Obj), i ≠ b → (((rnW w b nm to).alloc o).alloc (.cells #[ptrOf f.fb] 73)).heap[i]? = some x → w1.heap[i]? = some x := fun i x hne hi => (k2.block i (lt_of_some hi) (by simpa using hne)).trans hi
  have hb1 := hbel.grown k2 (Nat.le_trans hbase hbel.size) (by intro k hk; cases hk; exact h.hb)
  refine (clo52 hS1 (Nat.le_trans hbase hb1.size) nm to hn ht hf _ _ _ _ (kk _ _ (by omega) y0) (kk _ _ (by omega) y1) (kk _ _ (by omega) x5) (kk _ _ (by omega) y2)).mono ?_
  rintro e w' ⟨rfl, h2, h3⟩
  exact ⟨rfl, h2, hb1.trans h3⟩

set_option maxHeartbeats 1000000 in
theorem rename_ok {K : Nat → Prop} {base : Nat} {w : World} {b bm : Nat} {s : WS} {D : DataW Value} {F : List UInt8 → Option FileS} (h : S K base w b bm s D F) (hbase : base ≤ w.heap.size) (ho : s.off = false) (nm to : ByteArray) (hn : nm.size ≤ maxLen) (ht : to.size ≤ maxLen) (hg : goodB nm = true) (hg' : goodB to = true) {f : FileS} (hf : F nm.data.toList = some f)
    (h0 : 0 ≤ s.left) (h1 : s.left ≠ 1) (hmx : s.left ≤ 9223372036854775807) :
    Calls Try.prog 23 #[ptrOf b, .string nm, .string to] w fun e w' => e = .returned (.int .i64 0) ∧
      (S K base w' b bm (stepped s) ((D.del (.string nm.data.toList)).put (.string to.data.toList) (.held (ptrOf f.fb))) (upd (upd F nm.data.toList none) to.data.toList (some f)) ∧ Bel K base w w') := by
  have R := rename_refusal h hbase ho nm to hn ht
  have e8 : refE false [nm, to] = 0 := by simp [refE, hg, hg']
  rw [e8] at R
  have FD := find_some (rnW_facts h hbase nm to).1 ho nm hn hg hf
  have HO : Hid _ := fun o => rename_do h hbase nm to hn ht hf o h0 h1 hmx
  have mk := mkF
  clear h hf h0 h1 hmx hg hg' ho hn ht e8
  go_enter Try.func23, Try.ntmps23
  go_wp2_with (first
    | (go_at_call 43; refine R.mono ?_; rintro e w' ⟨rfl, rfl⟩)
    | (go_at_call 47; refine FD.mono ?_; rintro e w' ⟨rfl, o, rfl⟩)
    | (go_at_call 45; refine (HO.out _).mono ?_; rintro e w' ⟨rfl, h2⟩))
  go_ret
  exact ⟨rfl, h2⟩
set_option maxHeartbeats 1000000 in
theorem rename_bad {K : Nat → Prop} {base : Nat} {w : World} {b bm : Nat} {s : WS} {D : DataW Value} {F : List UInt8 → Option FileS} (h : S K base w b bm s D F) (hbase : base ≤ w.heap.size) (ho : s.off = false) (nm to : ByteArray) (hn : nm.size ≤ maxLen) (ht : to.size ≤ maxLen) (hg : goodB nm = false ∨ goodB to = false) :
    Calls Try.prog 23 #[ptrOf b, .string nm, .string to] w fun e w' => e = .returned (.int .i64 8) ∧ Bel K base w w' := by
  have R := rename_refusal h hbase ho nm to hn ht
  have e8 : refE false [nm, to] = 8 := by rcases hg with e | e <;> simp [refE, e]
  rw [e8] at R
  have HB : Hid _ := (rnW_facts h hbase nm to).2.1
  clear h hg ho hn ht e8
  go_enter Try.func23, Try.ntmps23
  go_wp2_with (go_at_call 43; refine R.mono ?_; rintro e w' ⟨rfl, rfl⟩)
  go_ret
  exact ⟨rfl, HB.out⟩
set_option maxHeartbeats 1000000 in
theorem rename_none {K : Nat → Prop} {base : Nat} {w : World} {b bm : Nat} {s : WS} {D : DataW Value} {F : List UInt8 → Option FileS} (h : S K base w b bm s D F) (hbase : base ≤ w.heap.size) (ho : s.off = false) (nm to : ByteArray) (hn : nm.size ≤ maxLen) (ht : to.size ≤ maxLen) (hg : goodB nm = true) (hg' : goodB to = true) (hf : F nm.data.toList = none) :
    Calls Try.prog 23 #[ptrOf b, .string nm, .string to] w fun e w' => e = .returned (.int .i64 6) ∧ Bel K base w w' := by
  have R := rename_refusal h hbase ho nm to hn ht
  have e8 : refE false [nm, to] = 0 := by simp [refE, hg, hg']
  rw [e8] at R
  obtain ⟨hS, hB, -⟩ := rnW_facts h hbase nm to
  have FD := find_none hS ho nm hn hg hf
  have HB : Hid (Bel K base w (rnW w b nm to)) := hB
  clear h hf hg hg' ho hn ht e8 hS hB
  go_enter Try.func23, Try.ntmps23
  go_wp2_with (first
    | (go_at_call 43; refine R.mono ?_; rintro e w' ⟨rfl, rfl⟩)
    | (go_at_call 47; refine FD.mono ?_; rintro e w' ⟨rfl, o, rfl⟩))
  go_ret
  exact ⟨rfl, (HB.out.alloc (by have := HB.out.size; omega) _).alloc (by have := HB.out.size; simp; omega) _⟩
set_option maxHeartbeats 1000000 in
theorem read_none {K : Nat → Prop} {base : Nat} {w : World} {b bm : Nat} {s : WS} {D : DataW Value} {F : List UInt8 → Option FileS} (h : S K base w b bm s D F) (hbase : base ≤ w.heap.size) (ho : s.off = false) (nm : ByteArray) (hnm : nm.size ≤ maxLen) (hg : goodB nm = true) (hf : F nm.data.toList = none) :
    Calls Try.prog 21 #[ptrOf b, .string nm] w fun e w' => e = .returned (.tuple #[.slice none 0 0, .int .i64 6]) ∧ S K base w' b bm s D F ∧ Bel K base w w' ∧ (∀ i, i < w.heap.size → w'.heap[i]? = w.heap[i]?) := by
  have FD := find_none h ho nm hnm hg hf
  have H : Hid (S K base w b bm s D F) := h
  clear h ho hf hnm hg
  go_enter Try.func21, Try.ntmps21
  go_wp2_with (go_at_call 47; refine FD.mono ?_; rintro e w' ⟨rfl, o, rfl⟩)
  go_ret2
  exact ⟨rfl, H.out.alloc o, H.out.refl.alloc hbase o, fun i hi => Below.heap_alloc w o i hi⟩
end Go.Proofs.Ytmeecjedikechaa
