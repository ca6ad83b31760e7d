import Derived.Test.YtmeecjedikechaaOper
import Derived.Deep.QuietTactic
import Derived.BigQuiet
/- The contracts of Create and Sync. -/
namespace Go.Proofs.Ytmeecjedikechaa
open Go.RowKit Go.Maps
open Go.WideMaps

theorem heap_new (w : World) (o : Obj) : (w.alloc o).heap[w.heap.size]? = some o := heap_alloc_new w o
theorem heap_old {w : World} {i : Nat} {x : Obj} (h : w.heap[i]? = some x) (o : Obj) : (w.alloc o).heap[i]? = some x := (Below.heap_alloc w o i (lt_of_some h)).trans h
theorem size_alloc (w : World) (o : Obj) : (w.alloc o).heap.size = w.heap.size + 1 := by simp
theorem heap_new1 (w : World) (o o2 : Obj) : ((w.alloc o).alloc o2).heap[w.heap.size + 1]? = some o2 := by
  have := heap_new (w.alloc o) o2; rw [size_alloc] at this; exact this

theorem enters46 : ∀ (args : Array Value) (w : World), (callFunc 46 args).run Try.prog w = .ok (.enter 46 args) w := enters_of Try.func46 (by kernel_rfl) rfl
theorem enters48 : ∀ (args : Array Value) (w : World), (callFunc 48 args).run Try.prog w = .ok (.enter 48 args) w := enters_of Try.func48 (by kernel_rfl) rfl
theorem enters49 : ∀ (args : Array Value) (w : World), (callFunc 49 args).run Try.prog w = .ok (.enter 49 args) w := enters_of Try.func49 (by kernel_rfl) rfl

theorem mkF (fn : Fn) (first cap : Array Value) (w : World) : (Instr.makeFunc fn first cap).run Try.prog w = .ok (.func fn first cap) w := rfl

/-- the world ahead of operate, in Create -/
abbrev crW (w : World) (b : Nat) (nm : ByteArray) : World := ((w.alloc (.cells #[ptrOf b] 23)).alloc (.cells #[.string nm] 9)).alloc (.cells #[.string nm] 9)

theorem create_do {K : Nat → Prop} {base : Nat} {w : World} {b bm : Nat} {s : WS} {D : DataW Value} {F : List UInt8 → Option FileS} (h : S K base w b bm s D F) (hbase : base ≤ w.heap.size) (nm : ByteArray) (hn : nm.size ≤ maxLen) (hroom : (F nm.data.toList).isSome = true ∨ Maps.size D < 16)
    (h0 : 0 ≤ s.left) (h1 : s.left ≠ 1) (hmx : s.left ≤ 9223372036854775807) :
    Calls Try.prog 45 #[ptrOf b, .bool false, .func (.func 46) #[] #[ptrOf w.heap.size, ptrOf (w.heap.size + 1)]] (crW w b nm) fun e w' => e = .returned (.int .i64 0) ∧
      ((∃ f, f.data = [] ∧ f.sy = 0 ∧ S K base w' b bm (stepped s) (D.put (.string nm.data.toList) (.held (ptrOf f.fb))) (upd F nm.data.toList (some f))) ∧ Bel K base w w') := by
  have hb : b < w.heap.size := lt_of_some h.hB
  have hS : S K base (crW w b nm) b bm s D F := ((h.alloc _).alloc _).alloc _
  have hbel : Bel K base w (crW w b nm) := ((h.refl.alloc hbase _).alloc (by simp; omega) _).alloc (by simp; omega) _
  have x1 : (crW w b nm).heap[w.heap.size]? = some (.cells #[ptrOf b] 23 (0, 0)) := heap_old (heap_old (heap_new w _) _) _
  have x2 : (crW w b nm).heap[w.heap.size + 1]? = some (.cells #[.string nm] 9 (0, 0)) := heap_old (heap_new1 w _ _) _
  refine operate_go hS.hB h0 h1 hmx false 46 _ enters46 _ ?_
  intro w1 k1 k2
  have hS1 := hS.setB (fun i hi hne => k2.block i hi (by simpa using hne)) k1
  have y1 := (k2.block _ (lt_of_some x1) (by simp; omega)).trans x1
  have y2 := (k2.block _ (lt_of_some x2) (by simp; omega)).trans x2
  have hb1 := hbel.grown k2 (Nat.le_trans hbase hbel.size) (by intro k hk; cases hk; exact h.hb)
  refine (clo46 hS1 nm hn hroom (Nat.le_trans hbase hb1.size) _ _ (cell0 y1) (cell0 y2)).mono ?_
  rintro e w' ⟨rfl, h2, h3⟩
  exact ⟨rfl, h2, hb1.trans h3⟩

set_option maxHeartbeats 1000000 in
theorem create_ok {K : Nat → Prop} {base : Nat} {w : World} {b bm : Nat} {s : WS} {D : DataW Value} {F : List UInt8 → Option FileS} (h : S K base w b bm s D F) (hbase : base ≤ w.heap.size) (ho : s.off = false) (nm : ByteArray) (hn : nm.size ≤ maxLen) (hg : goodB nm = true)
    (hroom : (F nm.data.toList).isSome = true ∨ Maps.size D < 16) (h0 : 0 ≤ s.left) (h1 : s.left ≠ 1) (hmx : s.left ≤ 9223372036854775807) :
    Calls Try.prog 15 #[ptrOf b, .string nm] w fun e w' => e = .returned (.int .i64 0) ∧
      ((∃ f, f.data = [] ∧ f.sy = 0 ∧ S K base w' b bm (stepped s) (D.put (.string nm.data.toList) (.held (ptrOf f.fb))) (upd F nm.data.toList (some f))) ∧ Bel K base w w') := by
  have hS : S K base (crW w b nm) b bm s D F := ((h.alloc _).alloc _).alloc _
  have R := refusal_on hS.hB ho (w.heap.size + 2) 1 [nm] (by simp [maxLen]) (by
    intro j hj; simp at hj; subst hj
    exact cell0 (by have := heap_new ((w.alloc (.cells #[ptrOf b] 23)).alloc (.cells #[.string nm] 9)) (.cells #[.string nm] 9); rw [size_alloc, size_alloc] at this; exact this)) (by intro j hj; simp at hj; subst hj; simpa using hn)
  have e8 : refE false [nm] = 0 := by simp [refE, hg]
  rw [e8] at R
  have RM := room_any hS nm hn
  have er : ((F nm.data.toList).isSome || decide ((Maps.size D : Int) < 16)) = true := by
    rcases hroom with e | e
    · simp [e]
    · simp; right; omega
  rw [er] at RM
  have O := create_do h hbase nm hn hroom h0 h1 hmx
  have mk := mkF
  clear e8 er hS h hroom h0 h1 hmx hg ho hn
  go_enter Try.func15, Try.ntmps15
  go_wp2_with (first
    | (go_at_call 43; refine R.mono ?_; rintro e w' ⟨rfl, rfl⟩)
    | (go_at_call 44; refine RM.mono ?_; rintro e w' ⟨rfl, rfl⟩)
    | (go_at_call 45; refine O.mono ?_; rintro e w' ⟨rfl, h2⟩))
  go_ret
  exact ⟨rfl, h2⟩
end Go.Proofs.Ytmeecjedikechaa

/- The contracts of Sync, Append, Cut, On, Power, Ops, copied and Read. -/
namespace Go.Proofs.Ytmeecjedikechaa
open Go.RowKit Go.Maps
open Go.WideMaps

theorem sync_do {K : Nat → Prop} {base : Nat} {w : World} {b bm : Nat} {s : WS} {D : DataW Value} {F : List UInt8 → Option FileS} (h : S K base w b bm s D F) (hbase : base ≤ w.heap.size) {nm : List UInt8} {f : FileS} (hf : F nm = some f) (o : Obj)
    (h0 : 0 ≤ s.left) (h1 : s.left ≠ 1) (hmx : s.left ≤ 9223372036854775807) :
    Calls Try.prog 45 #[ptrOf b, .bool false, .func (.func 49) #[] #[ptrOf (w.heap.size + 1)]] ((w.alloc o).alloc (.cells #[ptrOf f.fb] 73)) fun e w' => e = .returned (.int .i64 0) ∧
      (S K base w' b bm (stepped s) D (upd F nm (some ⟨f.fb, f.v, f.data, f.data.length⟩)) ∧ Bel K base w w') := by
  have hb : b < w.heap.size := lt_of_some h.hB
  have hS : S K base ((w.alloc o).alloc (.cells #[ptrOf f.fb] 73)) b bm s D F := (h.alloc _).alloc _
  have hbel : Bel K base w ((w.alloc o).alloc (.cells #[ptrOf f.fb] 73)) := (h.refl.alloc hbase _).alloc (by simp; omega) _
  have x1 := heap_new1 w o (.cells #[ptrOf f.fb] 73)
  refine operate_go hS.hB h0 h1 hmx false 49 _ enters49 _ ?_
  intro w1 k1 k2
  have hS1 := hS.setB (fun i hi hne => k2.block i hi (by simpa using hne)) k1
  have y1 := (k2.block _ (lt_of_some x1) (by simp; omega)).trans x1
  have hb1 := hbel.grown k2 (Nat.le_trans hbase hbel.size) (by intro k hk; cases hk; exact h.hb)
  refine (clo49 hS1 hf _ y1).mono ?_
  rintro e w' ⟨rfl, h2, h3⟩
  exact ⟨rfl, h2, hb1.trans h3⟩

set_option maxHeartbeats 1000000 in
theorem sync_ok {K : Nat → Prop} {base : Nat} {w : World} {b bm : Nat} {s : WS} {D : DataW Value} {F : List UInt8 → Option FileS} (h : S K base w b bm s D F) (hbase : base ≤ w.heap.size) (ho : s.off = false) (nm : ByteArray) (hn : nm.size ≤ maxLen) (hg : goodB nm = true) {f : FileS} (hf : F nm.data.toList = some f)
    (h0 : 0 ≤ s.left) (h1 : s.left ≠ 1) (hmx : s.left ≤ 9223372036854775807) :
    Calls Try.prog 17 #[ptrOf b, .string nm] w fun e w' => e = .returned (.int .i64 0) ∧
      (S K base w' b bm (stepped s) D (upd F nm.data.toList (some ⟨f.fb, f.v, f.data, f.data.length⟩)) ∧ Bel K base w w') := by
  have FD := find_some h ho nm hn hg hf
  have O := fun o => sync_do h hbase hf o h0 h1 hmx
  have HO : Hid (∀ o, Calls Try.prog 45 #[ptrOf b, .bool false, .func (.func 49) #[] #[ptrOf (w.heap.size + 1)]] ((w.alloc o).alloc (.cells #[ptrOf f.fb] 73)) fun e w' => e = .returned (.int .i64 0) ∧
      (S K base w' b bm (stepped s) D (upd F nm.data.toList (some ⟨f.fb, f.v, f.data, f.data.length⟩)) ∧ Bel K base w w')) := O
  have mk := mkF
  clear h hf h0 h1 hmx hg ho hn O
  go_enter Try.func17, Try.ntmps17
  go_wp2_with (first
    | (go_at_call 47; refine FD.mono ?_; rintro e w' ⟨rfl, o, rfl⟩)
    | (go_at_call 45; refine (HO.out _).mono ?_; rintro e w' ⟨rfl, h2⟩))
  go_ret
  exact ⟨rfl, h2⟩
set_option maxHeartbeats 1000000 in
theorem sync_cut {K : Nat → Prop} {base : Nat} {w : World} {b bm : Nat} {s : WS} {D : DataW Value} {F : List UInt8 → Option FileS} (h : S K base w b bm s D F) (hbase : base ≤ w.heap.size) (ho : s.off = false) (nm : ByteArray) (hn : nm.size ≤ maxLen) (hg : goodB nm = true) {f : FileS} (hf : F nm.data.toList = some f)
    (h1 : s.left = 1) (hkeep : 0 ≤ s.keep) (hkeep' : s.keep ≤ 9223372036854775807) :
    Calls Try.prog 17 #[ptrOf b, .string nm] w fun e w' => e = .returned (.int .i64 13) ∧
      S K base w' b bm { stepped s with off := true, keep := 0 } D (fun l => (F l).map (cutf s.keep)) ∧ Bel K base w w' := by
  have FD := find_some h ho nm hn hg hf
  have O := fun o dv => operate_cut ((h.alloc o).alloc (.cells #[ptrOf f.fb] 73)) h1 hkeep hkeep' (by simp; omega) dv
  have HO : Hid (∀ o dv, Calls Try.prog 45 #[ptrOf b, .bool false, dv] ((w.alloc o).alloc (.cells #[ptrOf f.fb] 73)) fun e w' => e = .returned (.int .i64 13) ∧
      S K base w' b bm { stepped s with off := true, keep := 0 } D (fun l => (F l).map (cutf s.keep)) ∧ Bel K base ((w.alloc o).alloc (.cells #[ptrOf f.fb] 73)) w') := O
  have HRf : Hid (Bel K base w w) := h.refl
  have mk := mkF
  clear h hf h1 hkeep hkeep' hg ho hn O
  go_enter Try.func17, Try.ntmps17
  go_wp2_with (first
    | (go_at_call 47; refine FD.mono ?_; rintro e w' ⟨rfl, o, rfl⟩)
    | (go_at_call 45; refine (HO.out _ _).mono ?_; rintro e w' ⟨rfl, h2, h3⟩))
  go_ret
  exact ⟨rfl, h2, ((HRf.out.alloc hbase _).alloc (by simp; omega) _).trans h3⟩

/-! ### Cut, On, Power, Ops -/
set_option maxHeartbeats 1000000 in
theorem cut_neg {K : Nat → Prop} {base : Nat} {w : World} {b bm : Nat} {s : WS} {D : DataW Value} {F : List UInt8 → Option FileS} (h : S K base w b bm s D F) (ho : s.off = false) (n keep : Int) (hn : 0 ≤ n) (hk : keep < 0) :
    Calls Try.prog 18 #[ptrOf b, .int .i64 n, .int .i64 keep] w fun e w' => e = .returned (.int .i64 2) ∧ w' = w := by
  have R := refusal_nil h.hB ho
  clear h ho
  have hd : decide (n < 0) = false := by simp; omega
  go_enter Try.func18, Try.ntmps18
  go_wp2_with (go_at_call 43; refine R.mono ?_; rintro e w' ⟨rfl, rfl⟩)
  go_ret
  exact ⟨rfl, rfl⟩
set_option maxHeartbeats 1000000 in
theorem cut_ok {K : Nat → Prop} {base : Nat} {w : World} {b bm : Nat} {s : WS} {D : DataW Value} {F : List UInt8 → Option FileS} (h : S K base w b bm s D F) (ho : s.off = false) (n keep : Int) (hn : 0 ≤ n) (hk : 0 ≤ keep) :
    Calls Try.prog 18 #[ptrOf b, .int .i64 n, .int .i64 keep] w fun e w' => e = .returned (.int .i64 0) ∧ S K base w' b bm { s with left := n, keep := keep } D F ∧ Bel K base w w' := by
  have R := refusal_nil h.hB ho
  have E : Hid (S K base ((w.setCell ⟨b, 2, none⟩ (.int .i64 n)).setCell ⟨b, 3, none⟩ (.int .i64 keep)) b bm { s with left := n, keep := keep } D F ∧ Bel K base w ((w.setCell ⟨b, 2, none⟩ (.int .i64 n)).setCell ⟨b, 3, none⟩ (.int .i64 keep))) :=
    ⟨(h.setB (fun i _ hne => heap_set_other _ _ hne) (blk_left h.hB n)).setB (fun i _ hne => heap_set_other _ _ hne) (blk_keep (blk_left h.hB n) keep), (h.refl.setCell h.hb _).setCell h.hb _⟩
  obtain ⟨-, -, c2, c3, -⟩ := blk_cells h.hB
  have f2 := blk_frozen h.hB 2
  have f3 := blk_frozen h.hB 3
  clear h ho
  have hd : decide (n < 0) = false := by simp; omega
  have hd2 : decide (keep < 0) = false := by simp; omega
  go_enter Try.func18, Try.ntmps18
  go_wp2_with (go_at_call 43; refine R.mono ?_; rintro e w' ⟨rfl, rfl⟩)
  go_ret
  exact ⟨rfl, E.out⟩
set_option maxHeartbeats 1000000 in
theorem on_any {K : Nat → Prop} {base : Nat} {w : World} {b bm : Nat} {s : WS} {D : DataW Value} {F : List UInt8 → Option FileS} (h : S K base w b bm s D F) :
    Calls Try.prog 19 #[ptrOf b] w fun e w' => e = .returned (.bool (!s.off)) ∧ w' = w := by
  have R := made_yes h.hB
  obtain ⟨-, c1, -⟩ := blk_cells h.hB
  clear h
  go_enter Try.func19, Try.ntmps19
  go_wp2_with (go_at_call 50; refine R.mono ?_; rintro e w' ⟨rfl, rfl⟩)
  go_ret
  exact ⟨rfl, rfl⟩
set_option maxHeartbeats 1000000 in
theorem power_any {K : Nat → Prop} {base : Nat} {w : World} {b bm : Nat} {s : WS} {D : DataW Value} {F : List UInt8 → Option FileS} (h : S K base w b bm s D F) :
    Calls Try.prog 20 #[ptrOf b] w fun e w' => e = .returned (.tuple #[]) ∧ S K base w' b bm { s with off := false } D F ∧ Bel K base w w' := by
  have R := made_yes h.hB
  have E : Hid (S K base (w.setCell ⟨b, 1, none⟩ (.bool false)) b bm { s with off := false } D F ∧ Bel K base w (w.setCell ⟨b, 1, none⟩ (.bool false))) :=
    ⟨h.setB (fun i _ hne => heap_set_other _ _ hne) (blk_off h.hB false), h.refl.setCell h.hb _⟩
  obtain ⟨-, c1, -⟩ := blk_cells h.hB
  have f1 := blk_frozen h.hB 1
  clear h
  go_enter Try.func20, Try.ntmps20
  go_wp2_with (go_at_call 50; refine R.mono ?_; rintro e w' ⟨rfl, rfl⟩)
  go_end0
  exact ⟨rfl, E.out⟩
set_option maxHeartbeats 1000000 in
theorem ops_any {K : Nat → Prop} {base : Nat} {w : World} {b bm : Nat} {s : WS} {D : DataW Value} {F : List UInt8 → Option FileS} (h : S K base w b bm s D F) :
    Calls Try.prog 28 #[ptrOf b] w fun e w' => e = .returned (.int .i64 s.ops) ∧ w' = w := by
  have R := made_yes h.hB
  obtain ⟨-, -, -, -, c4, -⟩ := blk_cells h.hB
  clear h
  go_enter Try.func28, Try.ntmps28
  go_wp2_with (go_at_call 50; refine R.mono ?_; rintro e w' ⟨rfl, rfl⟩)
  go_ret
  exact ⟨rfl, rfl⟩
end Go.Proofs.Ytmeecjedikechaa

/- The contracts of Append, copied and Read. -/
namespace Go.Proofs.Ytmeecjedikechaa
open Go.RowKit Go.Maps
open Go.WideMaps

/-- the world ahead of operate, in Append -/
abbrev apW (w : World) (b : Nat) (bv : Value) (o : Obj) (fb : Nat) : World := (((w.alloc (.cells #[ptrOf b] 23)).alloc (.cells #[bv] 29)).alloc o).alloc (.cells #[ptrOf fb] 73)

theorem apW_facts {K : Nat → Prop} {base : Nat} {w : World} {b bm : Nat} {s : WS} {D : DataW Value} {F : List UInt8 → Option FileS} (h : S K base w b bm s D F) (hbase : base ≤ w.heap.size) (bv : Value) (o : Obj) (fb : Nat) :
    S K base (apW w b bv o fb) b bm s D F ∧ Bel K base w (apW w b bv o fb) ∧ (∀ i, i < w.heap.size → (apW w b bv o fb).heap[i]? = w.heap[i]?) ∧
    (apW w b bv o fb).heap[w.heap.size]? = some (.cells #[ptrOf b] 23 (0, 0)) ∧ (apW w b bv o fb).heap[w.heap.size + 1]? = some (.cells #[bv] 29 (0, 0)) ∧ (apW w b bv o fb).heap[w.heap.size + 3]? = some (.cells #[ptrOf fb] 73 (0, 0)) := by
  refine ⟨(((h.alloc _).alloc _).alloc _).alloc _, (((h.refl.alloc hbase _).alloc (by simp; omega) _).alloc (by simp; omega) _).alloc (by simp; omega) _, ?_, heap_old (heap_old (heap_old (heap_new w _) _) _) _, heap_old (heap_old (heap_new1 w _ _) _) _, ?_⟩
  · intro i hi
    rw [Below.heap_alloc _ _ i (by simp; omega), Below.heap_alloc _ _ i (by simp; omega), Below.heap_alloc _ _ i (by simp; omega), Below.heap_alloc _ _ i hi]
  · have := heap_new (((w.alloc (.cells #[ptrOf b] 23)).alloc (.cells #[bv] 29)).alloc o) (.cells #[ptrOf fb] 73)
    rw [size_alloc, size_alloc, size_alloc] at this; exact this

theorem append_clo {K : Nat → Prop} {base : Nat} {w : World} {b bm : Nat} {s : WS} {D : DataW Value} {F : List UInt8 → Option FileS} (h : S K base w b bm s D F) (hbase : base ≤ w.heap.size) {nm : List UInt8} {f : FileS} (hf : F nm = some f) (l : List UInt8) (bv : Value) (hs : SrcB w b bv l)
    (hn : f.data.length + l.length ≤ 1048576) (o : Obj) (w1 : World) (k1 : w1.heap[b]? = some (blk bm (stepped s))) (k2 : (apW w b bv o f.fb).grownBy w1 (some b)) :
    Calls Try.prog 48 #[ptrOf (w.heap.size + 3), ptrOf (w.heap.size + 1), ptrOf w.heap.size] w1 fun e w' => e = .returned (.tuple #[]) ∧
      ((∃ u, S K base w' b bm { stepped s with written := wrap64 (s.written + l.length) } D (upd F nm (some ⟨f.fb, u, f.data ++ l, f.sy⟩))) ∧ Bel K base w w') := by
  obtain ⟨hS, hbel, hk, x1, x2, x3⟩ := apW_facts h hbase bv o f.fb
  have hb : b < w.heap.size := lt_of_some h.hB
  have hS1 := hS.setB (fun i hi hne => k2.block i hi (by simpa using hne)) k1
  have y1 := (k2.block _ (lt_of_some x1) (by simp; omega)).trans x1
  have y2 := (k2.block _ (lt_of_some x2) (by simp; omega)).trans x2
  have y3 := (k2.block _ (lt_of_some x3) (by simp; omega)).trans x3
  have hb1 := hbel.grown k2 (Nat.le_trans hbase hbel.size) (by intro k hk; cases hk; exact h.hb)
  have hs1 : SrcB w1 b bv l := hs.kept fun i hi hne => (k2.block i (Nat.lt_of_lt_of_le hi hbel.size) (by simpa using hne)).trans (hk i hi)
  refine (clo48 hS1 hf l bv hs1 hn (Nat.le_trans hbase hb1.size) _ _ _ y3 y2 y1).mono ?_
  rintro e w' ⟨rfl, h2, h3⟩
  exact ⟨rfl, h2, hb1.trans h3⟩

theorem append_do {K : Nat → Prop} {base : Nat} {w : World} {b bm : Nat} {s : WS} {D : DataW Value} {F : List UInt8 → Option FileS} (h : S K base w b bm s D F) (hbase : base ≤ w.heap.size) {nm : List UInt8} {f : FileS} (hf : F nm = some f) (l : List UInt8) (bv : Value) (hs : SrcB w b bv l)
    (hn : f.data.length + l.length ≤ 1048576) (o : Obj) (h0 : 0 ≤ s.left) (h1 : s.left ≠ 1) (hmx : s.left ≤ 9223372036854775807) :
    Calls Try.prog 45 #[ptrOf b, .bool true, .func (.func 48) #[] #[ptrOf (w.heap.size + 3), ptrOf (w.heap.size + 1), ptrOf w.heap.size]] ((apW w b bv o f.fb).drew) fun e w' => e = .returned (.int .i64 0) ∧
      ((∃ u, S K base w' b bm { stepped s with written := wrap64 (s.written + l.length) } D (upd F nm (some ⟨f.fb, u, f.data ++ l, f.sy⟩))) ∧ Bel K base w w') := by
  obtain ⟨hS, -⟩ := apW_facts h hbase bv o f.fb
  exact operate_go hS.drew.hB h0 h1 hmx true 48 _ enters48 _ fun w1 k1 k2 => append_clo h hbase hf l bv hs hn o w1 k1 ⟨k2.os, k2.tape, k2.output, k2.size, k2.block⟩

theorem append_even {K : Nat → Prop} {base : Nat} {w : World} {b bm : Nat} {s : WS} {D : DataW Value} {F : List UInt8 → Option FileS} (h : S K base w b bm s D F) (hbase : base ≤ w.heap.size) {nm : List UInt8} {f : FileS} (hf : F nm = some f) (l : List UInt8) (bv : Value) (hs : SrcB w b bv l)
    (hn : f.data.length + l.length ≤ 1048576) (o : Obj) (h1 : s.left = 1) (hkeep : 0 ≤ s.keep) (hkeep' : s.keep ≤ 9223372036854775807) :
    Calls Try.prog 45 #[ptrOf b, .bool true, .func (.func 48) #[] #[ptrOf (w.heap.size + 3), ptrOf (w.heap.size + 1), ptrOf w.heap.size]] ((apW w b bv o f.fb).drew) fun e w' => e = .returned (.int .i64 13) ∧
      ((∃ u, S K base w' b bm { stepped s with written := wrap64 (s.written + l.length), off := true, keep := 0 } D (fun x => (upd F nm (some ⟨f.fb, u, f.data ++ l, f.sy⟩) x).map (cutf s.keep))) ∧ Bel K base w w') := by
  obtain ⟨hS, -⟩ := apW_facts h hbase bv o f.fb
  refine (operate_even (K := K) (base := base) (w0 := w) hS.drew.hB h1 hkeep hkeep' hbase 48 _ enters48 { stepped s with written := wrap64 (s.written + l.length) } D (fun F2 => ∃ u, F2 = upd F nm (some ⟨f.fb, u, f.data ++ l, f.sy⟩)) rfl ?_).mono ?_
  · intro w1 k1 k2
    have k3 : (apW w b bv o f.fb).grownBy w1 (some b) := ⟨k2.os, k2.tape, k2.output, k2.size, k2.block⟩
    refine (append_clo h hbase hf l bv hs hn o w1 k1 k3).mono ?_
    rintro e w' ⟨rfl, ⟨u, h2⟩, h3⟩
    exact ⟨rfl, ⟨_, ⟨u, rfl⟩, h2⟩, h3⟩
  · rintro e w' ⟨rfl, ⟨F2, ⟨u, rfl⟩, h2⟩, h3⟩
    exact ⟨rfl, ⟨u, h2⟩, h3⟩

set_option maxHeartbeats 1000000 in
theorem append_ok {K : Nat → Prop} {base : Nat} {w : World} {b bm : Nat} {s : WS} {D : DataW Value} {F : List UInt8 → Option FileS} (h : S K base w b bm s D F) (hbase : base ≤ w.heap.size) (ho : s.off = false) (nm : ByteArray) (hnm : nm.size ≤ maxLen) (hg : goodB nm = true) {f : FileS} (hf : F nm.data.toList = some f)
    (l : List UInt8) (bv : Value) (hs : SrcB w b bv l) (hn : f.data.length + l.length ≤ 1048576) (h0 : 0 ≤ s.left) (h1 : s.left ≠ 1) (hmx : s.left ≤ 9223372036854775807) :
    Calls Try.prog 16 #[ptrOf b, .string nm, bv] w fun e w' => e = .returned (.int .i64 0) ∧
      ((∃ u, S K base w' b bm { stepped s with written := wrap64 (s.written + l.length) } D (upd F nm.data.toList (some ⟨f.fb, u, f.data ++ l, f.sy⟩))) ∧ Bel K base w w') := by
  have FD := find_some ((h.alloc (.cells #[ptrOf b] 23)).alloc (.cells #[bv] 29)) ho nm hnm hg hf
  have HO : Hid _ := fun o => append_do h hbase hf l bv hs hn o h0 h1 hmx
  obtain ⟨g1, g2, g3, g4, g5⟩ := h.files _ _ hf
  obtain ⟨d1, d2, hvl⟩ := ownsRow_slice g3
  have hc : Hid (∀ o, (apW w b bv o f.fb).cell? ⟨f.fb, 0, none⟩ = some (.slice d1 f.data.length d2)) := by
    intro o
    obtain ⟨-, -, hk, -⟩ := apW_facts h hbase bv o f.fb
    rw [World.cell?_of_block (hk f.fb (lt_of_some g2)), (fcells g2).1, hvl]
  obtain ⟨c1, c2, hbl⟩ : ∃ c1 c2, bv = .slice c1 l.length c2 := by
    rcases hs with ⟨rfl, rfl⟩ | ⟨a, cap, rfl, _⟩
    · exact ⟨none, 0, rfl⟩
    · exact ⟨_, _, rfl⟩
  have mk := mkF
  clear h hf h0 h1 hmx hg ho hnm hs g1 g2 g3 g4 hvl
  subst hbl
  go_enter Try.func16, Try.ntmps16
  go_wp2_with (first
    | (go_at_call 47; refine FD.mono ?_; rintro e w' ⟨rfl, o, rfl⟩))
  have hco := hc.out o
  go_region
  go_wp2_with (go_at_call 45; refine (HO.out _).mono ?_; rintro e w' ⟨rfl, h2⟩)
  go_ret
  exact ⟨rfl, h2⟩

set_option maxHeartbeats 1000000 in
theorem append_cut {K : Nat → Prop} {base : Nat} {w : World} {b bm : Nat} {s : WS} {D : DataW Value} {F : List UInt8 → Option FileS} (h : S K base w b bm s D F) (hbase : base ≤ w.heap.size) (ho : s.off = false) (nm : ByteArray) (hnm : nm.size ≤ maxLen) (hg : goodB nm = true) {f : FileS} (hf : F nm.data.toList = some f)
    (l : List UInt8) (bv : Value) (hs : SrcB w b bv l) (hn : f.data.length + l.length ≤ 1048576) (h1 : s.left = 1) (hkeep : 0 ≤ s.keep) (hkeep' : s.keep ≤ 9223372036854775807) :
    Calls Try.prog 16 #[ptrOf b, .string nm, bv] w fun e w' => e = .returned (.int .i64 13) ∧
      ((∃ u, S K base w' b bm { stepped s with written := wrap64 (s.written + l.length), off := true, keep := 0 } D (fun x => (upd F nm.data.toList (some ⟨f.fb, u, f.data ++ l, f.sy⟩) x).map (cutf s.keep))) ∧ Bel K base w w') := by
  have FD := find_some ((h.alloc (.cells #[ptrOf b] 23)).alloc (.cells #[bv] 29)) ho nm hnm hg hf
  have HO : Hid _ := fun o => append_even h hbase hf l bv hs hn o h1 hkeep hkeep'
  obtain ⟨g1, g2, g3, g4, g5⟩ := h.files _ _ hf
  obtain ⟨d1, d2, hvl⟩ := ownsRow_slice g3
  have hc : Hid (∀ o, (apW w b bv o f.fb).cell? ⟨f.fb, 0, none⟩ = some (.slice d1 f.data.length d2)) := by
    intro o
    obtain ⟨-, -, hk, -⟩ := apW_facts h hbase bv o f.fb
    rw [World.cell?_of_block (hk f.fb (lt_of_some g2)), (fcells g2).1, hvl]
  obtain ⟨c1, c2, hbl⟩ : ∃ c1 c2, bv = .slice c1 l.length c2 := by
    rcases hs with ⟨rfl, rfl⟩ | ⟨a, cap, rfl, _⟩
    · exact ⟨none, 0, rfl⟩
    · exact ⟨_, _, rfl⟩
  have mk := mkF
  clear h hf h1 hkeep hkeep' hg ho hnm hs g1 g2 g3 g4 hvl
  subst hbl
  go_enter Try.func16, Try.ntmps16
  go_wp2_with (first
    | (go_at_call 47; refine FD.mono ?_; rintro e w' ⟨rfl, o, rfl⟩))
  have hco := hc.out o
  go_region
  go_wp2_with (go_at_call 45; refine (HO.out _).mono ?_; rintro e w' ⟨rfl, h2⟩)
  go_ret
  exact ⟨rfl, h2⟩

/-! ### copied, Read -/
theorem wpList_append_run {P : Program} {w : World} {ops : Array Oper} {rest : List Oper} {o : Oper} {a : Act} {Q : Exit → Act → World → Prop} (hgd : o.guard = none) (s x : Operand) (t : TypeId)
    (ho : o.op = .call { callee := .builtin .append, args := #[s, x], argTypes := #[t, t] }) (v bv v' : Value) (w' : World) (hs : a.eval s = v) (hx : a.eval x = bv) (hrun : (Builtin.append_ #[t, t] o.type #[v, bv]).run P w = .ok v' w')
    (h : wpList P ops Q rest (a.put o.dst v') w') : wpList P ops Q (o :: rest) a w := by
  refine wpList_plain hgd fun K hK => ?_
  unfold Oper.wp
  simp [execOp, ho, resolve, invoke, builtin, hs, hx, hrun, Result.andThen]
  exact hK _ _ h

set_option maxHeartbeats 1000000 in
theorem copied_any {w : World} {b : Nat} {bv : Value} {l : List UInt8} (base : Nat) (hs : SrcB w b bv l) (hl : l.length ≤ 1048576) (hbase : base ≤ w.heap.size) :
    Calls Try.prog 51 #[bv] w fun e w' => ∃ v, e = .returned v ∧ w'.ownsRow base 5 1 v l.length (bcells l) ∧ w.grownBy w' none ∧ (∀ g, v.ownBlock = some g → w.heap.size ≤ g) := by
  obtain ⟨v', w1, hrun, hown, hgr, hloc⟩ := app_src (b := b) 29 (World.ownsRow_nil w base 5 1) hs (by omega) hbase
  have E : Hid (w1.ownsRow base 5 1 v' l.length (bcells l) ∧ w.grownBy w1 none ∧ (∀ g, v'.ownBlock = some g → w.heap.size ≤ g)) := by
    refine ⟨by simpa using hown, hgr, ?_⟩
    intro g hg
    rcases hloc with e | e
    · rw [e] at hg; simp [Value.ownBlock] at hg
    · rw [e] at hg; cases hg; exact Nat.le_refl _
  have HR : Hid _ := hrun
  clear hrun hown hgr hloc hs hl hbase
  go_enter Try.func51, Try.ntmps51
  go_wp2_with (at_builtin; refine wpList_append_run rfl _ _ 29 rfl _ _ _ _ rfl rfl HR.out ?_)
  go_ret
  exact ⟨v', rfl, E.out⟩

theorem S.src {K : Nat → Prop} {base : Nat} {w : World} {b bm : Nat} {s : WS} {D : DataW Value} {F : List UInt8 → Option FileS} (h : S K base w b bm s D F) {l : List UInt8} {f : FileS} (hf : F l = some f) : SrcB w b f.v f.data := by
  obtain ⟨g1, g2, g3, g4, g5⟩ := h.files l f hf
  rcases g3.2 with ⟨h1, h2⟩ | ⟨g, cap, cur, h1, h2, h3, h4, h5, h6, h7⟩
  · exact .inl ⟨h1, List.eq_nil_of_length_eq_zero h2⟩
  · refine .inr ⟨⟨g, 0, none⟩, cap, h1, ?_, ?_⟩
    · rintro _ rfl; rw [h.hB] at h3; simp [blk] at h3
    · exact g3.cells (g := g) (by rw [h1]; rfl)

set_option maxHeartbeats 1000000 in
theorem read_ok {K : Nat → Prop} {base : Nat} {w : World} {b bm : Nat} {s : WS} {D : DataW Value} {F : List UInt8 → Option FileS} (h : S K base w b bm s D F) (hbase : base ≤ w.heap.size) (ho : s.off = false) (nm : ByteArray) (hnm : nm.size ≤ maxLen) (hg : goodB nm = true) {f : FileS} (hf : F nm.data.toList = some f) :
    Calls Try.prog 21 #[ptrOf b, .string nm] w fun e w' => ∃ v, e = .returned (.tuple #[v, .int .i64 0]) ∧ w'.ownsRow base 5 1 v f.data.length (bcells f.data) ∧ S K base w' b bm s D F ∧ Bel K base w w' ∧ (∀ g, v.ownBlock = some g → w.heap.size ≤ g) := by
  have FD := find_some h ho nm hnm hg hf
  have HC : Hid _ := fun o => copied_any base ((h.alloc o).src hf) (h.files _ _ hf).2.2.2.2 (by simp; omega)
  have cf : Hid (∀ o, (w.alloc o).cell? ⟨f.fb, 0, none⟩ = some f.v) := fun o => cell_alloc (fcells (h.files _ _ hf).2.1).1 o
  have H : Hid (S K base w b bm s D F) := h
  clear h ho hf hnm hg
  go_enter Try.func21, Try.ntmps21
  go_wp2_with (first
    | (go_at_call 47; refine FD.mono ?_; rintro e w' ⟨rfl, o, rfl⟩; have cfo := cf.out o)
    | (go_at_call 51; refine (HC.out _).mono ?_; rintro e w' ⟨v, rfl, h2, h3, h4⟩))
  go_ret2
  exact ⟨v, rfl, h2, (H.out.alloc o).grown fun i hi => h3.block i hi (by simp), (H.out.refl.alloc hbase o).grown h3 (by simp; omega) (by simp), fun g hg => by have := h4 g hg; simp at this; omega⟩
end Go.Proofs.Ytmeecjedikechaa
