/- The contracts of Sync, Append, Cut, On, Power, Ops, copied and Read. -/
import Derived.Test.YtjncibejdplamaaCreate
import Derived.Deep.QuietTactic
import Derived.BigQuiet
namespace Go.Proofs.Ytjncibejdplamaa
open Go.RowKit Go.Maps
open Go.WideMaps

theorem sync_do {K : Nat → Prop} {base : Nat} {w : World} {b bm : Nat} {s : WS} {D : DataW Value} {F : List UInt8 → Option FileS} (h : S K base w b bm s D F) (hbase : base ≤ w.heap.size) {nm : List UInt8} {f : FileS} (hf : F nm = some f) (o : Obj)
    (h0 : 0 ≤ s.left) (h1 : s.left ≠ 1) (hmx : s.left ≤ 9223372036854775807) :
    Calls Try.prog 45 #[ptrOf b, .bool false, .func (.func 49) #[] #[ptrOf (w.heap.size + 1)]] ((w.alloc o).alloc (.cells #[ptrOf f.fb] 73)) fun e w' => e = .returned (.int .i64 0) ∧
      (S K base w' b bm (stepped s) D (upd F nm (some ⟨f.fb, f.v, f.data, f.data.length⟩)) ∧ Bel K base w w') := by
  have hb : b < w.heap.size := lt_of_some h.hB
  have hS : S K base ((w.alloc o).alloc (.cells #[ptrOf f.fb] 73)) b bm s D F := (h.alloc _).alloc _
  have hbel : Bel K base w ((w.alloc o).alloc (.cells #[ptrOf f.fb] 73)) := (h.refl.alloc hbase _).alloc (by simp; omega) _
  have x1 := heap_new1 w o (.cells #[ptrOf f.fb] 73)
  refine operate_go hS.hB h0 h1 hmx false 49 _ enters49 _ ?_
  intro w1 k1 k2
  have hS1 := hS.setB (fun i hi hne => k2.block i hi (by simpa using hne)) k1
  have y1 := (k2.block _ (lt_of_some x1) (by simp; omega)).trans x1
  have hb1 := hbel.grown k2 (Nat.le_trans hbase hbel.size) (by intro k hk; cases hk; exact h.hb)
  refine (clo49 hS1 hf _ y1).mono ?_
  rintro e w' ⟨rfl, h2, h3⟩
  exact ⟨rfl, h2, hb1.trans h3⟩

set_option maxHeartbeats 1000000 in
theorem sync_ok {K : Nat → Prop} {base : Nat} {w : World} {b bm : Nat} {s : WS} {D : DataW Value} {F : List UInt8 → Option FileS} (h : S K base w b bm s D F) (hbase : base ≤ w.heap.size) (ho : s.off = false) (nm : ByteArray) (hn : nm.size ≤ maxLen) (hg : goodB nm = true) {f : FileS} (hf : F nm.data.toList = some f)
    (h0 : 0 ≤ s.left) (h1 : s.left ≠ 1) (hmx : s.left ≤ 9223372036854775807) :
    Calls Try.prog 17 #[ptrOf b, .string nm] w fun e w' => e = .returned (.int .i64 0) ∧
      (S K base w' b bm (stepped s) D (upd F nm.data.toList (some ⟨f.fb, f.v, f.data, f.data.length⟩)) ∧ Bel K base w w') := by
  have FD := find_some h ho nm hn hg hf
  have O := fun o => sync_do h hbase hf o h0 h1 hmx
  have HO : Hid (∀ o, Calls Try.prog 45 #[ptrOf b, .bool false, .func (.func 49) #[] #[ptrOf (w.heap.size + 1)]] ((w.alloc o).alloc (.cells #[ptrOf f.fb] 73)) fun e w' => e = .returned (.int .i64 0) ∧
      (S K base w' b bm (stepped s) D (upd F nm.data.toList (some ⟨f.fb, f.v, f.data, f.data.length⟩)) ∧ Bel K base w w')) := O
  have mk := mkF
  clear h hf h0 h1 hmx hg ho hn O
  go_enter Try.func17, Try.ntmps17
  go_wp2_with (first
    | (go_at_call 47; refine FD.mono ?_; rintro e w' ⟨rfl, o, rfl⟩)
    | (go_at_call 45; refine (HO.out _).mono ?_; rintro e w' ⟨rfl, h2⟩))
  go_ret
  exact ⟨rfl, h2⟩
set_option maxHeartbeats 1000000 in
theorem sync_cut {K : Nat → Prop} {base : Nat} {w : World} {b bm : Nat} {s : WS} {D : DataW Value} {F : List UInt8 → Option FileS} (h : S K base w b bm s D F) (hbase : base ≤ w.heap.size) (ho : s.off = false) (nm : ByteArray) (hn : nm.size ≤ maxLen) (hg : goodB nm = true) {f : FileS} (hf : F nm.data.toList = some f)
    (h1 : s.left = 1) (hkeep : 0 ≤ s.keep) (hkeep' : s.keep ≤ 9223372036854775807) :
    Calls Try.prog 17 #[ptrOf b, .string nm] w fun e w' => e = .returned (.int .i64 13) ∧
      S K base w' b bm { stepped s with off := true, keep := 0 } D (fun l => (F l).map (cutf s.keep)) ∧ Bel K base w w' := by
  have FD := find_some h ho nm hn hg hf
  have O := fun o dv => operate_cut ((h.alloc o).alloc (.cells #[ptrOf f.fb] 73)) h1 hkeep hkeep' (by simp; omega) dv
  have HO : Hid (∀ o dv, Calls Try.prog 45 #[ptrOf b, .bool false, dv] ((w.alloc o).alloc (.cells #[ptrOf f.fb] 73)) fun e w' => e = .returned (.int .i64 13) ∧
      S K base w' b bm { stepped s with off := true, keep := 0 } D (fun l => (F l).map (cutf s.keep)) ∧ Bel K base ((w.alloc o).alloc (.cells #[ptrOf f.fb] 73)) w') := O
  have HRf : Hid (Bel K base w w) := h.refl
  have mk := mkF
  clear h hf h1 hkeep hkeep' hg ho hn O
  go_enter Try.func17, Try.ntmps17
  go_wp2_with (first
    | (go_at_call 47; refine FD.mono ?_; rintro e w' ⟨rfl, o, rfl⟩)
    | (go_at_call 45; refine (HO.out _ _).mono ?_; rintro e w' ⟨rfl, h2, h3⟩))
  go_ret
  exact ⟨rfl, h2, ((HRf.out.alloc hbase _).alloc (by simp; omega) _).trans h3⟩

/-! ### Cut, On, Power, Ops -/
set_option maxHeartbeats 1000000 in
theorem cut_neg {K : Nat → Prop} {base : Nat} {w : World} {b bm : Nat} {s : WS} {D : DataW Value} {F : List UInt8 → Option FileS} (h : S K base w b bm s D F) (ho : s.off = false) (n keep : Int) (hn : 0 ≤ n) (hk : keep < 0) :
    Calls Try.prog 18 #[ptrOf b, .int .i64 n, .int .i64 keep] w fun e w' => e = .returned (.int .i64 2) ∧ w' = w := by
  have R := refusal_nil h.hB ho
  clear h ho
  have hd : decide (n < 0) = false := by simp; omega
  go_enter Try.func18, Try.ntmps18
  go_wp2_with (go_at_call 43; refine R.mono ?_; rintro e w' ⟨rfl, rfl⟩)
  go_ret
  exact ⟨rfl, rfl⟩
set_option maxHeartbeats 1000000 in
theorem cut_ok {K : Nat → Prop} {base : Nat} {w : World} {b bm : Nat} {s : WS} {D : DataW Value} {F : List UInt8 → Option FileS} (h : S K base w b bm s D F) (ho : s.off = false) (n keep : Int) (hn : 0 ≤ n) (hk : 0 ≤ keep) :
    Calls Try.prog 18 #[ptrOf b, .int .i64 n, .int .i64 keep] w fun e w' => e = .returned (.int .i64 0) ∧ S K base w' b bm { s with left := n, keep := keep } D F ∧ Bel K base w w' := by
  have R := refusal_nil h.hB ho
  have E : Hid (S K base ((w.setCell ⟨b, 2, none⟩ (.int .i64 n)).setCell ⟨b, 3, none⟩ (.int .i64 keep)) b bm { s with left := n, keep := keep } D F ∧ Bel K base w ((w.setCell ⟨b, 2, none⟩ (.int .i64 n)).setCell ⟨b, 3, none⟩ (.int .i64 keep))) :=
    ⟨(h.setB (fun i _ hne => heap_set_other _ _ hne) (blk_left h.hB n)).setB (fun i _ hne => heap_set_other _ _ hne) (blk_keep (blk_left h.hB n) keep), (h.refl.setCell h.hb _).setCell h.hb _⟩
  obtain ⟨-, -, c2, c3, -⟩ := blk_cells h.hB
  have f2 := blk_frozen h.hB 2
  have f3 := blk_frozen h.hB 3
  clear h ho
  have hd : decide (n < 0) = false := by simp; omega
  have hd2 : decide (keep < 0) = false := by simp; omega
  go_enter Try.func18, Try.ntmps18
  go_wp2_with (go_at_call 43; refine R.mono ?_; rintro e w' ⟨rfl, rfl⟩)
  go_ret
  exact ⟨rfl, E.out⟩
set_option maxHeartbeats 1000000 in
theorem on_any {K : Nat → Prop} {base : Nat} {w : World} {b bm : Nat} {s : WS} {D : DataW Value} {F : List UInt8 → Option FileS} (h : S K base w b bm s D F) :
    Calls Try.prog 19 #[ptrOf b] w fun e w' => e = .returned (.bool (!s.off)) ∧ w' = w := by
  have R := made_yes h.hB
  obtain ⟨-, c1, -⟩ := blk_cells h.hB
  clear h
  go_enter Try.func19, Try.ntmps19
  go_wp2_with (go_at_call 50; refine R.mono ?_; rintro e w' ⟨rfl, rfl⟩)
  go_ret
  exact ⟨rfl, rfl⟩
set_option maxHeartbeats 1000000 in
theorem power_any {K : Nat → Prop} {base : Nat} {w : World} {b bm : Nat} {s : WS} {D : DataW Value} {F : List UInt8 → Option FileS} (h : S K base w b bm s D F) :
    Calls Try.prog 20 #[ptrOf b] w fun e w' => e = .returned (.tuple #[]) ∧ S K base w' b bm { s with off := false } D F ∧ Bel K base w w' := by
  have R := made_yes h.hB
  have E : Hid (S K base (w.setCell ⟨b, 1, none⟩ (.bool false)) b bm { s with off := false } D F ∧ Bel K base w (w.setCell ⟨b, 1, none⟩ (.bool false))) :=
    ⟨h.setB (fun i _ hne => heap_set_other _ _ hne) (blk_off h.hB false), h.refl.setCell h.hb _⟩
  obtain ⟨-, c1, -⟩ := blk_cells h.hB
  have f1 := blk_frozen h.hB 1
  clear h
  go_enter Try.func20, Try.ntmps20
  go_wp2_with (go_at_call 50; refine R.mono ?_; rintro e w' ⟨rfl, rfl⟩)
  go_end0
  exact ⟨rfl, E.out⟩
set_option maxHeartbeats 1000000 in
theorem ops_any {K : Nat → Prop} {base : Nat} {w : World} {b bm : Nat} {s : WS} {D : DataW Value} {F : List UInt8 → Option FileS} (h : S K base w b bm s D F) :
    Calls Try.prog 28 #[ptrOf b] w fun e w' => e = .returned (.int .i64 s.ops) ∧ w' = w := by
  have R := made_yes h.hB
  obtain ⟨-, -, -, -, c4, -⟩ := blk_cells h.hB
  clear h
  go_enter Try.func28, Try.ntmps28
  go_wp2_with (go_at_call 50; refine R.mono ?_; rintro e w' ⟨rfl, rfl⟩)
  go_ret
  exact ⟨rfl, rfl⟩
end Go.Proofs.Ytjncibejdplamaa
