/- The contracts of Create and Sync. -/
import Derived.Test.YtjncibejdplamaaOper
namespace Go.Proofs.Ytjncibejdplamaa
open Go.RowKit Go.Maps
open Go.WideMaps

theorem heap_new (w : World) (o : Obj) : (w.alloc o).heap[w.heap.size]? = some o := heap_alloc_new w o
theorem heap_old {w : World} {i : Nat} {x : Obj} (h : w.heap[i]? = some x) (o : Obj) : (w.alloc o).heap[i]? = some x := (Below.heap_alloc w o i (lt_of_some h)).trans h
theorem size_alloc (w : World) (o : Obj) : (w.alloc o).heap.size = w.heap.size + 1 := by simp
theorem heap_new1 (w : World) (o o2 : Obj) : ((w.alloc o).alloc o2).heap[w.heap.size + 1]? = some o2 := by
  have := heap_new (w.alloc o) o2; rw [size_alloc] at this; exact this

theorem enters46 : ∀ (args : Array Value) (w : World), (callFunc 46 args).run Try.prog w = .ok (.enter 46 args) w := enters_of Try.func46 (by kernel_rfl) rfl
theorem enters48 : ∀ (args : Array Value) (w : World), (callFunc 48 args).run Try.prog w = .ok (.enter 48 args) w := enters_of Try.func48 (by kernel_rfl) rfl
theorem enters49 : ∀ (args : Array Value) (w : World), (callFunc 49 args).run Try.prog w = .ok (.enter 49 args) w := enters_of Try.func49 (by kernel_rfl) rfl

theorem mkF (fn : Fn) (first cap : Array Value) (w : World) : (Instr.makeFunc fn first cap).run Try.prog w = .ok (.func fn first cap) w := rfl

/-- the world ahead of operate, in Create -/
abbrev crW (w : World) (b : Nat) (nm : ByteArray) : World := ((w.alloc (.cells #[ptrOf b] 23)).alloc (.cells #[.string nm] 9)).alloc (.cells #[.string nm] 9)

theorem create_do {K : Nat → Prop} {base : Nat} {w : World} {b bm : Nat} {s : WS} {D : DataW Value} {F : List UInt8 → Option FileS} (h : S K base w b bm s D F) (hbase : base ≤ w.heap.size) (nm : ByteArray) (hn : nm.size ≤ maxLen) (hroom : (F nm.data.toList).isSome = true ∨ Maps.size D < 16)
    (h0 : 0 ≤ s.left) (h1 : s.left ≠ 1) (hmx : s.left ≤ 9223372036854775807) :
    Calls Try.prog 45 #[ptrOf b, .bool false, .func (.func 46) #[] #[ptrOf w.heap.size, ptrOf (w.heap.size + 1)]] (crW w b nm) fun e w' => e = .returned (.int .i64 0) ∧
      ((∃ f, f.data = [] ∧ f.sy = 0 ∧ S K base w' b bm (stepped s) (D.put (.string nm.data.toList) (.held (ptrOf f.fb))) (upd F nm.data.toList (some f))) ∧ Bel K base w w') := by
  have hb : b < w.heap.size := lt_of_some h.hB
  have hS : S K base (crW w b nm) b bm s D F := ((h.alloc _).alloc _).alloc _
  have hbel : Bel K base w (crW w b nm) := ((h.refl.alloc hbase _).alloc (by simp; omega) _).alloc (by simp; omega) _
  have x1 : (crW w b nm).heap[w.heap.size]? = some (.cells #[ptrOf b] 23 (0, 0)) := heap_old (heap_old (heap_new w _) _) _
  have x2 : (crW w b nm).heap[w.heap.size + 1]? = some (.cells #[.string nm] 9 (0, 0)) := heap_old (heap_new1 w _ _) _
  refine operate_go hS.hB h0 h1 hmx false 46 _ enters46 _ ?_
  intro w1 k1 k2
  have hS1 := hS.setB (fun i hi hne => k2.block i hi (by simpa using hne)) k1
  have y1 := (k2.block _ (lt_of_some x1) (by simp; omega)).trans x1
  have y2 := (k2.block _ (lt_of_some x2) (by simp; omega)).trans x2
  have hb1 := hbel.grown k2 (Nat.le_trans hbase hbel.size) (by intro k hk; cases hk; exact h.hb)
  refine (clo46 hS1 nm hn hroom (Nat.le_trans hbase hb1.size) _ _ (cell0 y1) (cell0 y2)).mono ?_
  rintro e w' ⟨rfl, h2, h3⟩
  exact ⟨rfl, h2, hb1.trans h3⟩

set_option maxHeartbeats 1000000 in
theorem create_ok {K : Nat → Prop} {base : Nat} {w : World} {b bm : Nat} {s : WS} {D : DataW Value} {F : List UInt8 → Option FileS} (h : S K base w b bm s D F) (hbase : base ≤ w.heap.size) (ho : s.off = false) (nm : ByteArray) (hn : nm.size ≤ maxLen) (hg : goodB nm = true)
    (hroom : (F nm.data.toList).isSome = true ∨ Maps.size D < 16) (h0 : 0 ≤ s.left) (h1 : s.left ≠ 1) (hmx : s.left ≤ 9223372036854775807) :
    Calls Try.prog 15 #[ptrOf b, .string nm] w fun e w' => e = .returned (.int .i64 0) ∧
      ((∃ f, f.data = [] ∧ f.sy = 0 ∧ S K base w' b bm (stepped s) (D.put (.string nm.data.toList) (.held (ptrOf f.fb))) (upd F nm.data.toList (some f))) ∧ Bel K base w w') := by
  have hS : S K base (crW w b nm) b bm s D F := ((h.alloc _).alloc _).alloc _
  have R := refusal_on hS.hB ho (w.heap.size + 2) 1 [nm] (by simp [maxLen]) (by
    intro j hj; simp at hj; subst hj
    exact cell0 (by have := heap_new ((w.alloc (.cells #[ptrOf b] 23)).alloc (.cells #[.string nm] 9)) (.cells #[.string nm] 9); rw [size_alloc, size_alloc] at this; exact this)) (by intro j hj; simp at hj; subst hj; simpa using hn)
  have e8 : refE false [nm] = 0 := by simp [refE, hg]
  rw [e8] at R
  have RM := room_any hS nm hn
  have er : ((F nm.data.toList).isSome || decide ((Maps.size D : Int) < 16)) = true := by
    rcases hroom with e | e
    · simp [e]
    · simp; right; omega
  rw [er] at RM
  have O := create_do h hbase nm hn hroom h0 h1 hmx
  have mk := mkF
  clear e8 er hS h hroom h0 h1 hmx hg ho hn
  go_enter Try.func15, Try.ntmps15
  go_wp2_with (first
    | (go_at_call 43; refine R.mono ?_; rintro e w' ⟨rfl, rfl⟩)
    | (go_at_call 44; refine RM.mono ?_; rintro e w' ⟨rfl, rfl⟩)
    | (go_at_call 45; refine O.mono ?_; rintro e w' ⟨rfl, h2⟩))
  go_ret
  exact ⟨rfl, h2⟩
end Go.Proofs.Ytjncibejdplamaa
