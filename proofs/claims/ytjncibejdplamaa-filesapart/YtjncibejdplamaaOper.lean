/- The contract of operate, whatever closure it is handed. -/
import Derived.Test.YtjncibejdplamaaFail
import Derived.Shelf.Abstract
namespace Go.Proofs.Ytjncibejdplamaa
open Go.RowKit Go.Maps
open Go.WideMaps

theorem blk_ops {w : World} {b bm : Nat} {s : WS} (h : w.heap[b]? = some (blk bm s)) (n : Int) : (w.setCell ⟨b, 4, none⟩ (.int .i64 n)).heap[b]? = some (blk bm { s with ops := n }) := by
  have := heap_set (i := 4) (w := w) (b := b) (arr := #[.map (some bm), .bool s.off, .int .i64 s.left, .int .i64 s.keep, .int .i64 s.ops, .int .i64 s.written]) (t := 51) (z := (0, 0)) h (.int .i64 n)
  simpa [blk] using this
theorem blk_left {w : World} {b bm : Nat} {s : WS} (h : w.heap[b]? = some (blk bm s)) (n : Int) : (w.setCell ⟨b, 2, none⟩ (.int .i64 n)).heap[b]? = some (blk bm { s with left := n }) := by
  have := heap_set (i := 2) (w := w) (b := b) (arr := #[.map (some bm), .bool s.off, .int .i64 s.left, .int .i64 s.keep, .int .i64 s.ops, .int .i64 s.written]) (t := 51) (z := (0, 0)) h (.int .i64 n)
  simpa [blk] using this
theorem blk_keep {w : World} {b bm : Nat} {s : WS} (h : w.heap[b]? = some (blk bm s)) (n : Int) : (w.setCell ⟨b, 3, none⟩ (.int .i64 n)).heap[b]? = some (blk bm { s with keep := n }) := by
  have := heap_set (i := 3) (w := w) (b := b) (arr := #[.map (some bm), .bool s.off, .int .i64 s.left, .int .i64 s.keep, .int .i64 s.ops, .int .i64 s.written]) (t := 51) (z := (0, 0)) h (.int .i64 n)
  simpa [blk] using this
theorem blk_off {w : World} {b bm : Nat} {s : WS} (h : w.heap[b]? = some (blk bm s)) (n : Bool) : (w.setCell ⟨b, 1, none⟩ (.bool n)).heap[b]? = some (blk bm { s with off := n }) := by
  have := heap_set (i := 1) (w := w) (b := b) (arr := #[.map (some bm), .bool s.off, .int .i64 s.left, .int .i64 s.keep, .int .i64 s.ops, .int .i64 s.written]) (t := 51) (z := (0, 0)) h (.bool n)
  simpa [blk] using this
theorem grown_set (w : World) (b i : Nat) (v : Value) : w.grownBy (w.setCell ⟨b, i, none⟩ v) (some b) :=
  ⟨rfl, rfl, rfl, by simp [World.setCell], fun k _ hk => heap_set_other _ _ (by simpa using hk)⟩

def stepped (s : WS) : WS := { s with left := if 0 < s.left then s.left - 1 else 0, ops := wrap64 (s.ops + 1) }

theorem stepped_pos {w : World} {b bm : Nat} {s : WS} (h : w.heap[b]? = some (blk bm s)) (hp : 0 < s.left) :
    ((w.setCell ⟨b, 4, none⟩ (.int .i64 (wrap64 (s.ops + 1)))).setCell ⟨b, 2, none⟩ (.int .i64 (s.left - 1))).heap[b]? = some (blk bm (stepped s)) ∧
    w.grownBy ((w.setCell ⟨b, 4, none⟩ (.int .i64 (wrap64 (s.ops + 1)))).setCell ⟨b, 2, none⟩ (.int .i64 (s.left - 1))) (some b) := by
  refine ⟨?_, (grown_set w b 4 _).trans (grown_set _ b 2 _)⟩
  rw [blk_left (blk_ops h _)]
  simp [stepped, hp]
theorem stepped_zero {w : World} {b bm : Nat} {s : WS} (h : w.heap[b]? = some (blk bm s)) (h0 : 0 ≤ s.left) (hp : ¬ 0 < s.left) :
    (w.setCell ⟨b, 4, none⟩ (.int .i64 (wrap64 (s.ops + 1)))).heap[b]? = some (blk bm (stepped s)) ∧ w.grownBy (w.setCell ⟨b, 4, none⟩ (.int .i64 (wrap64 (s.ops + 1)))) (some b) := by
  refine ⟨?_, grown_set w b 4 _⟩
  rw [blk_ops h]
  have : s.left = 0 := by omega
  simp [stepped, this]

set_option maxHeartbeats 1000000 in
theorem operate_go {w : World} {b bm : Nat} {s : WS} (hB : w.heap[b]? = some (blk bm s)) (h0 : 0 ≤ s.left) (h1 : s.left ≠ 1) (hmx : s.left ≤ 9223372036854775807) (even : Bool) (K : FuncId) (caps : Array Value) (hE : ∀ (args : Array Value) (w : World), (callFunc K args).run Try.prog w = .ok (.enter K args) w) (Post : World → Prop)
    (hdo : ∀ w1, w1.heap[b]? = some (blk bm (stepped s)) → w.grownBy w1 (some b) → Calls Try.prog K caps w1 fun e w' => e = .returned (.tuple #[]) ∧ Post w') :
    Calls Try.prog 45 #[ptrOf b, .bool even, .func (.func K) #[] caps] w fun e w' => e = .returned (.int .i64 0) ∧ Post w' := by
  obtain ⟨-, -, c2, -, c4, -⟩ := blk_cells hB
  have f2 := blk_frozen hB 2
  have f4 := blk_frozen hB 4
  have hd : (s.left == 1) = false := by simpa using h1
  have HB : Hid (w.heap[b]? = some (blk bm s)) := hB
  have HD : Hid (∀ w1, w1.heap[b]? = some (blk bm (stepped s)) → w.grownBy w1 (some b) → Calls Try.prog K caps w1 fun e w' => e = .returned (.tuple #[]) ∧ Post w') := hdo
  clear hB hdo h1
  by_cases hp : 0 < s.left
  · cases even
    all_goals
      go_enter Try.func45, Try.ntmps45
      go_wp2_with fail
      obtain ⟨k1, k2⟩ := stepped_pos HB.out hp
      refine (HD.out _ k1 k2).mono ?_
      clear k1 k2
      rintro e w' ⟨rfl, hpost⟩
      go_wp2
      go_ret
      exact ⟨rfl, hpost⟩
  · cases even
    all_goals
      go_enter Try.func45, Try.ntmps45
      go_wp2_with fail
      obtain ⟨k1, k2⟩ := stepped_zero HB.out h0 (by omega)
      refine (HD.out _ k1 k2).mono ?_
      clear k1 k2
      rintro e w' ⟨rfl, hpost⟩
      go_wp2
      go_ret
      exact ⟨rfl, hpost⟩

set_option maxHeartbeats 1000000 in
/-- The planned cut, at an operation that is there wholly or not at all. -/
theorem operate_cut {K : Nat → Prop} {base : Nat} {w : World} {b bm : Nat} {s : WS} {D : DataW Value} {F : List UInt8 → Option FileS} (h : S K base w b bm s D F) (h1 : s.left = 1) (hkeep : 0 ≤ s.keep) (hkeep' : s.keep ≤ 9223372036854775807) (hbase : base ≤ w.heap.size) (dv : Value) :
    Calls Try.prog 45 #[ptrOf b, .bool false, dv] w fun e w' => e = .returned (.int .i64 13) ∧
      S K base w' b bm { stepped s with off := true, keep := 0 } D (fun l => (F l).map (cutf s.keep)) ∧ Bel K base w w' := by
  obtain ⟨-, -, c2, -, c4, -⟩ := blk_cells h.hB
  have f2 := blk_frozen h.hB 2
  have f4 := blk_frozen h.hB 4
  obtain ⟨k1, k2⟩ := stepped_pos h.hB (by omega)
  have hS := h.setB (fun i hi hne => k2.block i hi (by simpa using hne)) k1
  have hbel := h.refl.grown k2 hbase (by intro k hk; cases hk; exact h.hb)
  rw [h1] at c2 hS hbel
  have HF := fail_any hS hkeep hkeep' (Nat.le_trans hbase hbel.size)
  have HB : Hid _ := hbel
  clear h h1 k1 k2 hS hbel
  go_enter Try.func45, Try.ntmps45
  go_wp2_with (go_at_call 61; refine HF.mono ?_; rintro e w' ⟨rfl, h2, h3⟩)
  go_ret
  exact ⟨rfl, h2, HB.out.trans h3⟩

set_option maxHeartbeats 1000000 in
/-- The planned cut, at an operation of which a part may get there. -/
theorem operate_even {K : Nat → Prop} {base : Nat} {w w0 : World} {b bm : Nat} {s : WS} (hB : w.heap[b]? = some (blk bm s)) (h1 : s.left = 1) (hkeep : 0 ≤ s.keep) (hkeep' : s.keep ≤ 9223372036854775807) (hbase : base ≤ w0.heap.size)
    (FK : FuncId) (caps : Array Value) (hE : ∀ (args : Array Value) (w : World), (callFunc FK args).run Try.prog w = .ok (.enter FK args) w) (s2 : WS) (D2 : DataW Value) (P2 : (List UInt8 → Option FileS) → Prop) (hk2 : s2.keep = s.keep)
    (hdo : ∀ w1, w1.heap[b]? = some (blk bm (stepped s)) → w.grownBy w1 (some b) → Calls Try.prog FK caps w1 fun e w' => e = .returned (.tuple #[]) ∧ (∃ F2, P2 F2 ∧ S K base w' b bm s2 D2 F2) ∧ Bel K base w0 w') :
    Calls Try.prog 45 #[ptrOf b, .bool true, .func (.func FK) #[] caps] w fun e w' => e = .returned (.int .i64 13) ∧
      (∃ F2, P2 F2 ∧ S K base w' b bm { s2 with off := true, keep := 0 } D2 (fun l => (F2 l).map (cutf s.keep))) ∧ Bel K base w0 w' := by
  obtain ⟨-, -, c2, -, c4, -⟩ := blk_cells hB
  have f2 := blk_frozen hB 2
  have f4 := blk_frozen hB 4
  obtain ⟨k1, k2⟩ := stepped_pos hB (by omega)
  have HD := hdo _ k1 k2
  rw [h1] at c2 HD
  have HK : Hid (s2.keep = s.keep) := hk2
  clear hB h1 k1 k2 hdo hk2
  go_enter Try.func45, Try.ntmps45
  go_wp2_with fail
  refine HD.mono ?_
  rintro e w' ⟨rfl, ⟨F2, hp2, hS2⟩, hbel⟩
  have HF := fail_any hS2 (by rw [HK.out]; exact hkeep) (by rw [HK.out]; exact hkeep') (Nat.le_trans hbase hbel.size)
  rw [HK.out] at HF
  have HB : Hid _ := hbel
  have HP : Hid (P2 F2) := hp2
  clear HD hS2 hbel hp2
  go_wp2_with (go_at_call 61; refine HF.mono ?_; rintro e w' ⟨rfl, h2, h3⟩)
  go_ret
  exact ⟨rfl, ⟨F2, HP.out, h2⟩, HB.out.trans h3⟩
end Go.Proofs.Ytjncibejdplamaa
