/- The contract of the reference's Scan: a journal that is not bound. -/
import Derived.Test.YtcheikpmhdliiaaDoorRsOwn
import Derived.Test.YtcheikpmhdliiaaDoorRsFol
import Derived.Test.YtcheikpmhdliiaaDoorJAdd
import Derived.Deep.QuietTactic
import Derived.BigQuiet
namespace Go.Proofs.YtcheikpmhdliiaaDoor
open Go.RowKit
set_option maxRecDepth 100000

theorem inf40 : (Tryd.prog.info? 40).map (fun i => (i.zero, i.size, i.bytes)) = some (some (.agg #[.slice none 0 0, .int .i64 0, .bool false]), 3, 40) := by kernel_rfl
theorem rend {w w1 : World} (b : Below (w.heap.size + 1) (w.alloc (.cells logZ 40)) w1) :
    ∃ wz, Hid ((Instr.storeAt 40 (.pointer (some ⟨w.heap.size, 0, none⟩)) (.agg logZ)).run Tryd.prog w1 = .ok () wz) ∧ Hid (wz.heap[w.heap.size]? = some (.cells logZ 40 (0, 0))) ∧ Hid (Below w.heap.size w wz) := by
  obtain ⟨wz, RS, HZ, HB, _⟩ := ret_end (w := w) (es := logZ) b inf40 rfl rfl (by simp [Value.oneCell'])
  exact ⟨wz, RS, HZ, HB⟩

theorem Bts.drewN {w : World} {v : Value} {l : List UInt8} (h : Bts w v l) (n : Nat) : Bts (w.drewN n) v l := h
theorem belowN {B : Nat} {a w : World} (h : Below B a w) (n : Nat) : Below B a (w.drewN n) := ⟨h.os, h.tape, h.output, h.size, h.block⟩

set_option maxHeartbeats 2000000 in
theorem rscan_short {w : World} {v : Value} {l : List UInt8} (h : Bts w v l) {id : Int} (hid : In64 id) (hn : l.length < (beginJ id).length) :
    Calls Tryd.prog 19 #[v, .int .i64 id] w fun e w' => LgJ w (scanJ l id) e w' := by
  have HN : Hid (scanJ l id = ⟨[], 0, false⟩) := scan_no (own_no (.inl hn))
  have C := rbegin_any (w.alloc (.cells logZ 40)) hid
  obtain ⟨va, vc, rfl, _, _⟩ := h.slice
  clear h
  go_enter Tryd.func19, Tryd.ntmps19
  go_wp2_with fail
  refine C.mono ?_
  rintro e w1 ⟨bv, rfl, o1, b1⟩
  obtain ⟨ba, bc, rfl, _, _⟩ := o1.bts.slice
  have B1 : Hid (Below (w.heap.size + 1) (w.alloc (.cells logZ 40)) w1) := below_size b1
  clear C o1 b1
  generalize (beginJ id).length = n0 at *
  have g1 : (l.length : Int) < (n0 : Int) := by omega
  have g2 : decide ((l.length : Int) < (n0 : Int)) = true := by simpa using hn
  go_wp2_with fail
  go_quiet ((fail))
  obtain ⟨wz, RS, HZ, HB⟩ := rend (belowN B1.out nq)
  go_wp2_with (refine wpList_store_run rfl 40 _ _ rfl _ _ _ rfl rfl RS.out ?_)
  refine bodyPost_ret_by (results_cell_row rfl _ _ w.heap.size 40 _ (0, 0) _ rfl HZ.out Tryd.underlying40 rfl (by kernel_rfl)) rfl ?_
  rw [HN.out]
  exact ⟨none, 0, rfl, Gps.nil _ _ _, by simp, HB.out⟩

set_option maxHeartbeats 2000000 in
theorem rscan_other {w : World} {v : Value} {l : List UInt8} (h : Bts w v l) {id : Int} (hid : In64 id) (hn : (beginJ id).length ≤ l.length) (hne : l.take (beginJ id).length ≠ beginJ id) :
    Calls Tryd.prog 19 #[v, .int .i64 id] w fun e w' => LgJ w (scanJ l id) e w' := by
  have HN : Hid (scanJ l id = ⟨[], 0, false⟩) := scan_no (own_no (.inr hne))
  have C := rbegin_any (w.alloc (.cells logZ 40)) hid
  have hp : 0 < (beginJ id).length := by unfold beginJ; rw [frameB_length]; omega
  have H : Hid (Bts w v l) := h
  rcases h with ⟨rfl, rfl⟩ | ⟨a, cap, rfl, h1, h2, h3⟩
  · rw [List.length_nil] at hn; omega
  go_enter Tryd.func19, Tryd.ntmps19
  go_wp2_with fail
  refine C.mono ?_
  rintro e w1 ⟨bv, rfl, o1, b1⟩
  have cb := fun m => conv_bts (o1.bts.drewN m)
  have hb1 : Below w.heap.size w w1 := ((Below.refl _ w).alloc (Nat.le_refl _) _).trans (b1.mono (by simp))
  have ca : ∀ m, (convert 24 9 (.slice (some a) (beginJ id).length cap)).run Tryd.prog (w1.drewN m) = .ok (.string ⟨(l.take (beginJ id).length).toArray⟩) (w1.drewN m) := by
    intro m
    rcases H.out.below hb1 with ⟨e, _⟩ | ⟨a', cap', e, k1, k2, k3⟩
    · cases e
    · cases e
      exact conv_bts (Bts.drewN (Bts.part hn (by omega) k2 k3) m)
  obtain ⟨ba, bc, rfl, _, _⟩ := o1.bts.slice
  have B1 : Hid (Below (w.heap.size + 1) (w.alloc (.cells logZ 40)) w1) := below_size b1
  have hs : (⟨(l.take (beginJ id).length).toArray⟩ : ByteArray) ≠ ⟨(beginJ id).toArray⟩ := by
    intro e
    injection e with e
    exact hne (by simpa using e)
  clear C o1 b1 h3 H hb1 hne
  generalize (⟨(l.take (beginJ id).length).toArray⟩ : ByteArray) = s at *
  generalize (⟨(beginJ id).toArray⟩ : ByteArray) = t at *
  generalize (beginJ id).length = n0 at *
  have h2' : cap ≤ 9223372036854775807 := h2
  have g1 : ¬ (l.length : Int) < (n0 : Int) := by omega
  have g2 : decide ((l.length : Int) < (n0 : Int)) = false := by simpa using hn
  have g3 : (n0 : Int) ≤ (cap : Int) := by omega
  have s2 : decide (s = t) = false := by simpa using hs
  have s3 : (s.toList == t.toList) = false := by
    rw [ByteArray.toList_eq, ByteArray.toList_eq]
    have : ¬ s.data.toList = t.data.toList := fun e => hs (by cases s; cases t; simpa using e)
    simpa using this
  go_wp2_with fail
  go_quiet ((fail))
  obtain ⟨wz, RS, HZ, HB⟩ := rend (belowN B1.out nq)
  go_wp2_with (refine wpList_store_run rfl 40 _ _ rfl _ _ _ rfl rfl RS.out ?_)
  refine bodyPost_ret_by (results_cell_row rfl _ _ w.heap.size 40 _ (0, 0) _ rfl HZ.out Tryd.underlying40 rfl (by kernel_rfl)) rfl ?_
  rw [HN.out]
  exact ⟨none, 0, rfl, Gps.nil _ _ _, by simp, HB.out⟩
end Go.Proofs.YtcheikpmhdliiaaDoor
