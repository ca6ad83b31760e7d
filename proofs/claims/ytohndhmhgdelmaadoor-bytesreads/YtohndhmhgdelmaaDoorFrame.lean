/- The contracts of bytes.Frame and bytes.Unframe. -/
import Derived.Test.YtohndhmhgdelmaaDoorWord
namespace Go.Proofs.YtohndhmhgdelmaaDoor
open Go.RowKit
set_option maxRecDepth 100000

def frameB (l : List UInt8) : List UInt8 := (word4 l.length ++ l) ++ word4 (sumB (word4 l.length ++ l))

set_option maxHeartbeats 1000000 in
theorem size_any (n : Nat) (hn : n ≤ 4294967296) (w : World) : Calls Tryd.prog 44 #[.int .i64 n] w fun e w' => e = .returned (.int .i64 ((n + 8 : Nat) : Int)) ∧ w' = w := by
  go_enter Tryd.func44, Tryd.ntmps44
  go_wp2
  go_ret
  exact ⟨by go_num, rfl⟩

set_option maxHeartbeats 1000000 in
theorem frame_long {w : World} {v : Value} {l : List UInt8} (h : Bts w v l) (hl : 131072 < l.length) :
    Calls Tryd.prog 21 #[v] w fun e w' => e = .returned (.slice none 0 0) ∧ w' = w := by
  obtain ⟨a, c, rfl, _, _⟩ := h.slice
  clear h
  go_enter Tryd.func21, Tryd.ntmps21
  go_wp2
  go_ret
  exact ⟨rfl, rfl⟩

set_option maxHeartbeats 1000000 in
theorem frame_any {w : World} {v : Value} {l : List UInt8} (h : Bts w v l) (T : Tab w) (hl : l.length ≤ 131072) :
    Calls Tryd.prog 21 #[v] w fun e w' => ∃ v', e = .returned v' ∧ Own w.heap.size w' v' (frameB l) ∧ Below w.heap.size w w' := by
  obtain ⟨a, c, rfl, _, _⟩ := h.slice
  obtain ⟨i0, hi, hz0, hz1, hz2⟩ := info_parts info5
  have SZ := fun w => size_any l.length (by omega) w
  have H : Hid (Bts w (.slice a l.length c) l) := h
  have HT : Hid (Tab w) := T
  clear h T
  have hc8 : Hid (((l.length : Int) + 8) = ((l.length + 8 : Nat) : Int)) := (Int.natCast_add l.length 8).symm
  go_enter Tryd.func21, Tryd.ntmps21
  go_wp2_with (first
    | (go_at_call 44; refine (SZ _).mono ?_; rintro e w' ⟨rfl, hw⟩; obtain rfl := hw.symm; clear hw)
    | (at_make; refine wpList_make_own _ rfl _ _ 29 rfl w.heap.size 5 i0 (.int .u8 0) 1 Tryd.underlying29 hi hz0 hz1 _ _ _ (l.length + 8) rfl rfl hc8.out ?h1 ?h2 ?h3 ?_; (case h1 => rw [hz2]; omega); (case h2 => unfold maxLen; omega); (case h3 => exact Nat.le_refl _); intro w1 own1 gr1))
  have own2 : Own w.heap.size w1 (.slice (some ⟨w.heap.size, 0, none⟩) 0 (l.length + 8)) [] := own1
  refine (putWord_any own2 gr1.size l.length (by omega) (by simp)).mono ?_
  rintro e w2 ⟨v2, rfl, ap2⟩
  simp only [List.nil_append] at ap2
  have hk2 : ∀ i, i < w.heap.size → w2.heap[i]? = w.heap[i]? := fun i hi => (ap2.gr.block i (Nat.lt_of_lt_of_le hi gr1.size) (by simp [Value.ownBlock]; omega)).trans (gr1.block i hi (by simp))
  have Bt : Bts w (.slice a l.length c) l := H.out
  have Tb : Tab w := HT.out
  have w4l : (word4 l.length).length = 4 := rfl
  obtain ⟨v3, w3, run3, ap3⟩ := own_app 29 ap2.own (Bt.kept hk2) (by omega) (Nat.le_trans gr1.size ap2.gr.size)
  have ap23 := ap2.trans ap3
  have hk3 : ∀ i, i < w.heap.size → w3.heap[i]? = w.heap[i]? := fun i hi => (ap23.gr.block i (Nat.lt_of_lt_of_le hi gr1.size) (by simp [Value.ownBlock]; omega)).trans (gr1.block i hi (by simp))
  have S3 := sum_any ap3.own.bts (Tb.kept hk3)
  have P3 := putWord_any ap3.own (Nat.le_trans gr1.size ap23.gr.size) (sumB (word4 l.length ++ l)) (sumB_lt _) (by rw [List.length_append]; omega)
  have R3 : Hid _ := run3
  have B3 : Hid (∀ w4 v4, Apd w.heap.size w3 v3 w4 v4 (frameB l) → Own w.heap.size w4 v4 (frameB l) ∧ Below w.heap.size w w4) := fun w4 v4 ap4 =>
    ⟨ap4.own, ((Below.refl _ w).grown gr1 (Nat.le_refl _) (by simp)).grown (ap23.trans ap4).gr gr1.size (by intro k hk; simp [Value.ownBlock] at hk; omega)⟩
  clear ap2 ap3 ap23 run3 hk2 hk3 Bt Tb own1 own2 gr1 H HT w4l
  go_wp2_with (first
    | (at_builtin; refine wpList_append_run rfl _ _ 29 rfl _ _ _ _ rfl rfl R3.out ?_)
    | (go_at_call 22; refine S3.mono ?_; rintro e w' ⟨rfl, hw⟩; obtain rfl := hw.symm; clear hw)
    | (go_at_call 47; refine P3.mono ?_; rintro e w4 ⟨v4, rfl, ap4⟩))
  go_ret
  exact ⟨v4, rfl, B3.out w4 v4 ap4⟩
end Go.Proofs.YtohndhmhgdelmaaDoor
