/- The contracts of the reference's Four and Frame, and of Lend and Kept. -/
import Derived.Test.YtcheikpmhdliiaaDoorRefSum
import Derived.Deep.OwnRows
import Derived.Deep.DeepCutAuto
import Derived.Deep.RegionHeldLaw
namespace Go.Proofs.YtcheikpmhdliiaaDoor
open Go.RowKit
set_option maxRecDepth 100000

set_option maxHeartbeats 1000000 in
theorem four_any (x : Nat) (hx : x < 4294967296) (w : World) :
    Calls Tryd.prog 74 #[.int .u32 x] w fun e w' => e = .returned (.slice (some ⟨w.heap.size, 0, none⟩) 4 4) ∧ w' = w.alloc (.cells (bcells (word4 x)).toArray 5) := by
  have HC : Hid _ := word4_cells x hx
  go_enter Tryd.func74, Tryd.ntmps74
  go_wp2
  go_ret
  exact ⟨rfl, by rw [HC.out]⟩

theorem own_lit (w : World) (l : List UInt8) (hl : l.length ≤ maxLen) : Own w.heap.size (w.alloc (.cells (bcells l).toArray 5)) (.slice (some ⟨w.heap.size, 0, none⟩) l.length l.length) l :=
  ⟨by rw [bcells_length, Nat.mul_one], .inr ⟨w.heap.size, l.length, (bcells l).toArray, rfl, Nat.le_refl _, heap_alloc_new w _, Nat.le_refl _, hl, by simp [bcells], List.take_of_length_le (by simp [bcells])⟩⟩

set_option maxHeartbeats 1000000 in
theorem refFrame_long {w : World} {v : Value} {l : List UInt8} (h : Bts w v l) (hl : 131072 < l.length) :
    Calls Tryd.prog 46 #[v] w fun e w' => e = .returned (.slice none 0 0) ∧ w' = w := by
  obtain ⟨a, c, rfl, _, _⟩ := h.slice
  clear h
  go_enter Tryd.func46, Tryd.ntmps46
  go_wp2
  go_ret
  exact ⟨rfl, rfl⟩

set_option maxHeartbeats 1000000 in
theorem refFrame_any {w : World} {v : Value} {l : List UInt8} (h : Bts w v l) (hl : l.length ≤ 131072) :
    Calls Tryd.prog 46 #[v] w fun e w' => ∃ v', e = .returned v' ∧ Own w.heap.size w' v' (frameB l) ∧ Below w.heap.size w w' := by
  have F1 := four_any l.length (by omega) w
  have o1 : Own w.heap.size (w.alloc (.cells (bcells (word4 l.length)).toArray 5)) (.slice (some ⟨w.heap.size, 0, none⟩) 4 4) (word4 l.length) := own_lit w (word4 l.length) (by simp [word4, maxLen])
  have e4 : (word4 l.length).length = 4 := rfl
  obtain ⟨v2, w2, run2, ap2⟩ := own_app 24 o1 (h.alloc _) (by omega) (by simp)
  have b2 : Below w.heap.size w w2 := ((Below.refl _ w).alloc (Nat.le_refl _) _).trans (ap2.below o1 (by simp))
  have S2 := refSum_any ap2.own.bts
  have F2 := four_any (sumB (word4 l.length ++ l)) (sumB_lt _) w2
  have o2 : Own w2.heap.size (w2.alloc (.cells (bcells (word4 (sumB (word4 l.length ++ l)))).toArray 5)) (.slice (some ⟨w2.heap.size, 0, none⟩) 4 4) (word4 (sumB (word4 l.length ++ l))) := own_lit w2 (word4 (sumB (word4 l.length ++ l))) (by simp [word4, maxLen])
  obtain ⟨v3, w3, run3, ap3⟩ := own_app 24 (ap2.own.alloc _) o2.bts (by rw [List.length_append]; simp [word4]; omega) (by have := b2.size; simp; omega)
  have b3 : Below w.heap.size w w3 := b2.trans (ap3.of_alloc.below ap2.own b2.size)
  have E3 : Hid (Own w.heap.size w3 v3 (frameB l) ∧ Below w.heap.size w w3) := ⟨ap3.own, b3⟩
  have R2 : Hid _ := run2
  have R3 : Hid _ := run3
  obtain ⟨a, c, rfl, _, _⟩ := h.slice
  generalize sumB (word4 l.length ++ l) = sm at *
  generalize (bcells (word4 l.length)).toArray = arr1 at *
  generalize (bcells (word4 sm)).toArray = arr2 at *
  clear h o1 o2 ap2 ap3 b2 b3 run2 run3 e4
  go_enter Tryd.func46, Tryd.ntmps46
  go_wp2_with fail
  refine F1.mono ?_
  rintro e w1 ⟨rfl, rfl⟩
  clear F1
  go_wp2_with (at_builtin; refine wpList_append_run rfl _ _ 24 rfl _ _ _ _ rfl rfl R2.out ?_)
  refine S2.mono ?_
  rintro e w1 ⟨rfl, hw⟩
  obtain rfl := hw.symm
  clear S2 hw
  go_wp2_with fail
  refine F2.mono ?_
  rintro e w1 ⟨rfl, rfl⟩
  clear F2
  go_wp2_with (at_builtin; refine wpList_append_run rfl _ _ 24 rfl _ _ _ _ rfl rfl R3.out ?_)
  go_ret
  exact ⟨v3, rfl, E3.out⟩
end Go.Proofs.YtcheikpmhdliiaaDoor
