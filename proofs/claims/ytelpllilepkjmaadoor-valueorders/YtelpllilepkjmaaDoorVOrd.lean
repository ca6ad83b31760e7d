/- Cmp is an order; the walk of the law ValueOrders. -/
import Derived.Test.YtelpllilepkjmaaDoorVCmp
import Derived.Test.YtelpllilepkjmaaDoorTellsWalk
namespace Go.Proofs.YtelpllilepkjmaaDoor
open Go.RowKit
set_option maxRecDepth 100000
set_option linter.unusedVariables false
set_option linter.unusedSimpArgs false
theorem less_trans : ∀ a b c : List UInt8, Op.bytesLess a b = true → Op.bytesLess b c = true → Op.bytesLess a c = true
  | _, _, [], _, h => by cases ‹List UInt8› <;> simp [Op.bytesLess] at h
  | _, [], _ :: _, h, _ => by simp [Op.bytesLess] at h
  | [], _ :: _, _ :: _, _, _ => rfl
  | a :: x, b :: y, c :: z, h1, h2 => by
    have ih := less_trans x y z
    simp only [Op.bytesLess, Bool.or_eq_true, Bool.and_eq_true, decide_eq_true_eq, beq_iff_eq, UInt8.lt_iff_toNat_lt] at h1 h2 ⊢
    rcases h1 with h1 | ⟨rfl, h1⟩ <;> rcases h2 with h2 | ⟨rfl, h2⟩
    · left; omega
    · left; exact h1
    · left; exact h2
    · right; exact ⟨rfl, ih h1 h2⟩
/-- The three ways in which two texts can stand to each other. -/
theorem cmpL_ways (a b : List UInt8) : (cmpL a b = -1 ∧ cmpL b a = 1 ∧ Op.bytesLess a b = true) ∨ (cmpL a b = 0 ∧ cmpL b a = 0 ∧ a = b) ∨ (cmpL a b = 1 ∧ cmpL b a = -1 ∧ Op.bytesLess b a = true) := by
  have h := less_tri a b
  have g := less_tri b a
  unfold cmpL
  cases h1 : Op.bytesLess a b <;> cases h2 : Op.bytesLess b a <;> simp [h1, h2] at h g ⊢
  · exact h
theorem cmpI_ways (a b : Int) : (Lib.compareInt a b = -1 ∧ Lib.compareInt b a = 1 ∧ a < b) ∨ (Lib.compareInt a b = 0 ∧ Lib.compareInt b a = 0 ∧ a = b) ∨ (Lib.compareInt a b = 1 ∧ Lib.compareInt b a = -1 ∧ b < a) := by
  unfold Lib.compareInt
  rcases Int.lt_trichotomy a b with h | h | h
  · left; rw [if_pos h, if_neg (by omega), if_pos (by omega)]; exact ⟨rfl, rfl, h⟩
  · right; left; subst h; simp
  · right; right; rw [if_neg (by omega), if_pos (by omega), if_pos h]; exact ⟨rfl, rfl, h⟩
/-- x stands ahead of y. -/
def ahead (x y : Int × Int × ByteArray) : Prop := x.1 < y.1 ∨ (x.1 = y.1 ∧ (x.2.1 < y.2.1 ∨ (x.2.1 = y.2.1 ∧ Op.bytesLess x.2.2.toList y.2.2.toList = true)))
def alike (x y : Int × Int × ByteArray) : Prop := x.1 = y.1 ∧ x.2.1 = y.2.1 ∧ x.2.2.toList = y.2.2.toList
theorem cmpK_ways (x y : Int × Int × ByteArray) : (cmpK x y = -1 ∧ cmpK y x = 1 ∧ ahead x y) ∨ (cmpK x y = 0 ∧ cmpK y x = 0 ∧ alike x y) ∨ (cmpK x y = 1 ∧ cmpK y x = -1 ∧ ahead y x) := by
  unfold cmpK orF ahead alike
  rcases cmpI_ways x.1 y.1 with ⟨a, b, c⟩ | ⟨a, b, c⟩ | ⟨a, b, c⟩
  · exact .inl ⟨by simp [a], by simp [b], .inl c⟩
  · rcases cmpI_ways x.2.1 y.2.1 with ⟨a2, b2, c2⟩ | ⟨a2, b2, c2⟩ | ⟨a2, b2, c2⟩
    · exact .inl ⟨by simp [a, a2], by simp [b, b2], .inr ⟨c, .inl c2⟩⟩
    · rcases cmpL_ways x.2.2.toList y.2.2.toList with ⟨a3, b3, c3⟩ | ⟨a3, b3, c3⟩ | ⟨a3, b3, c3⟩
      · exact .inl ⟨by simp [a, a2, a3], by simp [b, b2, b3], .inr ⟨c, .inr ⟨c2, c3⟩⟩⟩
      · exact .inr (.inl ⟨by simp [a, a2, a3], by simp [b, b2, b3], c, c2, c3⟩)
      · exact .inr (.inr ⟨by simp [a, a2, a3], by simp [b, b2, b3], .inr ⟨c.symm, .inr ⟨c2.symm, c3⟩⟩⟩)
    · exact .inr (.inr ⟨by simp [a, a2], by simp [b, b2], .inr ⟨c.symm, .inl c2⟩⟩)
  · exact .inr (.inr ⟨by simp [a], by simp [b], .inl c⟩)
theorem ahead_trans {x y z : Int × Int × ByteArray} (h1 : ahead x y) (h2 : ahead y z) : ahead x z := by
  unfold ahead at *
  rcases h1 with h1 | ⟨e1, h1 | ⟨f1, h1⟩⟩ <;> rcases h2 with h2 | ⟨e2, h2 | ⟨f2, h2⟩⟩
  · left; omega
  · left; omega
  · left; omega
  · left; omega
  · right; exact ⟨by omega, .inl (by omega)⟩
  · right; exact ⟨by omega, .inl (by omega)⟩
  · left; omega
  · right; exact ⟨by omega, .inl (by omega)⟩
  · right; exact ⟨by omega, .inr ⟨by omega, less_trans _ _ _ h1 h2⟩⟩
theorem ahead_irr {x : Int × Int × ByteArray} (h : ahead x x) : False := by
  unfold ahead at h
  rcases h with h | ⟨_, h | ⟨_, h⟩⟩
  · omega
  · omega
  · rw [less_irr] at h; cases h
theorem alike_l {x y z : Int × Int × ByteArray} (h1 : alike x y) (h2 : ahead y z) : ahead x z := by
  unfold alike at h1
  unfold ahead at *
  rw [h1.1, h1.2.1, h1.2.2]; exact h2
theorem alike_r {x y z : Int × Int × ByteArray} (h1 : ahead x y) (h2 : alike y z) : ahead x z := by
  unfold alike at h2
  unfold ahead at *
  rw [← h2.1, ← h2.2.1, ← h2.2.2]; exact h1
theorem cmpK_trans (x y z : Int × Int × ByteArray) (h1 : cmpK x y ≤ 0) (h2 : cmpK y z ≤ 0) : cmpK x z ≤ 0 := by
  rcases cmpK_ways x z with ⟨a, _, _⟩ | ⟨a, _, _⟩ | ⟨a, _, c⟩
  · omega
  · omega
  · exfalso
    rcases cmpK_ways x y with ⟨a1, _, c1⟩ | ⟨a1, _, c1⟩ | ⟨a1, _, c1⟩
    · rcases cmpK_ways y z with ⟨a2, _, c2⟩ | ⟨a2, _, c2⟩ | ⟨a2, _, c2⟩
      · exact ahead_irr (ahead_trans c (ahead_trans c1 c2))
      · exact ahead_irr (ahead_trans c (alike_r c1 c2))
      · omega
    · rcases cmpK_ways y z with ⟨a2, _, c2⟩ | ⟨a2, _, c2⟩ | ⟨a2, _, c2⟩
      · exact ahead_irr (ahead_trans c (alike_l c1 c2))
      · exact ahead_irr (alike_r c ⟨c1.1.trans c2.1, c1.2.1.trans c2.2.1, c1.2.2.trans c2.2.2⟩)
      · omega
    · omega
/-- Values that are no Blanks are held against each other by their keys. -/
theorem key_ne (k n : Int) (s : ByteArray) (h : k ≠ 0) : (keyF k n s).1 ≠ 0 := by
  unfold keyF
  rw [if_neg h]
  repeat' split
  all_goals simp
theorem cmpF_key (k1 n1 : Int) (s1 : ByteArray) (k2 n2 : Int) (s2 : ByteArray) (h1 : k1 ≠ 0) (h2 : k2 ≠ 0) : cmpF k1 n1 s1 k2 n2 s2 = cmpK (keyF k1 n1 s1) (keyF k2 n2 s2) := by
  unfold cmpF besF
  rw [if_neg (fun h => key_ne _ _ _ h1 h.1), if_neg (fun h => key_ne _ _ _ h2 h.1)]

theorem three_box {w x : World} {k1 n1 k2 n2 k3 n3 : Int} {s1 s2 s3 : ByteArray} (h : Below (((w.alloc (.cells #[.int .i64 k1, .int .i64 n1, .string s1] 23)).alloc (.cells #[.int .i64 k2, .int .i64 n2, .string s2] 23)).alloc (.cells #[.int .i64 k3, .int .i64 n3, .string s3] 23)).heap.size (((w.alloc (.cells #[.int .i64 k1, .int .i64 n1, .string s1] 23)).alloc (.cells #[.int .i64 k2, .int .i64 n2, .string s2] 23)).alloc (.cells #[.int .i64 k3, .int .i64 n3, .string s3] 23)) x) : (x.cell? ⟨w.heap.size, 0, none⟩ = some (.int .i64 k1) ∧ x.cell? ⟨w.heap.size, 1, none⟩ = some (.int .i64 n1) ∧ x.cell? ⟨w.heap.size, 2, none⟩ = some (.string s1)) ∧ (x.cell? ⟨w.heap.size + 1, 0, none⟩ = some (.int .i64 k2) ∧ x.cell? ⟨w.heap.size + 1, 1, none⟩ = some (.int .i64 n2) ∧ x.cell? ⟨w.heap.size + 1, 2, none⟩ = some (.string s2)) ∧ (x.cell? ⟨w.heap.size + 1 + 1, 0, none⟩ = some (.int .i64 k3) ∧ x.cell? ⟨w.heap.size + 1 + 1, 1, none⟩ = some (.int .i64 n3) ∧ x.cell? ⟨w.heap.size + 1 + 1, 2, none⟩ = some (.string s3)) := by
  have h1 : x.heap[w.heap.size]? = some (.cells #[.int .i64 k1, .int .i64 n1, .string s1] 23) := by
    rw [h.block _ (by simp <;> omega), Below.heap_alloc _ _ _ (by simp <;> omega), Below.heap_alloc _ _ _ (by simp)]
    exact heap_alloc_new w _
  have h2 : x.heap[w.heap.size + 1]? = some (.cells #[.int .i64 k2, .int .i64 n2, .string s2] 23) := by
    rw [h.block _ (by simp <;> omega), Below.heap_alloc _ _ _ (by simp)]
    have := heap_alloc_new (w.alloc (.cells #[.int .i64 k1, .int .i64 n1, .string s1] 23)) (.cells #[.int .i64 k2, .int .i64 n2, .string s2] 23)
    simpa using this
  have h3 : x.heap[w.heap.size + 1 + 1]? = some (.cells #[.int .i64 k3, .int .i64 n3, .string s3] 23) := by
    rw [h.block _ (by simp)]
    have := heap_alloc_new ((w.alloc (.cells #[.int .i64 k1, .int .i64 n1, .string s1] 23)).alloc (.cells #[.int .i64 k2, .int .i64 n2, .string s2] 23)) (.cells #[.int .i64 k3, .int .i64 n3, .string s3] 23)
    simpa using this
  exact ⟨by simp [World.cell?, h1], by simp [World.cell?, h2], by simp [World.cell?, h3]⟩
theorem three_below {w x : World} {a b c : Obj} (h : Below (((w.alloc a).alloc b).alloc c).heap.size (((w.alloc a).alloc b).alloc c) x) : Below w.heap.size w x :=
  (below3 w a b c).trans (h.mono (by simp <;> omega))
set_option maxHeartbeats 2000000 in
theorem orders_blank {w : World} {k1 n1 k2 n2 k3 n3 : Int} {s1 s2 s3 : ByteArray} (LV : RC (((w.alloc (.cells #[.int .i64 k1, .int .i64 n1, .string s1] 23)).alloc (.cells #[.int .i64 k2, .int .i64 n2, .string s2] 23)).alloc (.cells #[.int .i64 k3, .int .i64 n3, .string s3] 23)) 18 #[] (.bool true)) (hk : k1 = 0 ∨ (k1 ≠ 0 ∧ k2 = 0) ∨ (k1 ≠ 0 ∧ k2 ≠ 0 ∧ k3 = 0)) :
    Calls Tryd.prog 6 #[.agg #[.int .i64 k1, .int .i64 n1, .string s1], .agg #[.int .i64 k2, .int .i64 n2, .string s2], .agg #[.int .i64 k3, .int .i64 n3, .string s3]] w fun e w' => e = .returned (.bool true) ∧ Below w.heap.size w w' := by
  have HB : Hid (Below (((w.alloc (.cells #[.int .i64 k1, .int .i64 n1, .string s1] 23)).alloc (.cells #[.int .i64 k2, .int .i64 n2, .string s2] 23)).alloc (.cells #[.int .i64 k3, .int .i64 n3, .string s3] 23)).heap.size (((w.alloc (.cells #[.int .i64 k1, .int .i64 n1, .string s1] 23)).alloc (.cells #[.int .i64 k2, .int .i64 n2, .string s2] 23)).alloc (.cells #[.int .i64 k3, .int .i64 n3, .string s3] 23)) (((w.alloc (.cells #[.int .i64 k1, .int .i64 n1, .string s1] 23)).alloc (.cells #[.int .i64 k2, .int .i64 n2, .string s2] 23)).alloc (.cells #[.int .i64 k3, .int .i64 n3, .string s3] 23))) := Below.refl _ _
  have e1 : k1 = 0 ∨ (k1 == 0) = false := by by_cases h : k1 = 0 <;> simp [h]
  rcases hk with h | ⟨h1, h⟩ | ⟨h1, h2, h⟩
  · subst h
    go_enter Tryd.func6, Tryd.ntmps6
    go_wp2_with (go_at_call 18; refine (LV _ HB.out).mono ?_; rintro e w1 ⟨rfl, hb⟩; have HB1 : Hid _ := hb; clear hb)
    go_ret
    exact ⟨rfl, three_below HB1.out⟩
  · subst h
    have g1 : (k1 == 0) = false := by simpa using h1
    go_enter Tryd.func6, Tryd.ntmps6
    go_wp2_with (go_at_call 18; refine (LV _ HB.out).mono ?_; rintro e w1 ⟨rfl, hb⟩; have HB1 : Hid _ := hb; clear hb)
    go_ret
    exact ⟨rfl, three_below HB1.out⟩
  · subst h
    have g1 : (k1 == 0) = false := by simpa using h1
    have g2 : (k2 == 0) = false := by simpa using h2
    go_enter Tryd.func6, Tryd.ntmps6
    go_wp2_with (go_at_call 18; refine (LV _ HB.out).mono ?_; rintro e w1 ⟨rfl, hb⟩; have HB1 : Hid _ := hb; clear hb)
    go_ret
    exact ⟨rfl, three_below HB1.out⟩
end Go.Proofs.YtelpllilepkjmaaDoor
