/- Cmp and At of the reference. -/
import Derived.Test.YtjimgjohfpcnpaaDoorACmp
namespace Go.Proofs.YtjimgjohfpcnpaaDoor
open Go.RowKit
set_option maxRecDepth 100000
set_option linter.unusedVariables false
set_option linter.unusedSimpArgs false
theorem cmpL_ways (a b : List UInt8) : (a = b ∧ cmpL a b = 0) ∨ ((a == b) = false ∧ Op.bytesLess a b = true ∧ cmpL a b = -1) ∨ ((a == b) = false ∧ Op.bytesLess a b = false ∧ cmpL a b = 1) := by
  unfold cmpL
  by_cases h : a = b
  · subst h; left
    rw [less_irr]
    exact ⟨rfl, rfl⟩
  · right
    have h2 : (a == b) = false := by simpa using h
    have := less_tri a b
    rw [h2] at this
    cases hl : Op.bytesLess a b
    · rw [hl] at this
      right
      rw [this]
      exact ⟨h2, rfl, rfl⟩
    · left
      exact ⟨h2, rfl, rfl⟩
theorem cmpN_ways (a b : Int) : (a = b ∧ cmpN a b = 0) ∨ ((a == b) = false ∧ a < b ∧ cmpN a b = -1) ∨ ((a == b) = false ∧ ¬ a < b ∧ cmpN a b = 1) := by
  unfold cmpN
  by_cases h : a = b
  · subst h; left; simp
  · right
    by_cases h1 : a < b
    · left; exact ⟨by simpa using h, h1, by simp [h1]⟩
    · have : b < a := by omega
      right; exact ⟨by simpa using h, h1, by simp [h1, this]⟩
section
variable (b1 s1 : ByteArray) (r1 c1 : Int) (b2 s2 : ByteArray) (r2 c2 : Int) (w : World)
set_option maxHeartbeats 8000000 in
theorem rcmp_any : Calls Tryd.prog 27 #[plcV b1 s1 r1 c1, plcV b2 s2 r2 c2] w fun e w' => e = .returned (.int .i64 (cmpP b1 s1 r1 c1 b2 s2 r2 c2)) ∧ Below w.heap.size w w' := by
  unfold cmpP orF
  rcases cmpL_ways b1.toList b2.toList with ⟨h0, e0⟩ | ⟨h0, g0, e0⟩ | ⟨h0, g0, e0⟩
  · rw [e0, if_neg (by decide)]
    rcases cmpL_ways s1.toList s2.toList with ⟨h1, e1⟩ | ⟨h1, g1, e1⟩ | ⟨h1, g1, e1⟩
    · rw [e1, if_neg (by decide)]
      rcases cmpN_ways r1 r2 with ⟨h2, e2⟩ | ⟨h2, g2, e2⟩ | ⟨h2, g2, e2⟩
      · rw [e2, if_neg (by decide)]
        rcases cmpN_ways c1 c2 with ⟨h3, e3⟩ | ⟨h3, g3, e3⟩ | ⟨h3, g3, e3⟩
        · rw [e3]
          clear e0 e1 e2 e3
          go_enter Tryd.func27, Tryd.ntmps27
          go_wp2
          go_ret
          exact ⟨rfl, bel2 (Below.refl _ _)⟩
        · rw [e3]
          clear e0 e1 e2 e3
          go_enter Tryd.func27, Tryd.ntmps27
          go_wp2
          go_ret
          exact ⟨rfl, bel2 (Below.refl _ _)⟩
        · rw [e3]
          clear e0 e1 e2 e3
          go_enter Tryd.func27, Tryd.ntmps27
          go_wp2
          go_ret
          exact ⟨rfl, bel2 (Below.refl _ _)⟩
      · rw [e2, if_pos (by decide)]
        clear e0 e1 e2
        go_enter Tryd.func27, Tryd.ntmps27
        go_wp2
        go_ret
        exact ⟨rfl, bel2 (Below.refl _ _)⟩
      · rw [e2, if_pos (by decide)]
        clear e0 e1 e2
        go_enter Tryd.func27, Tryd.ntmps27
        go_wp2
        go_ret
        exact ⟨rfl, bel2 (Below.refl _ _)⟩
    · rw [e1, if_pos (by decide)]
      clear e0 e1
      go_enter Tryd.func27, Tryd.ntmps27
      go_wp2
      go_ret
      exact ⟨rfl, bel2 (Below.refl _ _)⟩
    · rw [e1, if_pos (by decide)]
      clear e0 e1
      go_enter Tryd.func27, Tryd.ntmps27
      go_wp2
      go_ret
      exact ⟨rfl, bel2 (Below.refl _ _)⟩
  · rw [e0, if_pos (by decide)]
    clear e0
    go_enter Tryd.func27, Tryd.ntmps27
    go_wp2
    go_ret
    exact ⟨rfl, bel2 (Below.refl _ _)⟩
  · rw [e0, if_pos (by decide)]
    clear e0
    go_enter Tryd.func27, Tryd.ntmps27
    go_wp2
    go_ret
    exact ⟨rfl, bel2 (Below.refl _ _)⟩
theorem or2_ways (a b : ByteArray) : (a.toList = [] ∧ orS a b = b) ∨ ((a.toList == []) = false ∧ orS a b = a) := by
  unfold orS
  by_cases h : a.toList = []
  · left; exact ⟨h, if_pos h⟩
  · right; exact ⟨by simpa using h, if_neg h⟩
set_option maxHeartbeats 8000000 in
theorem rat_any (fr fc : Bool) : Calls Tryd.prog 25 #[refV b1 s1 r1 c1 fr fc, plcV b2 s2 r2 c2] w fun e w' => e = .returned (plcV (orS b1 b2) (orS s1 s2) r1 c1) ∧ Below w.heap.size w w' := by
  have HB : Hid (Below ((w.alloc (refO b1 s1 r1 c1 fr fc)).alloc (plcO b2 s2 r2 c2)).heap.size ((w.alloc (refO b1 s1 r1 c1 fr fc)).alloc (plcO b2 s2 r2 c2)) ((w.alloc (refO b1 s1 r1 c1 fr fc)).alloc (plcO b2 s2 r2 c2))) := Below.refl _ _
  rcases or2_ways b1 b2 with ⟨h1, e1⟩ | ⟨h1, e1⟩ <;> rcases or2_ways s1 s2 with ⟨h2, e2⟩ | ⟨h2, e2⟩
  all_goals
    rw [e1, e2]
    clear e1 e2
    go_enter Tryd.func25, Tryd.ntmps25
    go_wp2
    refine bodyPost_ret (v := _) (by simp [results, Tryd.results25, go_sem]; try rfl) rfl ?_
    refine ⟨rfl, ?_⟩
    repeat (first | exact Below.refl _ _ | refine Below.drew ?_ | refine Below.setCell ?_ (by simp) _ | refine bel_alloc ?_ _)
end
end Go.Proofs.YtjimgjohfpcnpaaDoor
