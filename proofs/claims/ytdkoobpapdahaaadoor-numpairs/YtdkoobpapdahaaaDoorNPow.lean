/- The contracts of Pow, of num and of the reference. -/
import Derived.Test.YtdkoobpapdahaaaDoorNRRound
namespace Go.Proofs.YtdkoobpapdahaaaDoor
open Go.RowKit
set_option linter.unusedVariables false
set_option maxRecDepth 100000

def ptrOf (b : Nat) : Value := .pointer (some ⟨b, 0, none⟩)

/-- A variable of its own that holds an int. -/
def Cel (w : World) (b : Nat) (n : Int) : Prop := w.heap[b]? = some (.cells #[.int .i64 n] 3)
theorem Cel.cell {w : World} {b : Nat} {n : Int} (h : Cel w b n) : w.cell? ⟨b, 0, none⟩ = some (.int .i64 n) := by
  unfold Cel at h
  simp [World.cell?, h]
theorem Cel.frozen {w : World} {b : Nat} {n : Int} (h : Cel w b n) : w.frozen? ⟨b, 0, none⟩ = false := by
  unfold Cel at h
  simp [World.frozen?, h]
theorem Cel.put {w : World} {b : Nat} {n : Int} (h : Cel w b n) (m : Int) : Cel (w.setCell ⟨b, 0, none⟩ (.int .i64 m)) b m := by
  unfold Cel at *
  have hlt : b < w.heap.size := by
    rcases Nat.lt_or_ge b w.heap.size with g | g
    · exact g
    · rw [Array.getElem?_eq_none g] at h; cases h
  have h2 : w.heap[b] = Obj.cells #[Value.int IntKind.i64 n] 3 := by
    rw [Array.getElem?_eq_getElem hlt] at h
    exact Option.some.inj h
  simp only [World.setCell, Array.getElem?_eq_getElem (show b < (w.heap.modify b _).size by simpa using hlt), Array.getElem_modify, if_true, h2]
  rfl
theorem Cel.other {w : World} {b c : Nat} {n : Int} (h : Cel w b n) (hne : b ≠ c) (v : Value) : Cel (w.setCell ⟨c, 0, none⟩ v) b n := by
  unfold Cel at *
  rw [← h]
  exact Below.heap_setCell w ⟨c, 0, none⟩ v b hne

set_option maxHeartbeats 2000000 in
theorem next_any {w : World} {x y : Nat} {N a : Int} (hx : Cel w x N) (hy : Cel w y a) :
    Calls Tryd.prog 68 #[ptrOf x, ptrOf y] w fun e w' => e = .returned (two (mulF N a)) ∧ w' = w.setCell ⟨x, 0, none⟩ (.int .i64 (mulF N a).1) := by
  have cx := hx.cell
  have cy := hy.cell
  have fx := hx.frozen
  unfold ptrOf
  go_enter Tryd.func68, Tryd.ntmps68
  go_wp2_with (go_at_call 18; refine (mul_any _ _ _).mono ?_; rintro e w' ⟨rfl, hw⟩; obtain rfl := hw.symm; clear hw; unfold two)
  go_ret2
  exact ⟨rfl, rfl⟩
set_option maxHeartbeats 2000000 in
theorem powers_any (a : Int) (w : World) : Calls Tryd.prog 59 #[.int .i64 a] w fun e w' => e = .returned (.func (.func 68) #[] #[ptrOf (w.heap.size + 1), ptrOf w.heap.size]) ∧ Cel w' (w.heap.size + 1) 10000 ∧ Cel w' w.heap.size a ∧ Below w.heap.size w w' := by
  go_enter Tryd.func59, Tryd.ntmps59
  go_wp2
  go_ret
  refine ⟨rfl, ?_, ?_, ((Below.refl _ _).alloc (Nat.le_refl _) _).alloc (by simp) _⟩
  · unfold Cel
    have := heap_alloc_new (w.alloc (Obj.cells #[Value.int IntKind.i64 a] 3)) (Obj.cells #[Value.int IntKind.i64 10000] 3)
    simpa using this
  · unfold Cel
    rw [Below.heap_alloc _ _ _ (by simp)]
    exact heap_alloc_new w _

theorem powL_succ {a : Int} {j : Nat} {N : Int} (h : powL a j = (N, true)) : powL a (j + 1) = mulF N a := by
  conv => lhs; unfold powL
  rw [h]
  rfl
theorem powL_stop {a : Int} {j : Nat} (h : (powL a j).2 = false) : ∀ k, (powL a (j + k)).2 = false
  | 0 => h
  | k + 1 => by
    have := powL_stop h k
    rw [← Nat.add_assoc]
    unfold powL
    rw [this]
    rfl
theorem whole_bounds (b : Int) : -100000000000 ≤ (wholeF b).1 ∧ (wholeF b).1 ≤ 100000000000 := by
  unfold wholeF
  split
  · rename_i h
    exact tdiv_own b 10000 h.1
  · simp
/-- What Pow tells, where it tells more than no. -/
def powR (a K : Int) (m : Nat) : Int × Bool := if (powL a m).2 = true then (if K < 0 then divF 10000 (powL a m).1 else ((powL a m).1, true)) else (0, false)
theorem powR_stop {a K : Int} {j m : Nat} (h : (powL a j).2 = false) (hm : j ≤ m) : powR a K m = (0, false) := by
  have := powL_stop h (m - j)
  rw [show j + (m - j) = m by omega] at this
  unfold powR
  rw [this]
  rfl

set_option maxHeartbeats 4000000 in
theorem pow_any (a b : Int) (w : World) : Calls Tryd.prog 27 #[.int .i64 a, .int .i64 b] w fun e w' => e = .returned (two (powF a b)) ∧ Below w.heap.size w w' := by
  have WH := fun u => whole_any b u
  cases hok : (wholeF b).2
  · rw [show powF a b = (0, false) by unfold powF; rw [if_neg (by simp [hok])]]
    unfold two at *
    rw [hok] at WH
    go_enter Tryd.func27, Tryd.ntmps27
    go_wp2_with (go_at_call 39; refine (WH _).mono ?_; rintro e w' ⟨rfl, hw⟩; obtain rfl := hw.symm; clear hw)
    go_ret2
    exact ⟨rfl, Below.refl _ _⟩
  have hk1 : -9223372036854775807 ≤ (wholeF b).1 ∧ (wholeF b).1 ≤ 9223372036854775807 := by
    have := whole_bounds b
    omega
  generalize hK : (wholeF b).1 = K at *
  unfold two at WH
  rw [hok, hK] at WH
  cases hg : gd a
  · rw [show powF a b = (0, false) by unfold powF; rw [if_neg (by simp [hg])]]
    unfold two
    go_enter Tryd.func27, Tryd.ntmps27
    go_wp2_with (first
      | (go_at_call 39; refine (WH _).mono ?_; rintro e w' ⟨rfl, hw⟩; obtain rfl := hw.symm; clear hw)
      | (go_at_call 13; refine (good_any _ _).mono ?_; rintro e w' ⟨rfl, hw⟩; obtain rfl := hw.symm; clear hw; rw [hg]))
    go_ret2
    exact ⟨rfl, Below.refl _ _⟩
  by_cases h64 : 64 < absI K
  · rw [show powF a b = (0, false) by unfold powF; rw [if_neg (by rw [hK]; omega)]]
    unfold two
    go_enter Tryd.func27, Tryd.ntmps27
    go_wp2_with (first
      | (go_at_call 39; refine (WH _).mono ?_; rintro e w' ⟨rfl, hw⟩; obtain rfl := hw.symm; clear hw)
      | (go_at_call 52; refine (size_any _ hk1.1 hk1.2 _).mono ?_; rintro e w' ⟨rfl, hw⟩; obtain rfl := hw.symm; clear hw)
      | (go_at_call 13; refine (good_any _ _).mono ?_; rintro e w' ⟨rfl, hw⟩; obtain rfl := hw.symm; clear hw; rw [hg]))
    go_ret2
    exact ⟨rfl, Below.refl _ _⟩
  by_cases h00 : a = 0 ∧ K = 0
  · rw [show powF a b = (0, false) by unfold powF; rw [if_neg (by rw [hK]; exact fun h => h.2.2.2 h00)]]
    obtain ⟨rfl, rfl⟩ := h00
    unfold two
    go_enter Tryd.func27, Tryd.ntmps27
    go_wp2_with (first
      | (go_at_call 39; refine (WH _).mono ?_; rintro e w' ⟨rfl, hw⟩; obtain rfl := hw.symm; clear hw)
      | (go_at_call 52; refine (size_any _ hk1.1 hk1.2 _).mono ?_; rintro e w' ⟨rfl, hw⟩; obtain rfl := hw.symm; clear hw)
      | (go_at_call 13; refine (good_any _ _).mono ?_; rintro e w' ⟨rfl, hw⟩; obtain rfl := hw.symm; clear hw; rw [hg]))
    go_ret2
    exact ⟨rfl, Below.refl _ _⟩
  have hF : powF a b = if (powL a (absI K).toNat).2 = true then (if K < 0 then divF 10000 (powL a (absI K).toNat).1 else ((powL a (absI K).toNat).1, true)) else (0, false) := by
    unfold powF
    rw [hK]
    exact if_pos ⟨hok, hg, by omega, h00⟩
  generalize powF a b = r at *
  have hr' : Hid _ := hF
  clear hF
  have hnz : (a == 0) = false ∨ ((a == 0) = true ∧ (K == 0) = false) := by
    by_cases h : a = 0
    · right; simp; omega
    · left; simpa using h
  obtain ⟨m, hm, hm64⟩ : ∃ m : Nat, absI K = m ∧ m ≤ 64 := ⟨(absI K).toNat, by unfold absI; split <;> omega, by omega⟩
  have hm' : (absI K).toNat = m := by omega
  rw [hm'] at hr'
  clear h00 h64
  have SZ : ∀ u : World, Calls Tryd.prog 52 #[.int .i64 K] u fun e w' => e = .returned (.int .i64 m) ∧ w' = u := fun u => by
    have := size_any K hk1.1 hk1.2 u
    rw [hm] at this
    exact this
  clear hm hm'
  rcases hnz with hz | ⟨hz, hz2⟩
  all_goals
    go_enter Tryd.func27, Tryd.ntmps27
    go_wp2_with (first
      | (go_at_call 39; refine (WH _).mono ?_; rintro e w' ⟨rfl, hw⟩; obtain rfl := hw.symm; clear hw)
      | (go_at_call 52; refine (SZ _).mono ?_; rintro e w' ⟨rfl, hw⟩; obtain rfl := hw.symm; clear hw)
      | (go_at_call 13; refine (good_any _ _).mono ?_; rintro e w' ⟨rfl, hw⟩; obtain rfl := hw.symm; clear hw; rw [hg])
      | (go_at_call 59; refine (powers_any _ _).mono ?_; rintro e w2 ⟨rfl, hx0, hy0, hbel0⟩; have hx : Hid _ := hx0; have hy : Hid _ := hy0; have hbel : Hid _ := hbel0; clear hx0 hy0 hbel0))
    go_loopw [7, 9, 39] (fun u7 u9 u39 wr => ∃ (j : Nat) (N : Int), u7 = .bool true ∧ u9 = .int .i64 N ∧ u39 = .int .i64 j ∧ j ≤ m ∧ Hid (powL a j = (N, true) ∧ Cel wr (w.heap.size + 1) N ∧ Cel wr w.heap.size a ∧ Below w.heap.size w wr)) (fun _ _ u39 _ => m - (intOf u39).toNat)
    case atStart => exact ⟨0, 10000, rfl, rfl, rfl, Nat.zero_le _, rfl, hx.out, hy.out, hbel.out⟩
    case round =>
      obtain ⟨j, N, rfl, rfl, rfl, hj, hH⟩ := hrel
      clear hx hy hbel
      by_cases hlt : j < m
      · have g1 : (j : Int) < (m : Int) := by omega
        have NX := next_any hH.out.2.1 hH.out.2.2.1
        have hp := powL_succ hH.out.1
        cases hfine : (mulF N a).2
        · have hE : Hid (r = (0, false)) := hr'.out.trans (powR_stop (j := j + 1) (by rw [hp]; exact hfine) (by omega))
          unfold two at NX
          rw [hfine] at NX
          go_wp2_with (go_at_call 68; refine NX.mono ?_; rintro e w3 ⟨rfl, rfl⟩)
          go_ret2
          exact ⟨by rw [hE.out]; rfl, hH.out.2.2.2.setCell (by simp) _⟩
        · unfold two at NX
          rw [hfine] at NX
          have hpE : Hid (powL a (j + 1) = ((mulF N a).1, true)) := by
            show _ = _
            rw [hp, ← hfine]
          clear hp
          generalize (mulF N a).1 = N2 at *
          go_wp2_with (go_at_call 68; refine NX.mono ?_; rintro e w3 ⟨rfl, hw0⟩; have hw : Hid _ := hw0; clear hw0)
          go_roundw
          case rel => exact ⟨j + 1, N2, rfl, rfl, by go_num, by omega, hpE.out, by rw [hw.out]; exact hH.out.2.1.put _, by rw [hw.out]; exact hH.out.2.2.1.other (by omega) _, by rw [hw.out]; exact hH.out.2.2.2.setCell (by simp) _⟩
          case measure => simp [intOf]; omega
      · obtain rfl : j = m := by omega
        have hE : Hid (r = if K < 0 then divF 10000 N else (N, true)) := by
          show _ = _
          rw [hr'.out]
          show powR a K j = _
          unfold powR
          rw [hH.out.1]
          rfl
        by_cases hK0 : K < 0
        · have hE2 : Hid (r = divF 10000 N) := hE.out.trans (if_pos hK0)
          go_wp2_with (go_at_call 25; refine (div_any _ _ _).mono ?_; rintro e w3 ⟨rfl, hw⟩; obtain rfl := hw.symm; clear hw; unfold two)
          go_ret2
          exact ⟨by rw [hE2.out]; rfl, hH.out.2.2.2⟩
        · have hE2 : Hid (r = (N, true)) := hE.out.trans (if_neg hK0)
          go_wp2
          go_ret2
          exact ⟨by rw [hE2.out]; rfl, hH.out.2.2.2⟩
end Go.Proofs.YtdkoobpapdahaaaDoor
