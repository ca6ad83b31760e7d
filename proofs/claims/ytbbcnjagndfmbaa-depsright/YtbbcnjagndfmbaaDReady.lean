/- ready: has all come that a number reads, but for its ring; is it the least one of it? -/
import Derived.Test.YtbbcnjagndfmbaaDMem
namespace Go.Proofs.Ytbbcnjagndfmbaa
open Go.RowKit
set_option maxRecDepth 100000
set_option linter.unusedVariables false
set_option linter.unusedSimpArgs false
def bl (n : Nat) (f : Nat → Bool) : List Value := (List.range n).map fun j => .bool (f j)
theorem bl_len (n : Nat) (f : Nat → Bool) : (bl n f).length = n := by simp [bl]
theorem bl_at {n : Nat} {f : Nat → Bool} {j : Nat} (h : j < n) : (bl n f)[j]? = some (.bool (f j)) := by simp [bl, List.getElem?_range h]
/-- Rows of truths. -/
def Fm (w : World) (v : Value) (n : Nat) (F : Nat → Nat → Bool) : Prop :=
  ∃ vs : List Value, vs.length = n ∧ Rd w v n vs ∧ ∀ i u, vs[i]? = some u → Rd w u n (bl n (F i))
theorem Fm.below {w w' : World} {v : Value} {n : Nat} {F : Nat → Nat → Bool} (h : Fm w v n F) (hb : Below w.heap.size w w') : Fm w' v n F := by
  obtain ⟨vs, h1, h2, h3⟩ := h
  exact ⟨vs, h1, h2.below hb, fun i u hu => (h3 i u hu).below hb⟩
theorem Rd.bl {w : World} {v : Value} {n : Nat} {f : Nat → Bool} (h : Rd w v n (bl n f)) {j : Nat} (hj : j < n) : ∃ A c, v = .slice (some A) n c ∧ w.cell? (A.add j) = some (.bool (f j)) := by
  obtain ⟨A, c, e, hc⟩ := h.at (j := j) (by rw [bl_len]; exact hj)
  refine ⟨A, c, e, ?_⟩
  rw [hc, ← List.getElem?_eq_getElem, bl_at hj]
/-- One truth of it: where the row's value lies, what it is, and where the truth lies. -/
theorem Fm.at {w : World} {v : Value} {n : Nat} {F : Nat → Nat → Bool} (h : Fm w v n F) {i j : Nat} (hi : i < n) (hj : j < n) :
    ∃ A c B d, v = .slice (some A) n c ∧ w.cell? (A.add i) = some (.slice (some B) n d) ∧ w.cell? (B.add j) = some (.bool (F i j)) := by
  obtain ⟨vs, h1, h2, h3⟩ := h
  obtain ⟨A, c, rfl, hc⟩ := h2.at (j := i) (by omega)
  obtain ⟨B, d, e, hb⟩ := (h3 i _ (List.getElem?_eq_getElem (by omega))).bl hj
  exact ⟨A, c, B, d, rfl, by rw [hc, e], hb⟩
def rdyB (n : Nat) (F : Nat → Nat → Bool) (D : Nat → Bool) (i : Nat) : Bool :=
  (List.range n).all fun k => !(F i k && F k i && decide (k < i) || F i k && !(F i k && F k i) && !D k)
theorem rdy_no {n : Nat} {F : Nat → Nat → Bool} {D : Nat → Bool} {i k : Nat} (hk : k < n) (h : (F i k && F k i && decide (k < i) || F i k && !(F i k && F k i) && !D k) = true) : rdyB n F D i = false := by
  unfold rdyB
  rw [List.all_eq_false]
  exact ⟨k, List.mem_range.2 hk, by rw [h]; simp⟩
theorem rdy_yes {n : Nat} {F : Nat → Nat → Bool} {D : Nat → Bool} {i : Nat} (h : ∀ k, k < n → (F i k && F k i && decide (k < i) || F i k && !(F i k && F k i) && !D k) = false) : rdyB n F D i = true := by
  unfold rdyB
  rw [List.all_eq_true]
  intro k hk
  rw [h k (List.mem_range.1 hk)]
  rfl
set_option maxHeartbeats 8000000 in
theorem ready_any {w : World} {fv dv : Value} {n : Nat} {F : Nat → Nat → Bool} {D : Nat → Bool} (hF : Fm w fv n F) (hD : Rd w dv n (bl n D)) {i : Nat} (hi : i < n) (hn : n ≤ 4096) :
    Calls Try.prog 16 #[fv, dv, .int .i64 (i : Int)] w fun e w' => e = .returned (.bool (rdyB n F D i)) ∧ w' = w := by
  have HF : Hid (Fm w fv n F) := hF
  have HD : Hid (Rd w dv n (bl n D)) := hD
  obtain ⟨a0, c0, e0⟩ : ∃ a c, fv = .slice a n c := by obtain ⟨vs, _, h, _⟩ := hF; exact h.slice
  obtain ⟨d0, k0, e1⟩ := hD.slice
  subst e0 e1
  have HN : Hid (∀ k, k < n → (F i k && F k i && decide (k < i) || F i k && !(F i k && F k i) && !D k) = true → rdyB n F D i = false) := fun k hk h => rdy_no hk h
  have HY : Hid ((∀ k, k < n → (F i k && F k i && decide (k < i) || F i k && !(F i k && F k i) && !D k) = false) → rdyB n F D i = true) := rdy_yes
  generalize rdyB n F D i = R at *
  clear hF hD
  go_enter Try.func16, Try.ntmps16
  go_wp2
  go_loopw [7, 8, 11] (fun _ _ j wr => wr = w ∧ ∃ (k : Nat), k ≤ n ∧ j = .int .i64 (k : Nat) ∧ Hid (∀ m, m < k → (F i m && F m i && decide (m < i) || F i m && !(F i m && F m i) && !D m) = false)) (fun _ _ j _ => n - (intOf j).toNat)
  case atStart => exact ⟨rfl, 0, Nat.zero_le _, rfl, fun m hm => absurd hm (Nat.not_lt_zero _)⟩
  case round =>
    obtain ⟨rfl, k, hk, rfl, HK⟩ := hrel
    by_cases hlt : k < n
    · have hki : (k : Int) < n := by omega
      have hii : (i : Int) < n := by omega
      obtain ⟨A, c, B, d, e2, q1, q2⟩ := HF.out.at hi hlt
      obtain ⟨A', c', B', d', e3, q3, q4⟩ := HF.out.at hlt hi
      obtain ⟨C, c'', e4, q5⟩ := HD.out.bl hlt
      cases e2; cases e3; cases e4
      have HNk := HN.out k hlt
      have HK2 : (F i k && F k i && decide (k < i) || F i k && !(F i k && F k i) && !D k) = false → Hid (∀ m, m < k + 1 → (F i m && F m i && decide (m < i) || F i m && !(F i m && F m i) && !D m) = false) := fun h m hm => by
        rcases Nat.lt_succ_iff_lt_or_eq.1 hm with hm | rfl
        · exact HK.out m hm
        · exact h
      clear HK
      have HS : Hid (∀ b1 b2 b3 b4 : Bool, F i k = b1 → F k i = b2 → decide (k < i) = b3 → D k = b4 → (F i k && F k i && decide (k < i) || F i k && !(F i k && F k i) && !D k) = (b1 && b2 && b3 || b1 && !(b1 && b2) && !b4)) := fun b1 b2 b3 b4 h1 h2 h3 h4 => by rw [h1, h2, h3, h4]
      cases f1 : F i k <;> cases f2 : F k i <;> cases f4 : D k <;> rw [f1] at q2 <;> rw [f2] at q4 <;> rw [f4] at q5 <;> by_cases f3 : k < i
      all_goals clear HF HD HN HY HS
      all_goals first
        | (have hv : (F i k && F k i && decide (k < i) || F i k && !(F i k && F k i) && !D k) = true := by simp [f1, f2, f3, f4]
           have hR : R = false := HNk hv
           clear HNk HK2 hv f1 f2 f4
           have f3i : (k : Int) < i ↔ k < i := by omega
           go_wp2
           go_ret
           exact ⟨by rw [hR]; rfl, rfl⟩)
        | (have hv : (F i k && F k i && decide (k < i) || F i k && !(F i k && F k i) && !D k) = false := by simp [f1, f2, f3, f4]
           have hK := HK2 hv
           clear HNk HK2 hv f1 f2 f4
           have f3i : (k : Int) < i ↔ k < i := by omega
           go_wp2
           go_roundw
           case rel => exact ⟨by first | rfl | trivial, k + 1, by omega, by go_num, hK⟩
           case measure => simp [intOf]; omega)
    · have hki : ¬ (k : Int) < n := by omega
      go_wp2
      go_ret
      exact ⟨by rw [HY.out fun m hm => HK.out m (by omega)]; rfl, rfl⟩
end Go.Proofs.Ytbbcnjagndfmbaa
