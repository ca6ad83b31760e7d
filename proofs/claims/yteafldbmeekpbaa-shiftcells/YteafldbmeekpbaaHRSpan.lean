/- The document's Span. -/
import Derived.Test.YteafldbmeekpbaaHRef
namespace Go.Proofs.Yteafldbmeekpbaa
open Go.RowKit
set_option maxRecDepth 100000
set_option linter.unusedVariables false
set_option linter.unusedSimpArgs false
theorem sp_false {a n m lo hi : Int} (h : spB a n m lo hi = false) : spL a n m lo hi = 0 ∧ spH a n m lo hi = 0 := by
  unfold spL spH; rw [h]; exact ⟨rfl, rfl⟩
theorem sp_true {a n m lo hi : Int} (h : spB a n m lo hi = true) : spL a n m lo hi = loF a n lo ∧ spH a n m lo hi = hiF a n m hi := by
  unfold spL spH; rw [h]; exact ⟨rfl, rfl⟩
theorem sp_in {a n m lo hi : Int} (hg : goodB a n m = true) (h1 : 1 ≤ lo) (h2 : lo ≤ hi) (h3 : hi ≤ m) : spB a n m lo hi = decide (loF a n lo ≤ hiF a n m hi) := by
  unfold spB; rw [hg, decide_eq_true h1, decide_eq_true (by omega : lo ≤ m), decide_eq_true (by omega : 1 ≤ hi), decide_eq_true h3, decide_eq_true h2]; rfl
theorem up_lo {a n lo : Int} (hn : 0 < n) : loF a n lo = if lo < a then lo else lo + n := by
  unfold loF mvF nxF; rw [if_neg (by omega : ¬ n < 0)]; split <;> rfl
theorem up_hi {a n m hi : Int} (hn : 0 < n) : hiF a n m hi = min (if hi < a then hi else hi + n) m := by
  have e : mvB a n hi = true := by unfold mvB nxF; rw [if_neg (by omega : ¬ n < 0)]; cases decide (hi < a) <;> rfl
  unfold hiF; rw [e, if_pos rfl]
  congr 1
  exact up_lo hn
theorem dn_gap {a n p : Int} (hn : n < 0) (h1 : a ≤ p) (h2 : p < a - n) : mvB a n p = false ∧ mvF a n p = a := by
  have q : ¬ p < a := by omega
  unfold mvB mvF nxF; rw [if_pos hn, if_neg q, if_pos h2, decide_eq_false q, decide_eq_true h2]; exact ⟨rfl, rfl⟩
theorem dn_low {a n p : Int} (h1 : p < a) : mvB a n p = true ∧ mvF a n p = p := by
  unfold mvB mvF; simp [h1]
theorem dn_high {a n p : Int} (hn : n < 0) (h1 : a - n ≤ p) : mvB a n p = true ∧ mvF a n p = p + n := by
  have q : ¬ p < a := by omega
  have q2 : ¬ p < a - n := by omega
  unfold mvB mvF nxF; rw [if_pos hn, if_neg q, if_neg q2, decide_eq_false q, decide_eq_false q2]; exact ⟨rfl, rfl⟩
/-- Lines that go: what lies wholly among them has no lines. -/
theorem dn_none {a n m lo hi : Int} (hg : goodB a n m = true) (hn : n < 0) (h1 : a ≤ lo) (h2 : lo ≤ hi) (h3 : hi < a - n) (h4 : hi ≤ m) : spB a n m lo hi = false := by
  have hb := good_bd hg
  rw [sp_in hg (by omega) h2 h4]
  unfold loF hiF
  rw [(dn_gap hn h1 (by omega)).2, (dn_gap hn (by omega : a ≤ hi) h3).1, (dn_gap hn (by omega : a ≤ hi) h3).2]
  simp; omega
/-- The first line at or behind lo that stays, and the last at or ahead of hi. -/
def frL (a n lo : Int) : Int := if a ≤ lo ∧ lo < a - n then a - n else lo
def laL (a n hi : Int) : Int := if a ≤ hi ∧ hi < a - n then a - 1 else hi
theorem dn_some {a n m lo hi : Int} (hg : goodB a n m = true) (hn : n < 0) (h0 : 1 ≤ lo) (h2 : lo ≤ hi) (h4 : hi ≤ m) (h5 : ¬ (a ≤ lo ∧ hi < a - n)) :
    spB a n m lo hi = true ∧ posB a n m (frL a n lo) = true ∧ posB a n m (laL a n hi) = true ∧ spL a n m lo hi = posF a n m (frL a n lo) ∧ spH a n m lo hi = posF a n m (laL a n hi) ∧ frL a n lo ≤ laL a n hi ∧ lo ≤ frL a n lo ∧ laL a n hi ≤ hi ∧
    (∀ p, lo ≤ p → p < frL a n lo → posB a n m p = false) ∧ (∀ p, laL a n hi < p → p ≤ hi → posB a n m p = false) := by
  have hb := good_bd hg
  have gap : ∀ p, a ≤ p → p < a - n → posB a n m p = false := fun p q1 q2 => by unfold posB; rw [(dn_gap hn q1 q2).1]; simp
  have low : ∀ p, 1 ≤ p → p < a → posB a n m p = true ∧ posF a n m p = p := fun p q0 q1 => by
    have e : posB a n m p = true := by unfold posB; rw [hg, (dn_low q1).1, (dn_low q1).2]; simp; omega
    exact ⟨e, by unfold posF; rw [e, (dn_low q1).2]; rfl⟩
  have high : ∀ p, a - n ≤ p → p ≤ m → posB a n m p = true ∧ posF a n m p = p + n := fun p q0 q1 => by
    have e : posB a n m p = true := by unfold posB; rw [hg, (dn_high hn q0).1, (dn_high hn q0).2]; simp; omega
    exact ⟨e, by unfold posF; rw [e, (dn_high hn q0).2]; rfl⟩
  have hspb := sp_in hg h0 h2 h4
  by_cases g1 : a ≤ lo ∧ lo < a - n
  · have e1 : frL a n lo = a - n := by unfold frL; rw [if_pos g1]
    have e2 : laL a n hi = hi := by unfold laL; rw [if_neg (by omega)]
    have l1 : loF a n lo = a := (dn_gap hn g1.1 g1.2).2
    have l2 : hiF a n m hi = hi + n := by unfold hiF; rw [(dn_high hn (by omega : a - n ≤ hi)).1, (dn_high hn (by omega : a - n ≤ hi)).2]; simp; omega
    have s : spB a n m lo hi = true := by rw [hspb, l1, l2]; simp; omega
    rw [(sp_true s).1, (sp_true s).2, e1, e2, l1, l2, (high (a - n) (by omega) (by omega)).1, (high (a - n) (by omega) (by omega)).2, (high hi (by omega) h4).1, (high hi (by omega) h4).2]
    exact ⟨s, rfl, rfl, by omega, rfl, by omega, by omega, by omega, fun p q1 q2 => gap p (by omega) q2, fun p q1 q2 => by omega⟩
  · have e1 : frL a n lo = lo := by unfold frL; rw [if_neg g1]
    by_cases g2 : a ≤ hi ∧ hi < a - n
    · have e2 : laL a n hi = a - 1 := by unfold laL; rw [if_pos g2]
      have g3 : lo < a := by omega
      have l1 : loF a n lo = lo := (dn_low g3).2
      have l2 : hiF a n m hi = a - 1 := by unfold hiF; rw [(dn_gap hn g2.1 g2.2).1, (dn_gap hn g2.1 g2.2).2]; simp; omega
      have s : spB a n m lo hi = true := by rw [hspb, l1, l2]; simp; omega
      rw [(sp_true s).1, (sp_true s).2, e1, e2, l1, l2, (low lo h0 g3).1, (low lo h0 g3).2, (low (a - 1) (by omega) (by omega)).1, (low (a - 1) (by omega) (by omega)).2]
      exact ⟨s, rfl, rfl, rfl, rfl, by omega, by omega, by omega, fun p q1 q2 => by omega, fun p q1 q2 => gap p (by omega) (by omega)⟩
    · have e2 : laL a n hi = hi := by unfold laL; rw [if_neg g2]
      by_cases g3 : lo < a
      · have l1 : loF a n lo = lo := (dn_low g3).2
        by_cases g4 : hi < a
        · have l2 : hiF a n m hi = hi := by unfold hiF; rw [(dn_low g4).1, (dn_low g4).2]; simp; omega
          have s : spB a n m lo hi = true := by rw [hspb, l1, l2]; simp; omega
          rw [(sp_true s).1, (sp_true s).2, e1, e2, l1, l2, (low lo h0 g3).1, (low lo h0 g3).2, (low hi (by omega) g4).1, (low hi (by omega) g4).2]
          exact ⟨s, rfl, rfl, rfl, rfl, by omega, by omega, by omega, fun p q1 q2 => by omega, fun p q1 q2 => by omega⟩
        · have l2 : hiF a n m hi = hi + n := by unfold hiF; rw [(dn_high hn (by omega : a - n ≤ hi)).1, (dn_high hn (by omega : a - n ≤ hi)).2]; simp; omega
          have s : spB a n m lo hi = true := by rw [hspb, l1, l2]; simp; omega
          rw [(sp_true s).1, (sp_true s).2, e1, e2, l1, l2, (low lo h0 g3).1, (low lo h0 g3).2, (high hi (by omega) h4).1, (high hi (by omega) h4).2]
          exact ⟨s, rfl, rfl, rfl, rfl, by omega, by omega, by omega, fun p q1 q2 => by omega, fun p q1 q2 => by omega⟩
      · have l1 : loF a n lo = lo + n := (dn_high hn (by omega : a - n ≤ lo)).2
        have l2 : hiF a n m hi = hi + n := by unfold hiF; rw [(dn_high hn (by omega : a - n ≤ hi)).1, (dn_high hn (by omega : a - n ≤ hi)).2]; simp; omega
        have s : spB a n m lo hi = true := by rw [hspb, l1, l2]; simp; omega
        rw [(sp_true s).1, (sp_true s).2, e1, e2, l1, l2, (high lo (by omega) (by omega)).1, (high lo (by omega) (by omega)).2, (high hi (by omega) h4).1, (high hi (by omega) h4).2]
        exact ⟨s, rfl, rfl, rfl, rfl, by omega, by omega, by omega, fun p q1 q2 => by omega, fun p q1 q2 => by omega⟩
set_option maxHeartbeats 4000000 in
theorem rspan_bad (a n m lo hi : Int) (h : goodB a n m = false ∨ lo < 1 ∨ hi < lo ∨ m < hi) (w : World) : Calls Try.prog 11 #[shV a n m, .int .i64 lo, .int .i64 hi] w fun e w' => e = .returned (.tuple #[.int .i64 (spL a n m lo hi), .int .i64 (spH a n m lo hi), .bool (spB a n m lo hi)]) ∧ Below w.heap.size w w' := by
  have HB0 : Hid (Below (w.alloc (shO a n m 25)).heap.size (w.alloc (shO a n m 25)) (w.alloc (shO a n m 25))) := Below.refl _ _
  have HG : RC (w.alloc (shO a n m 25)) 13 #[shV a n m] _ := RC.of fun u => rgood_any a n m u
  cases hg : goodB a n m
  · rw [hg] at HG
    have e1 : spB a n m lo hi = false := by unfold spB; rw [hg]; rfl
    clear h hg
    obtain ⟨e2, e3⟩ := sp_false e1
    rw [e1, e2, e3]
    clear e1 e2 e3
    go_enter Try.func11, Try.ntmps11
    go_wp2_with (go_at_call 13; refine (HG _ HB0.out).mono ?_; clear HG; rintro e w1 ⟨rfl, hb⟩; have Hw1 : Hid (Below (w.alloc (shO a n m 25)).heap.size (w.alloc (shO a n m 25)) w1) := hb; clear hb; obtain ⟨c0, c1, c2⟩ := box_cells Hw1.out)
    go_ret3
    exact ⟨rfl, bel1 Hw1.out⟩
  rw [hg] at HG
  have h' : lo < 1 ∨ hi < lo ∨ m < hi := by rcases h with h | h; · rw [hg] at h; cases h
                                            · exact h
  clear h
  have e1 : spB a n m lo hi = false := by
    unfold spB
    by_cases q1 : lo < 1
    · rw [decide_eq_false (by omega : ¬ 1 ≤ lo)]; simp
    by_cases q2 : hi < lo
    · rw [decide_eq_false (by omega : ¬ lo ≤ hi)]; simp
    · rw [decide_eq_false (by omega : ¬ hi ≤ m)]; simp
  by_cases q1 : lo < 1
  · clear h' hg
    obtain ⟨e2, e3⟩ := sp_false e1
    rw [e1, e2, e3]
    clear e1 e2 e3
    go_enter Try.func11, Try.ntmps11
    go_wp2_with (go_at_call 13; refine (HG _ HB0.out).mono ?_; clear HG; rintro e w1 ⟨rfl, hb⟩; have Hw1 : Hid (Below (w.alloc (shO a n m 25)).heap.size (w.alloc (shO a n m 25)) w1) := hb; clear hb; obtain ⟨c0, c1, c2⟩ := box_cells Hw1.out)
    go_ret3
    exact ⟨rfl, bel1 Hw1.out⟩
  by_cases q2 : hi < lo
  · clear h' hg
    obtain ⟨e2, e3⟩ := sp_false e1
    rw [e1, e2, e3]
    clear e1 e2 e3
    go_enter Try.func11, Try.ntmps11
    go_wp2_with (go_at_call 13; refine (HG _ HB0.out).mono ?_; clear HG; rintro e w1 ⟨rfl, hb⟩; have Hw1 : Hid (Below (w.alloc (shO a n m 25)).heap.size (w.alloc (shO a n m 25)) w1) := hb; clear hb; obtain ⟨c0, c1, c2⟩ := box_cells Hw1.out)
    go_ret3
    exact ⟨rfl, bel1 Hw1.out⟩
  · have q3 : m < hi := by omega
    clear h' hg
    obtain ⟨e2, e3⟩ := sp_false e1
    rw [e1, e2, e3]
    clear e1 e2 e3
    go_enter Try.func11, Try.ntmps11
    go_wp2_with (go_at_call 13; refine (HG _ HB0.out).mono ?_; clear HG; rintro e w1 ⟨rfl, hb⟩; have Hw1 : Hid (Below (w.alloc (shO a n m 25)).heap.size (w.alloc (shO a n m 25)) w1) := hb; clear hb; obtain ⟨c0, c1, c2⟩ := box_cells Hw1.out)
    go_ret3
    exact ⟨rfl, bel1 Hw1.out⟩
set_option maxHeartbeats 4000000 in
theorem rspan_up (a n m lo hi : Int) (hg : goodB a n m = true) (h1 : 1 ≤ lo) (h2 : lo ≤ hi) (h3 : hi ≤ m) (hn : 0 < n) (w : World) : Calls Try.prog 11 #[shV a n m, .int .i64 lo, .int .i64 hi] w fun e w' => e = .returned (.tuple #[.int .i64 (spL a n m lo hi), .int .i64 (spH a n m lo hi), .bool (spB a n m lo hi)]) ∧ Below w.heap.size w w' := by
  have HB0 : Hid (Below (w.alloc (shO a n m 25)).heap.size (w.alloc (shO a n m 25)) (w.alloc (shO a n m 25))) := Below.refl _ _
  have HG : RC (w.alloc (shO a n m 25)) 13 #[shV a n m] _ := RC.of fun u => rgood_any a n m u
  have hb := good_bd hg
  have b1 := hb.2.1
  have b2 := hb.2.2.1
  have b3 : n ≤ 1000 := by omega
  have hs := sp_in hg h1 h2 h3
  have T := fun h => sp_true (a := a) (n := n) (m := m) (lo := lo) (hi := hi) h
  have F := fun h => sp_false (a := a) (n := n) (m := m) (lo := lo) (hi := hi) h
  rw [up_lo hn, up_hi hn] at hs
  rw [up_lo hn, up_hi hn] at T
  rw [hg] at HG
  clear hb hg
  generalize spB a n m lo hi = sb at *
  generalize spL a n m lo hi = sl at *
  generalize spH a n m lo hi = sh at *
  by_cases g1 : lo < a
  · by_cases g2 : hi < a
    · rw [if_pos g1, if_pos g2] at hs T
      obtain rfl : sb = true := hs.trans (by simp; omega)
      obtain ⟨e2, e3⟩ := T rfl
      clear hs T F
      · rw [show min hi m = hi by omega] at e3
        rw [e2, e3]
        clear e2 e3
        go_enter Try.func11, Try.ntmps11
        go_wp2_with (go_at_call 13; refine (HG _ HB0.out).mono ?_; clear HG; rintro e w1 ⟨rfl, hb⟩; have Hw1 : Hid (Below (w.alloc (shO a n m 25)).heap.size (w.alloc (shO a n m 25)) w1) := hb; clear hb; obtain ⟨c0, c1, c2⟩ := box_cells Hw1.out)
        go_ret3
        exact ⟨rfl, bel1 Hw1.out⟩
    · rw [if_pos g1, if_neg g2] at hs T
      obtain rfl : sb = true := hs.trans (by simp; omega)
      obtain ⟨e2, e3⟩ := T rfl
      clear hs T F
      by_cases g4 : m < (hi + n)
      · rw [show min (hi + n) m = m by omega] at e3
        rw [e2, e3]
        clear e2 e3
        go_enter Try.func11, Try.ntmps11
        go_wp2_with (go_at_call 13; refine (HG _ HB0.out).mono ?_; clear HG; rintro e w1 ⟨rfl, hb⟩; have Hw1 : Hid (Below (w.alloc (shO a n m 25)).heap.size (w.alloc (shO a n m 25)) w1) := hb; clear hb; obtain ⟨c0, c1, c2⟩ := box_cells Hw1.out)
        go_ret3
        exact ⟨rfl, bel1 Hw1.out⟩
      · rw [show min (hi + n) m = (hi + n) by omega] at e3
        rw [e2, e3]
        clear e2 e3
        go_enter Try.func11, Try.ntmps11
        go_wp2_with (go_at_call 13; refine (HG _ HB0.out).mono ?_; clear HG; rintro e w1 ⟨rfl, hb⟩; have Hw1 : Hid (Below (w.alloc (shO a n m 25)).heap.size (w.alloc (shO a n m 25)) w1) := hb; clear hb; obtain ⟨c0, c1, c2⟩ := box_cells Hw1.out)
        go_ret3
        exact ⟨rfl, bel1 Hw1.out⟩
  · have g2 : ¬ hi < a := by omega
    rw [if_neg g1, if_neg g2] at hs T
    by_cases g3 : m < (lo + n)
    · obtain rfl : sb = false := hs.trans (by simp; omega)
      obtain ⟨rfl, rfl⟩ := F rfl
      clear hs T F
      go_enter Try.func11, Try.ntmps11
      go_wp2_with (go_at_call 13; refine (HG _ HB0.out).mono ?_; clear HG; rintro e w1 ⟨rfl, hb⟩; have Hw1 : Hid (Below (w.alloc (shO a n m 25)).heap.size (w.alloc (shO a n m 25)) w1) := hb; clear hb; obtain ⟨c0, c1, c2⟩ := box_cells Hw1.out)
      go_ret3
      exact ⟨rfl, bel1 Hw1.out⟩
    obtain rfl : sb = true := hs.trans (by simp; omega)
    obtain ⟨e2, e3⟩ := T rfl
    clear hs T F
    by_cases g4 : m < (hi + n)
    · rw [show min (hi + n) m = m by omega] at e3
      rw [e2, e3]
      clear e2 e3
      go_enter Try.func11, Try.ntmps11
      go_wp2_with (go_at_call 13; refine (HG _ HB0.out).mono ?_; clear HG; rintro e w1 ⟨rfl, hb⟩; have Hw1 : Hid (Below (w.alloc (shO a n m 25)).heap.size (w.alloc (shO a n m 25)) w1) := hb; clear hb; obtain ⟨c0, c1, c2⟩ := box_cells Hw1.out)
      go_ret3
      exact ⟨rfl, bel1 Hw1.out⟩
    · rw [show min (hi + n) m = (hi + n) by omega] at e3
      rw [e2, e3]
      clear e2 e3
      go_enter Try.func11, Try.ntmps11
      go_wp2_with (go_at_call 13; refine (HG _ HB0.out).mono ?_; clear HG; rintro e w1 ⟨rfl, hb⟩; have Hw1 : Hid (Below (w.alloc (shO a n m 25)).heap.size (w.alloc (shO a n m 25)) w1) := hb; clear hb; obtain ⟨c0, c1, c2⟩ := box_cells Hw1.out)
      go_ret3
      exact ⟨rfl, bel1 Hw1.out⟩
set_option maxHeartbeats 4000000 in
theorem rspan_none (a n m lo hi : Int) (hg : goodB a n m = true) (h1 : 1 ≤ lo) (h2 : lo ≤ hi) (h3 : hi ≤ m) (hn : n < 0) (h4 : a ≤ lo) (h5 : hi < a - n) (w : World) : Calls Try.prog 11 #[shV a n m, .int .i64 lo, .int .i64 hi] w fun e w' => e = .returned (.tuple #[.int .i64 (spL a n m lo hi), .int .i64 (spH a n m lo hi), .bool (spB a n m lo hi)]) ∧ Below w.heap.size w w' := by
  have HB0 : Hid (Below (w.alloc (shO a n m 25)).heap.size (w.alloc (shO a n m 25)) (w.alloc (shO a n m 25))) := Below.refl _ _
  have HG : RC (w.alloc (shO a n m 25)) 13 #[shV a n m] _ := RC.of fun u => rgood_any a n m u
  have hb := good_bd hg
  have b1 := hb.2.1
  have e1 := dn_none hg hn h4 h2 h5 h3
  obtain ⟨e2, e3⟩ := sp_false e1
  rw [e1, e2, e3]
  clear e1 e2 e3
  have HP : Hid (∀ p, a ≤ p → p ≤ hi → posB a n m p = false) := fun p q1 q2 => by unfold posB; rw [(dn_gap hn q1 (by omega)).1]; simp
  rw [hg] at HG
  clear hb hg
  go_enter Try.func11, Try.ntmps11
  go_wp2_with (go_at_call 13; refine (HG _ HB0.out).mono ?_; clear HG; rintro e w1 ⟨rfl, hb⟩; have Hw1 : Hid (Below (w.alloc (shO a n m 25)).heap.size (w.alloc (shO a n m 25)) w1) := hb; clear hb; obtain ⟨c0, c1, c2⟩ := box_cells Hw1.out)
  go_loopw [1, 9, 10] (fun i _ _ wr => ∃ k : Int, lo ≤ k ∧ k ≤ hi + 1 ∧ i = .int .i64 k ∧ Hid (Below (w.alloc (shO a n m 25)).heap.size (w.alloc (shO a n m 25)) wr)) (fun i _ _ _ => (hi + 1 - intOf i).toNat)
  case atStart => exact ⟨lo, by omega, by omega, rfl, Hw1⟩
  case round =>
    obtain ⟨k, k1, k2, rfl, HD⟩ := hrel
    obtain ⟨d0, d1, d2⟩ := box_cells HD.out
    by_cases hk : k ≤ hi
    · have PP : Hid (∀ u, Calls Try.prog 9 #[shV a n m, .int .i64 k] u fun e w' => e = .returned (.tuple #[.int .i64 0, .bool false]) ∧ Below u.heap.size u w') := fun u => by
        have q := HP.out k (by omega) hk
        have r : posF a n m k = 0 := by unfold posF; rw [q]; rfl
        have := rpos_any a n m k u
        rw [q, r] at this
        exact this
      go_wp2_with (go_at_call 9; refine (PP.out _).mono ?_; clear PP; rintro e w2 ⟨rfl, hb⟩; have HE : Hid (Below (w.alloc (shO a n m 25)).heap.size (w.alloc (shO a n m 25)) w2) := bel_step HD.out hb; clear hb)
      go_roundw
      case rel => exact ⟨k + 1, by omega, by omega, rfl, HE⟩
      case measure => simp [intOf]; omega
    · obtain rfl : k = hi + 1 := by omega
      go_wp2
      go_loopw [2, 11, 12] (fun j _ _ wq => j = .int .i64 hi ∧ Hid (Below (w.alloc (shO a n m 25)).heap.size (w.alloc (shO a n m 25)) wq)) (fun _ _ _ _ => 0)
      case atStart => exact ⟨rfl, HD⟩
      case round =>
        obtain ⟨rfl, HD2⟩ := hrel
        go_wp2
        go_ret3
        exact ⟨rfl, bel1 HD2.out⟩
set_option maxHeartbeats 4000000 in
theorem rspan_some (a n m lo hi : Int) (hg : goodB a n m = true) (h1 : 1 ≤ lo) (h2 : lo ≤ hi) (h3 : hi ≤ m) (hn : n < 0) (h4 : ¬ (a ≤ lo ∧ hi < a - n)) (w : World) : Calls Try.prog 11 #[shV a n m, .int .i64 lo, .int .i64 hi] w fun e w' => e = .returned (.tuple #[.int .i64 (spL a n m lo hi), .int .i64 (spH a n m lo hi), .bool (spB a n m lo hi)]) ∧ Below w.heap.size w w' := by
  have HB0 : Hid (Below (w.alloc (shO a n m 25)).heap.size (w.alloc (shO a n m 25)) (w.alloc (shO a n m 25))) := Below.refl _ _
  have HG : RC (w.alloc (shO a n m 25)) 13 #[shV a n m] _ := RC.of fun u => rgood_any a n m u
  have hb := good_bd hg
  have b1 := hb.2.1
  obtain ⟨e1, p1, p2, e2, e3, x1, x2, x3, q1, q2⟩ := dn_some hg hn h1 h2 h3 h4
  have HQ1 : Hid _ := q1
  have HQ2 : Hid _ := q2
  have HE2 : Hid _ := e2
  have HE3 : Hid _ := e3
  generalize frL a n lo = X at *
  generalize laL a n hi = Y at *
  have P : Hid (∀ (k : Int) u, Calls Try.prog 9 #[shV a n m, .int .i64 k] u fun e w' => e = .returned (.tuple #[.int .i64 (posF a n m k), .bool (posB a n m k)]) ∧ Below u.heap.size u w') := fun k u => rpos_any a n m k u
  have PX : Hid (∀ u, Calls Try.prog 9 #[shV a n m, .int .i64 X] u fun e w' => e = .returned (.tuple #[.int .i64 (posF a n m X), .bool true]) ∧ Below u.heap.size u w') := fun u => by have := rpos_any a n m X u; rw [p1] at this; exact this
  have PY : Hid (∀ u, Calls Try.prog 9 #[shV a n m, .int .i64 Y] u fun e w' => e = .returned (.tuple #[.int .i64 (posF a n m Y), .bool true]) ∧ Below u.heap.size u w') := fun u => by have := rpos_any a n m Y u; rw [p2] at this; exact this
  have PF : Hid (∀ (k : Int), posB a n m k = false → ∀ u, Calls Try.prog 9 #[shV a n m, .int .i64 k] u fun e w' => e = .returned (.tuple #[.int .i64 (posF a n m k), .bool false]) ∧ Below u.heap.size u w') := fun k h u => by have := rpos_any a n m k u; rw [h] at this; exact this
  rw [e1, e2, e3]
  rw [hg] at HG
  clear hb hg e1 e2 e3 q1 q2 p1 p2 P h4
  go_enter Try.func11, Try.ntmps11
  go_wp2_with (go_at_call 13; refine (HG _ HB0.out).mono ?_; clear HG; rintro e w1 ⟨rfl, hb⟩; have Hw1 : Hid (Below (w.alloc (shO a n m 25)).heap.size (w.alloc (shO a n m 25)) w1) := hb; clear hb; obtain ⟨c0, c1, c2⟩ := box_cells Hw1.out)
  go_loopw [1, 9, 10] (fun i _ _ wr => ∃ k : Int, lo ≤ k ∧ k ≤ X ∧ i = .int .i64 k ∧ Hid (Below (w.alloc (shO a n m 25)).heap.size (w.alloc (shO a n m 25)) wr)) (fun i _ _ _ => (X + 1 - intOf i).toNat)
  case atStart => exact ⟨lo, by omega, by omega, rfl, Hw1⟩
  case round =>
    obtain ⟨k, k1, k2, rfl, HD⟩ := hrel
    obtain ⟨d0, d1, d2⟩ := box_cells HD.out
    by_cases hk : k < X
    · have PP : Hid _ := PF.out k (HQ1.out k k1 hk)
      go_wp2_with (go_at_call 9; refine (PP.out _).mono ?_; clear PP; rintro e w2 ⟨rfl, hb⟩; have HE : Hid (Below (w.alloc (shO a n m 25)).heap.size (w.alloc (shO a n m 25)) w2) := bel_step HD.out hb; clear hb)
      go_roundw
      case rel => exact ⟨k + 1, by omega, by omega, rfl, HE⟩
      case measure => simp [intOf]; omega
    · obtain rfl : X = k := by omega
      go_wp2_with (go_at_call 9; refine (PX.out _).mono ?_; rintro e w2 ⟨rfl, hb⟩; have HE : Hid (Below (w.alloc (shO a n m 25)).heap.size (w.alloc (shO a n m 25)) w2) := bel_step HD.out hb; clear hb)
      go_loopw [2, 11, 12] (fun j _ _ wq => ∃ k : Int, Y ≤ k ∧ k ≤ hi ∧ j = .int .i64 k ∧ Hid (Below (w.alloc (shO a n m 25)).heap.size (w.alloc (shO a n m 25)) wq)) (fun j _ _ _ => (intOf j - Y).toNat)
      case atStart => exact ⟨hi, by omega, by omega, rfl, HE⟩
      case round =>
        obtain ⟨k, k3, k4, rfl, HF⟩ := hrel
        obtain ⟨f0, f1, f2⟩ := box_cells HF.out
        by_cases hk2 : Y < k
        · have PP : Hid _ := PF.out k (HQ2.out k hk2 k4)
          go_wp2_with (go_at_call 9; refine (PP.out _).mono ?_; clear PP; rintro e w3 ⟨rfl, hb⟩; have HG3 : Hid (Below (w.alloc (shO a n m 25)).heap.size (w.alloc (shO a n m 25)) w3) := bel_step HF.out hb; clear hb)
          go_roundw
          case rel => exact ⟨k - 1, by omega, by omega, rfl, HG3⟩
          case measure => simp [intOf]; omega
        · obtain rfl : Y = k := by omega
          go_wp2_with (go_at_call 9; first
            | (go_at_call_of 9 X; refine (PX.out _).mono ?_; clear PX; rintro e w4 ⟨rfl, hb⟩; have HH4 : Hid (Below (w.alloc (shO a n m 25)).heap.size (w.alloc (shO a n m 25)) w4) := bel_step HG3.out hb; clear hb; obtain ⟨f0, f1, f2⟩ := box_cells HH4.out)
            | (refine (PY.out _).mono ?_; rintro e w3 ⟨rfl, hb⟩; first | (have HI5 : Hid (Below (w.alloc (shO a n m 25)).heap.size (w.alloc (shO a n m 25)) w3) := bel_step HH4.out hb; clear hb; obtain ⟨f0, f1, f2⟩ := box_cells HI5.out) | (have HG3 : Hid (Below (w.alloc (shO a n m 25)).heap.size (w.alloc (shO a n m 25)) w3) := bel_step HF.out hb; clear hb; obtain ⟨f0, f1, f2⟩ := box_cells HG3.out)))
          go_ret3
          exact ⟨rfl, bel1 HI5.out⟩
theorem rspan_any (a n m lo hi : Int) (w : World) : Calls Try.prog 11 #[shV a n m, .int .i64 lo, .int .i64 hi] w fun e w' => e = .returned (.tuple #[.int .i64 (spL a n m lo hi), .int .i64 (spH a n m lo hi), .bool (spB a n m lo hi)]) ∧ Below w.heap.size w w' := by
  by_cases h : goodB a n m = false ∨ lo < 1 ∨ hi < lo ∨ m < hi
  · exact rspan_bad a n m lo hi h w
  have hg : goodB a n m = true := by cases q : goodB a n m; · exact absurd (.inl q) h
                                     · rfl
  have h2 : 1 ≤ lo ∧ lo ≤ hi ∧ hi ≤ m := ⟨by omega, by omega, by omega⟩
  obtain ⟨h1, h2, h3⟩ := h2
  have hb := good_bd hg
  by_cases hn : 0 < n
  · exact rspan_up a n m lo hi hg h1 h2 h3 hn w
  have hn : n < 0 := by omega
  by_cases h4 : a ≤ lo ∧ hi < a - n
  · exact rspan_none a n m lo hi hg h1 h2 h3 hn h4.1 h4.2 w
  · exact rspan_some a n m lo hi hg h1 h2 h3 hn h4 w
end Go.Proofs.Yteafldbmeekpbaa
