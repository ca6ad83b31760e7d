/- HRSpan, RwRef1. -/
import Derived.Test.YtljmklbbngpllaaGreatDoorHRefNd
set_option linter.unusedVariables false
set_option linter.unusedSimpArgs false
set_option maxHeartbeats 16000000
set_option maxRecDepth 100000
namespace Go.Proofs.YtljmklbbngpllaaGreatDoor.Hs
open Go.RowKit
theorem iR {a n m lo hi : Int} (h : spB a n m lo hi = false) : spL a n m lo hi = 0 ∧ spH a n m lo hi = 0 := by
 unfold spL spH; rw [h]; exact ⟨rfl, rfl⟩
theorem fI {a n m lo hi : Int} (h : spB a n m lo hi = true) : spL a n m lo hi = loF a n lo ∧ spH a n m lo hi = hiF a n m hi := by
 unfold spL spH; rw [h]; exact ⟨rfl, rfl⟩
theorem aF2 {a n m lo hi : Int} (hg : bB a n m = true) (h1 : 1 ≤ lo) (h2 : lo ≤ hi) (h3 : hi ≤ m) : spB a n m lo hi = decide (loF a n lo ≤ hiF a n m hi) := by
 unfold spB; rw [hg, decide_eq_true h1, decide_eq_true (by omega : lo ≤ m), decide_eq_true (by omega : 1 ≤ hi), decide_eq_true h3, decide_eq_true h2]; rfl
theorem aF3 {a n lo : Int} (hn : 0 < n) : loF a n lo = if lo < a then lo else lo + n := by
 unfold loF mvF nxF; rw [if_neg (by omega : ¬ n < 0)]; split <;> rfl
theorem aIw {a n m hi : Int} (hn : 0 < n) : hiF a n m hi = min (if hi < a then hi else hi + n) m := by
 have e : mvB a n hi = true := by unfold mvB nxF; rw [if_neg (by omega : ¬ n < 0)]; cases decide (hi < a) <;> rfl
 unfold hiF; rw [e, if_pos rfl]
 congr 1
 exact aF3 hn
theorem kE {a n p : Int} (hn : n < 0) (h1 : a ≤ p) (h2 : p < a - n) : mvB a n p = false ∧ mvF a n p = a := by
 have q : ¬ p < a := by omega
 unfold mvB mvF nxF; rw [if_pos hn, if_neg q, if_pos h2, decide_eq_false q, decide_eq_true h2]; exact ⟨rfl, rfl⟩
theorem mE {a n p : Int} (h1 : p < a) : mvB a n p = true ∧ mvF a n p = p := by
 unfold mvB mvF; simp [h1]
theorem gD {a n p : Int} (hn : n < 0) (h1 : a - n ≤ p) : mvB a n p = true ∧ mvF a n p = p + n := by
 have q : ¬ p < a := by omega
 have q2 : ¬ p < a - n := by omega
 unfold mvB mvF nxF; rw [if_pos hn, if_neg q, if_neg q2, decide_eq_false q, decide_eq_false q2]; exact ⟨rfl, rfl⟩
theorem aHU {a n m lo hi : Int} (hg : bB a n m = true) (hn : n < 0) (h1 : a ≤ lo) (h2 : lo ≤ hi) (h3 : hi < a - n) (h4 : hi ≤ m) : spB a n m lo hi = false := by
 have hb := gB hg
 rw [aF2 hg (by omega) h2 h4]
 unfold loF hiF
 rw [(kE hn h1 (by omega)).2, (kE hn (by omega : a ≤ hi) h3).1, (kE hn (by omega : a ≤ hi) h3).2]
 simp; omega
def frL (a n lo : Int) : Int := if a ≤ lo ∧ lo < a - n then a - n else lo
def laL (a n hi : Int) : Int := if a ≤ hi ∧ hi < a - n then a - 1 else hi
theorem aHV {a n m lo hi : Int} (hg : bB a n m = true) (hn : n < 0) (h0 : 1 ≤ lo) (h2 : lo ≤ hi) (h4 : hi ≤ m) (h5 : ¬ (a ≤ lo ∧ hi < a - n)) :
  spB a n m lo hi = true ∧ posB a n m (frL a n lo) = true ∧ posB a n m (laL a n hi) = true ∧ spL a n m lo hi = dG a n m (frL a n lo) ∧ spH a n m lo hi = dG a n m (laL a n hi) ∧ frL a n lo ≤ laL a n hi ∧ lo ≤ frL a n lo ∧ laL a n hi ≤ hi ∧
  (∀ p, lo ≤ p → p < frL a n lo → posB a n m p = false) ∧ (∀ p, laL a n hi < p → p ≤ hi → posB a n m p = false) := by
 have hb := gB hg
 have gap : ∀ p, a ≤ p → p < a - n → posB a n m p = false := fun p q1 q2 => by unfold posB; rw [(kE hn q1 q2).1]; simp
 have low : ∀ p, 1 ≤ p → p < a → posB a n m p = true ∧ dG a n m p = p := fun p q0 q1 => by
  have e : posB a n m p = true := by unfold posB; rw [hg, (mE q1).1, (mE q1).2]; simp; omega
  exact ⟨e, by unfold dG; rw [e, (mE q1).2]; rfl⟩
 have high : ∀ p, a - n ≤ p → p ≤ m → posB a n m p = true ∧ dG a n m p = p + n := fun p q0 q1 => by
  have e : posB a n m p = true := by unfold posB; rw [hg, (gD hn q0).1, (gD hn q0).2]; simp; omega
  exact ⟨e, by unfold dG; rw [e, (gD hn q0).2]; rfl⟩
 have aF4 := aF2 hg h0 h2 h4
 by_cases g1 : a ≤ lo ∧ lo < a - n
 ·have e1 : frL a n lo = a - n := by unfold frL; rw [if_pos g1]
  have e2 : laL a n hi = hi := by unfold laL; rw [if_neg (by omega)]
  have l1 : loF a n lo = a := (kE hn g1.1 g1.2).2
  have l2 : hiF a n m hi = hi + n := by unfold hiF; rw [(gD hn (by omega : a - n ≤ hi)).1, (gD hn (by omega : a - n ≤ hi)).2]; simp; omega
  have s : spB a n m lo hi = true := by rw [aF4, l1, l2]; simp; omega
  rw [(fI s).1, (fI s).2, e1, e2, l1, l2, (high (a - n) (by omega) (by omega)).1, (high (a - n) (by omega) (by omega)).2, (high hi (by omega) h4).1, (high hi (by omega) h4).2]
  exact ⟨s, rfl, rfl, by omega, rfl, by omega, by omega, by omega, fun p q1 q2 => gap p (by omega) q2, fun p q1 q2 => by omega⟩
 ·have e1 : frL a n lo = lo := by unfold frL; rw [if_neg g1]
  by_cases g2 : a ≤ hi ∧ hi < a - n
  ·have e2 : laL a n hi = a - 1 := by unfold laL; rw [if_pos g2]
   have g3 : lo < a := by omega
   have l1 : loF a n lo = lo := (mE g3).2
   have l2 : hiF a n m hi = a - 1 := by unfold hiF; rw [(kE hn g2.1 g2.2).1, (kE hn g2.1 g2.2).2]; simp; omega
   have s : spB a n m lo hi = true := by rw [aF4, l1, l2]; simp; omega
   rw [(fI s).1, (fI s).2, e1, e2, l1, l2, (low lo h0 g3).1, (low lo h0 g3).2, (low (a - 1) (by omega) (by omega)).1, (low (a - 1) (by omega) (by omega)).2]
   exact ⟨s, rfl, rfl, rfl, rfl, by omega, by omega, by omega, fun p q1 q2 => by omega, fun p q1 q2 => gap p (by omega) (by omega)⟩
  ·have e2 : laL a n hi = hi := by unfold laL; rw [if_neg g2]
   by_cases g3 : lo < a
   ·have l1 : loF a n lo = lo := (mE g3).2
    by_cases g4 : hi < a
    ·have l2 : hiF a n m hi = hi := by unfold hiF; rw [(mE g4).1, (mE g4).2]; simp; omega
     have s : spB a n m lo hi = true := by rw [aF4, l1, l2]; simp; omega
     rw [(fI s).1, (fI s).2, e1, e2, l1, l2, (low lo h0 g3).1, (low lo h0 g3).2, (low hi (by omega) g4).1, (low hi (by omega) g4).2]
     exact ⟨s, rfl, rfl, rfl, rfl, by omega, by omega, by omega, fun p q1 q2 => by omega, fun p q1 q2 => by omega⟩
    ·have l2 : hiF a n m hi = hi + n := by unfold hiF; rw [(gD hn (by omega : a - n ≤ hi)).1, (gD hn (by omega : a - n ≤ hi)).2]; simp; omega
     have s : spB a n m lo hi = true := by rw [aF4, l1, l2]; simp; omega
     rw [(fI s).1, (fI s).2, e1, e2, l1, l2, (low lo h0 g3).1, (low lo h0 g3).2, (high hi (by omega) h4).1, (high hi (by omega) h4).2]
     exact ⟨s, rfl, rfl, rfl, rfl, by omega, by omega, by omega, fun p q1 q2 => by omega, fun p q1 q2 => by omega⟩
   ·have l1 : loF a n lo = lo + n := (gD hn (by omega : a - n ≤ lo)).2
    have l2 : hiF a n m hi = hi + n := by unfold hiF; rw [(gD hn (by omega : a - n ≤ hi)).1, (gD hn (by omega : a - n ≤ hi)).2]; simp; omega
    have s : spB a n m lo hi = true := by rw [aF4, l1, l2]; simp; omega
    rw [(fI s).1, (fI s).2, e1, e2, l1, l2, (high lo (by omega) (by omega)).1, (high lo (by omega) (by omega)).2, (high hi (by omega) h4).1, (high hi (by omega) h4).2]
    exact ⟨s, rfl, rfl, rfl, rfl, by omega, by omega, by omega, fun p q1 q2 => by omega, fun p q1 q2 => by omega⟩
theorem aDB (a n m lo hi : Int) (h : bB a n m = false ∨ lo < 1 ∨ hi < lo ∨ m < hi) (w : World) : Calls Tryz.prog 30 #[shV a n m, .int .i64 lo, .int .i64 hi] w fun e w' => e = .returned (.tuple #[.int .i64 (spL a n m lo hi), .int .i64 (spH a n m lo hi), .bool (spB a n m lo hi)]) ∧ Below w.heap.size w w' := by
 have HB0 : Hid (Below (w.alloc (shO a n m 40)).heap.size (w.alloc (shO a n m 40)) (w.alloc (shO a n m 40))) := Below.refl _ _
 have HG : RC (w.alloc (shO a n m 40)) 52 #[shV a n m] _ := RC.of fun u => gQ a n m u
 cases hg : bB a n m
 ·rw [hg] at HG
  have e1 : spB a n m lo hi = false := by unfold spB; rw [hg]; rfl
  clear h hg
  obtain ⟨e2, e3⟩ := iR e1
  rw [e1, e2, e3]
  clear e1 e2 e3
  go_enter Tryz.func30, Tryz.ntmps30
  go_wp2_with (go_at_call 52; refine (HG _ HB0.out).mono ?_; clear HG; rintro e w1 ⟨rfl, hb⟩; have Hw1 : Hid (Below (w.alloc (shO a n m 40)).heap.size (w.alloc (shO a n m 40)) w1) := hb; clear hb; obtain ⟨c0, c1, c2⟩ := aL Hw1.out)
  go_ret3
  exact ⟨rfl, aR Hw1.out⟩
 rw [hg] at HG
 have h' : lo < 1 ∨ hi < lo ∨ m < hi := by
  rcases h with h | h
  ·rw [hg] at h; cases h
  ·exact h
 clear h
 have e1 : spB a n m lo hi = false := by
  unfold spB
  by_cases q1 : lo < 1
  ·rw [decide_eq_false (by omega : ¬ 1 ≤ lo)]; simp
  by_cases q2 : hi < lo
  ·rw [decide_eq_false (by omega : ¬ lo ≤ hi)]; simp
  ·rw [decide_eq_false (by omega : ¬ hi ≤ m)]; simp
 by_cases q1 : lo < 1
 ·clear h' hg
  obtain ⟨e2, e3⟩ := iR e1
  rw [e1, e2, e3]
  clear e1 e2 e3
  go_enter Tryz.func30, Tryz.ntmps30
  go_wp2_with (go_at_call 52; refine (HG _ HB0.out).mono ?_; clear HG; rintro e w1 ⟨rfl, hb⟩; have Hw1 : Hid (Below (w.alloc (shO a n m 40)).heap.size (w.alloc (shO a n m 40)) w1) := hb; clear hb; obtain ⟨c0, c1, c2⟩ := aL Hw1.out)
  go_ret3
  exact ⟨rfl, aR Hw1.out⟩
 by_cases q2 : hi < lo
 ·clear h' hg
  obtain ⟨e2, e3⟩ := iR e1
  rw [e1, e2, e3]
  clear e1 e2 e3
  go_enter Tryz.func30, Tryz.ntmps30
  go_wp2_with (go_at_call 52; refine (HG _ HB0.out).mono ?_; clear HG; rintro e w1 ⟨rfl, hb⟩; have Hw1 : Hid (Below (w.alloc (shO a n m 40)).heap.size (w.alloc (shO a n m 40)) w1) := hb; clear hb; obtain ⟨c0, c1, c2⟩ := aL Hw1.out)
  go_ret3
  exact ⟨rfl, aR Hw1.out⟩
 ·have q3 : m < hi := by omega
  clear h' hg
  obtain ⟨e2, e3⟩ := iR e1
  rw [e1, e2, e3]
  clear e1 e2 e3
  go_enter Tryz.func30, Tryz.ntmps30
  go_wp2_with (go_at_call 52; refine (HG _ HB0.out).mono ?_; clear HG; rintro e w1 ⟨rfl, hb⟩; have Hw1 : Hid (Below (w.alloc (shO a n m 40)).heap.size (w.alloc (shO a n m 40)) w1) := hb; clear hb; obtain ⟨c0, c1, c2⟩ := aL Hw1.out)
  go_ret3
  exact ⟨rfl, aR Hw1.out⟩
theorem aF5 (a n m lo hi : Int) (hg : bB a n m = true) (h1 : 1 ≤ lo) (h2 : lo ≤ hi) (h3 : hi ≤ m) (hn : 0 < n) (w : World) : Calls Tryz.prog 30 #[shV a n m, .int .i64 lo, .int .i64 hi] w fun e w' => e = .returned (.tuple #[.int .i64 (spL a n m lo hi), .int .i64 (spH a n m lo hi), .bool (spB a n m lo hi)]) ∧ Below w.heap.size w w' := by
 have HB0 : Hid (Below (w.alloc (shO a n m 40)).heap.size (w.alloc (shO a n m 40)) (w.alloc (shO a n m 40))) := Below.refl _ _
 have HG : RC (w.alloc (shO a n m 40)) 52 #[shV a n m] _ := RC.of fun u => gQ a n m u
 have hb := gB hg
 have b1 := hb.2.1
 have b2 := hb.2.2.1
 have b3 : n ≤ 1000 := by omega
 have hs := aF2 hg h1 h2 h3
 have T := fun h => fI (a := a) (n := n) (m := m) (lo := lo) (hi := hi) h
 have F := fun h => iR (a := a) (n := n) (m := m) (lo := lo) (hi := hi) h
 rw [aF3 hn, aIw hn] at hs
 rw [aF3 hn, aIw hn] at T
 rw [hg] at HG
 clear hb hg
 generalize spB a n m lo hi = sb at *
 generalize spL a n m lo hi = sl at *
 generalize spH a n m lo hi = sh at *
 by_cases g1 : lo < a
 ·by_cases g2 : hi < a
  ·rw [if_pos g1, if_pos g2] at hs T
   obtain rfl : sb = true := hs.trans (by simp; omega)
   obtain ⟨e2, e3⟩ := T rfl
   clear hs T F
   ·rw [show min hi m = hi by omega] at e3
    rw [e2, e3]
    clear e2 e3
    go_enter Tryz.func30, Tryz.ntmps30
    go_wp2_with (go_at_call 52; refine (HG _ HB0.out).mono ?_; clear HG; rintro e w1 ⟨rfl, hb⟩; have Hw1 : Hid (Below (w.alloc (shO a n m 40)).heap.size (w.alloc (shO a n m 40)) w1) := hb; clear hb; obtain ⟨c0, c1, c2⟩ := aL Hw1.out)
    go_ret3
    exact ⟨rfl, aR Hw1.out⟩
  ·rw [if_pos g1, if_neg g2] at hs T
   obtain rfl : sb = true := hs.trans (by simp; omega)
   obtain ⟨e2, e3⟩ := T rfl
   clear hs T F
   by_cases g4 : m < (hi + n)
   ·rw [show min (hi + n) m = m by omega] at e3
    rw [e2, e3]
    clear e2 e3
    go_enter Tryz.func30, Tryz.ntmps30
    go_wp2_with (go_at_call 52; refine (HG _ HB0.out).mono ?_; clear HG; rintro e w1 ⟨rfl, hb⟩; have Hw1 : Hid (Below (w.alloc (shO a n m 40)).heap.size (w.alloc (shO a n m 40)) w1) := hb; clear hb; obtain ⟨c0, c1, c2⟩ := aL Hw1.out)
    go_ret3
    exact ⟨rfl, aR Hw1.out⟩
   ·rw [show min (hi + n) m = (hi + n) by omega] at e3
    rw [e2, e3]
    clear e2 e3
    go_enter Tryz.func30, Tryz.ntmps30
    go_wp2_with (go_at_call 52; refine (HG _ HB0.out).mono ?_; clear HG; rintro e w1 ⟨rfl, hb⟩; have Hw1 : Hid (Below (w.alloc (shO a n m 40)).heap.size (w.alloc (shO a n m 40)) w1) := hb; clear hb; obtain ⟨c0, c1, c2⟩ := aL Hw1.out)
    go_ret3
    exact ⟨rfl, aR Hw1.out⟩
 ·have g2 : ¬ hi < a := by omega
  rw [if_neg g1, if_neg g2] at hs T
  by_cases g3 : m < (lo + n)
  ·obtain rfl : sb = false := hs.trans (by simp; omega)
   obtain ⟨rfl, rfl⟩ := F rfl
   clear hs T F
   go_enter Tryz.func30, Tryz.ntmps30
   go_wp2_with (go_at_call 52; refine (HG _ HB0.out).mono ?_; clear HG; rintro e w1 ⟨rfl, hb⟩; have Hw1 : Hid (Below (w.alloc (shO a n m 40)).heap.size (w.alloc (shO a n m 40)) w1) := hb; clear hb; obtain ⟨c0, c1, c2⟩ := aL Hw1.out)
   go_ret3
   exact ⟨rfl, aR Hw1.out⟩
  obtain rfl : sb = true := hs.trans (by simp; omega)
  obtain ⟨e2, e3⟩ := T rfl
  clear hs T F
  by_cases g4 : m < (hi + n)
  ·rw [show min (hi + n) m = m by omega] at e3
   rw [e2, e3]
   clear e2 e3
   go_enter Tryz.func30, Tryz.ntmps30
   go_wp2_with (go_at_call 52; refine (HG _ HB0.out).mono ?_; clear HG; rintro e w1 ⟨rfl, hb⟩; have Hw1 : Hid (Below (w.alloc (shO a n m 40)).heap.size (w.alloc (shO a n m 40)) w1) := hb; clear hb; obtain ⟨c0, c1, c2⟩ := aL Hw1.out)
   go_ret3
   exact ⟨rfl, aR Hw1.out⟩
  ·rw [show min (hi + n) m = (hi + n) by omega] at e3
   rw [e2, e3]
   clear e2 e3
   go_enter Tryz.func30, Tryz.ntmps30
   go_wp2_with (go_at_call 52; refine (HG _ HB0.out).mono ?_; clear HG; rintro e w1 ⟨rfl, hb⟩; have Hw1 : Hid (Below (w.alloc (shO a n m 40)).heap.size (w.alloc (shO a n m 40)) w1) := hb; clear hb; obtain ⟨c0, c1, c2⟩ := aL Hw1.out)
   go_ret3
   exact ⟨rfl, aR Hw1.out⟩
theorem aBk (a n m lo hi : Int) (hg : bB a n m = true) (h1 : 1 ≤ lo) (h2 : lo ≤ hi) (h3 : hi ≤ m) (hn : n < 0) (h4 : a ≤ lo) (h5 : hi < a - n) (w : World) : Calls Tryz.prog 30 #[shV a n m, .int .i64 lo, .int .i64 hi] w fun e w' => e = .returned (.tuple #[.int .i64 (spL a n m lo hi), .int .i64 (spH a n m lo hi), .bool (spB a n m lo hi)]) ∧ Below w.heap.size w w' := by
 have HB0 : Hid (Below (w.alloc (shO a n m 40)).heap.size (w.alloc (shO a n m 40)) (w.alloc (shO a n m 40))) := Below.refl _ _
 have HG : RC (w.alloc (shO a n m 40)) 52 #[shV a n m] _ := RC.of fun u => gQ a n m u
 have hb := gB hg
 have b1 := hb.2.1
 have e1 := aHU hg hn h4 h2 h5 h3
 obtain ⟨e2, e3⟩ := iR e1
 rw [e1, e2, e3]
 clear e1 e2 e3
 have HP : Hid (∀ p, a ≤ p → p ≤ hi → posB a n m p = false) := fun p q1 q2 => by unfold posB; rw [(kE hn q1 (by omega)).1]; simp
 rw [hg] at HG
 clear hb hg
 go_enter Tryz.func30, Tryz.ntmps30
 go_wp2_with (go_at_call 52; refine (HG _ HB0.out).mono ?_; clear HG; rintro e w1 ⟨rfl, hb⟩; have Hw1 : Hid (Below (w.alloc (shO a n m 40)).heap.size (w.alloc (shO a n m 40)) w1) := hb; clear hb; obtain ⟨c0, c1, c2⟩ := aL Hw1.out)
 go_loopw [1, 9, 10] (fun i _ _ wr => ∃ k : Int, lo ≤ k ∧ k ≤ hi + 1 ∧ i = .int .i64 k ∧ Hid (Below (w.alloc (shO a n m 40)).heap.size (w.alloc (shO a n m 40)) wr)) (fun i _ _ _ => (hi + 1 - intOf i).toNat)
 case atStart => exact ⟨lo, by omega, by omega, rfl, Hw1⟩
 case round =>
  obtain ⟨k, k1, k2, rfl, HD⟩ := hrel
  obtain ⟨d0, d1, d2⟩ := aL HD.out
  by_cases hk : k ≤ hi
  ·have PP : Hid (∀ u, Calls Tryz.prog 51 #[shV a n m, .int .i64 k] u fun e w' => e = .returned (.tuple #[.int .i64 0, .bool false]) ∧ Below u.heap.size u w') := fun u => by
    have q := HP.out k (by omega) hk
    have r : dG a n m k = 0 := by unfold dG; rw [q]; rfl
    have := gY a n m k u
    rw [q, r] at this
    exact this
   go_wp2_with (go_at_call 51; refine (PP.out _).mono ?_; clear PP; rintro e w2 ⟨rfl, hb⟩; have HE : Hid (Below (w.alloc (shO a n m 40)).heap.size (w.alloc (shO a n m 40)) w2) := aG HD.out hb; clear hb)
   go_roundw
   case rel => exact ⟨k + 1, by omega, by omega, rfl, HE⟩
   case measure => simp [intOf]; omega
  ·obtain rfl : k = hi + 1 := by omega
   go_wp2
   go_loopw [2, 11, 12] (fun j _ _ wq => j = .int .i64 hi ∧ Hid (Below (w.alloc (shO a n m 40)).heap.size (w.alloc (shO a n m 40)) wq)) (fun _ _ _ _ => 0)
   case atStart => exact ⟨rfl, HD⟩
   case round =>
    obtain ⟨rfl, HD2⟩ := hrel
    go_wp2
    go_ret3
    exact ⟨rfl, aR HD2.out⟩
theorem aBl (a n m lo hi : Int) (hg : bB a n m = true) (h1 : 1 ≤ lo) (h2 : lo ≤ hi) (h3 : hi ≤ m) (hn : n < 0) (h4 : ¬ (a ≤ lo ∧ hi < a - n)) (w : World) : Calls Tryz.prog 30 #[shV a n m, .int .i64 lo, .int .i64 hi] w fun e w' => e = .returned (.tuple #[.int .i64 (spL a n m lo hi), .int .i64 (spH a n m lo hi), .bool (spB a n m lo hi)]) ∧ Below w.heap.size w w' := by
 have HB0 : Hid (Below (w.alloc (shO a n m 40)).heap.size (w.alloc (shO a n m 40)) (w.alloc (shO a n m 40))) := Below.refl _ _
 have HG : RC (w.alloc (shO a n m 40)) 52 #[shV a n m] _ := RC.of fun u => gQ a n m u
 have hb := gB hg
 have b1 := hb.2.1
 obtain ⟨e1, p1, p2, e2, e3, x1, x2, x3, q1, q2⟩ := aHV hg hn h1 h2 h3 h4
 have HQ1 : Hid _ := q1
 have HQ2 : Hid _ := q2
 have HE2 : Hid _ := e2
 have HE3 : Hid _ := e3
 generalize frL a n lo = X at *
 generalize laL a n hi = Y at *
 have P : Hid (∀ (k : Int) u, Calls Tryz.prog 51 #[shV a n m, .int .i64 k] u fun e w' => e = .returned (.tuple #[.int .i64 (dG a n m k), .bool (posB a n m k)]) ∧ Below u.heap.size u w') := fun k u => gY a n m k u
 have PX : Hid (∀ u, Calls Tryz.prog 51 #[shV a n m, .int .i64 X] u fun e w' => e = .returned (.tuple #[.int .i64 (dG a n m X), .bool true]) ∧ Below u.heap.size u w') := fun u => by have := gY a n m X u; rw [p1] at this; exact this
 have PY : Hid (∀ u, Calls Tryz.prog 51 #[shV a n m, .int .i64 Y] u fun e w' => e = .returned (.tuple #[.int .i64 (dG a n m Y), .bool true]) ∧ Below u.heap.size u w') := fun u => by have := gY a n m Y u; rw [p2] at this; exact this
 have PF : Hid (∀ (k : Int), posB a n m k = false → ∀ u, Calls Tryz.prog 51 #[shV a n m, .int .i64 k] u fun e w' => e = .returned (.tuple #[.int .i64 (dG a n m k), .bool false]) ∧ Below u.heap.size u w') := fun k h u => by have := gY a n m k u; rw [h] at this; exact this
 rw [e1, e2, e3]
 rw [hg] at HG
 clear hb hg e1 e2 e3 q1 q2 p1 p2 P h4
 go_enter Tryz.func30, Tryz.ntmps30
 go_wp2_with (go_at_call 52; refine (HG _ HB0.out).mono ?_; clear HG; rintro e w1 ⟨rfl, hb⟩; have Hw1 : Hid (Below (w.alloc (shO a n m 40)).heap.size (w.alloc (shO a n m 40)) w1) := hb; clear hb; obtain ⟨c0, c1, c2⟩ := aL Hw1.out)
 go_loopw [1, 9, 10] (fun i _ _ wr => ∃ k : Int, lo ≤ k ∧ k ≤ X ∧ i = .int .i64 k ∧ Hid (Below (w.alloc (shO a n m 40)).heap.size (w.alloc (shO a n m 40)) wr)) (fun i _ _ _ => (X + 1 - intOf i).toNat)
 case atStart => exact ⟨lo, by omega, by omega, rfl, Hw1⟩
 case round =>
  obtain ⟨k, k1, k2, rfl, HD⟩ := hrel
  obtain ⟨d0, d1, d2⟩ := aL HD.out
  by_cases hk : k < X
  ·have PP : Hid _ := PF.out k (HQ1.out k k1 hk)
   go_wp2_with (go_at_call 51; refine (PP.out _).mono ?_; clear PP; rintro e w2 ⟨rfl, hb⟩; have HE : Hid (Below (w.alloc (shO a n m 40)).heap.size (w.alloc (shO a n m 40)) w2) := aG HD.out hb; clear hb)
   go_roundw
   case rel => exact ⟨k + 1, by omega, by omega, rfl, HE⟩
   case measure => simp [intOf]; omega
  ·obtain rfl : X = k := by omega
   go_wp2_with (go_at_call 51; refine (PX.out _).mono ?_; rintro e w2 ⟨rfl, hb⟩; have HE : Hid (Below (w.alloc (shO a n m 40)).heap.size (w.alloc (shO a n m 40)) w2) := aG HD.out hb; clear hb)
   go_loopw [2, 11, 12] (fun j _ _ wq => ∃ k : Int, Y ≤ k ∧ k ≤ hi ∧ j = .int .i64 k ∧ Hid (Below (w.alloc (shO a n m 40)).heap.size (w.alloc (shO a n m 40)) wq)) (fun j _ _ _ => (intOf j - Y).toNat)
   case atStart => exact ⟨hi, by omega, by omega, rfl, HE⟩
   case round =>
    obtain ⟨k, k3, k4, rfl, HF⟩ := hrel
    obtain ⟨f0, f1, f2⟩ := aL HF.out
    by_cases hk2 : Y < k
    ·have PP : Hid _ := PF.out k (HQ2.out k hk2 k4)
     go_wp2_with (go_at_call 51; refine (PP.out _).mono ?_; clear PP; rintro e w3 ⟨rfl, hb⟩; have HG3 : Hid (Below (w.alloc (shO a n m 40)).heap.size (w.alloc (shO a n m 40)) w3) := aG HF.out hb; clear hb)
     go_roundw
     case rel => exact ⟨k - 1, by omega, by omega, rfl, HG3⟩
     case measure => simp [intOf]; omega
    ·obtain rfl : Y = k := by omega
     go_wp2_with (go_at_call 51; first
      | (go_at_call_of 51 X; refine (PX.out _).mono ?_; clear PX; rintro e w4 ⟨rfl, hb⟩; have HH4 : Hid (Below (w.alloc (shO a n m 40)).heap.size (w.alloc (shO a n m 40)) w4) := aG HG3.out hb; clear hb; obtain ⟨f0, f1, f2⟩ := aL HH4.out)
      | (refine (PY.out _).mono ?_; rintro e w3 ⟨rfl, hb⟩; first | (have HI5 : Hid (Below (w.alloc (shO a n m 40)).heap.size (w.alloc (shO a n m 40)) w3) := aG HH4.out hb; clear hb; obtain ⟨f0, f1, f2⟩ := aL HI5.out) | (have HG3 : Hid (Below (w.alloc (shO a n m 40)).heap.size (w.alloc (shO a n m 40)) w3) := aG HF.out hb; clear hb; obtain ⟨f0, f1, f2⟩ := aL HG3.out)))
     go_ret3
     exact ⟨rfl, aR HI5.out⟩
theorem uX (a n m lo hi : Int) (w : World) : Calls Tryz.prog 30 #[shV a n m, .int .i64 lo, .int .i64 hi] w fun e w' => e = .returned (.tuple #[.int .i64 (spL a n m lo hi), .int .i64 (spH a n m lo hi), .bool (spB a n m lo hi)]) ∧ Below w.heap.size w w' := by
 by_cases h : bB a n m = false ∨ lo < 1 ∨ hi < lo ∨ m < hi
 ·exact aDB a n m lo hi h w
 have hg : bB a n m = true := by
  cases q : bB a n m
  ·exact absurd (.inl q) h
  ·rfl
 have h2 : 1 ≤ lo ∧ lo ≤ hi ∧ hi ≤ m := ⟨by omega, by omega, by omega⟩
 obtain ⟨h1, h2, h3⟩ := h2
 have hb := gB hg
 by_cases hn : 0 < n
 ·exact aF5 a n m lo hi hg h1 h2 h3 hn w
 have hn : n < 0 := by omega
 by_cases h4 : a ≤ lo ∧ hi < a - n
 ·exact aBk a n m lo hi hg h1 h2 h3 hn h4.1 h4.2 w
 ·exact aBl a n m lo hi hg h1 h2 h3 hn h4 w
end Go.Proofs.YtljmklbbngpllaaGreatDoor.Hs
namespace Go.Proofs.YtljmklbbngpllaaGreatDoor.Rw
open Go.RowKit Go.Fm
abbrev aW (C : Chg) : Array Value := #[.string C.bk, .string C.sh, .bool C.dr, .bool C.co, .int .i64 C.a, .int .i64 C.n, .int .i64 C.m]
theorem lC (x : Rf) (H : Hm) (C : Chg) (w : World) : Calls Tryz.prog 26 #[rfV x, hmV H, .agg (aW C)] w fun e w' => e = .returned (.bool (ofR C H x)) ∧ Below w.heap.size w w' := by
 have HA := fun u => aHN x.b x.h x.r x.c H.hb H.hs H.hr H.hc u x.fr x.fc
 have HB0 : Below w.heap.size w (((w.alloc (rfO x)).alloc (bF H.hb H.hs H.hr H.hc)).alloc (.cells (aW C) 42)) := aA (aA (aA (Below.refl _ _) _) _) _
 have H2 : (((w.alloc (rfO x)).alloc (bF H.hb H.hs H.hr H.hc)).alloc (.cells (aW C) 42)).heap[w.heap.size + 2]? = some (.cells (aW C) 42) := (xE (Below.refl _ _)).2.2
 have HC : Hid (∀ u, Below (((w.alloc (rfO x)).alloc (bF H.hb H.hs H.hr H.hc)).alloc (.cells (aW C) 42)).heap.size (((w.alloc (rfO x)).alloc (bF H.hb H.hs H.hr H.hc)).alloc (.cells (aW C) 42)) u → u.cell? ⟨w.heap.size + 2, 0, none⟩ = some (.string C.bk) ∧ u.cell? ⟨w.heap.size + 2, 1, none⟩ = some (.string C.sh)) := fun u hu => by
  have hh := (hu.block _ (aS H2)).trans H2
  constructor <;> simp [World.cell?, hh]
 have HB : Hid _ := HB0
 unfold ofR
 generalize orS x.b H.hb = x1 at *
 generalize orS x.h H.hs = x2 at *
 clear H2 HB0
 cases e1 : (x1.toList == C.bk.toList) <;> cases e3 : (x2.toList == C.sh.toList)
 all_goals
  go_enter Tryz.func26, Tryz.ntmps26
  go_wp2_with (first
   | (go_at_call 50; refine (HA _).mono ?_; clear HA; rintro e w2 ⟨rfl, hb⟩; have HB2 : Hid _ := aG HB.out hb; obtain ⟨d0, d1⟩ := HC.out _ hb; have d0 := bM (aA (Below.refl _ _) (bF x1 x2 x.r x.c)) d0; have d1 := bM (aA (Below.refl _ _) (bF x1 x2 x.r x.c)) d1; have HB3 : Hid _ := aA HB2.out (bF x1 x2 x.r x.c); clear hb))
  go_ret
  exact ⟨rfl, HB3.out⟩
theorem eH {u : World} {g : Nat} {C : Chg} (h : u.heap[g]? = some (.cells (aW C) 42)) : u.cell? ⟨g, 0, none⟩ = some (.string C.bk) ∧ u.cell? ⟨g, 1, none⟩ = some (.string C.sh) ∧ u.cell? ⟨g, 2, none⟩ = some (.bool C.dr) ∧ u.cell? ⟨g, 3, none⟩ = some (.bool C.co) ∧ u.cell? ⟨g, 4, none⟩ = some (.int .i64 C.a) ∧ u.cell? ⟨g, 5, none⟩ = some (.int .i64 C.n) ∧ u.cell? ⟨g, 6, none⟩ = some (.int .i64 C.m) := by
 simp [World.cell?, h]
theorem aHW (x : Rf) (C : Chg) (w : World) : Calls Tryz.prog 27 #[rfV x, .agg (aW C)] w fun e w' => e = .returned (.tuple #[rfV (mvX C x), .bool (mvB C x)]) ∧ Below w.heap.size w w' := by
 obtain ⟨b, s, r, c, fr, fc⟩ := x
 obtain ⟨bk, sh, dr, co, a, n, m⟩ := C
 cases dr
 ·obtain ⟨W, hW⟩ : ∃ W, W = ((w.alloc (aU b s r c fr fc)).alloc (.cells (aW ⟨bk, sh, false, co, a, n, m⟩) 42)).alloc (rfO z0) := ⟨_, rfl⟩
  have HB0 : Below w.heap.size w W := by rw [hW]; exact aA (aA (aA (Below.refl _ _) _) _) _
  have HF : Hid (∀ u, Below W.heap.size W u → (u.heap[w.heap.size]? = some (aU b s r c fr fc) ∧ u.heap[w.heap.size + 1]? = some (.cells (aW ⟨bk, sh, false, co, a, n, m⟩) 42) ∧ u.heap[w.heap.size + 2]? = some (rfO z0)) ∧ Below w.heap.size w u) := fun u hu => by
   have hu0 := hu
   rw [hW] at hu
   exact ⟨xE hu, aG HB0 hu0⟩
  have HR : Hid (Below W.heap.size W W) := Below.refl _ _
  obtain ⟨⟨k0, k1, k2⟩, k3⟩ := HF.out W HR.out
  obtain ⟨_, _, q2, q3, q4, q5, q6⟩ := eH k1
  obtain ⟨_, _, p2, p3, _, _⟩ := aP k0
  clear k0 k1 k2 k3 HB0
  subst hW
  cases co
  ·show Calls Tryz.prog 27 _ w fun e w' => e = .returned (.tuple #[rfV ⟨b, s, Hs.dG a n m r, c, fr, fc⟩, .bool (Hs.posB a n m r)]) ∧ Below w.heap.size w w'
   have HP := fun u => Hs.gY a n m r u
   generalize Hs.dG a n m r = pf at *
   generalize Hs.posB a n m r = pb at *
   go_enter Tryz.func27, Tryz.ntmps27
   go_wp2_with (first
    | (go_at_call 51; refine (HP _).mono ?_; clear HP; rintro e w2 ⟨rfl, hb⟩; clear q2 q3 q4 q5 q6 p2 p3; obtain ⟨⟨k0, k1, k2⟩, k3⟩ := HF.out _ hb; have f0 := (bH k0).2.2.1; have p0 := (aP k0).2.2.1; have K0 := uW k0 pf; have K1 := (heap_setCell_other w2 ⟨w.heap.size, 2, none⟩ (w.heap.size + 2) (.int .i64 pf) (by simp)).trans k2; have RL : Hid _ := bX (x := ⟨b, s, pf, c, fr, fc⟩) K0; have RS : Hid _ := pR (y := z0) ⟨b, s, pf, c, fr, fc⟩ K1; have KR : Hid _ := pU (y := z0) ⟨b, s, pf, c, fr, fc⟩ K1; have KB : Hid (Below w.heap.size w ((w2.setCell ⟨w.heap.size, 2, none⟩ (.int .i64 pf)).setRow (w.heap.size + 2) (rfC ⟨b, s, pf, c, fr, fc⟩))) := (k3.setCell (by simp) _).grown (aC _ _ _) (k3.setCell (by simp) _).size (fun g e => by cases e; omega); clear k0 k1 k2 k3 K0 K1 hb)
    | ((with_reducible show wpList _ _ _ ({ dst := _, op := Op.load 25 _, type := _, pos := _, after := _, guard := none } :: _) _ _); refine aB rfl 25 _ rfl _ _ rfl RL.out ?_; clear RL)
    | ((with_reducible show wpList _ _ _ ({ dst := _, op := Op.store 25 _ _, type := _, pos := _, after := _, guard := none } :: _) _ _); refine aD rfl 25 _ _ rfl _ _ _ rfl rfl RS.out ?_; clear RS))
   exact bodyPost_ret (aHR rfl rfl KR.out rfl) rfl ⟨rfl, KB.out⟩
  ·show Calls Tryz.prog 27 _ w fun e w' => e = .returned (.tuple #[rfV ⟨b, s, r, Hs.dG a n m c, fr, fc⟩, .bool (Hs.posB a n m c)]) ∧ Below w.heap.size w w'
   have HP := fun u => Hs.gY a n m c u
   generalize Hs.dG a n m c = pf at *
   generalize Hs.posB a n m c = pb at *
   go_enter Tryz.func27, Tryz.ntmps27
   go_wp2_with (first
    | (go_at_call 51; refine (HP _).mono ?_; clear HP; rintro e w2 ⟨rfl, hb⟩; clear q2 q3 q4 q5 q6 p2 p3; obtain ⟨⟨k0, k1, k2⟩, k3⟩ := HF.out _ hb; have f0 := (bH k0).2.2.2.1; have p0 := (aP k0).2.2.2.1; have K0 := uV k0 pf; have K1 := (heap_setCell_other w2 ⟨w.heap.size, 3, none⟩ (w.heap.size + 2) (.int .i64 pf) (by simp)).trans k2; have RL : Hid _ := bX (x := ⟨b, s, r, pf, fr, fc⟩) K0; have RS : Hid _ := pR (y := z0) ⟨b, s, r, pf, fr, fc⟩ K1; have KR : Hid _ := pU (y := z0) ⟨b, s, r, pf, fr, fc⟩ K1; have KB : Hid (Below w.heap.size w ((w2.setCell ⟨w.heap.size, 3, none⟩ (.int .i64 pf)).setRow (w.heap.size + 2) (rfC ⟨b, s, r, pf, fr, fc⟩))) := (k3.setCell (by simp) _).grown (aC _ _ _) (k3.setCell (by simp) _).size (fun g e => by cases e; omega); clear k0 k1 k2 k3 K0 K1 hb)
    | ((with_reducible show wpList _ _ _ ({ dst := _, op := Op.load 25 _, type := _, pos := _, after := _, guard := none } :: _) _ _); refine aB rfl 25 _ rfl _ _ rfl RL.out ?_; clear RL)
    | ((with_reducible show wpList _ _ _ ({ dst := _, op := Op.store 25 _ _, type := _, pos := _, after := _, guard := none } :: _) _ _); refine aD rfl 25 _ _ rfl _ _ _ rfl rfl RS.out ?_; clear RS))
   exact bodyPost_ret (aHR rfl rfl KR.out rfl) rfl ⟨rfl, KB.out⟩
 ·go_enter Tryz.func27, Tryz.ntmps27
  go_wp2
  refine bodyPost_ret (v := .tuple #[rfV z0, .bool false]) (by simp [results, Tryz.results27, go_sem, z0]; try rfl) rfl ?_
  refine ⟨rfl, ?_⟩
  repeat (first | exact Below.refl _ _ | refine Below.drew ?_ | refine Below.setCell ?_ (by simp) _ | refine aA ?_ _)
end Go.Proofs.YtljmklbbngpllaaGreatDoor.Rw
