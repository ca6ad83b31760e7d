/- The functions of package shift but Cells, and the document's. -/
import Derived.Test.YteafldbmeekpbaaHPure
namespace Go.Proofs.Yteafldbmeekpbaa
open Go.RowKit
set_option maxRecDepth 100000
set_option linter.unusedVariables false
set_option linter.unusedSimpArgs false
set_option maxHeartbeats 2000000 in
theorem rgood_any (a n m : Int) (w : World) : Calls Try.prog 13 #[shV a n m] w fun e w' => e = .returned (.bool (goodB a n m)) ∧ Below w.heap.size w w' := by
  have HB1 : Hid (Below w.heap.size w (w.alloc (shO a n m 25))) := bel_alloc (Below.refl _ _) _
  generalize hR : goodB a n m = R
  have HR : Hid (goodB a n m = R) := hR
  clear hR
  by_cases h1 : m < 1
  · go_enter Try.func13, Try.ntmps13
    go_wp2
    all_goals (go_ret; refine ⟨ret_bool ?_, HB1.out⟩; rw [← HR.out]; rw [Bool.eq_iff_iff, goodB_iff]; simp; try omega)
  by_cases h2 : 1000 < m
  · go_enter Try.func13, Try.ntmps13
    go_wp2
    all_goals (go_ret; refine ⟨ret_bool ?_, HB1.out⟩; rw [← HR.out]; rw [Bool.eq_iff_iff, goodB_iff]; simp; try omega)
  by_cases h3 : a < 1
  · go_enter Try.func13, Try.ntmps13
    go_wp2
    all_goals (go_ret; refine ⟨ret_bool ?_, HB1.out⟩; rw [← HR.out]; rw [Bool.eq_iff_iff, goodB_iff]; simp; try omega)
  by_cases h4 : m < a
  · go_enter Try.func13, Try.ntmps13
    go_wp2
    all_goals (go_ret; refine ⟨ret_bool ?_, HB1.out⟩; rw [← HR.out]; rw [Bool.eq_iff_iff, goodB_iff]; simp; try omega)
  by_cases h5 : 1 ≤ n
  · go_enter Try.func13, Try.ntmps13
    go_wp2
    all_goals (go_ret; refine ⟨ret_bool ?_, HB1.out⟩; rw [← HR.out]; rw [Bool.eq_iff_iff, goodB_iff]; simp; try omega)
  by_cases h6 : n ≤ -1
  · go_enter Try.func13, Try.ntmps13
    go_wp2
    all_goals (go_ret; refine ⟨ret_bool ?_, HB1.out⟩; rw [← HR.out]; rw [Bool.eq_iff_iff, goodB_iff]; simp; try omega)
  · go_enter Try.func13, Try.ntmps13
    go_wp2
    all_goals (go_ret; refine ⟨ret_bool ?_, HB1.out⟩; rw [← HR.out]; rw [Bool.eq_iff_iff, goodB_iff]; simp; try omega)
/-- The closure that mover makes. -/
abbrev movF (g : Nat) : Value := .func (.func 22) #[] #[.pointer (some ⟨g, 0, none⟩), .pointer (some ⟨g + 1, 0, none⟩)]
/-- What it looks at. -/
structure Mov (u : World) (g : Nat) (a n m : Int) : Prop where
  box : u.heap[g]? = some (.cells #[.int .i64 a, .int .i64 n, .int .i64 m] 23)
  nxt : u.heap[g + 1]? = some (.cells #[.int .i64 (nxF a n)] 3)
theorem Mov.lt {u : World} {g : Nat} {a n m : Int} (h : Mov u g a n m) : g + 1 < u.heap.size := (Array.getElem?_eq_some_iff.1 h.nxt).1
theorem Mov.below {u u' : World} {g : Nat} {a n m : Int} (h : Mov u g a n m) (hb : Below u.heap.size u u') : Mov u' g a n m :=
  ⟨(hb.block _ (by have := h.lt; omega)).trans h.box, (hb.block _ h.lt).trans h.nxt⟩
set_option maxHeartbeats 1000000 in
theorem mov1_any {u : World} {g : Nat} {a n m : Int} (h : Mov u g a n m) (ha : 1 ≤ a) (ha2 : a ≤ 1000) (hn : -1000 ≤ n) (hn2 : n ≤ 1000) (p : Int) (hp : 1 ≤ p) (hp2 : p ≤ 1000) :
    Calls Try.prog 22 #[.int .i64 p, .pointer (some ⟨g, 0, none⟩), .pointer (some ⟨g + 1, 0, none⟩)] u fun e w' => e = .returned (.tuple #[.int .i64 (mvF a n p), .bool (mvB a n p)]) ∧ w' = u := by
  obtain ⟨c0, c1, c2⟩ := s_cells h.box
  have c3 : u.cell? ⟨g + 1, 0, none⟩ = some (.int .i64 (nxF a n)) := by simp [World.cell?, h.nxt]
  unfold mvF mvB
  generalize nxF a n = x at *
  by_cases h1 : p < a
  · rw [if_pos h1, decide_eq_true h1, Bool.true_or]
    go_enter Try.func22, Try.ntmps22
    go_wp2
    go_ret2
    exact ⟨rfl, rfl⟩
  by_cases h2 : p < x
  · rw [if_neg h1, if_pos h2, decide_eq_false h1, decide_eq_true h2, Bool.false_or, Bool.not_true]
    go_enter Try.func22, Try.ntmps22
    go_wp2
    go_ret2
    exact ⟨rfl, rfl⟩
  · rw [if_neg h1, if_neg h2, decide_eq_false h1, decide_eq_false h2, Bool.false_or, Bool.not_false]
    go_enter Try.func22, Try.ntmps22
    go_wp2
    go_ret2
    exact ⟨rfl, rfl⟩
theorem mov_new (w : World) (a n m x : Int) (hx : x = nxF a n) : Mov ((w.alloc (shO a n m 23)).alloc (.cells #[.int .i64 x] 3)) w.heap.size a n m := by
  subst hx
  have hb : Below (w.alloc (shO a n m 23)).heap.size (w.alloc (shO a n m 23)) ((w.alloc (shO a n m 23)).alloc (.cells #[.int .i64 (nxF a n)] 3)) := bel_alloc (Below.refl _ _) _
  refine ⟨new1 hb, ?_⟩
  have := heap_alloc_new (w.alloc (shO a n m 23)) (.cells #[.int .i64 (nxF a n)] 3)
  simpa using this
set_option maxHeartbeats 1000000 in
theorem mover_any (a n m : Int) (ha : 1 ≤ a) (ha2 : a ≤ 1000) (hn : -1000 ≤ n) (hn2 : n ≤ 1000) (w : World) :
    Calls Try.prog 21 #[shV a n m] w fun e w' => e = .returned (movF w.heap.size) ∧ Hid (Mov w' w.heap.size a n m) ∧ Hid (Below w.heap.size w w') := by
  by_cases h1 : n < 0
  · have HM : Hid (Mov ((w.alloc (shO a n m 23)).alloc (.cells #[.int .i64 (a - n)] 3)) w.heap.size a n m) := mov_new w a n m (a - n) (by unfold nxF; rw [if_pos h1])
    have HB : Hid (Below w.heap.size w ((w.alloc (shO a n m 23)).alloc (.cells #[.int .i64 (a - n)] 3))) := bel_alloc (bel_alloc (Below.refl _ _) _) _
    go_enter Try.func21, Try.ntmps21
    go_wp2
    go_ret
    exact ⟨rfl, HM, HB⟩
  · have HM : Hid (Mov ((w.alloc (shO a n m 23)).alloc (.cells #[.int .i64 a] 3)) w.heap.size a n m) := mov_new w a n m a (by unfold nxF; rw [if_neg h1])
    have HB : Hid (Below w.heap.size w ((w.alloc (shO a n m 23)).alloc (.cells #[.int .i64 a] 3))) := bel_alloc (bel_alloc (Below.refl _ _) _) _
    go_enter Try.func21, Try.ntmps21
    go_wp2
    go_ret
    exact ⟨rfl, HM, HB⟩
theorem good_bd {a n m : Int} (h : goodB a n m = true) : 1 ≤ m ∧ m ≤ 1000 ∧ 1 ≤ a ∧ a ≤ m ∧ n ≠ 0 ∧ -(m - a + 1) ≤ n ∧ n ≤ m - a + 1 := goodB_iff.1 h
theorem mv_bd {a n p : Int} (ha : 1 ≤ a) (ha2 : a ≤ 1000) (hn : -1000 ≤ n) (hn2 : n ≤ 1000) (hp : 1 ≤ p) (hp2 : p ≤ 1000) : 1 ≤ mvF a n p ∧ mvF a n p ≤ 2000 := by
  unfold mvF nxF; repeat' split
  all_goals omega
/-- Box, then whatever came: the box's cells. -/
theorem box_cells {w x : World} {a n m : Int} {t : TypeId} (h : Below (w.alloc (shO a n m t)).heap.size (w.alloc (shO a n m t)) x) :
    x.cell? ⟨w.heap.size, 0, none⟩ = some (.int .i64 a) ∧ x.cell? ⟨w.heap.size, 1, none⟩ = some (.int .i64 n) ∧ x.cell? ⟨w.heap.size, 2, none⟩ = some (.int .i64 m) := s_cells (new1 h)
set_option maxHeartbeats 4000000 in
theorem pos_any (a n m p : Int) (w : World) : Calls Try.prog 8 #[shV a n m, .int .i64 p] w fun e w' => e = .returned (.tuple #[.int .i64 (posF a n m p), .bool (posB a n m p)]) ∧ Below w.heap.size w w' := by
  have HB0 : Hid (Below (w.alloc (shO a n m 23)).heap.size (w.alloc (shO a n m 23)) (w.alloc (shO a n m 23))) := Below.refl _ _
  have HG : RC (w.alloc (shO a n m 23)) 12 #[shV a n m] _ := RC.of fun u => good_any a n m u
  have HH : RC (w.alloc (shO a n m 23)) 20 #[shV a n m, .int .i64 p] _ := RC.of fun u => has_any a n m p u
  cases hg : goodB a n m
  · have e1 : posB a n m p = false := by unfold posB; rw [hg]; rfl
    have e2 : posF a n m p = 0 := by unfold posF; rw [e1]; rfl
    rw [e1, e2]
    rw [hg] at HG
    go_enter Try.func8, Try.ntmps8
    go_wp2_with (go_at_call 12; refine (HG _ HB0.out).mono ?_; clear HG; rintro e w1 ⟨rfl, hb⟩; have HB1 : Hid (Below (w.alloc (shO a n m 23)).heap.size (w.alloc (shO a n m 23)) w1) := hb; clear hb; obtain ⟨c0, c1, c2⟩ := box_cells HB1.out)
    go_ret2
    exact ⟨rfl, bel1 HB1.out⟩
  cases hh : (decide (1 ≤ p) && decide (p ≤ m))
  · have e1 : posB a n m p = false := by unfold posB; rw [hg, hh]; rfl
    have e2 : posF a n m p = 0 := by unfold posF; rw [e1]; rfl
    rw [e1, e2]
    rw [hg] at HG
    rw [hh] at HH
    clear hh
    go_enter Try.func8, Try.ntmps8
    go_wp2_with (first
      | (go_at_call 12; refine (HG _ HB0.out).mono ?_; clear HG; rintro e w1 ⟨rfl, hb⟩; have HB1 : Hid (Below (w.alloc (shO a n m 23)).heap.size (w.alloc (shO a n m 23)) w1) := hb; clear hb; obtain ⟨c0, c1, c2⟩ := box_cells HB1.out)
      | (go_at_call 20; refine (HH _ HB1.out).mono ?_; clear HH; rintro e w2 ⟨rfl, hb⟩; have HB2 : Hid (Below (w.alloc (shO a n m 23)).heap.size (w.alloc (shO a n m 23)) w2) := hb; clear hb c0 c1 c2; obtain ⟨c0, c1, c2⟩ := box_cells HB2.out))
    go_ret2
    exact ⟨rfl, bel1 HB2.out⟩
  have hb := good_bd hg
  have hp : 1 ≤ p ∧ p ≤ m := by simpa using hh
  rw [hg] at HG
  rw [hh] at HH
  have HM : Hid (∀ u, Calls Try.prog 21 #[shV a n m] u fun e w' => e = .returned (movF u.heap.size) ∧ Hid (Mov w' u.heap.size a n m) ∧ Hid (Below u.heap.size u w')) := fun u => mover_any a n m (by omega) (by omega) (by omega) (by omega) u
  have H1 : Hid (∀ (u : World) (g : Nat), Mov u g a n m → Calls Try.prog 22 #[.int .i64 p, .pointer (some ⟨g, 0, none⟩), .pointer (some ⟨g + 1, 0, none⟩)] u fun e w' => e = .returned (.tuple #[.int .i64 (mvF a n p), .bool (mvB a n p)]) ∧ w' = u) := fun u g h => mov1_any h (by omega) (by omega) (by omega) (by omega) p (by omega) (by omega)
  have hv := mv_bd (a := a) (n := n) (p := p) (by omega) (by omega) (by omega) (by omega) (by omega) (by omega)
  have E : Hid (posB a n m p = (mvB a n p && decide (mvF a n p ≤ m))) := by unfold Hid posB; rw [hg, hh]; rfl
  have E2 : Hid (posF a n m p = if posB a n m p = true then mvF a n p else 0) := rfl
  generalize mvF a n p = x at *
  generalize mvB a n p = y at *
  generalize posB a n m p = pb at *
  generalize posF a n m p = pf at *
  clear hh hg hp hb
  cases y
  · obtain rfl : pb = false := E.out
    obtain rfl : pf = 0 := E2.out
    go_enter Try.func8, Try.ntmps8
    go_wp2_with (first
      | (go_at_call 12; refine (HG _ HB0.out).mono ?_; clear HG; rintro e w1 ⟨rfl, hb⟩; have HB1 : Hid (Below (w.alloc (shO a n m 23)).heap.size (w.alloc (shO a n m 23)) w1) := hb; clear hb; obtain ⟨c0, c1, c2⟩ := box_cells HB1.out)
      | (go_at_call 20; refine (HH _ HB1.out).mono ?_; clear HH; rintro e w2 ⟨rfl, hb⟩; have HB2 : Hid (Below (w.alloc (shO a n m 23)).heap.size (w.alloc (shO a n m 23)) w2) := hb; clear hb c0 c1 c2; obtain ⟨c0, c1, c2⟩ := box_cells HB2.out)
      | (go_at_call 21; refine (HM.out _).mono ?_; clear HM; rintro e w3 ⟨rfl, Hm, hb⟩; have HB3 : Hid (Below (w.alloc (shO a n m 23)).heap.size (w.alloc (shO a n m 23)) w3) := bel_step HB2.out hb.out; clear hb c0 c1 c2; obtain ⟨c0, c1, c2⟩ := box_cells HB3.out)
      | (go_at_call 22; refine (H1.out _ _ Hm.out).mono ?_; clear H1; rintro e w4 ⟨rfl, hw⟩; obtain rfl := hw.symm; clear hw))
    go_ret2
    exact ⟨rfl, bel1 HB3.out⟩
  by_cases hx : m < x
  · obtain rfl : pb = false := E.out.trans (by simp; omega)
    obtain rfl : pf = 0 := E2.out
    go_enter Try.func8, Try.ntmps8
    go_wp2_with (first
      | (go_at_call 12; refine (HG _ HB0.out).mono ?_; clear HG; rintro e w1 ⟨rfl, hb⟩; have HB1 : Hid (Below (w.alloc (shO a n m 23)).heap.size (w.alloc (shO a n m 23)) w1) := hb; clear hb; obtain ⟨c0, c1, c2⟩ := box_cells HB1.out)
      | (go_at_call 20; refine (HH _ HB1.out).mono ?_; clear HH; rintro e w2 ⟨rfl, hb⟩; have HB2 : Hid (Below (w.alloc (shO a n m 23)).heap.size (w.alloc (shO a n m 23)) w2) := hb; clear hb c0 c1 c2; obtain ⟨c0, c1, c2⟩ := box_cells HB2.out)
      | (go_at_call 21; refine (HM.out _).mono ?_; clear HM; rintro e w3 ⟨rfl, Hm, hb⟩; have HB3 : Hid (Below (w.alloc (shO a n m 23)).heap.size (w.alloc (shO a n m 23)) w3) := bel_step HB2.out hb.out; clear hb c0 c1 c2; obtain ⟨c0, c1, c2⟩ := box_cells HB3.out)
      | (go_at_call 22; refine (H1.out _ _ Hm.out).mono ?_; clear H1; rintro e w4 ⟨rfl, hw⟩; obtain rfl := hw.symm; clear hw))
    go_ret2
    exact ⟨rfl, bel1 HB3.out⟩
  · obtain rfl : pb = true := E.out.trans (by simp; omega)
    obtain rfl : pf = x := E2.out
    go_enter Try.func8, Try.ntmps8
    go_wp2_with (first
      | (go_at_call 12; refine (HG _ HB0.out).mono ?_; clear HG; rintro e w1 ⟨rfl, hb⟩; have HB1 : Hid (Below (w.alloc (shO a n m 23)).heap.size (w.alloc (shO a n m 23)) w1) := hb; clear hb; obtain ⟨c0, c1, c2⟩ := box_cells HB1.out)
      | (go_at_call 20; refine (HH _ HB1.out).mono ?_; clear HH; rintro e w2 ⟨rfl, hb⟩; have HB2 : Hid (Below (w.alloc (shO a n m 23)).heap.size (w.alloc (shO a n m 23)) w2) := hb; clear hb c0 c1 c2; obtain ⟨c0, c1, c2⟩ := box_cells HB2.out)
      | (go_at_call 21; refine (HM.out _).mono ?_; clear HM; rintro e w3 ⟨rfl, Hm, hb⟩; have HB3 : Hid (Below (w.alloc (shO a n m 23)).heap.size (w.alloc (shO a n m 23)) w3) := bel_step HB2.out hb.out; clear hb c0 c1 c2; obtain ⟨c0, c1, c2⟩ := box_cells HB3.out)
      | (go_at_call 22; refine (H1.out _ _ Hm.out).mono ?_; clear H1; rintro e w4 ⟨rfl, hw⟩; obtain rfl := hw.symm; clear hw))
    go_ret2
    exact ⟨rfl, bel1 HB3.out⟩
end Go.Proofs.Yteafldbmeekpbaa
