/- The document's Pos, Span and Back; Back and plain. -/
import Derived.Test.YteafldbmeekpbaaHFun
namespace Go.Proofs.Yteafldbmeekpbaa
open Go.RowKit
set_option maxRecDepth 100000
set_option linter.unusedVariables false
set_option linter.unusedSimpArgs false
theorem pos_ways {a n m p : Int} (hg : goodB a n m = true) (hp : 1 ≤ p) (hp2 : p ≤ m) :
    (p < a ∧ posB a n m p = true ∧ posF a n m p = p) ∨ (¬ p < a ∧ n < 0 ∧ p < a - n ∧ posB a n m p = false ∧ posF a n m p = 0) ∨
    (¬ p < a ∧ n < 0 ∧ ¬ p < a - n ∧ ¬ m < p + n ∧ posB a n m p = true ∧ posF a n m p = p + n) ∨
    (¬ p < a ∧ ¬ n < 0 ∧ m < p + n ∧ posB a n m p = false ∧ posF a n m p = 0) ∨ (¬ p < a ∧ ¬ n < 0 ∧ ¬ m < p + n ∧ posB a n m p = true ∧ posF a n m p = p + n) := by
  have hb := good_bd hg
  have e : posB a n m p = (mvB a n p && decide (mvF a n p ≤ m)) := by unfold posB; rw [hg, decide_eq_true hp, decide_eq_true hp2]; rfl
  have e2 : posF a n m p = if posB a n m p = true then mvF a n p else 0 := rfl
  by_cases h1 : p < a
  · left
    have m1 : mvB a n p = true := by unfold mvB; simp [h1]
    have m2 : mvF a n p = p := by unfold mvF; simp [h1]
    have q : posB a n m p = true := by rw [e, m1, m2]; simp; omega
    exact ⟨h1, q, by rw [e2, q, m2]; rfl⟩
  right
  by_cases h2 : n < 0
  · have x : nxF a n = a - n := by unfold nxF; rw [if_pos h2]
    by_cases h3 : p < a - n
    · left
      have m1 : mvB a n p = false := by unfold mvB; rw [x]; simp [h1, h3]
      have q : posB a n m p = false := by rw [e, m1]; rfl
      exact ⟨h1, h2, h3, q, by rw [e2, q]; rfl⟩
    · right; left
      have m1 : mvB a n p = true := by unfold mvB; rw [x]; simp [h3]
      have m2 : mvF a n p = p + n := by unfold mvF; rw [x, if_neg h1, if_neg h3]
      have q : posB a n m p = true := by rw [e, m1, m2]; simp; omega
      exact ⟨h1, h2, h3, by omega, q, by rw [e2, q, m2]; rfl⟩
  · have x : nxF a n = a := by unfold nxF; rw [if_neg h2]
    have m1 : mvB a n p = true := by unfold mvB; rw [x]; cases decide (p < a) <;> rfl
    have m2 : mvF a n p = p + n := by unfold mvF; rw [x, if_neg h1, if_neg h1]
    right; right
    by_cases h3 : m < p + n
    · left
      have q : posB a n m p = false := by rw [e, m1, m2]; simp; omega
      exact ⟨h1, h2, h3, q, by rw [e2, q]; rfl⟩
    · right
      have q : posB a n m p = true := by rw [e, m1, m2]; simp; omega
      exact ⟨h1, h2, h3, q, by rw [e2, q, m2]; rfl⟩
set_option maxHeartbeats 4000000 in
theorem rpos_any (a n m p : Int) (w : World) : Calls Try.prog 9 #[shV a n m, .int .i64 p] w fun e w' => e = .returned (.tuple #[.int .i64 (posF a n m p), .bool (posB a n m p)]) ∧ Below w.heap.size w w' := by
  have HB0 : Hid (Below (w.alloc (shO a n m 25)).heap.size (w.alloc (shO a n m 25)) (w.alloc (shO a n m 25))) := Below.refl _ _
  have HG : RC (w.alloc (shO a n m 25)) 13 #[shV a n m] _ := RC.of fun u => rgood_any a n m u
  cases hg : goodB a n m
  · have e1 : posB a n m p = false := by unfold posB; rw [hg]; rfl
    have e2 : posF a n m p = 0 := by unfold posF; rw [e1]; rfl
    rw [e1, e2]
    rw [hg] at HG
    go_enter Try.func9, Try.ntmps9
    go_wp2_with (go_at_call 13; refine (HG _ HB0.out).mono ?_; clear HG; rintro e w1 ⟨rfl, hb⟩; have HB1 : Hid (Below (w.alloc (shO a n m 25)).heap.size (w.alloc (shO a n m 25)) w1) := hb; clear hb; obtain ⟨c0, c1, c2⟩ := box_cells HB1.out)
    go_ret2
    exact ⟨rfl, bel1 HB1.out⟩
  rw [hg] at HG
  by_cases hp : p < 1
  · have e1 : posB a n m p = false := by unfold posB; rw [hg, decide_eq_false (by omega : ¬ 1 ≤ p)]; rfl
    have e2 : posF a n m p = 0 := by unfold posF; rw [e1]; rfl
    rw [e1, e2]
    go_enter Try.func9, Try.ntmps9
    go_wp2_with (go_at_call 13; refine (HG _ HB0.out).mono ?_; clear HG; rintro e w1 ⟨rfl, hb⟩; have HB1 : Hid (Below (w.alloc (shO a n m 25)).heap.size (w.alloc (shO a n m 25)) w1) := hb; clear hb; obtain ⟨c0, c1, c2⟩ := box_cells HB1.out)
    go_ret2
    exact ⟨rfl, bel1 HB1.out⟩
  by_cases hp2 : m < p
  · have e1 : posB a n m p = false := by unfold posB; rw [hg, decide_eq_true (by omega : 1 ≤ p), decide_eq_false (by omega : ¬ p ≤ m)]; rfl
    have e2 : posF a n m p = 0 := by unfold posF; rw [e1]; rfl
    rw [e1, e2]
    go_enter Try.func9, Try.ntmps9
    go_wp2_with (go_at_call 13; refine (HG _ HB0.out).mono ?_; clear HG; rintro e w1 ⟨rfl, hb⟩; have HB1 : Hid (Below (w.alloc (shO a n m 25)).heap.size (w.alloc (shO a n m 25)) w1) := hb; clear hb; obtain ⟨c0, c1, c2⟩ := box_cells HB1.out)
    go_ret2
    exact ⟨rfl, bel1 HB1.out⟩
  have hb := good_bd hg
  have b1 := hb.1
  have b2 := hb.2.1
  have b3 := hb.2.2.1
  have b4 := hb.2.2.2.1
  have b5 : -1000 ≤ n := by omega
  have b6 : n ≤ 1000 := by omega
  have HW := pos_ways hg (by omega : 1 ≤ p) (by omega)
  clear hb hg
  rcases HW with ⟨h1, e1, e2⟩ | ⟨h1, h2, h3, e1, e2⟩ | ⟨h1, h2, h3, h4, e1, e2⟩ | ⟨h1, h2, h3, e1, e2⟩ | ⟨h1, h2, h3, e1, e2⟩
  all_goals
    rw [e1, e2]
    clear e1 e2
    go_enter Try.func9, Try.ntmps9
    go_wp2_with (go_at_call 13; refine (HG _ HB0.out).mono ?_; clear HG; rintro e w1 ⟨rfl, hb⟩; have HB1 : Hid (Below (w.alloc (shO a n m 25)).heap.size (w.alloc (shO a n m 25)) w1) := hb; clear hb; obtain ⟨c0, c1, c2⟩ := box_cells HB1.out)
    go_ret2
    exact ⟨rfl, bel1 HB1.out⟩
set_option maxHeartbeats 2000000 in
theorem plain_any (a n m : Int) (w : World) : Calls Try.prog 7 #[shV a n m] w fun e w' => e = .returned (shV a n m) ∧ Below w.heap.size w w' := by
  have HB : Hid (Below w.heap.size w ((w.alloc (shO a n m 23)).alloc (shO a n m 25))) := bel_alloc (bel_alloc (Below.refl _ _) _) _
  go_enter Try.func7, Try.ntmps7
  go_wp2
  exact bodyPost_ret (v := shV a n m) (by simp [results, Try.results7, go_sem]) rfl ⟨rfl, HB.out⟩
theorem two_cells {w x : World} {a n m : Int} {t : TypeId} (h : Below ((w.alloc (shO a n m t)).alloc (shO 0 0 0 t)).heap.size ((w.alloc (shO a n m t)).alloc (shO 0 0 0 t)) x) :
    (x.cell? ⟨w.heap.size + 1, 0, none⟩ = some (.int .i64 0) ∧ x.cell? ⟨w.heap.size + 1, 1, none⟩ = some (.int .i64 0) ∧ x.cell? ⟨w.heap.size + 1, 2, none⟩ = some (.int .i64 0)) ∧
    (x.frozen? ⟨w.heap.size + 1, 0, none⟩ = false ∧ x.frozen? ⟨w.heap.size + 1, 1, none⟩ = false ∧ x.frozen? ⟨w.heap.size + 1, 2, none⟩ = false) := by
  have h0 := new1 h
  have e : (w.alloc (shO a n m t)).heap.size = w.heap.size + 1 := by simp
  rw [e] at h0
  exact ⟨s_cells h0, by simp [World.frozen?, h0]⟩
theorem set3 {w w1 : World} {g : Nat} {a b c : Value} (hg : w.heap.size ≤ g) (h : Below w.heap.size w w1) : Below w.heap.size w (((w1.setCell ⟨g, 0, none⟩ a).setCell ⟨g, 1, none⟩ b).setCell ⟨g, 2, none⟩ c) :=
  ((h.setCell hg _).setCell hg _).setCell hg _
set_option maxHeartbeats 2000000 in
theorem back_any (a n m : Int) (w : World) : Calls Try.prog 14 #[shV a n m] w fun e w' => e = .returned (shV (bkA a n m) (bkN a n m) (bkM a n m)) ∧ Below w.heap.size w w' := by
  have HB0 : Hid (Below ((w.alloc (shO a n m 23)).alloc (shO 0 0 0 23)).heap.size ((w.alloc (shO a n m 23)).alloc (shO 0 0 0 23)) ((w.alloc (shO a n m 23)).alloc (shO 0 0 0 23))) := Below.refl _ _
  have HG : RC ((w.alloc (shO a n m 23)).alloc (shO 0 0 0 23)) 12 #[shV a n m] _ := RC.of fun u => good_any a n m u
  cases hg : goodB a n m
  · have e1 : bkA a n m = 0 := by unfold bkA; rw [hg]; rfl
    have e2 : bkN a n m = 0 := by unfold bkN; rw [hg]; rfl
    have e3 : bkM a n m = 0 := by unfold bkM; rw [hg]; rfl
    rw [e1, e2, e3]
    rw [hg] at HG
    go_enter Try.func14, Try.ntmps14
    go_wp2_with (go_at_call 12; refine (HG _ HB0.out).mono ?_; clear HG; rintro e w1 ⟨rfl, hb⟩; have HB1 : Hid (Below w.heap.size w w1) := bel1 (bel1 hb); obtain ⟨c0, c1, c2⟩ := box_cells (bel1 hb); obtain ⟨⟨d0, d1, d2⟩, f0, f1, f2⟩ := two_cells hb; clear hb)
    exact bodyPost_ret (v := shV 0 0 0) (by simp [results, Try.results14, go_sem, d0, d1, d2]) rfl ⟨rfl, set3 (Nat.le_succ _) HB1.out⟩
  · have e1 : bkA a n m = a := by unfold bkA; rw [hg]; rfl
    have e2 : bkN a n m = -n := by unfold bkN; rw [hg]; rfl
    have e3 : bkM a n m = m := by unfold bkM; rw [hg]; rfl
    rw [e1, e2, e3]
    have hb := good_bd hg
    have b5 : -1000 ≤ n := by omega
    have b6 : n ≤ 1000 := by omega
    clear hb
    rw [hg] at HG
    go_enter Try.func14, Try.ntmps14
    go_wp2_with (go_at_call 12; refine (HG _ HB0.out).mono ?_; clear HG; rintro e w1 ⟨rfl, hb⟩; have HB1 : Hid (Below w.heap.size w w1) := bel1 (bel1 hb); obtain ⟨c0, c1, c2⟩ := box_cells (bel1 hb); obtain ⟨⟨d0, d1, d2⟩, f0, f1, f2⟩ := two_cells hb; clear hb)
    exact bodyPost_ret (v := shV a (-n) m) (by simp [results, Try.results14, go_sem, d0, d1, d2]) rfl ⟨rfl, set3 (Nat.le_succ _) HB1.out⟩
set_option maxHeartbeats 2000000 in
theorem rback_any (a n m : Int) (w : World) : Calls Try.prog 15 #[shV a n m] w fun e w' => e = .returned (shV (bkA a n m) (bkN a n m) (bkM a n m)) ∧ Below w.heap.size w w' := by
  have HB0 : Hid (Below ((w.alloc (shO a n m 25)).alloc (shO 0 0 0 25)).heap.size ((w.alloc (shO a n m 25)).alloc (shO 0 0 0 25)) ((w.alloc (shO a n m 25)).alloc (shO 0 0 0 25))) := Below.refl _ _
  have HG : RC ((w.alloc (shO a n m 25)).alloc (shO 0 0 0 25)) 13 #[shV a n m] _ := RC.of fun u => rgood_any a n m u
  cases hg : goodB a n m
  · have e1 : bkA a n m = 0 := by unfold bkA; rw [hg]; rfl
    have e2 : bkN a n m = 0 := by unfold bkN; rw [hg]; rfl
    have e3 : bkM a n m = 0 := by unfold bkM; rw [hg]; rfl
    rw [e1, e2, e3]
    rw [hg] at HG
    go_enter Try.func15, Try.ntmps15
    go_wp2_with (go_at_call 13; refine (HG _ HB0.out).mono ?_; clear HG; rintro e w1 ⟨rfl, hb⟩; have HB1 : Hid (Below w.heap.size w w1) := bel1 (bel1 hb); obtain ⟨c0, c1, c2⟩ := box_cells (bel1 hb); obtain ⟨⟨d0, d1, d2⟩, f0, f1, f2⟩ := two_cells hb; clear hb)
    exact bodyPost_ret (v := shV 0 0 0) (by simp [results, Try.results15, go_sem, d0, d1, d2]) rfl ⟨rfl, set3 (Nat.le_succ _) HB1.out⟩
  · have e1 : bkA a n m = a := by unfold bkA; rw [hg]; rfl
    have e2 : bkN a n m = -n := by unfold bkN; rw [hg]; rfl
    have e3 : bkM a n m = m := by unfold bkM; rw [hg]; rfl
    rw [e1, e2, e3]
    have hb := good_bd hg
    have b5 : -1000 ≤ n := by omega
    have b6 : n ≤ 1000 := by omega
    clear hb
    rw [hg] at HG
    go_enter Try.func15, Try.ntmps15
    go_wp2_with (go_at_call 13; refine (HG _ HB0.out).mono ?_; clear HG; rintro e w1 ⟨rfl, hb⟩; have HB1 : Hid (Below w.heap.size w w1) := bel1 (bel1 hb); obtain ⟨c0, c1, c2⟩ := box_cells (bel1 hb); obtain ⟨⟨d0, d1, d2⟩, f0, f1, f2⟩ := two_cells hb; clear hb)
    exact bodyPost_ret (v := shV a (-n) m) (by simp [results, Try.results15, go_sem, d0, d1, d2]) rfl ⟨rfl, set3 (Nat.le_succ _) HB1.out⟩
end Go.Proofs.Yteafldbmeekpbaa
