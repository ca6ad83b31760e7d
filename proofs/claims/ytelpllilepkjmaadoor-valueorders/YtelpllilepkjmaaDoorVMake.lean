/- Values that are made: Bad, Of, Str, words, truths; of the program and of the reference. -/
import Derived.Test.YtelpllilepkjmaaDoorVBad
namespace Go.Proofs.YtelpllilepkjmaaDoor
open Go.RowKit
set_option maxRecDepth 100000
set_option linter.unusedVariables false
set_option linter.unusedSimpArgs false
set_option maxHeartbeats 1000000 in
theorem words_any (s : ByteArray) (w : World) : Calls Tryd.prog 50 #[.string s] w fun e w' => e = .returned (.agg #[.int .i64 2, .int .i64 0, .string s]) ∧ Below w.heap.size w w' := by
  go_enter Tryd.func50, Tryd.ntmps50
  go_wp2
  exact bodyPost_ret (v := .agg #[.int .i64 2, .int .i64 0, .string s]) (by simp [results, Tryd.results50, go_sem]) rfl ⟨rfl, (Below.refl _ _).alloc (Nat.le_refl _) _⟩
set_option maxHeartbeats 1000000 in
theorem tvalue_any (b : Bool) (w : World) : Calls Tryd.prog 51 #[.bool b] w fun e w' => e = .returned (.agg #[.int .i64 3, .int .i64 (if b = true then 1 else 0), .string ⟨#[]⟩]) ∧ Below w.heap.size w w' := by
  cases b
  all_goals
    go_enter Tryd.func51, Tryd.ntmps51
    go_wp2_with (go_at_call 37; refine (tcount_any _ _).mono ?_; rintro e w' ⟨rfl, hw⟩; obtain rfl := hw.symm; clear hw)
  · exact bodyPost_ret (v := .agg #[.int .i64 3, .int .i64 0, .string ⟨#[]⟩]) (by simp [results, Tryd.results51, go_sem]) rfl ⟨rfl, (Below.refl _ _).alloc (Nat.le_refl _) _⟩
  · exact bodyPost_ret (v := .agg #[.int .i64 3, .int .i64 1, .string ⟨#[]⟩]) (by simp [results, Tryd.results51, go_sem]) rfl ⟨rfl, (Below.refl _ _).alloc (Nat.le_refl _) _⟩
def badN (n : Int) : Int := if knB n = true then n else 2
set_option maxHeartbeats 1000000 in
theorem bad_any (n : Int) (w : World) : Calls Tryd.prog 30 #[.int .i64 n] w fun e w' => e = .returned (.agg #[.int .i64 4, .int .i64 (badN n), .string ⟨#[]⟩]) ∧ Below w.heap.size w w' := by
  have K := fun u => known_any n u
  cases hk : knB n
  all_goals
    rw [hk] at K
  · have e : badN n = 2 := by simp [badN, hk]
    rw [e]
    go_enter Tryd.func30, Tryd.ntmps30
    go_wp2_with (go_at_call 42; refine (K _).mono ?_; rintro e w' ⟨rfl, hw⟩; obtain rfl := hw.symm; clear hw)
    exact bodyPost_ret (v := .agg #[.int .i64 4, .int .i64 2, .string ⟨#[]⟩]) (by simp [results, Tryd.results30, go_sem]) rfl ⟨rfl, (Below.refl _ _).alloc (Nat.le_refl _) _⟩
  · have e : badN n = n := by simp [badN, hk]
    rw [e]
    go_enter Tryd.func30, Tryd.ntmps30
    go_wp2_with (go_at_call 42; refine (K _).mono ?_; rintro e w' ⟨rfl, hw⟩; obtain rfl := hw.symm; clear hw)
    exact bodyPost_ret (v := .agg #[.int .i64 4, .int .i64 n, .string ⟨#[]⟩]) (by simp [results, Tryd.results30, go_sem]) rfl ⟨rfl, (Below.refl _ _).alloc (Nat.le_refl _) _⟩
/-- The result's cells, behind a call. -/
theorem rescell {w w1 : World} {a b c : Value} (hb : Below (w.alloc (.cells #[a, b, c] 23)).heap.size (w.alloc (.cells #[a, b, c] 23)) w1) :
    (w1.cell? ⟨w.heap.size, 0, none⟩ = some a ∧ w1.cell? ⟨w.heap.size, 1, none⟩ = some b ∧ w1.cell? ⟨w.heap.size, 2, none⟩ = some c) ∧
    (w1.frozen? ⟨w.heap.size, 0, none⟩ = false ∧ w1.frozen? ⟨w.heap.size, 1, none⟩ = false ∧ w1.frozen? ⟨w.heap.size, 2, none⟩ = false) := by
  have h0 : w1.heap[w.heap.size]? = some (.cells #[a, b, c] 23 (0, 0)) := by
    rw [hb.block _ (by simp)]
    exact heap_alloc_new w _
  exact ⟨(boxcell hb).2, by simp [World.frozen?, h0]⟩
theorem set3 {w w1 : World} {a b c : Value} (h : Below w.heap.size w w1) : Below w.heap.size w (((w1.setCell ⟨w.heap.size, 0, none⟩ a).setCell ⟨w.heap.size, 1, none⟩ b).setCell ⟨w.heap.size, 2, none⟩ c) :=
  ((h.setCell (Nat.le_refl _) _).setCell (Nat.le_refl _) _).setCell (Nat.le_refl _) _
set_option maxHeartbeats 1000000 in
theorem str_any (s : ByteArray) (w : World) : Calls Tryd.prog 28 #[.string s] w fun e w' => e = .returned (if lenB s = true then .agg #[.int .i64 2, .int .i64 0, .string s] else .agg #[.int .i64 4, .int .i64 2, .string ⟨#[]⟩]) ∧ Below w.heap.size w w' := by
  rcases len_cases s with ⟨he, h⟩ | ⟨he, h⟩
  all_goals rw [h]
  · have he' : ¬ 255 < (s.size : Int) := by omega
    go_enter Tryd.func28, Tryd.ntmps28
    go_wp2_with (go_at_call 50; refine (words_any _ _).mono ?_; rintro e w1 ⟨rfl, hb⟩; have HB : Hid (Below w.heap.size w w1) := bel1 hb; obtain ⟨⟨c0, c1, c2⟩, f0, f1, f2⟩ := rescell hb; clear hb)
    exact bodyPost_ret (v := .agg #[.int .i64 2, .int .i64 0, .string s]) (by simp [results, Tryd.results28, go_sem, c0, c1, c2]) rfl ⟨rfl, set3 HB.out⟩
  · have he' : 255 < (s.size : Int) := by omega
    go_enter Tryd.func28, Tryd.ntmps28
    go_wp2_with (go_at_call 30; refine (bad_any _ _).mono ?_; rintro e w1 ⟨rfl, hb⟩; have HB : Hid (Below w.heap.size w w1) := bel1 hb; obtain ⟨⟨c0, c1, c2⟩, f0, f1, f2⟩ := rescell hb; clear hb)
    exact bodyPost_ret (v := .agg #[.int .i64 4, .int .i64 2, .string ⟨#[]⟩]) (by simp [results, Tryd.results28, go_sem, c0, c1, c2]; rfl) rfl ⟨rfl, set3 HB.out⟩
def ofV (n : Int) (ok : Bool) : Value := if (ok && gd n) = true then .agg #[.int .i64 1, .int .i64 n, .string ⟨#[]⟩] else .agg #[.int .i64 4, .int .i64 5, .string ⟨#[]⟩]
set_option maxHeartbeats 1000000 in
theorem of_any (n : Int) (ok : Bool) (w : World) : Calls Tryd.prog 32 #[.int .i64 n, .bool ok] w fun e w' => e = .returned (ofV n ok) ∧ Below w.heap.size w w' := by
  have G := fun u => good_any n u
  unfold ofV
  cases ok <;> cases hg : gd n
  all_goals
    rw [hg] at G
    simp only [Bool.and_true, Bool.and_false, Bool.false_eq_true, if_true, if_false]
    go_enter Tryd.func32, Tryd.ntmps32
    go_wp2_with (first | (go_at_call 41; refine (G _).mono ?_; rintro e w' ⟨rfl, hw⟩; obtain rfl := hw.symm; clear hw) | (go_at_call 30; refine (bad_any _ _).mono ?_; rintro e w1 ⟨rfl, hb⟩; have HB : Hid (Below w.heap.size w w1) := bel1 hb; obtain ⟨⟨c0, c1, c2⟩, f0, f1, f2⟩ := rescell hb; clear hb))
    first
    | exact bodyPost_ret (v := .agg #[.int .i64 4, .int .i64 5, .string ⟨#[]⟩]) (by simp [results, Tryd.results32, go_sem, c0, c1, c2]; rfl) rfl ⟨rfl, set3 HB.out⟩
    | exact bodyPost_ret (v := .agg #[.int .i64 1, .int .i64 n, .string ⟨#[]⟩]) (by simp [results, Tryd.results32, go_sem]) rfl ⟨rfl, (Below.refl _ _).alloc (Nat.le_refl _) _⟩
/-! The reference's. -/
set_option maxHeartbeats 1000000 in
theorem rbad_any (n : Int) (w : World) : Calls Tryd.prog 31 #[.int .i64 n] w fun e w' => e = .returned (.agg #[.int .i64 4, .int .i64 (badN n), .string ⟨#[]⟩]) ∧ Below w.heap.size w w' := by
  rcases kn_cases n with ⟨g0, g1, h⟩ | ⟨g0, h⟩ | ⟨g0, g1, h⟩
  · have e : badN n = n := by simp [badN, h]
    rw [e]
    have g0' : ¬ n < 1 := by omega
    have g1' : ¬ 8 < n := by omega
    go_enter Tryd.func31, Tryd.ntmps31
    go_wp2
    exact bodyPost_ret (v := .agg #[.int .i64 4, .int .i64 n, .string ⟨#[]⟩]) (by simp [results, Tryd.results31, go_sem]) rfl ⟨rfl, (Below.refl _ _).alloc (Nat.le_refl _) _⟩
  · have e : badN n = 2 := by simp [badN, h]
    rw [e]
    have g0' : n < 1 := by omega
    go_enter Tryd.func31, Tryd.ntmps31
    go_wp2
    exact bodyPost_ret (v := .agg #[.int .i64 4, .int .i64 2, .string ⟨#[]⟩]) (by simp [results, Tryd.results31, go_sem]) rfl ⟨rfl, (Below.refl _ _).alloc (Nat.le_refl _) _⟩
  · have e : badN n = 2 := by simp [badN, h]
    rw [e]
    have g0' : ¬ n < 1 := by omega
    have g1' : 8 < n := by omega
    go_enter Tryd.func31, Tryd.ntmps31
    go_wp2
    exact bodyPost_ret (v := .agg #[.int .i64 4, .int .i64 2, .string ⟨#[]⟩]) (by simp [results, Tryd.results31, go_sem]) rfl ⟨rfl, (Below.refl _ _).alloc (Nat.le_refl _) _⟩
set_option maxHeartbeats 1000000 in
theorem rof_any (n : Int) (ok : Bool) (w : World) : Calls Tryd.prog 33 #[.int .i64 n, .bool ok] w fun e w' => e = .returned (ofV n ok) ∧ Below w.heap.size w w' := by
  have G := fun u => rgood_any n u
  unfold ofV
  cases ok <;> cases hg : gd n
  all_goals
    rw [hg] at G
    simp only [Bool.and_true, Bool.and_false, Bool.false_eq_true, if_true, if_false]
    go_enter Tryd.func33, Tryd.ntmps33
    go_wp2_with (first | (go_at_call 43; refine (G _).mono ?_; rintro e w' ⟨rfl, hw⟩; obtain rfl := hw.symm; clear hw) | (go_at_call 31; refine (rbad_any _ _).mono ?_; rintro e w1 ⟨rfl, hb⟩; have HB : Hid (Below w.heap.size w w1) := bel1 hb; obtain ⟨⟨c0, c1, c2⟩, f0, f1, f2⟩ := rescell hb; clear hb))
    first
    | exact bodyPost_ret (v := .agg #[.int .i64 4, .int .i64 5, .string ⟨#[]⟩]) (by simp [results, Tryd.results33, go_sem, c0, c1, c2]; rfl) rfl ⟨rfl, set3 HB.out⟩
    | exact bodyPost_ret (v := .agg #[.int .i64 1, .int .i64 n, .string ⟨#[]⟩]) (by simp [results, Tryd.results33, go_sem]) rfl ⟨rfl, (Below.refl _ _).alloc (Nat.le_refl _) _⟩
set_option maxHeartbeats 1000000 in
theorem rstr_any (s : ByteArray) (w : World) : Calls Tryd.prog 29 #[.string s] w fun e w' => e = .returned (if lenB s = true then .agg #[.int .i64 2, .int .i64 0, .string s] else .agg #[.int .i64 4, .int .i64 2, .string ⟨#[]⟩]) ∧ Below w.heap.size w w' := by
  rcases len_cases s with ⟨he, h⟩ | ⟨he, h⟩
  all_goals rw [h]
  · have he' : ¬ 255 < (s.size : Int) := by omega
    go_enter Tryd.func29, Tryd.ntmps29
    go_wp2
    exact bodyPost_ret (v := .agg #[.int .i64 2, .int .i64 0, .string s]) (by simp [results, Tryd.results29, go_sem]) rfl ⟨rfl, (Below.refl _ _).alloc (Nat.le_refl _) _⟩
  · have he' : 255 < (s.size : Int) := by omega
    go_enter Tryd.func29, Tryd.ntmps29
    go_wp2_with (go_at_call 31; refine (rbad_any _ _).mono ?_; rintro e w1 ⟨rfl, hb⟩; have HB : Hid (Below w.heap.size w w1) := bel1 hb; obtain ⟨⟨c0, c1, c2⟩, f0, f1, f2⟩ := rescell hb; clear hb)
    exact bodyPost_ret (v := .agg #[.int .i64 4, .int .i64 2, .string ⟨#[]⟩]) (by simp [results, Tryd.results29, go_sem, c0, c1, c2]; rfl) rfl ⟨rfl, set3 HB.out⟩
end Go.Proofs.YtelpllilepkjmaaDoor
