/- Values that are made: Bad, Of, Str, words, truths; of the program and of the reference. -/
import Derived.Test.YtjimgjohfpcnpaaDoorVBad
namespace Go.Proofs.YtjimgjohfpcnpaaDoor
open Go.RowKit
set_option maxRecDepth 100000
set_option linter.unusedVariables false
set_option linter.unusedSimpArgs false
set_option maxHeartbeats 1000000 in
theorem words_any (s : ByteArray) (w : World) : Calls Tryd.prog 69 #[.string s] w fun e w' => e = .returned (.agg #[.int .i64 2, .int .i64 0, .string s]) ∧ Below w.heap.size w w' := by
  go_enter Tryd.func69, Tryd.ntmps69
  go_wp2
  exact bodyPost_ret (v := .agg #[.int .i64 2, .int .i64 0, .string s]) (by simp [results, Tryd.results69, go_sem]) rfl ⟨rfl, (Below.refl _ _).alloc (Nat.le_refl _) _⟩
set_option maxHeartbeats 1000000 in
theorem tvalue_any (b : Bool) (w : World) : Calls Tryd.prog 73 #[.bool b] w fun e w' => e = .returned (.agg #[.int .i64 3, .int .i64 (if b = true then 1 else 0), .string ⟨#[]⟩]) ∧ Below w.heap.size w w' := by
  cases b
  all_goals
    go_enter Tryd.func73, Tryd.ntmps73
    go_wp2_with (go_at_call 91; refine (tcount_any _ _).mono ?_; rintro e w' ⟨rfl, hw⟩; obtain rfl := hw.symm; clear hw)
  · exact bodyPost_ret (v := .agg #[.int .i64 3, .int .i64 0, .string ⟨#[]⟩]) (by simp [results, Tryd.results73, go_sem]) rfl ⟨rfl, (Below.refl _ _).alloc (Nat.le_refl _) _⟩
  · exact bodyPost_ret (v := .agg #[.int .i64 3, .int .i64 1, .string ⟨#[]⟩]) (by simp [results, Tryd.results73, go_sem]) rfl ⟨rfl, (Below.refl _ _).alloc (Nat.le_refl _) _⟩
def badN (n : Int) : Int := if knB n = true then n else 2
set_option maxHeartbeats 1000000 in
theorem bad_any (n : Int) (w : World) : Calls Tryd.prog 75 #[.int .i64 n] w fun e w' => e = .returned (.agg #[.int .i64 4, .int .i64 (badN n), .string ⟨#[]⟩]) ∧ Below w.heap.size w w' := by
  have K := fun u => known_any n u
  cases hk : knB n
  all_goals
    rw [hk] at K
  · have e : badN n = 2 := by simp [badN, hk]
    rw [e]
    go_enter Tryd.func75, Tryd.ntmps75
    go_wp2_with (go_at_call 92; refine (K _).mono ?_; rintro e w' ⟨rfl, hw⟩; obtain rfl := hw.symm; clear hw)
    exact bodyPost_ret (v := .agg #[.int .i64 4, .int .i64 2, .string ⟨#[]⟩]) (by simp [results, Tryd.results75, go_sem]) rfl ⟨rfl, (Below.refl _ _).alloc (Nat.le_refl _) _⟩
  · have e : badN n = n := by simp [badN, hk]
    rw [e]
    go_enter Tryd.func75, Tryd.ntmps75
    go_wp2_with (go_at_call 92; refine (K _).mono ?_; rintro e w' ⟨rfl, hw⟩; obtain rfl := hw.symm; clear hw)
    exact bodyPost_ret (v := .agg #[.int .i64 4, .int .i64 n, .string ⟨#[]⟩]) (by simp [results, Tryd.results75, go_sem]) rfl ⟨rfl, (Below.refl _ _).alloc (Nat.le_refl _) _⟩
/-- The result's cells, behind a call. -/
theorem rescell {w w1 : World} {a b c : Value} (hb : Below (w.alloc (.cells #[a, b, c] 65)).heap.size (w.alloc (.cells #[a, b, c] 65)) w1) :
    (w1.cell? ⟨w.heap.size, 0, none⟩ = some a ∧ w1.cell? ⟨w.heap.size, 1, none⟩ = some b ∧ w1.cell? ⟨w.heap.size, 2, none⟩ = some c) ∧
    (w1.frozen? ⟨w.heap.size, 0, none⟩ = false ∧ w1.frozen? ⟨w.heap.size, 1, none⟩ = false ∧ w1.frozen? ⟨w.heap.size, 2, none⟩ = false) := by
  have h0 : w1.heap[w.heap.size]? = some (.cells #[a, b, c] 65 (0, 0)) := by
    rw [hb.block _ (by simp)]
    exact heap_alloc_new w _
  exact ⟨(boxcell hb).2, by simp [World.frozen?, h0]⟩
theorem set3 {w w1 : World} {a b c : Value} (h : Below w.heap.size w w1) : Below w.heap.size w (((w1.setCell ⟨w.heap.size, 0, none⟩ a).setCell ⟨w.heap.size, 1, none⟩ b).setCell ⟨w.heap.size, 2, none⟩ c) :=
  ((h.setCell (Nat.le_refl _) _).setCell (Nat.le_refl _) _).setCell (Nat.le_refl _) _
def ofV (n : Int) (ok : Bool) : Value := if (ok && gd n) = true then .agg #[.int .i64 1, .int .i64 n, .string ⟨#[]⟩] else .agg #[.int .i64 4, .int .i64 5, .string ⟨#[]⟩]
set_option maxHeartbeats 1000000 in
theorem of_any (n : Int) (ok : Bool) (w : World) : Calls Tryd.prog 71 #[.int .i64 n, .bool ok] w fun e w' => e = .returned (ofV n ok) ∧ Below w.heap.size w w' := by
  have G := fun u => good_any n u
  unfold ofV
  cases ok <;> cases hg : gd n
  all_goals
    rw [hg] at G
    simp only [Bool.and_true, Bool.and_false, Bool.false_eq_true, if_true, if_false]
    go_enter Tryd.func71, Tryd.ntmps71
    go_wp2_with (first | (go_at_call 90; refine (G _).mono ?_; rintro e w' ⟨rfl, hw⟩; obtain rfl := hw.symm; clear hw) | (go_at_call 75; refine (bad_any _ _).mono ?_; rintro e w1 ⟨rfl, hb⟩; have HB : Hid (Below w.heap.size w w1) := bel1 hb; obtain ⟨⟨c0, c1, c2⟩, f0, f1, f2⟩ := rescell hb; clear hb))
    first
    | exact bodyPost_ret (v := .agg #[.int .i64 4, .int .i64 5, .string ⟨#[]⟩]) (by simp [results, Tryd.results71, go_sem, c0, c1, c2]; rfl) rfl ⟨rfl, set3 HB.out⟩
    | exact bodyPost_ret (v := .agg #[.int .i64 1, .int .i64 n, .string ⟨#[]⟩]) (by simp [results, Tryd.results71, go_sem]) rfl ⟨rfl, (Below.refl _ _).alloc (Nat.le_refl _) _⟩
/-! The reference's. -/
end Go.Proofs.YtjimgjohfpcnpaaDoor
