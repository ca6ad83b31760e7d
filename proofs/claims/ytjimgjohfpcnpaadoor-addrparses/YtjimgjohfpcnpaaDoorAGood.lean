/- GoodName of both. -/
import Derived.Test.YtjimgjohfpcnpaaDoorAName
namespace Go.Proofs.YtjimgjohfpcnpaaDoor
open Go.RowKit
set_option maxRecDepth 100000
set_option linter.unusedVariables false
set_option linter.unusedSimpArgs false
theorem sp_parts {l : List UInt8} (h : spF l = true) : l.length ≤ 16 ∧ headL l = true ∧ l.all okC = true := by
  unfold spF at h
  simp only [Bool.and_eq_true, decide_eq_true_eq] at h
  exact ⟨h.1.1, h.1.2, h.2⟩
theorem isL_facts {c : UInt8} (h : Ad.isL c = true) : c ≠ 39 ∧ c ≠ 45 ∧ c ≠ 46 ∧ isD c = false := by
  unfold Ad.isL at h
  simp only [Bool.or_eq_true, Bool.and_eq_true, decide_eq_true_eq] at h
  refine ⟨?_, ?_, ?_, ?_⟩
  · rintro rfl; revert h; decide
  · rintro rfl; revert h; decide
  · rintro rfl; revert h; decide
  · unfold isD; rw [Bool.and_eq_false_iff, decide_eq_false_iff_not, decide_eq_false_iff_not]; omega
/-- A text that begins with a letter is no number. -/
theorem letter_parse {l : List UInt8} (h : headL l = true) : (parseF l).2 = false := by
  cases l with
  | nil => cases h
  | cons c r =>
    obtain ⟨_, h2, h3, h4⟩ := isL_facts h
    have e1 : dash (c :: r) = false := by unfold dash; simpa using h2
    have e2 : body (c :: r) = c :: r := by unfold body; rw [e1]; rfl
    have e3 : fstP (c :: r) = c :: fstP r := by unfold fstP; rw [List.takeWhile_cons, if_pos (by simpa using h3)]
    unfold parseF
    rw [e2, e3]
    have e4 : digs (c :: fstP r) 1 12 = false := by unfold digs; rw [List.all_cons, h4]; rfl
    rw [if_neg (by rw [e4]; simp)]
theorem typed_kind {s : ByteArray} (h : headL s.data.toList = true) : ((typedF s).1 == 3) = (truF s).2 := by
  have hp := letter_parse h
  have h0 : ¬ s.toList = [] := by
    rw [ByteArray.toList_eq]
    intro e
    rw [e] at h
    cases h
  have h1 : ¬ s.data.toList.head? = some 39 := by
    intro e
    cases hl : s.data.toList with
    | nil => rw [hl] at h; cases h
    | cons c r =>
      rw [hl] at h e
      simp only [List.head?_cons, Option.some.injEq] at e
      exact (isL_facts h).1 e
  unfold typedF
  rw [if_neg h0, if_neg h1, if_neg (by rw [hp]; decide)]
  cases ht : (truF s).2
  · rw [if_neg (by decide)]
    split <;> rfl
  · rw [if_pos rfl]
    rfl
theorem run_fld (W : World) (k n : Int) (x : ByteArray) : (Instr.field 65 (.agg #[.int .i64 k, .int .i64 n, .string x]) 0).run Tryd.prog W = .ok (.int .i64 k) W := by kernel_rfl
set_option maxHeartbeats 2000000 in
theorem liketruth_any (s : ByteArray) (hs : s.size ≤ 9223372036854775807) (w : World) (T : Tabs w) :
    Calls Tryd.prog 42 #[.string s] w fun e w' => e = .returned (.bool ((typedF s).1 == 3)) ∧ Below w.heap.size w w' := by
  have Y := typed_any s hs w T
  generalize (typedF s).1 = k at *
  generalize (typedF s).2.1 = n at *
  generalize (typedF s).2.2 = x at *
  have FL := fun W => run_fld W k n x
  go_enter Tryd.func42, Tryd.ntmps42
  go_wp2_with (go_at_call 59; refine Y.mono ?_; rintro e w1 ⟨rfl, hb⟩; have HB : Hid (Below w.heap.size w w1) := hb; clear hb)
  go_ret
  exact ⟨rfl, HB.out⟩
theorem gn_cases (s : ByteArray) : (spF s.data.toList = false ∧ gnF s.data.toList = false) ∨ (spF s.data.toList = true ∧ 0 < s.size ∧ ((lcF s.data.toList = true ∧ gnF s.data.toList = false) ∨ (lcF s.data.toList = false ∧ gnF s.data.toList = !((typedF s).1 == 3)))) := by
  unfold gnF
  rw [mk_list]
  cases h : spF s.data.toList
  · left; exact ⟨rfl, rfl⟩
  · right
    obtain ⟨h1, h2, h3⟩ := sp_parts h
    refine ⟨rfl, ?_, ?_⟩
    · rw [← size_list]
      cases hl : s.data.toList with
      | nil => rw [hl] at h2; cases h2
      | cons a r => simp
    · cases hc : lcF s.data.toList
      · right; rw [typed_kind h2]; exact ⟨rfl, rfl⟩
      · left; exact ⟨rfl, rfl⟩
set_option maxHeartbeats 2000000 in
theorem goodname_any (s : ByteArray) (hs : s.size ≤ 9223372036854775807) (w : World) (T : Tabs w) :
    Calls Tryd.prog 11 #[.string s] w fun e w' => e = .returned (.bool (gnF s.data.toList)) ∧ Below w.heap.size w w' := by
  have SP := spelled_any s hs w
  rcases gn_cases s with ⟨h1, h2⟩ | ⟨h1, hz, ⟨h3, h2⟩ | ⟨h3, h2⟩⟩
  · rw [h1] at SP
    rw [h2]
    go_enter Tryd.func11, Tryd.ntmps11
    go_wp2_with (go_at_call 40; refine SP.mono ?_; rintro e w1 ⟨rfl, hb⟩; have HB : Hid (Below w.heap.size w w1) := hb; clear hb)
    go_ret
    exact ⟨rfl, HB.out⟩
  · rw [h1] at SP
    rw [h2]
    have LC := fun u => likecell_any s hz hs u
    rw [h3] at LC
    go_enter Tryd.func11, Tryd.ntmps11
    go_wp2_with (first | (go_at_call 40; refine SP.mono ?_; rintro e w1 ⟨rfl, hb⟩; have HB : Hid (Below w.heap.size w w1) := hb; clear hb) | (go_at_call 41; refine (LC _).mono ?_; rintro e w2 ⟨rfl, hb⟩; have HB2 : Hid (Below w.heap.size w w2) := bel_step HB.out hb; clear hb))
    go_ret
    exact ⟨rfl, HB2.out⟩
  · rw [h1] at SP
    rw [h2]
    have LC := fun u => likecell_any s hz hs u
    have LT := fun u hu => liketruth_any s hs u hu
    rw [h3] at LC
    generalize ((typedF s).1 == 3) = k at *
    go_enter Tryd.func11, Tryd.ntmps11
    go_wp2_with (first | (go_at_call 40; refine SP.mono ?_; rintro e w1 ⟨rfl, hb⟩; have HB : Hid (Below w.heap.size w w1) := hb; clear hb) | (go_at_call 41; refine (LC _).mono ?_; rintro e w2 ⟨rfl, hb⟩; have HB2 : Hid (Below w.heap.size w w2) := bel_step HB.out hb; clear hb) | (go_at_call 42; refine (LT _ (T.below HB2.out)).mono ?_; rintro e w3 ⟨rfl, hb⟩; have HB3 : Hid (Below w.heap.size w w3) := bel_step HB2.out hb; clear hb))
    go_ret
    exact ⟨rfl, HB3.out⟩
/-- The names that there are have no sign of a ref. -/
theorem gn_names : Ad.Names gnF := fun l h => by
  unfold gnF at h
  simp only [Bool.and_eq_true] at h
  obtain ⟨_, h2, h3⟩ := sp_parts h.1.1
  refine ⟨fun e => ?_, fun x hx => ?_⟩
  · rw [e] at h2; cases h2
  · have hk := List.all_eq_true.1 h3 x hx
    refine ⟨?_, ?_, ?_⟩ <;> (rintro rfl; revert hk; decide)
end Go.Proofs.YtjimgjohfpcnpaaDoor
