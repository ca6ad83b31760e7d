/- cmp.Compare of texts and cmp.Or of three numbers. -/
import Derived.Test.YtjimgjohfpcnpaaDoorABase
namespace Go.Proofs.YtjimgjohfpcnpaaDoor
open Go.RowKit
set_option maxRecDepth 100000
set_option linter.unusedVariables false
set_option linter.unusedSimpArgs false
set_option maxHeartbeats 1000000 in
theorem nan_any (x : ByteArray) (w : World) : Calls Tryd.prog 62 #[.string x] w fun e w' => e = .returned (.bool false) ∧ w' = w := by
  go_enter Tryd.func62, Tryd.ntmps62
  go_wp2
  go_ret
  exact ⟨by simp, rfl⟩
theorem less_irr : ∀ a : List UInt8, Op.bytesLess a a = false
  | [] => rfl
  | a :: x => by unfold Op.bytesLess; simp [less_irr x]
theorem less_tri : ∀ a b : List UInt8, Op.bytesLess b a = (!Op.bytesLess a b && !(a == b))
  | [], [] => rfl
  | [], b :: y => by simp [Op.bytesLess]
  | a :: x, [] => by simp [Op.bytesLess]
  | a :: x, b :: y => by
    have ih := less_tri x y
    unfold Op.bytesLess
    by_cases e : a = b
    · subst e
      simp [ih]
    · have e2 : ¬ b = a := fun h => e h.symm
      have h1 : (a == b) = false := by simpa using e
      have h2 : (b == a) = false := by simpa using e2
      have h3 : (decide (b < a)) = !(decide (a < b)) := by
        rw [Bool.eq_iff_iff]
        simp only [decide_eq_true_eq, Bool.not_eq_true', decide_eq_false_iff_not, UInt8.lt_iff_toNat_lt]
        have : a.toNat ≠ b.toNat := fun h => e (UInt8.toNat_inj.1 h)
        omega
      simp only [h1, h2, h3, Bool.false_and, Bool.or_false]
      have h4 : (a :: x == b :: y) = false := by simp [e]
      rw [h4]
      simp
theorem binOp_string_gtr (t : TypeId) (a b : ByteArray) : binOp .gtr t (.string a) (.string b) = pure (.bool (Op.bytesLess b.toList a.toList)) := by
  have h := less_tri a.toList b.toList
  simp [binOp, Op.stringOp, h]
/-- Texts by their bytes. -/
def cmpL (a b : List UInt8) : Int := if Op.bytesLess a b = true then -1 else if Op.bytesLess b a = true then 1 else 0
set_option maxHeartbeats 1000000 in
theorem cmpS_any (x y : ByteArray) (w : World) : Calls Tryd.prog 50 #[.string x, .string y] w fun e w' => e = .returned (.int .i64 (cmpL x.toList y.toList)) ∧ w' = w := by
  have hgt := binOp_string_gtr 9
  unfold cmpL
  cases h1 : Op.bytesLess x.toList y.toList <;> cases h2 : Op.bytesLess y.toList x.toList
  all_goals
    go_enter Tryd.func50, Tryd.ntmps50
    go_wp2_with (go_at_call 62; refine (nan_any _ _).mono ?_; rintro e w' ⟨rfl, hw⟩; obtain rfl := hw.symm; clear hw)
    go_ret
    exact ⟨rfl, rfl⟩
/-- Ints. -/
def cmpN (a b : Int) : Int := if a < b then -1 else if b < a then 1 else 0
set_option maxHeartbeats 1000000 in
theorem nanI_any (x : Int) (w : World) : Calls Tryd.prog 63 #[.int .i64 x] w fun e w' => e = .returned (.bool false) ∧ w' = w := by
  go_enter Tryd.func63, Tryd.ntmps63
  go_wp2
  go_ret
  exact ⟨by simp, rfl⟩
set_option maxHeartbeats 1000000 in
theorem cmpN_any (x y : Int) (w : World) : Calls Tryd.prog 51 #[.int .i64 x, .int .i64 y] w fun e w' => e = .returned (.int .i64 (cmpN x y)) ∧ w' = w := by
  unfold cmpN
  by_cases h1 : x < y
  · rw [if_pos h1]
    go_enter Tryd.func51, Tryd.ntmps51
    go_wp2_with (go_at_call 63; refine (nanI_any _ _).mono ?_; rintro e w' ⟨rfl, hw⟩; obtain rfl := hw.symm; clear hw)
    go_ret
    exact ⟨rfl, rfl⟩
  · rw [if_neg h1]
    by_cases h2 : y < x
    · rw [if_pos h2]
      go_enter Tryd.func51, Tryd.ntmps51
      go_wp2_with (go_at_call 63; refine (nanI_any _ _).mono ?_; rintro e w' ⟨rfl, hw⟩; obtain rfl := hw.symm; clear hw)
      go_ret
      exact ⟨rfl, rfl⟩
    · rw [if_neg h2]
      go_enter Tryd.func51, Tryd.ntmps51
      go_wp2_with (go_at_call 63; refine (nanI_any _ _).mono ?_; rintro e w' ⟨rfl, hw⟩; obtain rfl := hw.symm; clear hw)
      go_ret
      exact ⟨rfl, rfl⟩
/-- The first of two texts that is not empty. -/
def orS (a b : ByteArray) : ByteArray := if a.toList = [] then b else a
theorem orS_cases (a b : ByteArray) : ((a.toList == []) = false ∧ orS a b = a) ∨ (a.toList = [] ∧ (b.toList == []) = false ∧ orS a b = b) ∨ (a.toList = [] ∧ b.toList = [] ∧ orS a b = b ∧ b = ⟨#[]⟩) := by
  unfold orS
  by_cases h : a.toList = []
  · by_cases g : b.toList = []
    · right; right
      refine ⟨h, g, by rw [if_pos h], ?_⟩
      apply Go.WideShapes.bytes_inj
      rw [← ByteArray.toList_eq, g]
    · right; left
      exact ⟨h, by simpa using g, by rw [if_pos h]⟩
  · left
    exact ⟨by simpa using h, by rw [if_neg h]⟩
set_option maxHeartbeats 2000000 in
theorem orS_any {w : World} {g : Nat} {a b : ByteArray} (h0 : w.cell? ⟨g, 0, none⟩ = some (.string a)) (h1 : w.cell? ⟨g, 1, none⟩ = some (.string b)) :
    Calls Tryd.prog 48 #[.slice (some ⟨g, 0, none⟩) 2 2] w fun e w' => e = .returned (.string (orS a b)) ∧ w' = w := by
  rcases orS_cases a b with ⟨t1, e⟩ | ⟨t1, t2, e⟩ | ⟨t1, t2, e, e2⟩
  all_goals
    rw [e]
    clear e
    try rw [e2]
    go_enter Tryd.func48, Tryd.ntmps48
    go_wp2
    refine wp_loop_rounds 6 ?_
    rw [rounds_succ]
    go_wp2
    try (rw [rounds_succ]; go_wp2)
    try (rw [rounds_succ]; go_wp2)
    go_ret
    exact ⟨rfl, rfl⟩
def orF (a b c d : Int) : Int := if a ≠ 0 then a else if b ≠ 0 then b else if c ≠ 0 then c else d
theorem orF_cases (a b c d : Int) : ((a != 0) = true ∧ orF a b c d = a) ∨ (a = 0 ∧ (b != 0) = true ∧ orF a b c d = b) ∨ (a = 0 ∧ b = 0 ∧ (c != 0) = true ∧ orF a b c d = c) ∨ (a = 0 ∧ b = 0 ∧ c = 0 ∧ (d != 0) = true ∧ orF a b c d = d) ∨ (a = 0 ∧ b = 0 ∧ c = 0 ∧ d = 0 ∧ orF a b c d = 0) := by
  unfold orF
  by_cases ha : a = 0
  · by_cases hb : b = 0
    · by_cases hc : c = 0
      · by_cases hd : d = 0 <;> simp [ha, hb, hc, hd]
      · simp [ha, hb, hc]
    · simp [ha, hb]
  · simp [ha]
set_option maxHeartbeats 2000000 in
theorem or_any {w : World} {g : Nat} {a b c d : Int} (h0 : w.cell? ⟨g, 0, none⟩ = some (.int .i64 a)) (h1 : w.cell? ⟨g, 1, none⟩ = some (.int .i64 b)) (h2 : w.cell? ⟨g, 2, none⟩ = some (.int .i64 c)) (h3 : w.cell? ⟨g, 3, none⟩ = some (.int .i64 d)) :
    Calls Tryd.prog 49 #[.slice (some ⟨g, 0, none⟩) 4 4] w fun e w' => e = .returned (.int .i64 (orF a b c d)) ∧ w' = w := by
  rcases orF_cases a b c d with ⟨t1, e⟩ | ⟨rfl, t2, e⟩ | ⟨rfl, rfl, t3, e⟩ | ⟨rfl, rfl, rfl, t4, e⟩ | ⟨rfl, rfl, rfl, rfl, e⟩
  all_goals
    rw [e]
    clear e
    go_enter Tryd.func49, Tryd.ntmps49
    go_wp2
    refine wp_loop_rounds 6 ?_
    rw [rounds_succ]
    go_wp2
    try (rw [rounds_succ]; go_wp2)
    try (rw [rounds_succ]; go_wp2)
    try (rw [rounds_succ]; go_wp2)
    try (rw [rounds_succ]; go_wp2)
    go_ret
    exact ⟨rfl, rfl⟩
end Go.Proofs.YtjimgjohfpcnpaaDoor
