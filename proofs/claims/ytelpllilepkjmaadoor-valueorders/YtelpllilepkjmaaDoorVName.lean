/- The names of the errors, of the program and of the reference; is a value good? -/
import Derived.Test.YtelpllilepkjmaaDoorVFuns
import Derived.Deep.RegionHeldLaw
import Derived.Deep.QuietTactic
import Derived.BigQuiet
namespace Go.Proofs.YtelpllilepkjmaaDoor
open Go.RowKit
set_option maxRecDepth 100000
set_option linter.unusedVariables false
set_option linter.unusedSimpArgs false

def fnm : Nat → ByteArray
  | 1 => ⟨#[35, 68, 73, 86, 47, 48, 33]⟩
  | 2 => ⟨#[35, 86, 65, 76, 85, 69, 33]⟩
  | 3 => ⟨#[35, 82, 69, 70, 33]⟩
  | 4 => ⟨#[35, 78, 65, 77, 69, 63]⟩
  | 5 => ⟨#[35, 78, 85, 77, 33]⟩
  | 6 => ⟨#[35, 78, 47, 65]⟩
  | 7 => ⟨#[35, 67, 89, 67, 76, 69, 33]⟩
  | 8 => ⟨#[35, 76, 73, 78, 75, 33]⟩
  | _ => ⟨#[]⟩
/-- What an error shows. -/
def fnB (n : Int) : ByteArray := if knB n = true then fnm n.toNat else ⟨#[]⟩
/-- The names of the errors lie in the package's variable. -/
def FTab (w : World) : Prop := ∀ i, i < 9 → w.cell? ⟨0, i, none⟩ = some (.string (fnm i))
theorem FTab.kept {w w' : World} (h : FTab w) (hk : ∀ i, i < w.heap.size → w'.heap[i]? = w.heap[i]?) : FTab w' := fun i hi => by
  rw [← h i hi]
  exact World.cell?_of_block (hk _ (World.block_lt_of_cell? w _ (h i hi)))
theorem FTab.below {w w' : World} (h : FTab w) (hb : Below w.heap.size w w') : FTab w' := h.kept hb.block
theorem kn_iff (n : Int) : knB n = true ↔ n = 1 ∨ n = 2 ∨ n = 3 ∨ n = 4 ∨ n = 5 ∨ n = 6 ∨ n = 7 ∨ n = 8 := by
  simp [knB]; omega

set_option maxHeartbeats 1000000 in
theorem fname_any (n : Int) (w : World) (T : FTab w) : Calls Tryd.prog 46 #[.int .i64 n] w fun e w' => e = .returned (.string (fnB n)) ∧ w' = w := by
  cases hk : knB n
  · have e : fnB n = ⟨#[]⟩ := by simp [fnB, hk]
    rw [e]
    have K := fun u => known_any n u
    rw [hk] at K
    go_enter Tryd.func46, Tryd.ntmps46
    go_wp2_with (go_at_call 42; refine (K _).mono ?_; rintro e w' ⟨rfl, hw⟩; obtain rfl := hw.symm; clear hw)
    go_ret
    exact ⟨rfl, rfl⟩
  · have K := fun u => known_any n u
    rw [hk] at K
    have e : fnB n = fnm n.toNat := by simp [fnB, hk]
    rw [e]
    have h1 := T 1 (by decide); have h2 := T 2 (by decide); have h3 := T 3 (by decide); have h4 := T 4 (by decide)
    have h5 := T 5 (by decide); have h6 := T 6 (by decide); have h7 := T 7 (by decide); have h8 := T 8 (by decide)
    clear T e
    rw [kn_iff] at hk
    rcases hk with rfl | rfl | rfl | rfl | rfl | rfl | rfl | rfl
    all_goals
      go_enter Tryd.func46, Tryd.ntmps46
      go_wp2_with (go_at_call 42; refine (K _).mono ?_; rintro e w' ⟨rfl, hw⟩; obtain rfl := hw.symm; clear hw)
      go_ret
      exact ⟨rfl, rfl⟩
/-- The names, as the reference has them. -/
def namesV : Array Value := #[.string (fnm 0), .string (fnm 1), .string (fnm 2), .string (fnm 3), .string (fnm 4), .string (fnm 5), .string (fnm 6), .string (fnm 7), .string (fnm 8)]
set_option maxHeartbeats 1000000 in
theorem names_any (w : World) : Calls Tryd.prog 48 #[] w fun e w' => e = .returned (.agg namesV) ∧ Below w.heap.size w w' := by
  go_enter Tryd.func48, Tryd.ntmps48
  go_wp2
  exact bodyPost_ret (v := .agg namesV) (by simp [results, Tryd.results48, go_sem]; rfl) rfl ⟨rfl, (Below.refl _ _).alloc (Nat.le_refl _) _⟩

def emB (s : ByteArray) : Bool := decide (s.toList = [])
theorem em_cases (s : ByteArray) : (s.toList = [] ∧ emB s = true) ∨ (¬ s.toList = [] ∧ emB s = false) := by
  by_cases h : s.toList = [] <;> simp [emB, h]
theorem boxcell {w w1 : World} {a b c : Value} (hb : Below (w.alloc (.cells #[a, b, c] 23)).heap.size (w.alloc (.cells #[a, b, c] 23)) w1) :
    (∀ o, (w1.alloc o).cell? ⟨w.heap.size, 0, none⟩ = some a ∧ (w1.alloc o).cell? ⟨w.heap.size, 1, none⟩ = some b ∧ (w1.alloc o).cell? ⟨w.heap.size, 2, none⟩ = some c)
      ∧ (w1.cell? ⟨w.heap.size, 0, none⟩ = some a ∧ w1.cell? ⟨w.heap.size, 1, none⟩ = some b ∧ w1.cell? ⟨w.heap.size, 2, none⟩ = some c) := by
  have h0 : w1.heap[w.heap.size]? = some (.cells #[a, b, c] 23 (0, 0)) := by
    rw [hb.block _ (by simp)]
    exact heap_alloc_new w _
  refine ⟨fun o => ?_, by simp [World.cell?, h0]⟩
  have h1 : (w1.alloc o).heap[w.heap.size]? = some (.cells #[a, b, c] 23 (0, 0)) := by
    have hz := hb.size
    simp at hz
    rw [Below.heap_alloc w1 o _ (by omega)]
    exact h0
  simp [World.cell?, h1]
theorem n0_cases (n : Int) : (n = 0 ∧ (n == 0) = true) ∨ (¬ n = 0 ∧ (n == 0) = false) := by
  by_cases h : n = 0 <;> simp [h]
theorem n01_cases (n : Int) : (n = 0 ∧ ((n == 0) || (n == 1)) = true) ∨ (n = 1 ∧ ((n == 0) || (n == 1)) = true) ∨ ((n == 0) = false ∧ (n == 1) = false) := by
  by_cases h : n = 0
  · simp [h]
  · by_cases g : n = 1 <;> simp [h, g]
def lenB (s : ByteArray) : Bool := decide (s.size ≤ 255)
theorem len_cases (s : ByteArray) : ((s.size : Int) ≤ 255 ∧ lenB s = true) ∨ (¬ (s.size : Int) ≤ 255 ∧ lenB s = false) := by
  by_cases h : s.size ≤ 255
  · left; simp [lenB, h]; omega
  · right; simp [lenB, h]; omega
set_option maxHeartbeats 1000000 in
theorem vgood_blank (n : Int) (s : ByteArray) (w : World) : Calls Tryd.prog 14 #[.agg #[.int .i64 0, .int .i64 n, .string s]] w fun e w' => e = .returned (.bool ((n == 0) && emB s)) ∧ Below w.heap.size w w' := by
  rcases em_cases s with ⟨he, h⟩ | ⟨he, h⟩ <;> rw [h]
  all_goals rcases n0_cases n with ⟨rfl, h⟩ | ⟨hn, h⟩ <;> rw [h]
  all_goals
    have ta46 := ta_46_46
    go_enter Tryd.func14, Tryd.ntmps14
    go_wp2_with (first | (go_at_call 35; refine (kind_blank _ _ _).mono ?_; rintro e w1 ⟨rfl, hb⟩; have HB : Hid (Below w.heap.size w w1) := bel1 hb; obtain ⟨hbc, hb0, hb1, hb2⟩ := boxcell hb; clear hb))
    all_goals (go_ret; exact ⟨by first | rfl | (simp; done) | (simp; assumption), bel_alloc HB.out _⟩)
set_option maxHeartbeats 1000000 in
theorem vgood_num (n : Int) (s : ByteArray) (w : World) : Calls Tryd.prog 14 #[.agg #[.int .i64 1, .int .i64 n, .string s]] w fun e w' => e = .returned (.bool (emB s && gd n)) ∧ Below w.heap.size w w' := by
  rcases em_cases s with ⟨he, h⟩ | ⟨he, h⟩ <;> rw [h]
  all_goals
    have ta46 := ta_47_46
    have ta47 := ta_47_47
    go_enter Tryd.func14, Tryd.ntmps14
    go_wp2_with (first | (go_at_call 35; refine (kind_num _ _ _).mono ?_; rintro e w1 ⟨rfl, hb⟩; have HB : Hid (Below w.heap.size w w1) := bel1 hb; obtain ⟨hbc, hb0, hb1, hb2⟩ := boxcell hb; clear hb) | (go_at_call 41; refine (good_any _ _).mono ?_; rintro e w' ⟨rfl, hw⟩; obtain rfl := hw.symm; clear hw))
    all_goals (go_ret; exact ⟨by first | rfl | (simp; done) | (simp; assumption), HB.out⟩)
set_option maxHeartbeats 1000000 in
theorem vgood_str (n : Int) (s : ByteArray) (w : World) : Calls Tryd.prog 14 #[.agg #[.int .i64 2, .int .i64 n, .string s]] w fun e w' => e = .returned (.bool ((n == 0) && lenB s)) ∧ Below w.heap.size w w' := by
  rcases len_cases s with ⟨he, h⟩ | ⟨he, h⟩ <;> rw [h]
  all_goals rcases n0_cases n with ⟨rfl, h⟩ | ⟨hn, h⟩ <;> rw [h]
  all_goals
    have ta46 := ta_48_46
    have ta47 := ta_48_47
    have ta48 := ta_48_48
    go_enter Tryd.func14, Tryd.ntmps14
    go_wp2_with (first | (go_at_call 35; refine (kind_str _ _ _).mono ?_; rintro e w1 ⟨rfl, hb⟩; have HB : Hid (Below w.heap.size w w1) := bel1 hb; obtain ⟨hbc, hb0, hb1, hb2⟩ := boxcell hb; clear hb))
    all_goals (go_ret; exact ⟨by first | rfl | (simp; done) | (simp; assumption), HB.out⟩)
set_option maxHeartbeats 1000000 in
theorem vgood_bool (n : Int) (s : ByteArray) (w : World) (b : Bool) (KB : ∀ u : World, Calls Tryd.prog 35 #[.agg #[.int .i64 3, .int .i64 n, .string s]] u fun e w' => e = .returned (.iface 51 (.bool b)) ∧ Below u.heap.size u w') : Calls Tryd.prog 14 #[.agg #[.int .i64 3, .int .i64 n, .string s]] w fun e w' => e = .returned (.bool (emB s && ((n == 0) || (n == 1)))) ∧ Below w.heap.size w w' := by
  rcases em_cases s with ⟨he, h⟩ | ⟨he, h⟩ <;> rw [h]
  all_goals rcases n01_cases n with ⟨rfl, h⟩ | ⟨rfl, h⟩ | ⟨g0, g1⟩ <;> (first | rw [h] | rw [g0, g1])
  all_goals
    have ta46 := ta_51_46
    have ta47 := ta_51_47
    have ta48 := ta_51_48
    have ta51 := ta_51_51
    go_enter Tryd.func14, Tryd.ntmps14
    go_wp2_with (first | (go_at_call 35; refine (KB _).mono ?_; rintro e w1 ⟨rfl, hb⟩; have HB : Hid (Below w.heap.size w w1) := bel1 hb; obtain ⟨hbc, hb0, hb1, hb2⟩ := boxcell hb; clear hb))
    all_goals (go_ret; exact ⟨by first | rfl | (simp; done) | (simp; assumption), HB.out⟩)
set_option maxHeartbeats 1000000 in
theorem vgood_bad (n : Int) (s : ByteArray) (w : World) : Calls Tryd.prog 14 #[.agg #[.int .i64 4, .int .i64 n, .string s]] w fun e w' => e = .returned (.bool (emB s && knB n)) ∧ Below w.heap.size w w' := by
  rcases em_cases s with ⟨he, h⟩ | ⟨he, h⟩ <;> rw [h]
  all_goals
    have ta46 := ta_53_46
    have ta47 := ta_53_47
    have ta48 := ta_53_48
    have ta51 := ta_53_51
    have ta53 := ta_53_53
    go_enter Tryd.func14, Tryd.ntmps14
    go_wp2_with (first | (go_at_call 35; refine (kind_bad _ _ _).mono ?_; rintro e w1 ⟨rfl, hb⟩; have HB : Hid (Below w.heap.size w w1) := bel1 hb; obtain ⟨hbc, hb0, hb1, hb2⟩ := boxcell hb; clear hb) | (go_at_call 42; refine (known_any _ _).mono ?_; rintro e w' ⟨rfl, hw⟩; obtain rfl := hw.symm; clear hw))
    all_goals (go_ret; exact ⟨by first | rfl | (simp; done) | (simp; assumption), HB.out⟩)
set_option maxHeartbeats 1000000 in
theorem rgood_blank (n : Int) (s : ByteArray) (w : World) : Calls Tryd.prog 15 #[.agg #[.int .i64 0, .int .i64 n, .string s]] w fun e w' => e = .returned (.bool ((n == 0) && emB s)) ∧ Below w.heap.size w w' := by
  have HB : Hid (Below w.heap.size w (w.alloc (.cells #[.int .i64 0, .int .i64 n, .string s] 23))) := (Below.refl _ _).alloc (Nat.le_refl _) _
  rcases em_cases s with ⟨he, h⟩ | ⟨he, h⟩ <;> rw [h]
  all_goals rcases n0_cases n with ⟨rfl, h⟩ | ⟨hn, h⟩ <;> rw [h]
  all_goals
    go_enter Tryd.func15, Tryd.ntmps15
    go_wp2
    all_goals (go_ret; exact ⟨by first | rfl | (simp; done) | (simp; assumption), HB.out⟩)
set_option maxHeartbeats 1000000 in
theorem rgood_num (n : Int) (s : ByteArray) (w : World) : Calls Tryd.prog 15 #[.agg #[.int .i64 1, .int .i64 n, .string s]] w fun e w' => e = .returned (.bool (emB s && gd n)) ∧ Below w.heap.size w w' := by
  have HB : Hid (Below w.heap.size w (w.alloc (.cells #[.int .i64 1, .int .i64 n, .string s] 23))) := (Below.refl _ _).alloc (Nat.le_refl _) _
  rcases em_cases s with ⟨he, h⟩ | ⟨he, h⟩ <;> rw [h]
  all_goals cases hg : gd n
  all_goals
    go_enter Tryd.func15, Tryd.ntmps15
    go_wp2_with (first | (go_at_call 43; refine (rgood_any _ _).mono ?_; rintro e w' ⟨rfl, hw⟩; obtain rfl := hw.symm; clear hw; rw [hg]))
    all_goals (go_ret; exact ⟨by first | rfl | (simp; done) | (simp; assumption), HB.out⟩)
set_option maxHeartbeats 1000000 in
theorem rgood_str (n : Int) (s : ByteArray) (w : World) : Calls Tryd.prog 15 #[.agg #[.int .i64 2, .int .i64 n, .string s]] w fun e w' => e = .returned (.bool ((n == 0) && lenB s)) ∧ Below w.heap.size w w' := by
  have HB : Hid (Below w.heap.size w (w.alloc (.cells #[.int .i64 2, .int .i64 n, .string s] 23))) := (Below.refl _ _).alloc (Nat.le_refl _) _
  rcases len_cases s with ⟨he, h⟩ | ⟨he, h⟩ <;> rw [h]
  all_goals rcases n0_cases n with ⟨rfl, h⟩ | ⟨hn, h⟩ <;> rw [h]
  all_goals
    go_enter Tryd.func15, Tryd.ntmps15
    go_wp2
    all_goals (go_ret; exact ⟨by first | rfl | (simp; done) | (simp; assumption), HB.out⟩)
set_option maxHeartbeats 1000000 in
theorem rgood_bool (n : Int) (s : ByteArray) (w : World) : Calls Tryd.prog 15 #[.agg #[.int .i64 3, .int .i64 n, .string s]] w fun e w' => e = .returned (.bool (emB s && ((n == 0) || (n == 1)))) ∧ Below w.heap.size w w' := by
  have HB : Hid (Below w.heap.size w (w.alloc (.cells #[.int .i64 3, .int .i64 n, .string s] 23))) := (Below.refl _ _).alloc (Nat.le_refl _) _
  rcases em_cases s with ⟨he, h⟩ | ⟨he, h⟩ <;> rw [h]
  all_goals rcases n01_cases n with ⟨rfl, h⟩ | ⟨rfl, h⟩ | ⟨g0, g1⟩ <;> (first | rw [h] | rw [g0, g1])
  all_goals
    go_enter Tryd.func15, Tryd.ntmps15
    go_wp2
    all_goals (go_ret; exact ⟨by first | rfl | (simp; done) | (simp; assumption), HB.out⟩)
theorem kn_cases (n : Int) : (1 ≤ n ∧ n ≤ 8 ∧ knB n = true) ∨ (¬ 1 ≤ n ∧ knB n = false) ∨ (1 ≤ n ∧ ¬ n ≤ 8 ∧ knB n = false) := by
  by_cases h : 1 ≤ n <;> by_cases g : n ≤ 8 <;> simp [knB, h, g]
set_option maxHeartbeats 1000000 in
theorem rgood_bad (n : Int) (s : ByteArray) (w : World) : Calls Tryd.prog 15 #[.agg #[.int .i64 4, .int .i64 n, .string s]] w fun e w' => e = .returned (.bool (emB s && knB n)) ∧ Below w.heap.size w w' := by
  have HB : Hid (Below w.heap.size w (w.alloc (.cells #[.int .i64 4, .int .i64 n, .string s] 23))) := (Below.refl _ _).alloc (Nat.le_refl _) _
  rcases em_cases s with ⟨he, h⟩ | ⟨he, h⟩ <;> rw [h]
  all_goals rcases kn_cases n with ⟨g0, g1, h⟩ | ⟨g0, h⟩ | ⟨g0, g1, h⟩ <;> rw [h]
  all_goals
    go_enter Tryd.func15, Tryd.ntmps15
    go_wp2
    all_goals (go_ret; exact ⟨by first | rfl | (simp; done) | (simp; assumption), HB.out⟩)
set_option maxHeartbeats 1000000 in
theorem rgood_none (k n : Int) (s : ByteArray) (w : World) (h0 : (k == 0) = false) (h1 : (k == 1) = false) (h2 : (k == 2) = false) (h3 : (k == 3) = false) (h4 : (k == 4) = false) : Calls Tryd.prog 15 #[.agg #[.int .i64 k, .int .i64 n, .string s]] w fun e w' => e = .returned (.bool false) ∧ Below w.heap.size w w' := by
  have HB : Hid (Below w.heap.size w (w.alloc (.cells #[.int .i64 k, .int .i64 n, .string s] 23))) := (Below.refl _ _).alloc (Nat.le_refl _) _
  skip
  all_goals
    go_enter Tryd.func15, Tryd.ntmps15
    go_wp2
    all_goals (go_ret; exact ⟨by first | rfl | (simp; done) | (simp; assumption), HB.out⟩)
set_option maxHeartbeats 1000000 in
theorem rtonum_blank (n : Int) (s : ByteArray) (w : World) : Calls Tryd.prog 9 #[.agg #[.int .i64 0, .int .i64 n, .string s]] w fun e w' => e = .returned (.tuple #[.int .i64 (0), .int .i64 (0)]) ∧ Below w.heap.size w w' := by
  have HB : Hid (Below w.heap.size w (w.alloc (.cells #[.int .i64 0, .int .i64 n, .string s] 23))) := (Below.refl _ _).alloc (Nat.le_refl _) _
  skip
  all_goals
    go_enter Tryd.func9, Tryd.ntmps9
    go_wp2
    all_goals (go_ret2; exact ⟨rfl, HB.out⟩)
set_option maxHeartbeats 1000000 in
theorem rtonum_num (n : Int) (s : ByteArray) (w : World) : Calls Tryd.prog 9 #[.agg #[.int .i64 1, .int .i64 n, .string s]] w fun e w' => e = .returned (.tuple #[.int .i64 (n), .int .i64 (0)]) ∧ Below w.heap.size w w' := by
  have HB : Hid (Below w.heap.size w (w.alloc (.cells #[.int .i64 1, .int .i64 n, .string s] 23))) := (Below.refl _ _).alloc (Nat.le_refl _) _
  skip
  all_goals
    go_enter Tryd.func9, Tryd.ntmps9
    go_wp2
    all_goals (go_ret2; exact ⟨rfl, HB.out⟩)
set_option maxHeartbeats 1000000 in
theorem rtonum_none (k n : Int) (s : ByteArray) (w : World) (h0 : (k == 0) = false) (h1 : (k == 1) = false) (h2 : (k == 2) = false) (h3 : (k == 3) = false) (h4 : (k == 4) = false) : Calls Tryd.prog 9 #[.agg #[.int .i64 k, .int .i64 n, .string s]] w fun e w' => e = .returned (.tuple #[.int .i64 (0), .int .i64 (2)]) ∧ Below w.heap.size w w' := by
  have HB : Hid (Below w.heap.size w (w.alloc (.cells #[.int .i64 k, .int .i64 n, .string s] 23))) := (Below.refl _ _).alloc (Nat.le_refl _) _
  skip
  all_goals
    go_enter Tryd.func9, Tryd.ntmps9
    go_wp2
    all_goals (go_ret2; exact ⟨rfl, HB.out⟩)
set_option maxHeartbeats 1000000 in
theorem rtonum_str (n : Int) (s : ByteArray) (w : World) (v : Int) (ok : Bool) (P : ∀ u : World, Calls Tryd.prog 38 #[.string s] u fun e w' => e = .returned (.tuple #[.int .i64 v, .bool ok]) ∧ Below u.heap.size u w') : Calls Tryd.prog 9 #[.agg #[.int .i64 2, .int .i64 n, .string s]] w fun e w' => e = .returned (.tuple #[.int .i64 (if ok = true then v else 0), .int .i64 (if ok = true then 0 else 2)]) ∧ Below w.heap.size w w' := by
  have HB : Hid (Below w.heap.size w (w.alloc (.cells #[.int .i64 2, .int .i64 n, .string s] 23))) := (Below.refl _ _).alloc (Nat.le_refl _) _
  cases ok
  all_goals
    go_enter Tryd.func9, Tryd.ntmps9
    go_wp2_with (first | (go_at_call 38; refine (P _).mono ?_; rintro e w2 ⟨rfl, hb⟩; have HB2 : Hid (Below w.heap.size w w2) := bel_step HB.out hb; clear hb))
    all_goals (go_ret2; exact ⟨rfl, HB2.out⟩)
set_option maxHeartbeats 1000000 in
theorem rtonum_bool (n : Int) (s : ByteArray) (w : World) : Calls Tryd.prog 9 #[.agg #[.int .i64 3, .int .i64 n, .string s]] w fun e w' => e = .returned (.tuple #[.int .i64 (if (n != 0) = true then 10000 else 0), .int .i64 (0)]) ∧ Below w.heap.size w w' := by
  have HB : Hid (Below w.heap.size w (w.alloc (.cells #[.int .i64 3, .int .i64 n, .string s] 23))) := (Below.refl _ _).alloc (Nat.le_refl _) _
  rcases n0_cases n with ⟨rfl, h⟩ | ⟨hn, h⟩
  all_goals try (have h2 : (n != 0) = true := by simp [hn])
  all_goals try rw [h2]
  all_goals
    go_enter Tryd.func9, Tryd.ntmps9
    go_wp2
    all_goals (go_ret2; exact ⟨by first | rfl | (simp; done) | (simp; assumption), HB.out⟩)
set_option maxHeartbeats 1000000 in
theorem rtobool_blank (n : Int) (s : ByteArray) (w : World) : Calls Tryd.prog 13 #[.agg #[.int .i64 0, .int .i64 n, .string s]] w fun e w' => e = .returned (.tuple #[.bool (false), .int .i64 (0)]) ∧ Below w.heap.size w w' := by
  have HB : Hid (Below w.heap.size w (w.alloc (.cells #[.int .i64 0, .int .i64 n, .string s] 23))) := (Below.refl _ _).alloc (Nat.le_refl _) _
  skip
  all_goals
    go_enter Tryd.func13, Tryd.ntmps13
    go_wp2
    all_goals (go_ret2; exact ⟨rfl, HB.out⟩)
set_option maxHeartbeats 1000000 in
theorem rtobool_num (n : Int) (s : ByteArray) (w : World) : Calls Tryd.prog 13 #[.agg #[.int .i64 1, .int .i64 n, .string s]] w fun e w' => e = .returned (.tuple #[.bool (n != 0), .int .i64 (0)]) ∧ Below w.heap.size w w' := by
  have HB : Hid (Below w.heap.size w (w.alloc (.cells #[.int .i64 1, .int .i64 n, .string s] 23))) := (Below.refl _ _).alloc (Nat.le_refl _) _
  skip
  all_goals
    go_enter Tryd.func13, Tryd.ntmps13
    go_wp2
    all_goals (go_ret2; exact ⟨rfl, HB.out⟩)
set_option maxHeartbeats 1000000 in
theorem rtobool_bool (n : Int) (s : ByteArray) (w : World) : Calls Tryd.prog 13 #[.agg #[.int .i64 3, .int .i64 n, .string s]] w fun e w' => e = .returned (.tuple #[.bool (n != 0), .int .i64 (0)]) ∧ Below w.heap.size w w' := by
  have HB : Hid (Below w.heap.size w (w.alloc (.cells #[.int .i64 3, .int .i64 n, .string s] 23))) := (Below.refl _ _).alloc (Nat.le_refl _) _
  skip
  all_goals
    go_enter Tryd.func13, Tryd.ntmps13
    go_wp2
    all_goals (go_ret2; exact ⟨rfl, HB.out⟩)
set_option maxHeartbeats 1000000 in
theorem rtobool_none (k n : Int) (s : ByteArray) (w : World) (h0 : (k == 0) = false) (h1 : (k == 1) = false) (h2 : (k == 2) = false) (h3 : (k == 3) = false) (h4 : (k == 4) = false) : Calls Tryd.prog 13 #[.agg #[.int .i64 k, .int .i64 n, .string s]] w fun e w' => e = .returned (.tuple #[.bool (false), .int .i64 (2)]) ∧ Below w.heap.size w w' := by
  have HB : Hid (Below w.heap.size w (w.alloc (.cells #[.int .i64 k, .int .i64 n, .string s] 23))) := (Below.refl _ _).alloc (Nat.le_refl _) _
  skip
  all_goals
    go_enter Tryd.func13, Tryd.ntmps13
    go_wp2
    all_goals (go_ret2; exact ⟨rfl, HB.out⟩)
set_option maxHeartbeats 1000000 in
theorem rtobool_str (n : Int) (s : ByteArray) (w : World) (v ok : Bool) (t : Int) (P : ∀ u : World, Calls Tryd.prog 40 #[.string s] u fun e w' => e = .returned (.int .i64 t) ∧ Below u.heap.size u w') (ht : (ok = true ∧ v = true ∧ t = 1) ∨ (ok = true ∧ v = false ∧ t = 0) ∨ (ok = false ∧ t = -1)) : Calls Tryd.prog 13 #[.agg #[.int .i64 2, .int .i64 n, .string s]] w fun e w' => e = .returned (.tuple #[.bool (ok && v), .int .i64 (if ok = true then 0 else 2)]) ∧ Below w.heap.size w w' := by
  have HB : Hid (Below w.heap.size w (w.alloc (.cells #[.int .i64 2, .int .i64 n, .string s] 23))) := (Below.refl _ _).alloc (Nat.le_refl _) _
  rcases ht with ⟨rfl, rfl, rfl⟩ | ⟨rfl, rfl, rfl⟩ | ⟨rfl, rfl⟩
  all_goals
    go_enter Tryd.func13, Tryd.ntmps13
    go_wp2_with (first | (go_at_call 40; refine (P _).mono ?_; rintro e w2 ⟨rfl, hb⟩; have HB2 : Hid (Below w.heap.size w w2) := bel_step HB.out hb; clear hb))
    all_goals (go_ret2; exact ⟨by simp, HB2.out⟩)
set_option maxHeartbeats 1000000 in
theorem rtext_blank (n : Int) (s : ByteArray) (w : World) : Calls Tryd.prog 17 #[.agg #[.int .i64 0, .int .i64 n, .string s]] w fun e w' => e = .returned (.string ⟨#[]⟩) ∧ Below w.heap.size w w' := by
  have HB : Hid (Below w.heap.size w (w.alloc (.cells #[.int .i64 0, .int .i64 n, .string s] 23))) := (Below.refl _ _).alloc (Nat.le_refl _) _
  skip
  all_goals
    go_enter Tryd.func17, Tryd.ntmps17
    go_wp2
    all_goals (go_ret; exact ⟨rfl, HB.out⟩)
set_option maxHeartbeats 1000000 in
theorem rtext_num (n : Int) (s : ByteArray) (w : World) (X : ByteArray) (P : ∀ u : World, Below w.heap.size w u → Calls Tryd.prog 47 #[.int .i64 n] u fun e w' => e = .returned (.string X) ∧ Below u.heap.size u w') : Calls Tryd.prog 17 #[.agg #[.int .i64 1, .int .i64 n, .string s]] w fun e w' => e = .returned (.string X) ∧ Below w.heap.size w w' := by
  have HB : Hid (Below w.heap.size w (w.alloc (.cells #[.int .i64 1, .int .i64 n, .string s] 23))) := (Below.refl _ _).alloc (Nat.le_refl _) _
  skip
  all_goals
    go_enter Tryd.func17, Tryd.ntmps17
    go_wp2_with (first | (go_at_call 47; refine (P _ HB.out).mono ?_; rintro e w2 ⟨rfl, hb⟩; have HB2 : Hid (Below w.heap.size w w2) := bel_step HB.out hb; clear hb))
    all_goals (go_ret; exact ⟨rfl, HB2.out⟩)
set_option maxHeartbeats 1000000 in
theorem rtext_str (n : Int) (s : ByteArray) (w : World) : Calls Tryd.prog 17 #[.agg #[.int .i64 2, .int .i64 n, .string s]] w fun e w' => e = .returned (.string s) ∧ Below w.heap.size w w' := by
  have HB : Hid (Below w.heap.size w (w.alloc (.cells #[.int .i64 2, .int .i64 n, .string s] 23))) := (Below.refl _ _).alloc (Nat.le_refl _) _
  skip
  all_goals
    go_enter Tryd.func17, Tryd.ntmps17
    go_wp2
    all_goals (go_ret; exact ⟨rfl, HB.out⟩)
set_option maxHeartbeats 1000000 in
theorem rtext_bool (n : Int) (s : ByteArray) (w : World) : Calls Tryd.prog 17 #[.agg #[.int .i64 3, .int .i64 n, .string s]] w fun e w' => e = .returned (.string (if (n != 0) = true then ⟨#[84, 82, 85, 69]⟩ else ⟨#[70, 65, 76, 83, 69]⟩)) ∧ Below w.heap.size w w' := by
  have HB : Hid (Below w.heap.size w (w.alloc (.cells #[.int .i64 3, .int .i64 n, .string s] 23))) := (Below.refl _ _).alloc (Nat.le_refl _) _
  rcases n0_cases n with ⟨rfl, h⟩ | ⟨hn, h⟩
  all_goals try (have h2 : (n != 0) = true := by simp [hn])
  all_goals try rw [h2]
  all_goals
    go_enter Tryd.func17, Tryd.ntmps17
    go_wp2
    all_goals (go_ret; exact ⟨by first | rfl | (simp; done) | (simp; assumption), HB.out⟩)
set_option maxHeartbeats 1000000 in
theorem rtext_none (k n : Int) (s : ByteArray) (w : World) (h0 : (k == 0) = false) (h1 : (k == 1) = false) (h2 : (k == 2) = false) (h3 : (k == 3) = false) (h4 : (k == 4) = false) : Calls Tryd.prog 17 #[.agg #[.int .i64 k, .int .i64 n, .string s]] w fun e w' => e = .returned (.string ⟨#[]⟩) ∧ Below w.heap.size w w' := by
  have HB : Hid (Below w.heap.size w (w.alloc (.cells #[.int .i64 k, .int .i64 n, .string s] 23))) := (Below.refl _ _).alloc (Nat.le_refl _) _
  skip
  all_goals
    go_enter Tryd.func17, Tryd.ntmps17
    go_wp2
    all_goals (go_ret; exact ⟨rfl, HB.out⟩)
end Go.Proofs.YtelpllilepkjmaaDoor
