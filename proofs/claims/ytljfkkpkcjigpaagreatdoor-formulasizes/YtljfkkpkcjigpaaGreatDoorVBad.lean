import Derived.Test.YtljfkkpkcjigpaaGreatDoorVFuns
import Derived.Deep.RegionHeldLaw
import Derived.Deep.QuietTactic
import Derived.BigQuiet
set_option linter.unusedVariables false
set_option linter.unusedSimpArgs false
/- The names of the errors, of the program and of the reference; is a value good? -/
namespace Go.Proofs.YtljfkkpkcjigpaaGreatDoor
open Go.RowKit
set_option maxRecDepth 100000
set_option linter.unusedVariables false
set_option linter.unusedSimpArgs false

def fnm : Nat → ByteArray
  | 1 => ⟨#[35, 68, 73, 86, 47, 48, 33]⟩
  | 2 => ⟨#[35, 86, 65, 76, 85, 69, 33]⟩
  | 3 => ⟨#[35, 82, 69, 70, 33]⟩
  | 4 => ⟨#[35, 78, 65, 77, 69, 63]⟩
  | 5 => ⟨#[35, 78, 85, 77, 33]⟩
  | 6 => ⟨#[35, 78, 47, 65]⟩
  | 7 => ⟨#[35, 67, 89, 67, 76, 69, 33]⟩
  | 8 => ⟨#[35, 76, 73, 78, 75, 33]⟩
  | _ => ⟨#[]⟩
/-- What an error shows. -/
def fnB (n : Int) : ByteArray := if knB n = true then fnm n.toNat else ⟨#[]⟩
/-- The names of the errors lie in the package's variable. -/
def FTab (w : World) : Prop := ∀ i, i < 9 → w.cell? ⟨1, i, none⟩ = some (.string (fnm i))
theorem FTab.kept {w w' : World} (h : FTab w) (hk : ∀ i, i < w.heap.size → w'.heap[i]? = w.heap[i]?) : FTab w' := fun i hi => by
  rw [← h i hi]
  exact World.cell?_of_block (hk _ (World.block_lt_of_cell? w _ (h i hi)))
theorem FTab.below {w w' : World} (h : FTab w) (hb : Below w.heap.size w w') : FTab w' := h.kept hb.block
theorem kn_iff (n : Int) : knB n = true ↔ n = 1 ∨ n = 2 ∨ n = 3 ∨ n = 4 ∨ n = 5 ∨ n = 6 ∨ n = 7 ∨ n = 8 := by
  simp [knB]; omega

set_option maxHeartbeats 1000000 in
theorem fname_any (n : Int) (w : World) (T : FTab w) : Calls Tryz.prog 147 #[.int .i64 n] w fun e w' => e = .returned (.string (fnB n)) ∧ w' = w := by
  cases hk : knB n
  · have e : fnB n = ⟨#[]⟩ := by simp [fnB, hk]
    rw [e]
    have K := fun u => known_any n u
    rw [hk] at K
    go_enter Tryz.func147, Tryz.ntmps147
    go_wp2_with (go_at_call 163; refine (K _).mono ?_; rintro e w' ⟨rfl, hw⟩; obtain rfl := hw.symm; clear hw)
    go_ret
    exact ⟨rfl, rfl⟩
  · have K := fun u => known_any n u
    rw [hk] at K
    have e : fnB n = fnm n.toNat := by simp [fnB, hk]
    rw [e]
    have h1 := T 1 (by decide); have h2 := T 2 (by decide); have h3 := T 3 (by decide); have h4 := T 4 (by decide)
    have h5 := T 5 (by decide); have h6 := T 6 (by decide); have h7 := T 7 (by decide); have h8 := T 8 (by decide)
    clear T e
    rw [kn_iff] at hk
    rcases hk with rfl | rfl | rfl | rfl | rfl | rfl | rfl | rfl
    all_goals
      go_enter Tryz.func147, Tryz.ntmps147
      go_wp2_with (go_at_call 163; refine (K _).mono ?_; rintro e w' ⟨rfl, hw⟩; obtain rfl := hw.symm; clear hw)
      go_ret
      exact ⟨rfl, rfl⟩
/-- The names, as the reference has them. -/
def namesV : Array Value := #[.string (fnm 0), .string (fnm 1), .string (fnm 2), .string (fnm 3), .string (fnm 4), .string (fnm 5), .string (fnm 6), .string (fnm 7), .string (fnm 8)]
set_option maxHeartbeats 1000000 in
theorem names_any (w : World) : Calls Tryz.prog 86 #[] w fun e w' => e = .returned (.agg namesV) ∧ Below w.heap.size w w' := by
  go_enter Tryz.func86, Tryz.ntmps86
  go_wp2
  exact bodyPost_ret (v := .agg namesV) (by simp [results, Tryz.results86, go_sem]; rfl) rfl ⟨rfl, (Below.refl _ _).alloc (Nat.le_refl _) _⟩

def emB (s : ByteArray) : Bool := decide (s.toList = [])
theorem em_cases (s : ByteArray) : (s.toList = [] ∧ emB s = true) ∨ (¬ s.toList = [] ∧ emB s = false) := by
  by_cases h : s.toList = [] <;> simp [emB, h]
theorem boxcell {w w1 : World} {a b c : Value} (hb : Below (w.alloc (.cells #[a, b, c] 23)).heap.size (w.alloc (.cells #[a, b, c] 23)) w1) :
    (∀ o, (w1.alloc o).cell? ⟨w.heap.size, 0, none⟩ = some a ∧ (w1.alloc o).cell? ⟨w.heap.size, 1, none⟩ = some b ∧ (w1.alloc o).cell? ⟨w.heap.size, 2, none⟩ = some c)
      ∧ (w1.cell? ⟨w.heap.size, 0, none⟩ = some a ∧ w1.cell? ⟨w.heap.size, 1, none⟩ = some b ∧ w1.cell? ⟨w.heap.size, 2, none⟩ = some c) := by
  have h0 : w1.heap[w.heap.size]? = some (.cells #[a, b, c] 23 (0, 0)) := by
    rw [hb.block _ (by simp)]
    exact heap_alloc_new w _
  refine ⟨fun o => ?_, by simp [World.cell?, h0]⟩
  have h1 : (w1.alloc o).heap[w.heap.size]? = some (.cells #[a, b, c] 23 (0, 0)) := by
    have hz := hb.size
    simp at hz
    rw [Below.heap_alloc w1 o _ (by omega)]
    exact h0
  simp [World.cell?, h1]
theorem n0_cases (n : Int) : (n = 0 ∧ (n == 0) = true) ∨ (¬ n = 0 ∧ (n == 0) = false) := by
  by_cases h : n = 0 <;> simp [h]
theorem n01_cases (n : Int) : (n = 0 ∧ ((n == 0) || (n == 1)) = true) ∨ (n = 1 ∧ ((n == 0) || (n == 1)) = true) ∨ ((n == 0) = false ∧ (n == 1) = false) := by
  by_cases h : n = 0
  · simp [h]
  · by_cases g : n = 1 <;> simp [h, g]
def lenB (s : ByteArray) : Bool := decide (s.size ≤ 255)
theorem len_cases (s : ByteArray) : ((s.size : Int) ≤ 255 ∧ lenB s = true) ∨ (¬ (s.size : Int) ≤ 255 ∧ lenB s = false) := by
  by_cases h : s.size ≤ 255
  · left; simp [lenB, h]; omega
  · right; simp [lenB, h]; omega
theorem kn_cases (n : Int) : (1 ≤ n ∧ n ≤ 8 ∧ knB n = true) ∨ (¬ 1 ≤ n ∧ knB n = false) ∨ (1 ≤ n ∧ ¬ n ≤ 8 ∧ knB n = false) := by
  by_cases h : 1 ≤ n <;> by_cases g : n ≤ 8 <;> simp [knB, h, g]
set_option maxHeartbeats 1000000 in
theorem rtext_blank (n : Int) (s : ByteArray) (w : World) : Calls Tryz.prog 68 #[.agg #[.int .i64 0, .int .i64 n, .string s]] w fun e w' => e = .returned (.string ⟨#[]⟩) ∧ Below w.heap.size w w' := by
  have HB : Hid (Below w.heap.size w (w.alloc (.cells #[.int .i64 0, .int .i64 n, .string s] 23))) := (Below.refl _ _).alloc (Nat.le_refl _) _
  skip
  all_goals
    go_enter Tryz.func68, Tryz.ntmps68
    go_wp2
    all_goals (go_ret; exact ⟨rfl, HB.out⟩)
set_option maxHeartbeats 1000000 in
theorem rtext_num (n : Int) (s : ByteArray) (w : World) (X : ByteArray) (P : ∀ u : World, Below w.heap.size w u → Calls Tryz.prog 111 #[.int .i64 n] u fun e w' => e = .returned (.string X) ∧ Below u.heap.size u w') : Calls Tryz.prog 68 #[.agg #[.int .i64 1, .int .i64 n, .string s]] w fun e w' => e = .returned (.string X) ∧ Below w.heap.size w w' := by
  have HB : Hid (Below w.heap.size w (w.alloc (.cells #[.int .i64 1, .int .i64 n, .string s] 23))) := (Below.refl _ _).alloc (Nat.le_refl _) _
  skip
  all_goals
    go_enter Tryz.func68, Tryz.ntmps68
    go_wp2_with (first | (go_at_call 111; refine (P _ HB.out).mono ?_; rintro e w2 ⟨rfl, hb⟩; have HB2 : Hid (Below w.heap.size w w2) := bel_step HB.out hb; clear hb))
    all_goals (go_ret; exact ⟨rfl, HB2.out⟩)
set_option maxHeartbeats 1000000 in
theorem rtext_str (n : Int) (s : ByteArray) (w : World) : Calls Tryz.prog 68 #[.agg #[.int .i64 2, .int .i64 n, .string s]] w fun e w' => e = .returned (.string s) ∧ Below w.heap.size w w' := by
  have HB : Hid (Below w.heap.size w (w.alloc (.cells #[.int .i64 2, .int .i64 n, .string s] 23))) := (Below.refl _ _).alloc (Nat.le_refl _) _
  skip
  all_goals
    go_enter Tryz.func68, Tryz.ntmps68
    go_wp2
    all_goals (go_ret; exact ⟨rfl, HB.out⟩)
set_option maxHeartbeats 1000000 in
theorem rtext_bool (n : Int) (s : ByteArray) (w : World) : Calls Tryz.prog 68 #[.agg #[.int .i64 3, .int .i64 n, .string s]] w fun e w' => e = .returned (.string (if (n != 0) = true then ⟨#[84, 82, 85, 69]⟩ else ⟨#[70, 65, 76, 83, 69]⟩)) ∧ Below w.heap.size w w' := by
  have HB : Hid (Below w.heap.size w (w.alloc (.cells #[.int .i64 3, .int .i64 n, .string s] 23))) := (Below.refl _ _).alloc (Nat.le_refl _) _
  rcases n0_cases n with ⟨rfl, h⟩ | ⟨hn, h⟩
  all_goals try (have h2 : (n != 0) = true := by simp [hn])
  all_goals try rw [h2]
  all_goals
    go_enter Tryz.func68, Tryz.ntmps68
    go_wp2
    all_goals (go_ret; exact ⟨by first | rfl | (simp; done) | (simp; assumption), HB.out⟩)
set_option maxHeartbeats 1000000 in
theorem rtext_none (k n : Int) (s : ByteArray) (w : World) (h0 : (k == 0) = false) (h1 : (k == 1) = false) (h2 : (k == 2) = false) (h3 : (k == 3) = false) (h4 : (k == 4) = false) : Calls Tryz.prog 68 #[.agg #[.int .i64 k, .int .i64 n, .string s]] w fun e w' => e = .returned (.string ⟨#[]⟩) ∧ Below w.heap.size w w' := by
  have HB : Hid (Below w.heap.size w (w.alloc (.cells #[.int .i64 k, .int .i64 n, .string s] 23))) := (Below.refl _ _).alloc (Nat.le_refl _) _
  skip
  all_goals
    go_enter Tryz.func68, Tryz.ntmps68
    go_wp2
    all_goals (go_ret; exact ⟨rfl, HB.out⟩)
end Go.Proofs.YtljfkkpkcjigpaaGreatDoor

/- The reference's functions at errors: regions that draw their order. -/
namespace Go.Proofs.YtljfkkpkcjigpaaGreatDoor
open Go.RowKit
set_option maxRecDepth 100000
set_option linter.unusedVariables false
set_option linter.unusedSimpArgs false
theorem box_below (w : World) (o : Obj) : Below w.heap.size w (w.alloc o) := (Below.refl _ _).alloc (Nat.le_refl _) _
theorem bel_drewN {w w1 : World} (h : Below w.heap.size w w1) (n : Nat) : Below w.heap.size w (w1.drewN n) := h.trans ((drewN_below w1 n).mono h.size)
theorem ixn0 (W : World) : (Instr.index 113 (.agg namesV) (.int .i64 0)).run Tryz.prog W = .ok (.string (fnm 0)) W := by kernel_rfl
theorem ixn1 (W : World) : (Instr.index 113 (.agg namesV) (.int .i64 1)).run Tryz.prog W = .ok (.string (fnm 1)) W := by kernel_rfl
theorem ixn2 (W : World) : (Instr.index 113 (.agg namesV) (.int .i64 2)).run Tryz.prog W = .ok (.string (fnm 2)) W := by kernel_rfl
theorem ixn3 (W : World) : (Instr.index 113 (.agg namesV) (.int .i64 3)).run Tryz.prog W = .ok (.string (fnm 3)) W := by kernel_rfl
theorem ixn4 (W : World) : (Instr.index 113 (.agg namesV) (.int .i64 4)).run Tryz.prog W = .ok (.string (fnm 4)) W := by kernel_rfl
theorem ixn5 (W : World) : (Instr.index 113 (.agg namesV) (.int .i64 5)).run Tryz.prog W = .ok (.string (fnm 5)) W := by kernel_rfl
theorem ixn6 (W : World) : (Instr.index 113 (.agg namesV) (.int .i64 6)).run Tryz.prog W = .ok (.string (fnm 6)) W := by kernel_rfl
theorem ixn7 (W : World) : (Instr.index 113 (.agg namesV) (.int .i64 7)).run Tryz.prog W = .ok (.string (fnm 7)) W := by kernel_rfl
theorem ixn8 (W : World) : (Instr.index 113 (.agg namesV) (.int .i64 8)).run Tryz.prog W = .ok (.string (fnm 8)) W := by kernel_rfl
theorem index_names (i : Nat) (h : i < 9) (W : World) : (Instr.index 113 (.agg namesV) (.int .i64 (i : Int))).run Tryz.prog W = .ok (.string (fnm i)) W := by
  have h' : i = 0 ∨ i = 1 ∨ i = 2 ∨ i = 3 ∨ i = 4 ∨ i = 5 ∨ i = 6 ∨ i = 7 ∨ i = 8 := by omega
  rcases h' with rfl | rfl | rfl | rfl | rfl | rfl | rfl | rfl | rfl
  · exact ixn0 W
  · exact ixn1 W
  · exact ixn2 W
  · exact ixn3 W
  · exact ixn4 W
  · exact ixn5 W
  · exact ixn6 W
  · exact ixn7 W
  · exact ixn8 W
set_option maxHeartbeats 2000000 in
theorem rtext_bad (n : Int) (s : ByteArray) (w : World) : Calls Tryz.prog 68 #[.agg #[.int .i64 4, .int .i64 n, .string s]] w fun e w' => e = .returned (.string (fnB n)) ∧ Below w.heap.size w w' := by
  have HB : Hid (Below w.heap.size w (w.alloc (.cells #[.int .i64 4, .int .i64 n, .string s] 23))) := box_below w _
  rcases kn_cases n with ⟨g0, g1, h⟩ | ⟨g0, h⟩ | ⟨g0, g1, h⟩
  · have HC : Hid (∀ u : World, Below (w.alloc (.cells #[.int .i64 4, .int .i64 n, .string s] 23)).heap.size (w.alloc (.cells #[.int .i64 4, .int .i64 n, .string s] 23)) u → u.cell? ⟨w.heap.size, 1, none⟩ = some (.int .i64 n)) := fun u hu => (boxcell hu).2.2.1
    have HW : Hid (Below (w.alloc (.cells #[.int .i64 4, .int .i64 n, .string s] 23)).heap.size (w.alloc (.cells #[.int .i64 4, .int .i64 n, .string s] 23)) (w.alloc (.cells #[.int .i64 4, .int .i64 n, .string s] 23)).drew) := (Below.refl _ _).drew
    have NM := fun u => names_any u
    have e : fnB n = fnm n.toNat := by simp [fnB, h]
    rw [e]
    have IX : ∀ W : World, (Instr.index 113 (.agg namesV) (.int .i64 n)).run Tryz.prog W = .ok (.string (fnm n.toNat)) W := fun W => by
      have := index_names n.toNat (by omega) W
      rw [show ((n.toNat : Nat) : Int) = n by omega] at this
      exact this
    clear e
    go_enter Tryz.func68, Tryz.ntmps68
    go_wp2
    go_region_held_law (fun u => u.cell? ⟨w.heap.size, 1, none⟩ = some (.int .i64 n)) (exact HC.out _ HW.out) (
      (go_at_call 86; refine (NM _).mono ?_; rintro e w1 ⟨rfl, hb⟩; have HW : Hid _ := bel_step HW.out hb; clear hb))
    go_wp2
    go_ret
    exact ⟨rfl, bel1 HW.out⟩
  · have e : fnB n = ⟨#[]⟩ := by simp [fnB, h]
    rw [e]
    go_enter Tryz.func68, Tryz.ntmps68
    go_wp2
    go_ret
    exact ⟨rfl, HB.out⟩
  · have e : fnB n = ⟨#[]⟩ := by simp [fnB, h]
    rw [e]
    go_enter Tryz.func68, Tryz.ntmps68
    go_wp2
    go_ret
    exact ⟨rfl, HB.out⟩
end Go.Proofs.YtljfkkpkcjigpaaGreatDoor
