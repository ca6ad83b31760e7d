/- The names of the errors, of the program and of the reference; is a value good? -/
import Derived.Test.YtjimgjohfpcnpaaDoorVFuns
import Derived.Deep.RegionHeldLaw
import Derived.Deep.QuietTactic
import Derived.BigQuiet
namespace Go.Proofs.YtjimgjohfpcnpaaDoor
open Go.RowKit
set_option maxRecDepth 100000
set_option linter.unusedVariables false
set_option linter.unusedSimpArgs false

def fnm : Nat → ByteArray
  | 1 => ⟨#[35, 68, 73, 86, 47, 48, 33]⟩
  | 2 => ⟨#[35, 86, 65, 76, 85, 69, 33]⟩
  | 3 => ⟨#[35, 82, 69, 70, 33]⟩
  | 4 => ⟨#[35, 78, 65, 77, 69, 63]⟩
  | 5 => ⟨#[35, 78, 85, 77, 33]⟩
  | 6 => ⟨#[35, 78, 47, 65]⟩
  | 7 => ⟨#[35, 67, 89, 67, 76, 69, 33]⟩
  | 8 => ⟨#[35, 76, 73, 78, 75, 33]⟩
  | _ => ⟨#[]⟩
/-- What an error shows. -/
def fnB (n : Int) : ByteArray := if knB n = true then fnm n.toNat else ⟨#[]⟩
/-- The names of the errors lie in the package's variable. -/
def FTab (w : World) : Prop := ∀ i, i < 9 → w.cell? ⟨3, i, none⟩ = some (.string (fnm i))
theorem FTab.kept {w w' : World} (h : FTab w) (hk : ∀ i, i < w.heap.size → w'.heap[i]? = w.heap[i]?) : FTab w' := fun i hi => by
  rw [← h i hi]
  exact World.cell?_of_block (hk _ (World.block_lt_of_cell? w _ (h i hi)))
theorem FTab.below {w w' : World} (h : FTab w) (hb : Below w.heap.size w w') : FTab w' := h.kept hb.block
theorem kn_iff (n : Int) : knB n = true ↔ n = 1 ∨ n = 2 ∨ n = 3 ∨ n = 4 ∨ n = 5 ∨ n = 6 ∨ n = 7 ∨ n = 8 := by
  simp [knB]; omega

set_option maxHeartbeats 1000000 in
theorem fname_any (n : Int) (w : World) (T : FTab w) : Calls Tryd.prog 93 #[.int .i64 n] w fun e w' => e = .returned (.string (fnB n)) ∧ w' = w := by
  cases hk : knB n
  · have e : fnB n = ⟨#[]⟩ := by simp [fnB, hk]
    rw [e]
    have K := fun u => known_any n u
    rw [hk] at K
    go_enter Tryd.func93, Tryd.ntmps93
    go_wp2_with (go_at_call 92; refine (K _).mono ?_; rintro e w' ⟨rfl, hw⟩; obtain rfl := hw.symm; clear hw)
    go_ret
    exact ⟨rfl, rfl⟩
  · have K := fun u => known_any n u
    rw [hk] at K
    have e : fnB n = fnm n.toNat := by simp [fnB, hk]
    rw [e]
    have h1 := T 1 (by decide); have h2 := T 2 (by decide); have h3 := T 3 (by decide); have h4 := T 4 (by decide)
    have h5 := T 5 (by decide); have h6 := T 6 (by decide); have h7 := T 7 (by decide); have h8 := T 8 (by decide)
    clear T e
    rw [kn_iff] at hk
    rcases hk with rfl | rfl | rfl | rfl | rfl | rfl | rfl | rfl
    all_goals
      go_enter Tryd.func93, Tryd.ntmps93
      go_wp2_with (go_at_call 92; refine (K _).mono ?_; rintro e w' ⟨rfl, hw⟩; obtain rfl := hw.symm; clear hw)
      go_ret
      exact ⟨rfl, rfl⟩
/-- The names, as the reference has them. -/
def namesV : Array Value := #[.string (fnm 0), .string (fnm 1), .string (fnm 2), .string (fnm 3), .string (fnm 4), .string (fnm 5), .string (fnm 6), .string (fnm 7), .string (fnm 8)]
def emB (s : ByteArray) : Bool := decide (s.toList = [])
theorem em_cases (s : ByteArray) : (s.toList = [] ∧ emB s = true) ∨ (¬ s.toList = [] ∧ emB s = false) := by
  by_cases h : s.toList = [] <;> simp [emB, h]
theorem boxcell {w w1 : World} {a b c : Value} (hb : Below (w.alloc (.cells #[a, b, c] 65)).heap.size (w.alloc (.cells #[a, b, c] 65)) w1) :
    (∀ o, (w1.alloc o).cell? ⟨w.heap.size, 0, none⟩ = some a ∧ (w1.alloc o).cell? ⟨w.heap.size, 1, none⟩ = some b ∧ (w1.alloc o).cell? ⟨w.heap.size, 2, none⟩ = some c)
      ∧ (w1.cell? ⟨w.heap.size, 0, none⟩ = some a ∧ w1.cell? ⟨w.heap.size, 1, none⟩ = some b ∧ w1.cell? ⟨w.heap.size, 2, none⟩ = some c) := by
  have h0 : w1.heap[w.heap.size]? = some (.cells #[a, b, c] 65 (0, 0)) := by
    rw [hb.block _ (by simp)]
    exact heap_alloc_new w _
  refine ⟨fun o => ?_, by simp [World.cell?, h0]⟩
  have h1 : (w1.alloc o).heap[w.heap.size]? = some (.cells #[a, b, c] 65 (0, 0)) := by
    have hz := hb.size
    simp at hz
    rw [Below.heap_alloc w1 o _ (by omega)]
    exact h0
  simp [World.cell?, h1]
theorem n0_cases (n : Int) : (n = 0 ∧ (n == 0) = true) ∨ (¬ n = 0 ∧ (n == 0) = false) := by
  by_cases h : n = 0 <;> simp [h]
theorem n01_cases (n : Int) : (n = 0 ∧ ((n == 0) || (n == 1)) = true) ∨ (n = 1 ∧ ((n == 0) || (n == 1)) = true) ∨ ((n == 0) = false ∧ (n == 1) = false) := by
  by_cases h : n = 0
  · simp [h]
  · by_cases g : n = 1 <;> simp [h, g]
def lenB (s : ByteArray) : Bool := decide (s.size ≤ 255)
theorem len_cases (s : ByteArray) : ((s.size : Int) ≤ 255 ∧ lenB s = true) ∨ (¬ (s.size : Int) ≤ 255 ∧ lenB s = false) := by
  by_cases h : s.size ≤ 255
  · left; simp [lenB, h]; omega
  · right; simp [lenB, h]; omega
theorem kn_cases (n : Int) : (1 ≤ n ∧ n ≤ 8 ∧ knB n = true) ∨ (¬ 1 ≤ n ∧ knB n = false) ∨ (1 ≤ n ∧ ¬ n ≤ 8 ∧ knB n = false) := by
  by_cases h : 1 ≤ n <;> by_cases g : n ≤ 8 <;> simp [knB, h, g]
end Go.Proofs.YtjimgjohfpcnpaaDoor
