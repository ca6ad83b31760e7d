/- Lines that go, plainly: where a line, and lines, stand behind a shift. -/
import Derived.Test.YteafldbmeekpbaaRows
import Derived.WalkKit
import Derived.Below
import Derived.Laws.StructEq
import Derived.Laws.RangeAny
import Derived.Deep.QuietTactic
import Derived.BigQuiet
import Derived.Deep.RegionHeldLaw
import Derived.LoopTactic
namespace Go.Proofs.Yteafldbmeekpbaa
open Go.RowKit
set_option maxRecDepth 100000
set_option linter.unusedVariables false
set_option linter.unusedSimpArgs false
def goodB (a n m : Int) : Bool := decide (1 ≤ m) && decide (m ≤ 1000) && decide (1 ≤ a) && decide (a ≤ m) && decide (n ≠ 0) && decide (-(m - a + 1) ≤ n) && decide (n ≤ m - a + 1)
theorem goodB_iff {a n m : Int} : goodB a n m = true ↔ (1 ≤ m ∧ m ≤ 1000 ∧ 1 ≤ a ∧ a ≤ m ∧ n ≠ 0 ∧ -(m - a + 1) ≤ n ∧ n ≤ m - a + 1) := by
  unfold goodB; simp; omega
/-- The first line behind those that go (At, if none goes). -/
def nxF (a n : Int) : Int := if n < 0 then a - n else a
def mvF (a n p : Int) : Int := if p < a then p else if p < nxF a n then a else p + n
def mvB (a n p : Int) : Bool := decide (p < a) || !decide (p < nxF a n)
def posB (a n m p : Int) : Bool := goodB a n m && (decide (1 ≤ p) && decide (p ≤ m)) && mvB a n p && decide (mvF a n p ≤ m)
def posF (a n m p : Int) : Int := if posB a n m p = true then mvF a n p else 0
def loF (a n lo : Int) : Int := mvF a n lo
def hiF (a n m hi : Int) : Int := min (if mvB a n hi = true then mvF a n hi else mvF a n hi - 1) m
def spB (a n m lo hi : Int) : Bool := goodB a n m && (decide (1 ≤ lo) && decide (lo ≤ m)) && (decide (1 ≤ hi) && decide (hi ≤ m)) && decide (lo ≤ hi) && decide (loF a n lo ≤ hiF a n m hi)
def spL (a n m lo hi : Int) : Int := if spB a n m lo hi = true then loF a n lo else 0
def spH (a n m lo hi : Int) : Int := if spB a n m lo hi = true then hiF a n m hi else 0
def bkN (a n m : Int) : Int := if goodB a n m = true then -n else 0
def bkA (a n m : Int) : Int := if goodB a n m = true then a else 0
def bkM (a n m : Int) : Int := if goodB a n m = true then m else 0
/-- A shift as a value, and in a box. -/
abbrev shV (a n m : Int) : Value := .agg #[.int .i64 a, .int .i64 n, .int .i64 m]
abbrev shO (a n m : Int) (t : TypeId) : Obj := .cells #[.int .i64 a, .int .i64 n, .int .i64 m] t
theorem ret_bool {a b : Bool} (h : a = b) : (Ending.returned (.bool a)) = .returned (.bool b) := by rw [h]
theorem bel1 {w w1 : World} {o : Obj} (hb : Below (w.alloc o).heap.size (w.alloc o) w1) : Below w.heap.size w w1 :=
  ((Below.refl _ _).alloc (Nat.le_refl _) o).trans (hb.mono (by simp))
theorem bel_step {w w1 w2 : World} (h : Below w.heap.size w w1) (hb : Below w1.heap.size w1 w2) : Below w.heap.size w w2 := h.trans (hb.mono h.size)
theorem bel_alloc {w w1 : World} (h : Below w.heap.size w w1) (o : Obj) : Below w.heap.size w (w1.alloc o) := h.alloc h.size _
theorem new1 {w x : World} {o : Obj} (h : Below (w.alloc o).heap.size (w.alloc o) x) : x.heap[w.heap.size]? = some o := by
  rw [h.block _ (by simp)]
  exact heap_alloc_new w o
theorem s_cells {u : World} {g : Nat} {a b c : Value} {t : TypeId} (h : u.heap[g]? = some (.cells #[a, b, c] t (0, 0))) : u.cell? ⟨g, 0, none⟩ = some a ∧ u.cell? ⟨g, 1, none⟩ = some b ∧ u.cell? ⟨g, 2, none⟩ = some c := by
  simp [World.cell?, h]
/-- A call behind a world, whatever came between. -/
def RC (W : World) (f : Nat) (args : Array Value) (r : Value) : Prop := ∀ u, Below W.heap.size W u → Calls Try.prog f args u fun e w' => e = .returned r ∧ Below W.heap.size W w'
theorem RC.of {W : World} {f : Nat} {args : Array Value} {r : Value} (h : ∀ u, Calls Try.prog f args u fun e w' => e = .returned r ∧ Below u.heap.size u w') : RC W f args r := fun u hu =>
  (h u).mono fun _ _ ⟨h1, h2⟩ => ⟨h1, bel_step hu h2⟩
set_option maxHeartbeats 1000000 in
theorem has_any (a n m p : Int) (w : World) : Calls Try.prog 20 #[shV a n m, .int .i64 p] w fun e w' => e = .returned (.bool (decide (1 ≤ p) && decide (p ≤ m))) ∧ Below w.heap.size w w' := by
  have HB : Hid (Below w.heap.size w (w.alloc (shO a n m 23))) := bel_alloc (Below.refl _ _) _
  go_enter Try.func20, Try.ntmps20
  go_wp2
  all_goals (go_ret; refine ⟨ret_bool ?_, HB.out⟩; rw [Bool.eq_iff_iff]; simp; omega)
set_option maxHeartbeats 2000000 in
theorem good_any (a n m : Int) (w : World) : Calls Try.prog 12 #[shV a n m] w fun e w' => e = .returned (.bool (goodB a n m)) ∧ Below w.heap.size w w' := by
  have HB0 : Hid (Below (w.alloc (shO a n m 23)).heap.size (w.alloc (shO a n m 23)) (w.alloc (shO a n m 23))) := Below.refl _ _
  have HB1 : Hid (Below w.heap.size w (w.alloc (shO a n m 23))) := bel_alloc (Below.refl _ _) _
  have HH : RC (w.alloc (shO a n m 23)) 20 #[shV a n m, .int .i64 a] _ := RC.of fun u => has_any a n m a u
  generalize hR : goodB a n m = R
  have HR : Hid (goodB a n m = R) := hR
  clear hR
  by_cases h1 : m < 1
  · go_enter Try.func12, Try.ntmps12
    go_wp2
    all_goals (go_ret; refine ⟨ret_bool ?_, by first | exact HB1.out | exact bel1 HB2.out⟩; rw [← HR.out]; rw [Bool.eq_iff_iff, goodB_iff]; simp; try omega)
  by_cases h2 : 1000 < m
  · go_enter Try.func12, Try.ntmps12
    go_wp2
    all_goals (go_ret; refine ⟨ret_bool ?_, by first | exact HB1.out | exact bel1 HB2.out⟩; rw [← HR.out]; rw [Bool.eq_iff_iff, goodB_iff]; simp; try omega)
  rcases Bool.eq_false_or_eq_true (decide (1 ≤ a) && decide (a ≤ m)) with hx | hx
  · rw [hx] at HH
    have hy : 1 ≤ a ∧ a ≤ m := by simpa using hx
    have hy1 := hy.1
    have hy2 := hy.2
    clear hy hx
    go_enter Try.func12, Try.ntmps12
    go_wp2_with (go_at_call 20; refine (HH _ HB0.out).mono ?_; rintro e w1 ⟨rfl, hb⟩; have HB2 : Hid (Below (w.alloc (shO a n m 23)).heap.size (w.alloc (shO a n m 23)) w1) := hb; clear hb; obtain ⟨c0, c1, c2⟩ := s_cells (new1 HB2.out))
    all_goals (go_ret; refine ⟨ret_bool ?_, by first | exact HB1.out | exact bel1 HB2.out⟩; rw [← HR.out]; rw [Bool.eq_iff_iff, goodB_iff]; simp; try omega)
  · rw [hx] at HH
    have hy : Hid (¬ (1 ≤ a ∧ a ≤ m)) := by unfold Hid; simpa using hx
    clear hx
    go_enter Try.func12, Try.ntmps12
    go_wp2_with (go_at_call 20; refine (HH _ HB0.out).mono ?_; rintro e w1 ⟨rfl, hb⟩; have HB2 : Hid (Below (w.alloc (shO a n m 23)).heap.size (w.alloc (shO a n m 23)) w1) := hb; clear hb; obtain ⟨c0, c1, c2⟩ := s_cells (new1 HB2.out))
    all_goals (have hy2 := hy.out; go_ret; refine ⟨ret_bool ?_, by first | exact HB1.out | exact bel1 HB2.out⟩; rw [← HR.out]; rw [Bool.eq_iff_iff, goodB_iff]; simp; try omega)
end Go.Proofs.Yteafldbmeekpbaa
