import Derived.Test.YtdgnodijmbeajaaGreatDoorRows
import Derived.Test.YtdgnodijmbeajaaGreatDoorAPure
import Derived.WalkKit
import Derived.Below
import Derived.Laws.StructEq
import Derived.Laws.RangeAny
import Derived.Lib.SlBytesConst
import Derived.Deep.RegionHeldLaw
import Derived.Deep.QuietTactic
import Derived.BigQuiet
import Derived.LoopTactic
/- Names of cells in memory: refs and places as values, and what the walks share. -/
namespace Go.Proofs.YtdgnodijmbeajaaGreatDoor
open Go.RowKit
set_option maxRecDepth 100000
set_option linter.unusedVariables false
set_option linter.unusedSimpArgs false
/-- A ref as a value. -/
abbrev refV (b s : ByteArray) (r c : Int) (fr fc : Bool) : Value := .agg #[.string b, .string s, .int .i64 r, .int .i64 c, .bool fr, .bool fc]
abbrev ref0 : Value := refV ⟨#[]⟩ ⟨#[]⟩ 0 0 false false
/-- A place as a value. -/
abbrev plcV (b s : ByteArray) (r c : Int) : Value := .agg #[.string b, .string s, .int .i64 r, .int .i64 c]
def In64 (n : Int) : Prop := -9223372036854775808 ≤ n ∧ n ≤ 9223372036854775807
def inB (r c : Int) : Bool := decide (1 ≤ r) && decide (r ≤ 64) && decide (1 ≤ c) && decide (c ≤ 26)
theorem ret_bool {a b : Bool} (h : a = b) : (Ending.returned (.bool a)) = .returned (.bool b) := by rw [h]
theorem run_bytes_row (w : World) (s : ByteArray) : ∃ (c : Nat) (wb : World), (convert 9 50 (.string s)).run Tryz.prog w = .ok (.slice (some ⟨w.heap.size, 0, none⟩) s.size c) wb ∧
    (∀ (k : Nat) (h : k < s.size), wb.cell? ⟨w.heap.size, k, none⟩ = some (.int .u8 (s[k].toNat : Int))) ∧ Below w.heap.size w wb := by
  refine ⟨_, _, run_bytes_of_string w 9 50 5 s Tryz.underlying9 Tryz.underlying50 Tryz.underlying5, fun k h => ?_, ?_⟩
  · have h2 : k < s.data.size := h
    rw [show w.heap.size = w.drew.heap.size from rfl, World.cell?_alloc_mark, bytesRow_at _ _ _ h2]
    rfl
  · exact ((Below.refl w.heap.size w).drew).alloc (Nat.le_refl _) _
set_option maxHeartbeats 1000000 in
theorem letter_any (c : UInt8) (w : World) : Calls Tryz.prog 89 #[.int .u8 (c.toNat : Nat)] w fun e w' => e = .returned (.bool (Ad.isL c)) ∧ w' = w := by
  have hc : c.toNat < 256 := c.toNat_lt
  unfold Ad.isL
  generalize c.toNat = n at *
  go_enter Tryz.func89, Tryz.ntmps89
  go_wp2
  all_goals (go_ret; refine ⟨ret_bool ?_, rfl⟩; rw [Bool.eq_iff_iff]; simp; omega)
set_option maxHeartbeats 1000000 in
theorem rletter_any (c : UInt8) (w : World) : Calls Tryz.prog 37 #[.int .u8 (c.toNat : Nat)] w fun e w' => e = .returned (.bool (Ad.isL c)) ∧ w' = w := by
  have hc : c.toNat < 256 := c.toNat_lt
  unfold Ad.isL
  generalize c.toNat = n at *
  go_enter Tryz.func37, Tryz.ntmps37
  go_wp2
  all_goals (go_ret; refine ⟨ret_bool ?_, rfl⟩; rw [Bool.eq_iff_iff]; simp; omega)
set_option maxHeartbeats 1000000 in
theorem digit_any (c : UInt8) (w : World) : Calls Tryz.prog 118 #[.int .u8 (c.toNat : Nat)] w fun e w' => e = .returned (.bool (Ad.isD c)) ∧ w' = w := by
  have hc : c.toNat < 256 := c.toNat_lt
  unfold Ad.isD
  generalize c.toNat = n at *
  go_enter Tryz.func118, Tryz.ntmps118
  go_wp2
  all_goals (go_ret; refine ⟨ret_bool ?_, rfl⟩; rw [Bool.eq_iff_iff]; simp; omega)
set_option maxHeartbeats 1000000 in
theorem rdigit_any (c : UInt8) (w : World) : Calls Tryz.prog 33 #[.int .u8 (c.toNat : Nat)] w fun e w' => e = .returned (.bool (Ad.isD c)) ∧ w' = w := by
  have hc : c.toNat < 256 := c.toNat_lt
  unfold Ad.isD
  generalize c.toNat = n at *
  go_enter Tryz.func33, Tryz.ntmps33
  go_wp2
  all_goals (go_ret; refine ⟨ret_bool ?_, rfl⟩; rw [Bool.eq_iff_iff]; simp; omega)
set_option maxHeartbeats 1000000 in
theorem in_any (r c : Int) (w : World) : Calls Tryz.prog 92 #[.int .i64 r, .int .i64 c] w fun e w' => e = .returned (.bool (inB r c)) ∧ w' = w := by
  unfold inB
  go_enter Tryz.func92, Tryz.ntmps92
  go_wp2
  all_goals (go_ret; refine ⟨ret_bool ?_, rfl⟩; rw [Bool.eq_iff_iff]; simp; omega)
set_option maxHeartbeats 1000000 in
theorem rin_any (r c : Int) (w : World) : Calls Tryz.prog 101 #[.int .i64 r, .int .i64 c] w fun e w' => e = .returned (.bool (inB r c)) ∧ w' = w := by
  unfold inB
  go_enter Tryz.func101, Tryz.ntmps101
  go_wp2
  all_goals (go_ret; refine ⟨ret_bool ?_, rfl⟩; rw [Bool.eq_iff_iff]; simp; omega)
set_option maxHeartbeats 1000000 in
theorem dollar_any (b : Bool) (w : World) : Calls Tryz.prog 111 #[.bool b] w fun e w' => e = .returned (.string (if b = true then ⟨#[36]⟩ else ⟨#[]⟩)) ∧ w' = w := by
  cases b
  all_goals
    go_enter Tryz.func111, Tryz.ntmps111
    go_wp2
    go_ret
    exact ⟨rfl, rfl⟩
end Go.Proofs.YtdgnodijmbeajaaGreatDoor

/- Refs and places in memory, and worlds behind boxes. -/
namespace Go.Proofs.YtdgnodijmbeajaaGreatDoor
open Go.RowKit
set_option maxRecDepth 100000
set_option linter.unusedVariables false
set_option linter.unusedSimpArgs false
theorem bel1 {w w1 : World} {o : Obj} (hb : Below (w.alloc o).heap.size (w.alloc o) w1) : Below w.heap.size w w1 :=
  ((Below.refl _ _).alloc (Nat.le_refl _) o).trans (hb.mono (by simp))
theorem bel_step {w w1 w2 : World} (h : Below w.heap.size w w1) (hb : Below w1.heap.size w1 w2) : Below w.heap.size w w2 := h.trans (hb.mono h.size)
theorem bel_alloc {w w1 : World} (h : Below w.heap.size w w1) (o : Obj) : Below w.heap.size w (w1.alloc o) := h.alloc h.size _
theorem bel2 {w x : World} {a b : Obj} (h : Below ((w.alloc a).alloc b).heap.size ((w.alloc a).alloc b) x) : Below w.heap.size w x := bel1 (bel1 h)
theorem bel3 {w x : World} {a b c : Obj} (h : Below (((w.alloc a).alloc b).alloc c).heap.size (((w.alloc a).alloc b).alloc c) x) : Below w.heap.size w x := bel1 (bel1 (bel1 h))
theorem lt_of {u : World} {g : Nat} {o : Obj} (h : u.heap[g]? = some o) : g < u.heap.size := (Array.getElem?_eq_some_iff.1 h).1
theorem new1 {w x : World} {o : Obj} (h : Below (w.alloc o).heap.size (w.alloc o) x) : x.heap[w.heap.size]? = some o := by
  rw [h.block _ (by simp)]
  exact heap_alloc_new w o
theorem new2 {w x : World} {a b : Obj} (h : Below ((w.alloc a).alloc b).heap.size ((w.alloc a).alloc b) x) : x.heap[w.heap.size]? = some a ∧ x.heap[w.heap.size + 1]? = some b := by
  refine ⟨new1 (bel1 h), ?_⟩
  have := new1 h
  simpa using this
theorem new3 {w x : World} {a b c : Obj} (h : Below (((w.alloc a).alloc b).alloc c).heap.size (((w.alloc a).alloc b).alloc c) x) : x.heap[w.heap.size]? = some a ∧ x.heap[w.heap.size + 1]? = some b ∧ x.heap[w.heap.size + 2]? = some c := by
  obtain ⟨h1, h2⟩ := new2 (bel1 h)
  refine ⟨h1, h2, ?_⟩
  have := new1 h
  simpa using this
section
variable {u : World} {g : Nat} {a b c d e f : Value}
theorem r_cells {t : TypeId} (h : u.heap[g]? = some (.cells #[a, b, c, d, e, f] t (0, 0))) : u.cell? ⟨g, 0, none⟩ = some a ∧ u.cell? ⟨g, 1, none⟩ = some b ∧ u.cell? ⟨g, 2, none⟩ = some c ∧ u.cell? ⟨g, 3, none⟩ = some d ∧ u.cell? ⟨g, 4, none⟩ = some e ∧ u.cell? ⟨g, 5, none⟩ = some f := by
  simp [World.cell?, h]
theorem r_free {t : TypeId} (h : u.heap[g]? = some (.cells #[a, b, c, d, e, f] t (0, 0))) : u.frozen? ⟨g, 0, none⟩ = false ∧ u.frozen? ⟨g, 1, none⟩ = false ∧ u.frozen? ⟨g, 2, none⟩ = false ∧ u.frozen? ⟨g, 3, none⟩ = false ∧ u.frozen? ⟨g, 4, none⟩ = false ∧ u.frozen? ⟨g, 5, none⟩ = false := by
  simp [World.frozen?, h]
theorem p_cells {t : TypeId} (h : u.heap[g]? = some (.cells #[a, b, c, d] t (0, 0))) : u.cell? ⟨g, 0, none⟩ = some a ∧ u.cell? ⟨g, 1, none⟩ = some b ∧ u.cell? ⟨g, 2, none⟩ = some c ∧ u.cell? ⟨g, 3, none⟩ = some d := by
  simp [World.cell?, h]
theorem p_free {t : TypeId} (h : u.heap[g]? = some (.cells #[a, b, c, d] t (0, 0))) : u.frozen? ⟨g, 0, none⟩ = false ∧ u.frozen? ⟨g, 1, none⟩ = false ∧ u.frozen? ⟨g, 2, none⟩ = false ∧ u.frozen? ⟨g, 3, none⟩ = false := by
  simp [World.frozen?, h]
end
abbrev refO (b s : ByteArray) (r c : Int) (fr fc : Bool) : Obj := .cells #[.string b, .string s, .int .i64 r, .int .i64 c, .bool fr, .bool fc] 33
/-- A call behind a world, whatever came between. -/
def RC (W : World) (f : Nat) (args : Array Value) (r : Value) : Prop := ∀ u, Below W.heap.size W u → Calls Tryz.prog f args u fun e w' => e = .returned r ∧ Below W.heap.size W w'
theorem RC.of {W : World} {f : Nat} {args : Array Value} {r : Value} (h : ∀ u, Below W.heap.size W u → Calls Tryz.prog f args u fun e w' => e = .returned r ∧ Below u.heap.size u w') : RC W f args r := fun u hu =>
  (h u hu).mono fun _ _ ⟨h1, h2⟩ => ⟨h1, bel_step hu h2⟩
theorem RC.same {W : World} {f : Nat} {args : Array Value} {r : Value} (h : ∀ u, Below W.heap.size W u → Calls Tryz.prog f args u fun e w' => e = .returned r ∧ w' = u) : RC W f args r := fun u hu =>
  (h u hu).mono fun _ _ ⟨h1, h2⟩ => ⟨h1, by rw [h2]; exact hu⟩
end Go.Proofs.YtdgnodijmbeajaaGreatDoor
