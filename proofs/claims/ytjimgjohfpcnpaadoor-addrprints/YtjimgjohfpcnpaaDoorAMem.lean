/- Refs and places in memory, and worlds behind boxes. -/
import Derived.Test.YtjimgjohfpcnpaaDoorABase
namespace Go.Proofs.YtjimgjohfpcnpaaDoor
open Go.RowKit
set_option maxRecDepth 100000
set_option linter.unusedVariables false
set_option linter.unusedSimpArgs false
theorem bel1 {w w1 : World} {o : Obj} (hb : Below (w.alloc o).heap.size (w.alloc o) w1) : Below w.heap.size w w1 :=
  ((Below.refl _ _).alloc (Nat.le_refl _) o).trans (hb.mono (by simp))
theorem bel_step {w w1 w2 : World} (h : Below w.heap.size w w1) (hb : Below w1.heap.size w1 w2) : Below w.heap.size w w2 := h.trans (hb.mono h.size)
theorem bel_alloc {w w1 : World} (h : Below w.heap.size w w1) (o : Obj) : Below w.heap.size w (w1.alloc o) := h.alloc h.size _
theorem bel2 {w x : World} {a b : Obj} (h : Below ((w.alloc a).alloc b).heap.size ((w.alloc a).alloc b) x) : Below w.heap.size w x := bel1 (bel1 h)
theorem bel3 {w x : World} {a b c : Obj} (h : Below (((w.alloc a).alloc b).alloc c).heap.size (((w.alloc a).alloc b).alloc c) x) : Below w.heap.size w x := bel1 (bel1 (bel1 h))
theorem lt_of {u : World} {g : Nat} {o : Obj} (h : u.heap[g]? = some o) : g < u.heap.size := (Array.getElem?_eq_some_iff.1 h).1
theorem new1 {w x : World} {o : Obj} (h : Below (w.alloc o).heap.size (w.alloc o) x) : x.heap[w.heap.size]? = some o := by
  rw [h.block _ (by simp)]
  exact heap_alloc_new w o
theorem new2 {w x : World} {a b : Obj} (h : Below ((w.alloc a).alloc b).heap.size ((w.alloc a).alloc b) x) : x.heap[w.heap.size]? = some a ∧ x.heap[w.heap.size + 1]? = some b := by
  refine ⟨new1 (bel1 h), ?_⟩
  have := new1 h
  simpa using this
theorem new3 {w x : World} {a b c : Obj} (h : Below (((w.alloc a).alloc b).alloc c).heap.size (((w.alloc a).alloc b).alloc c) x) : x.heap[w.heap.size]? = some a ∧ x.heap[w.heap.size + 1]? = some b ∧ x.heap[w.heap.size + 2]? = some c := by
  obtain ⟨h1, h2⟩ := new2 (bel1 h)
  refine ⟨h1, h2, ?_⟩
  have := new1 h
  simpa using this
section
variable {u : World} {g : Nat} {a b c d e f : Value}
theorem r_cells {t : TypeId} (h : u.heap[g]? = some (.cells #[a, b, c, d, e, f] t (0, 0))) : u.cell? ⟨g, 0, none⟩ = some a ∧ u.cell? ⟨g, 1, none⟩ = some b ∧ u.cell? ⟨g, 2, none⟩ = some c ∧ u.cell? ⟨g, 3, none⟩ = some d ∧ u.cell? ⟨g, 4, none⟩ = some e ∧ u.cell? ⟨g, 5, none⟩ = some f := by
  simp [World.cell?, h]
theorem r_free {t : TypeId} (h : u.heap[g]? = some (.cells #[a, b, c, d, e, f] t (0, 0))) : u.frozen? ⟨g, 0, none⟩ = false ∧ u.frozen? ⟨g, 1, none⟩ = false ∧ u.frozen? ⟨g, 2, none⟩ = false ∧ u.frozen? ⟨g, 3, none⟩ = false ∧ u.frozen? ⟨g, 4, none⟩ = false ∧ u.frozen? ⟨g, 5, none⟩ = false := by
  simp [World.frozen?, h]
theorem p_cells {t : TypeId} (h : u.heap[g]? = some (.cells #[a, b, c, d] t (0, 0))) : u.cell? ⟨g, 0, none⟩ = some a ∧ u.cell? ⟨g, 1, none⟩ = some b ∧ u.cell? ⟨g, 2, none⟩ = some c ∧ u.cell? ⟨g, 3, none⟩ = some d := by
  simp [World.cell?, h]
theorem p_free {t : TypeId} (h : u.heap[g]? = some (.cells #[a, b, c, d] t (0, 0))) : u.frozen? ⟨g, 0, none⟩ = false ∧ u.frozen? ⟨g, 1, none⟩ = false ∧ u.frozen? ⟨g, 2, none⟩ = false ∧ u.frozen? ⟨g, 3, none⟩ = false := by
  simp [World.frozen?, h]
end
abbrev refO (b s : ByteArray) (r c : Int) (fr fc : Bool) : Obj := .cells #[.string b, .string s, .int .i64 r, .int .i64 c, .bool fr, .bool fc] 23
abbrev plcO (b s : ByteArray) (r c : Int) : Obj := .cells #[.string b, .string s, .int .i64 r, .int .i64 c] 36
/-- A call behind a world, whatever came between. -/
def RC (W : World) (f : Nat) (args : Array Value) (r : Value) : Prop := ∀ u, Below W.heap.size W u → Calls Tryd.prog f args u fun e w' => e = .returned r ∧ Below W.heap.size W w'
theorem RC.of {W : World} {f : Nat} {args : Array Value} {r : Value} (h : ∀ u, Below W.heap.size W u → Calls Tryd.prog f args u fun e w' => e = .returned r ∧ Below u.heap.size u w') : RC W f args r := fun u hu =>
  (h u hu).mono fun _ _ ⟨h1, h2⟩ => ⟨h1, bel_step hu h2⟩
theorem RC.same {W : World} {f : Nat} {args : Array Value} {r : Value} (h : ∀ u, Below W.heap.size W u → Calls Tryd.prog f args u fun e w' => e = .returned r ∧ w' = u) : RC W f args r := fun u hu =>
  (h u hu).mono fun _ _ ⟨h1, h2⟩ => ⟨h1, by rw [h2]; exact hu⟩
end Go.Proofs.YtjimgjohfpcnpaaDoor
