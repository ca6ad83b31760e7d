/- Lists of changes and of groups that are handed in, opened; how many bytes they have at the most; no walk. -/
import Derived.Test.YtohndhmhgdelmaaDoorOpMem
import Derived.ProofKit
import Derived.SizedLaws
import Derived.OpenShut
import Derived.Deep.Slices
import Derived.ChangeSame
namespace Go.Proofs.YtohndhmhgdelmaaDoor
open Go.ChangeShapes Go.WideShapes Go.ChangeAt Go.WideElems Go.RowKit Go.Deep
set_option maxRecDepth 100000

theorem bulk_one {H : Type} (d : DataW H) : 1 ≤ Rows.uptoBulk d := by
  cases d with
  | lit l => cases l <;> simp [Rows.uptoBulk]
  | nil => simp [Rows.uptoBulk]
  | ptr d => simp [Rows.uptoBulk]
  | slice elems spare => simp [Rows.uptoBulk]
  | agg parts => simp [Rows.uptoBulk]
  | iface t d => simp [Rows.uptoBulk]
  | map entries => simp [Rows.uptoBulk]
  | held h => simp [Rows.uptoBulk]
theorem wf_i64 {n : Int} (h : (Lit.int .i64 n).wf = true) : In64 n := by
  have h1 : IntKind.i64.min = -9223372036854775808 := rfl
  have h2 : IntKind.i64.max = 9223372036854775807 := rfl
  simp [Lit.wf] at h
  constructor <;> omega
theorem list_of {α : Type} {P : Nat → α → Prop} : ∀ (n : Nat), (∀ i, i < n → ∃ c, P i c) → ∃ L : List α, L.length = n ∧ ∀ i c, L[i]? = some c → P i c
  | 0, _ => ⟨[], rfl, fun i c h => by simp at h⟩
  | n + 1, h => by
    obtain ⟨L, h1, h2⟩ := list_of n fun i hi => h i (by omega)
    obtain ⟨c, hc⟩ := h n (by omega)
    refine ⟨L ++ [c], by simp [h1], fun i x hi => ?_⟩
    by_cases hlt : i < L.length
    · rw [List.getElem?_append_left hlt] at hi; exact h2 i x hi
    · rw [List.getElem?_append_right (by omega)] at hi
      have hi0 : i = n := by
        rcases Nat.lt_or_ge (i - L.length) 1 with h | h
        · omega
        · rw [List.getElem?_eq_none (by simpa using h)] at hi; cases hi
      subst hi0
      rw [h1] at hi
      simp at hi
      subst hi
      exact hc
/-- Of a list whose items have at most ten bytes for each value and letter. -/
theorem bulk_flat {H α : Type} {B : α → List UInt8} {D : Nat → DataW H} (L : List α) (h : ∀ i c, L[i]? = some c → (B c).length ≤ 10 * Rows.uptoBulk (D i)) : (L.flatMap B).length ≤ 10 * Rows.uptoBulkAll ((List.range L.length).map D) := by
  induction L generalizing D with
  | nil => simp
  | cons x r ih =>
    have h0 := h 0 x rfl
    have h1 := ih (D := fun i => D (i + 1)) fun i c hi => h (i + 1) c (by simpa using hi)
    rw [List.length_cons, List.range_succ_eq_map, List.map_cons, List.map_map, List.flatMap_cons, List.length_append]
    simp only [Rows.uptoBulkAll]
    have e : (List.range r.length).map (D ∘ Nat.succ) = (List.range r.length).map fun i => D (i + 1) := rfl
    rw [e]
    omega
theorem text_bulk {H : Type} (s : ByteArray) (hs : s.size ≤ maxLen) : (textB s).length ≤ 10 * Rows.uptoBulk (DataW.lit (H := H) (.string s.data.toList)) := by
  have := numB_length (n := s.size) (by unfold maxLen at hs; constructor <;> omega)
  rw [textB_length]
  simp only [Rows.uptoBulk, Array.length_toList]
  have e : s.data.size = s.size := rfl
  rw [e]
  omega
theorem num_bulk {H : Type} {n : Int} (h : In64 n) : (numB n).length ≤ 10 * Rows.uptoBulk (DataW.lit (H := H) (.int .i64 n)) := by
  have := numB_length h
  simp only [Rows.uptoBulk]
  omega

section
variable {H : Type} {enc : TypeId × Value → H} {W : World} {sp : Nat → Bool} {held : Bool}
theorem cell_open {fuel : Nat} {cs : List Value} {y : DataW H × List MemPlace} (h : DataW.trod enc Tryd.prog W 0 sp held fuel 101 cs = some y) : ∃ c : CellT, cs = cellC c ∧ c.Ok ∧ (cellB c).length ≤ 10 * Rows.uptoBulk y.1 := by
  obtain ⟨xs, n, _, rfl, hl, hxl, hf⟩ := DataW.trod_struct Tryd.underlying101 h
  have hl3 : cs.length = 3 := hl.trans (by kernel_rfl)
  match xs, hxl, cs, hl3 with
  | [y0, y1, y2], _, [v0, v1, v2], _ =>
    obtain ⟨n0, e0, q0, w0⟩ := DataW.trod_int Tryd.underlying3 (hf 0 _ rfl)
    obtain ⟨n1, e1, q1, w1⟩ := DataW.trod_int Tryd.underlying3 (hf 1 _ rfl)
    obtain ⟨s2, e2, q2, w2⟩ := DataW.trod_string Tryd.underlying9 (hf 2 _ rfl)
    cases e0; cases e1; cases e2
    refine ⟨⟨n0, n1, s2⟩, rfl, ⟨wf_i64 w0, wf_i64 w1⟩, ?_⟩
    subst q0 q1 q2
    have b0 := num_bulk (H := H) (wf_i64 w0)
    have b1 := num_bulk (H := H) (wf_i64 w1)
    have b2 := text_bulk (H := H) s2 w2
    simp only [cellB, List.length_append, List.map_cons, List.map_nil, Rows.uptoBulk, Rows.uptoBulkAll] at *
    omega
theorem name_open {fuel : Nat} {cs : List Value} {y : DataW H × List MemPlace} (h : DataW.trod enc Tryd.prog W 0 sp held fuel 64 cs = some y) : ∃ c : NameT, cs = [.string c.scope, .string c.name, .string c.text] ∧ (nameB c).length ≤ 10 * Rows.uptoBulk y.1 := by
  obtain ⟨xs, n, _, rfl, hl, hxl, hf⟩ := DataW.trod_struct Tryd.underlying64 h
  have hl3 : cs.length = 3 := hl.trans (by kernel_rfl)
  match xs, hxl, cs, hl3 with
  | [y0, y1, y2], _, [v0, v1, v2], _ =>
    obtain ⟨s0, e0, q0, w0⟩ := DataW.trod_string Tryd.underlying9 (hf 0 _ rfl)
    obtain ⟨s1, e1, q1, w1⟩ := DataW.trod_string Tryd.underlying9 (hf 1 _ rfl)
    obtain ⟨s2, e2, q2, w2⟩ := DataW.trod_string Tryd.underlying9 (hf 2 _ rfl)
    cases e0; cases e1; cases e2
    refine ⟨⟨s0, s1, s2⟩, rfl, ?_⟩
    subst q0 q1 q2
    have b0 := text_bulk (H := H) s0 w0
    have b1 := text_bulk (H := H) s1 w1
    have b2 := text_bulk (H := H) s2 w2
    simp only [nameB, List.length_append, List.map_cons, List.map_nil, Rows.uptoBulk, Rows.uptoBulkAll] at *
    omega
theorem val_open {fuel : Nat} {cs : List Value} {y : DataW H × List MemPlace} (h : DataW.trod enc Tryd.prog W 0 sp held fuel 67 cs = some y) : ∃ c : ValT, cs = [.int .i64 c.kind, .int .i64 c.n, .string c.s] ∧ c.Ok ∧ (valB c).length ≤ 10 * Rows.uptoBulk y.1 := by
  obtain ⟨xs, n, _, rfl, hl, hxl, hf⟩ := DataW.trod_struct Tryd.underlying67 h
  have hl3 : cs.length = 3 := hl.trans (by kernel_rfl)
  match xs, hxl, cs, hl3 with
  | [y0, y1, y2], _, [v0, v1, v2], _ =>
    obtain ⟨n0, e0, q0, w0⟩ := DataW.trod_int Tryd.underlying3 (hf 0 _ rfl)
    obtain ⟨n1, e1, q1, w1⟩ := DataW.trod_int Tryd.underlying3 (hf 1 _ rfl)
    obtain ⟨s2, e2, q2, w2⟩ := DataW.trod_string Tryd.underlying9 (hf 2 _ rfl)
    cases e0; cases e1; cases e2
    refine ⟨⟨n0, n1, s2⟩, rfl, ⟨wf_i64 w0, wf_i64 w1⟩, ?_⟩
    subst q0 q1 q2
    have b0 := num_bulk (H := H) (wf_i64 w0)
    have b1 := num_bulk (H := H) (wf_i64 w1)
    have b2 := text_bulk (H := H) s2 w2
    simp only [valB, List.length_append, List.map_cons, List.map_nil, Rows.uptoBulk, Rows.uptoBulkAll] at *
    omega
theorem link_open {fuel : Nat} {cs : List Value} {y : DataW H × List MemPlace} (h : DataW.trod enc Tryd.prog W 0 sp held fuel 69 cs = some y) :
    ∃ c : LinkT, cs = [.string c.book, .string c.sheet, .int .i64 c.row, .int .i64 c.col, .int .i64 c.value.kind, .int .i64 c.value.n, .string c.value.s] ∧ c.Ok ∧ (linkB c).length ≤ 10 * Rows.uptoBulk y.1 := by
  obtain ⟨xs, n, _, rfl, hl, hxl, hf⟩ := DataW.trod_struct Tryd.underlying69 h
  have hl3 : cs.length = 7 := hl.trans (by kernel_rfl)
  match xs, hxl, cs, hl3 with
  | [y0, y1, y2, y3, y4], _, [v0, v1, v2, v3, v4, v5, v6], _ =>
    obtain ⟨s0, e0, q0, w0⟩ := DataW.trod_string Tryd.underlying9 (hf 0 _ rfl)
    obtain ⟨s1, e1, q1, w1⟩ := DataW.trod_string Tryd.underlying9 (hf 1 _ rfl)
    obtain ⟨n2, e2, q2, w2⟩ := DataW.trod_int Tryd.underlying3 (hf 2 _ rfl)
    obtain ⟨n3, e3, q3, w3⟩ := DataW.trod_int Tryd.underlying3 (hf 3 _ rfl)
    obtain ⟨c4, e4, k4, b4⟩ := val_open (hf 4 _ rfl)
    cases e0; cases e1; cases e2; cases e3
    obtain ⟨rfl, rfl, rfl⟩ : v4 = .int .i64 c4.kind ∧ v5 = .int .i64 c4.n ∧ v6 = .string c4.s := by
      have e4' : [v4, v5, v6] = [.int .i64 c4.kind, .int .i64 c4.n, .string c4.s] := e4
      simpa using e4'
    refine ⟨⟨s0, s1, n2, n3, c4⟩, rfl, ⟨wf_i64 w2, wf_i64 w3, k4⟩, ?_⟩
    subst q0 q1 q2 q3
    have b0 := text_bulk (H := H) s0 w0
    have b1 := text_bulk (H := H) s1 w1
    have b2 := num_bulk (H := H) (wf_i64 w2)
    have b3 := num_bulk (H := H) (wf_i64 w3)
    simp only [linkB, List.length_append, List.map_cons, List.map_nil, Rows.uptoBulk, Rows.uptoBulkAll] at *
    omega

theorem rws_open {t e : TypeId} {sz : Nat} {α : Type} {C : α → List Value} {B : α → List UInt8} {Q : α → Prop} {fuel : Nat} {v : Value} {x : DataW H × List MemPlace} (ht : Tryd.prog.underlying t = some (.slice e)) (hce : Tryd.prog.cellsOf e = sz) (hsz : 0 < sz)
    (hC : ∀ {fuel : Nat} {cs : List Value} {y : DataW H × List MemPlace}, DataW.trod enc Tryd.prog W 0 sp held fuel e cs = some y → ∃ c : α, cs = C c ∧ Q c ∧ (B c).length ≤ 10 * Rows.uptoBulk y.1)
    (h : DataW.trod enc Tryd.prog W 0 sp held fuel t [v] = some x) :
    ∃ L : List α, Rws 0 W.heap.size sz W v L.length (fun j => (L[j]?.map C).getD []) ∧ (∀ (j : Nat) (c : α), L[j]? = some c → (C c).length = sz ∧ Q c) ∧ L.length ≤ Rows.uptoBulk x.1 ∧ (lstB B L).length ≤ 10 * Rows.uptoBulk x.1 ∧ L.length ≤ maxLen := by
  rcases open_slice ht h with ⟨hcs, hx⟩ | ⟨a, len, cap, m, n, D, Pl, hcs, hb, hl, hm, hmm, hx, hel⟩
  · simp at hcs
    subst hcs hx
    refine ⟨[], .inl ⟨rfl, rfl⟩, fun j c hj => by simp at hj, by simp, ?_, by simp⟩
    have := numB_length (n := 0) (by constructor <;> decide)
    simpa [lstB, Rows.uptoBulk] using this
  · simp at hcs
    subst hcs hx
    have hlm : len ≤ m := by rw [hmm]; split <;> omega
    obtain ⟨L, hL, hP⟩ := list_of (α := α) (P := fun i c => W.cells? 0 (a.add (i * sz)) sz = some (C c) ∧ Q c ∧ (B c).length ≤ 10 * Rows.uptoBulk (D i)) len fun i hi => by
      obtain ⟨cs', k1, k2⟩ := hel i (by omega)
      rw [hce] at k1
      obtain ⟨c, rfl, q1, q2⟩ := hC k2
      exact ⟨c, k1, q1, q2⟩
    have hlen : ∀ (j : Nat) (c : α), L[j]? = some c → (C c).length = sz := fun j c hj => (World.cells?_some (hP j c hj).1).2.1
    have hcell : ∀ (j : Nat) (c : α) (i : Nat) (u : Value), L[j]? = some c → (C c)[i]? = some u → W.cell? (a.add (j * sz + i)) = some u := fun j c i u hj hu => by
      have h1 := World.cells?_some (hP j c hj).1
      have hi : i < sz := by
        rcases Nat.lt_or_ge i sz with h | h
        · exact h
        · rw [List.getElem?_eq_none (by rw [hlen j c hj]; exact h)] at hu; cases hu
      have := h1.2.2 i hi
      rw [Go.Deep.add_add] at this
      rw [this, hu]
    have hmax : len ≤ 9223372036854775807 := by unfold maxLen at hm; omega
    have hbulk := bulk_flat (B := B) (D := D) L fun i c hi => (hP i c hi).2.2
    have hnum := numB_length (n := L.length) (by constructor <;> omega)
    have hlenle : ∀ n : Nat, n ≤ Rows.uptoBulkAll ((List.range n).map D) := fun n => by
      have : ∀ l : List (DataW H), l.length ≤ Rows.uptoBulkAll l := fun l => by
        induction l with
        | nil => simp
        | cons y r ih => have := bulk_one y; simp only [Rows.uptoBulkAll, List.length_cons]; omega
      simpa using this ((List.range n).map D)
    refine ⟨L, .inr ⟨a, cap, by rw [hL], by omega, hm, fun h0 => ?_, fun j i u hj hu => ?_⟩, fun j c hj => ⟨hlen j c hj, (hP j c hj).2.1⟩, ?_, ?_, ?_⟩
    · obtain ⟨c, hc⟩ : ∃ c, L[0]? = some c := ⟨L[0], List.getElem?_eq_getElem h0⟩
      have hl0 := hlen 0 c hc
      obtain ⟨y, r, e⟩ := List.exists_cons_of_ne_nil (l := C c) (by intro e; rw [e] at hl0; simp at hl0; omega)
      have := World.block_lt_of_cell? W _ (hcell 0 c 0 y hc (by rw [e]; rfl))
      rw [addr_block] at this
      exact ⟨Nat.zero_le _, this⟩
    · have hj' : L[j]? = some L[j] := List.getElem?_eq_getElem hj
      dsimp only at hu
      rw [hj'] at hu
      exact hcell j _ i u hj' (by simpa using hu)
    · have := hlenle len
      simp only [Rows.uptoBulk]
      omega
    · rw [hL] at hbulk
      simp only [lstB, List.length_append, Rows.uptoBulk]
      omega
    · rw [hL]; omega
theorem cls_open {fuel : Nat} {v : Value} {x : DataW H × List MemPlace} (h : DataW.trod enc Tryd.prog W 0 sp held fuel 50 [v] = some x) : ∃ L, Cls 0 W.heap.size W v L ∧ (∀ c ∈ L, c.Ok) ∧ (lstB cellB L).length ≤ 10 * Rows.uptoBulk x.1 := by
  obtain ⟨L, h1, h2, _, h3, _⟩ := rws_open (C := cellC) (B := cellB) (Q := CellT.Ok) Tryd.underlying50 (sz := 3) (by kernel_rfl) (by decide) cell_open h
  refine ⟨L, h1, fun c hc => ?_, h3⟩
  obtain ⟨j, hj⟩ := List.getElem?_of_mem hc
  exact (h2 j c hj).2

/-- A change, with the slice of its cells. -/
theorem op_open {fuel : Nat} {cs : List Value} {y : DataW H × List MemPlace} (h : DataW.trod enc Tryd.prog W 0 sp held fuel 84 cs = some y) : ∃ c : OpT × Value, cs = opC c.1 c.2 ∧ (c.1.Ok ∧ Cls 0 W.heap.size W c.2 c.1.cells) ∧ (opB c.1).length ≤ 10 * Rows.uptoBulk y.1 := by
  obtain ⟨xs, n, _, rfl, hl, hxl, hf⟩ := DataW.trod_struct Tryd.underlying84 h
  have hl3 : cs.length = 19 := hl.trans (by kernel_rfl)
  match xs, hxl, cs, hl3 with
  | [y0, y1, y2, y3, y4, y5, y6, y7, y8, y9, y10], _, [v0, v1, v2, v3, v4, v5, v6, v7, v8, v9, v10, v11, v12, v13, v14, v15, v16, v17, v18], _ =>
    obtain ⟨n0, e0, q0, w0⟩ := DataW.trod_int Tryd.underlying3 (hf 0 _ rfl)
    obtain ⟨s1, e1, q1, w1⟩ := DataW.trod_string Tryd.underlying9 (hf 1 _ rfl)
    obtain ⟨s2, e2, q2, w2⟩ := DataW.trod_string Tryd.underlying9 (hf 2 _ rfl)
    obtain ⟨n3, e3, q3, w3⟩ := DataW.trod_int Tryd.underlying3 (hf 3 _ rfl)
    obtain ⟨n4, e4, q4, w4⟩ := DataW.trod_int Tryd.underlying3 (hf 4 _ rfl)
    obtain ⟨n5, e5, q5, w5⟩ := DataW.trod_int Tryd.underlying3 (hf 5 _ rfl)
    obtain ⟨n6, e6, q6, w6⟩ := DataW.trod_int Tryd.underlying3 (hf 6 _ rfl)
    obtain ⟨s7, e7, q7, w7⟩ := DataW.trod_string Tryd.underlying9 (hf 7 _ rfl)
    obtain ⟨c8, e8, b8⟩ := name_open (hf 8 _ rfl)
    obtain ⟨c9, e9, k9, b9⟩ := link_open (hf 9 _ rfl)
    obtain ⟨L, hc, k10, b10⟩ := cls_open (v := v18) (x := y10) (hf 10 _ rfl)
    cases e0; cases e1; cases e2; cases e3; cases e4; cases e5; cases e6; cases e7
    obtain ⟨rfl, rfl, rfl⟩ : v8 = .string c8.scope ∧ v9 = .string c8.name ∧ v10 = .string c8.text := by
      have e' : [v8, v9, v10] = [.string c8.scope, .string c8.name, .string c8.text] := e8
      simpa using e'
    obtain ⟨rfl, rfl, rfl, rfl, rfl, rfl, rfl⟩ : v11 = .string c9.book ∧ v12 = .string c9.sheet ∧ v13 = .int .i64 c9.row ∧ v14 = .int .i64 c9.col ∧ v15 = .int .i64 c9.value.kind ∧ v16 = .int .i64 c9.value.n ∧ v17 = .string c9.value.s := by
      have e' : [v11, v12, v13, v14, v15, v16, v17] = [.string c9.book, .string c9.sheet, .int .i64 c9.row, .int .i64 c9.col, .int .i64 c9.value.kind, .int .i64 c9.value.n, .string c9.value.s] := e9
      simpa using e'
    refine ⟨(⟨n0, s1, s2, n3, n4, n5, n6, s7, c8, c9, L⟩, v18), rfl, ⟨⟨wf_i64 w0, wf_i64 w3, wf_i64 w4, wf_i64 w5, wf_i64 w6, k9, k10⟩, hc⟩, ?_⟩
    subst q0 q1 q2 q3 q4 q5 q6 q7
    have b0 := num_bulk (H := H) (wf_i64 w0)
    have b1 := text_bulk (H := H) s1 w1
    have b2 := text_bulk (H := H) s2 w2
    have b3 := num_bulk (H := H) (wf_i64 w3)
    have b4 := num_bulk (H := H) (wf_i64 w4)
    have b5 := num_bulk (H := H) (wf_i64 w5)
    have b6 := num_bulk (H := H) (wf_i64 w6)
    have b7 := text_bulk (H := H) s7 w7
    simp only [opB, List.length_append, List.map_cons, List.map_nil, Rows.uptoBulk, Rows.uptoBulkAll] at *
    omega
theorem opl_open {fuel : Nat} {v : Value} {x : DataW H × List MemPlace} (h : DataW.trod enc Tryd.prog W 0 sp held fuel 37 [v] = some x) : ∃ L, Opl 0 W.heap.size W v L ∧ (∀ c ∈ L, c.Ok) ∧ (opsB L).length ≤ 10 * Rows.uptoBulk x.1 := by
  obtain ⟨L, h1, h2, _, h3, _⟩ := rws_open (C := fun c : OpT × Value => opC c.1 c.2) (B := fun c => opB c.1) (Q := fun c => c.1.Ok ∧ Cls 0 W.heap.size W c.2 c.1.cells) Tryd.underlying37 (sz := 19) (by kernel_rfl) (by decide) op_open h
  refine ⟨L.map (·.1), ⟨fun j => ((L[j]?).map (·.2)).getD (.slice none 0 0), ?_, fun j o hj => ?_⟩, fun c hc => ?_, ?_⟩
  · rw [List.length_map]
    refine Rws.congr h1 fun j hj => ?_
    simp [List.getElem?_eq_getElem hj]
  · rw [List.getElem?_map] at hj
    rcases hq : L[j]? with _ | c
    · rw [hq] at hj; cases hj
    · rw [hq] at hj
      cases hj
      dsimp only
      rw [hq]
      exact (h2 j c hq).2.2
  · obtain ⟨y, hy, rfl⟩ := List.mem_map.1 hc
    obtain ⟨j, hj⟩ := List.getElem?_of_mem hy
    exact (h2 j y hj).2.1
  · simpa [opsB, lstB, List.flatMap_map] using h3
end
end Go.Proofs.YtohndhmhgdelmaaDoor
