/- SOpen, SRw0, SRw1, SRw2. -/
import Derived.Test.YtpafokmkcblcnaaGreatDoorSStCr
import Derived.ProofKit
import Derived.SizedLaws
import Derived.OpenShut
import Derived.Deep.Slices
import Derived.ChangeSame
set_option linter.unusedVariables false
set_option linter.unusedSimpArgs false
namespace Go.Proofs.YtpafokmkcblcnaaGreatDoor.Sh
open Go.ChangeShapes Go.WideShapes Go.ChangeAt Go.WideElems Go.RowKit Go.Deep
set_option maxRecDepth 100000
theorem list_of {α : Type} {P : Nat → α → Prop} : ∀ (n : Nat), (∀ i, i < n → ∃ c, P i c) → ∃ L : List α, L.length = n ∧ ∀ i c, L[i]? = some c → P i c
  | 0, _ => ⟨[], rfl, fun i c h => by simp at h⟩
  | n + 1, h => by
    obtain ⟨L, h1, h2⟩ := list_of n fun i hi => h i (by omega)
    obtain ⟨c, hc⟩ := h n (by omega)
    refine ⟨L ++ [c], by simp [h1], fun i x hi => ?_⟩
    by_cases hlt : i < L.length
    · rw [List.getElem?_append_left hlt] at hi; exact h2 i x hi
    · rw [List.getElem?_append_right (by omega)] at hi
      have hi0 : i = n := by
        rcases Nat.lt_or_ge (i - L.length) 1 with h | h
        · omega
        · rw [List.getElem?_eq_none (by simpa using h)] at hi; cases hi
      subst hi0
      rw [h1] at hi
      simp at hi
      subst hi
      exact hc
theorem all_mem {H : Type} {e : TypeId} {d : DataW H} {n : Nat} (hn : n ∈ d.weights Tryz.prog e) : ∀ {l : List (DataW H)}, d ∈ l → n ∈ DataW.weightsAll Tryz.prog e l
  | [], h => by cases h
  | a :: r, h => by
    simp only [DataW.weightsAll, List.mem_append]
    rcases List.mem_cons.1 h with rfl | h
    · exact .inl hn
    · exact .inr (all_mem hn h)
abbrev Lgt {H : Type} (t : TypeId) (d : DataW H) : Prop := ∀ n ∈ d.weights Tryz.prog t, n ≤ reachBytes
section
variable {H : Type} {enc : TypeId × Value → H} {W : World} {sp : Nat → Bool} {held : Bool}
theorem rws_open {t e : TypeId} {sz : Nat} {α : Type} {C : α → List Value} {Q : α → Prop} {fuel : Nat} {v : Value} {x : DataW H × List MemPlace} (ht : Tryz.prog.underlying t = some (.slice e)) (hce : Tryz.prog.cellsOf e = sz) (hsz : 0 < sz) (hby : 1 ≤ Tryz.prog.bytesOf e) (hw : Lgt t x.1)
    (hC : ∀ {fuel : Nat} {cs : List Value} {y : DataW H × List MemPlace}, Lgt e y.1 → DataW.trod enc Tryz.prog W 0 sp held fuel e cs = some y → ∃ c : α, cs = C c ∧ Q c)
    (h : DataW.trod enc Tryz.prog W 0 sp held fuel t [v] = some x) :
    ∃ L : List α, Rws 0 W.heap.size sz W v L.length (fun j => (L[j]?.map C).getD []) ∧ (∀ (j : Nat) (c : α), L[j]? = some c → Q c) ∧ L.length ≤ reachBytes := by
  rcases open_slice ht h with ⟨hcs, hx⟩ | ⟨a, len, cap, m, n, D, Pl, hcs, hb, hl, hm, hmm, hx, hel⟩
  · simp at hcs
    subst hcs hx
    exact ⟨[], .inl ⟨rfl, rfl⟩, fun j c hj => by simp at hj, Nat.zero_le _⟩
  · simp at hcs
    subst hcs hx
    have hwt : ∀ n ∈ ((((List.range len).map D).length + ((List.range (m - len)).map fun j => D (len + j)).length) * Tryz.prog.bytesOf e :: (DataW.weightsAll Tryz.prog e ((List.range len).map D) ++ DataW.weightsAll Tryz.prog e ((List.range (m - len)).map fun j => D (len + j)))), n ≤ reachBytes := fun n hn => hw n (by simp only [DataW.weights, ht]; exact hn)
    have hlr : len ≤ reachBytes := by
      have h1 := hwt _ List.mem_cons_self
      simp only [List.length_map, List.length_range] at h1
      have h2 := Nat.le_mul_of_pos_right (len + (m - len)) hby
      omega
    have hwe : ∀ i, i < len → Lgt e (D i) := fun i hi n hn => hwt n (List.mem_cons_of_mem _ (List.mem_append_left _ (all_mem hn (List.mem_map.2 ⟨i, List.mem_range.2 hi, rfl⟩))))
    have hlm : len ≤ m := by rw [hmm]; split <;> omega
    obtain ⟨L, hL, hP⟩ := list_of (α := α) (P := fun i c => W.cells? 0 (a.add (i * sz)) sz = some (C c) ∧ Q c) len fun i hi => by
      obtain ⟨cs', k1, k2⟩ := hel i (by omega)
      rw [hce] at k1
      obtain ⟨c, rfl, q1⟩ := hC (hwe i hi) k2
      exact ⟨c, k1, q1⟩
    have hlen : ∀ (j : Nat) (c : α), L[j]? = some c → (C c).length = sz := fun j c hj => (World.cells?_some (hP j c hj).1).2.1
    have hcell : ∀ (j : Nat) (c : α) (i : Nat) (u : Value), L[j]? = some c → (C c)[i]? = some u → W.cell? (a.add (j * sz + i)) = some u := fun j c i u hj hu => by
      have h1 := World.cells?_some (hP j c hj).1
      have hi : i < sz := by
        rcases Nat.lt_or_ge i sz with h | h
        · exact h
        · rw [List.getElem?_eq_none (by rw [hlen j c hj]; exact h)] at hu; cases hu
      have := h1.2.2 i hi
      rw [Go.Deep.add_add] at this
      rw [this, hu]
    refine ⟨L, .inr ⟨a, cap, by rw [hL], by omega, hm, fun h0 => ?_, fun j i u hj hu => ?_⟩, fun j c hj => (hP j c hj).2, by rw [hL]; omega⟩
    · obtain ⟨c, hc⟩ : ∃ c, L[0]? = some c := ⟨L[0], List.getElem?_eq_getElem h0⟩
      have hl0 := hlen 0 c hc
      obtain ⟨y, r, e⟩ := List.exists_cons_of_ne_nil (l := C c) (by intro e; rw [e] at hl0; simp at hl0; omega)
      have := World.block_lt_of_cell? W _ (hcell 0 c 0 y hc (by rw [e]; rfl))
      rw [addr_block] at this
      exact ⟨Nat.zero_le _, this⟩
    · have hj' : L[j]? = some L[j] := List.getElem?_eq_getElem hj
      dsimp only at hu
      rw [hj'] at hu
      exact hcell j _ i u hj' (by simpa using hu)
theorem cell_open {fuel : Nat} {cs : List Value} {y : DataW H × List MemPlace} (hw : Lgt 57 y.1) (h : DataW.trod enc Tryz.prog W 0 sp held fuel 57 cs = some y) : ∃ c : CellT, cs = cellC c ∧ True := by
  obtain ⟨xs, n, _, rfl, hl, hxl, hf⟩ := DataW.trod_struct Tryz.underlying57 h
  have hl3 : cs.length = 3 := hl.trans (by kernel_rfl)
  match xs, hxl, cs, hl3 with
  | [y0, y1, y2], _, [v0, v1, v2], _ =>
    obtain ⟨n0, e0, q0, w0⟩ := DataW.trod_int Tryz.underlying3 (hf 0 _ rfl)
    obtain ⟨n1, e1, q1, w1⟩ := DataW.trod_int Tryz.underlying3 (hf 1 _ rfl)
    obtain ⟨s2, e2, q2, w2⟩ := DataW.trod_string Tryz.underlying9 (hf 2 _ rfl)
    cases e0; cases e1; cases e2
    exact ⟨⟨n0, n1, s2⟩, rfl, trivial⟩
theorem name_open {fuel : Nat} {cs : List Value} {y : DataW H × List MemPlace} (hw : Lgt 89 y.1) (h : DataW.trod enc Tryz.prog W 0 sp held fuel 89 cs = some y) : ∃ c : NameT, cs = nameC c ∧ True := by
  obtain ⟨xs, n, _, rfl, hl, hxl, hf⟩ := DataW.trod_struct Tryz.underlying89 h
  have hl3 : cs.length = 3 := hl.trans (by kernel_rfl)
  match xs, hxl, cs, hl3 with
  | [y0, y1, y2], _, [v0, v1, v2], _ =>
    obtain ⟨n0, e0, q0, w0⟩ := DataW.trod_string Tryz.underlying9 (hf 0 _ rfl)
    obtain ⟨n1, e1, q1, w1⟩ := DataW.trod_string Tryz.underlying9 (hf 1 _ rfl)
    obtain ⟨s2, e2, q2, w2⟩ := DataW.trod_string Tryz.underlying9 (hf 2 _ rfl)
    cases e0; cases e1; cases e2
    exact ⟨⟨n0, n1, s2⟩, rfl, trivial⟩
theorem val_open {fuel : Nat} {cs : List Value} {y : DataW H × List MemPlace} (h : DataW.trod enc Tryz.prog W 0 sp held fuel 62 cs = some y) : ∃ c : ValT, cs = [.int .i64 c.kind, .int .i64 c.n, .string c.s] := by
  obtain ⟨xs, n, _, rfl, hl, hxl, hf⟩ := DataW.trod_struct Tryz.underlying62 h
  have hl3 : cs.length = 3 := hl.trans (by kernel_rfl)
  match xs, hxl, cs, hl3 with
  | [y0, y1, y2], _, [v0, v1, v2], _ =>
    obtain ⟨n0, e0, q0, w0⟩ := DataW.trod_int Tryz.underlying3 (hf 0 _ rfl)
    obtain ⟨n1, e1, q1, w1⟩ := DataW.trod_int Tryz.underlying3 (hf 1 _ rfl)
    obtain ⟨s2, e2, q2, w2⟩ := DataW.trod_string Tryz.underlying9 (hf 2 _ rfl)
    cases e0; cases e1; cases e2
    exact ⟨⟨n0, n1, s2⟩, rfl⟩
theorem link_open {fuel : Nat} {cs : List Value} {y : DataW H × List MemPlace} (hw : Lgt 91 y.1) (h : DataW.trod enc Tryz.prog W 0 sp held fuel 91 cs = some y) : ∃ c : LinkT, cs = linkC c ∧ True := by
  obtain ⟨xs, n, _, rfl, hl, hxl, hf⟩ := DataW.trod_struct Tryz.underlying91 h
  have hl3 : cs.length = 7 := hl.trans (by kernel_rfl)
  match xs, hxl, cs, hl3 with
  | [y0, y1, y2, y3, y4], _, [v0, v1, v2, v3, v4, v5, v6], _ =>
    obtain ⟨s0, e0, q0, w0⟩ := DataW.trod_string Tryz.underlying9 (hf 0 _ rfl)
    obtain ⟨s1, e1, q1, w1⟩ := DataW.trod_string Tryz.underlying9 (hf 1 _ rfl)
    obtain ⟨n2, e2, q2, w2⟩ := DataW.trod_int Tryz.underlying3 (hf 2 _ rfl)
    obtain ⟨n3, e3, q3, w3⟩ := DataW.trod_int Tryz.underlying3 (hf 3 _ rfl)
    obtain ⟨c4, e4⟩ := val_open (hf 4 _ rfl)
    cases e0; cases e1; cases e2; cases e3
    obtain ⟨rfl, rfl, rfl⟩ : v4 = .int .i64 c4.kind ∧ v5 = .int .i64 c4.n ∧ v6 = .string c4.s := by
      have e4' : [v4, v5, v6] = [.int .i64 c4.kind, .int .i64 c4.n, .string c4.s] := e4
      simpa using e4'
    exact ⟨⟨s0, s1, n2, n3, c4⟩, rfl, trivial⟩
theorem cls_open {fuel : Nat} {v : Value} {x : DataW H × List MemPlace} (hw : Lgt 27 x.1) (h : DataW.trod enc Tryz.prog W 0 sp held fuel 27 [v] = some x) : ∃ L, Cls 0 W.heap.size W v L ∧ L.length ≤ reachBytes := by
  obtain ⟨L, h1, _, h3⟩ := rws_open (C := cellC) (Q := fun _ => True) Tryz.underlying27 (sz := 3) (by kernel_rfl) (by decide) (of_decide_eq_true (by kernel_rfl)) hw cell_open h
  exact ⟨L, h1, h3⟩
theorem nms_open {fuel : Nat} {v : Value} {x : DataW H × List MemPlace} (hw : Lgt 23 x.1) (h : DataW.trod enc Tryz.prog W 0 sp held fuel 23 [v] = some x) : ∃ L, Nms 0 W.heap.size W v L ∧ L.length ≤ reachBytes := by
  obtain ⟨L, h1, _, h3⟩ := rws_open (C := nameC) (Q := fun _ => True) Tryz.underlying23 (sz := 3) (by kernel_rfl) (by decide) (of_decide_eq_true (by kernel_rfl)) hw name_open h
  exact ⟨L, h1, h3⟩
theorem lks_open {fuel : Nat} {v : Value} {x : DataW H × List MemPlace} (hw : Lgt 24 x.1) (h : DataW.trod enc Tryz.prog W 0 sp held fuel 24 [v] = some x) : ∃ L, Lks 0 W.heap.size W v L ∧ L.length ≤ reachBytes := by
  obtain ⟨L, h1, _, h3⟩ := rws_open (C := linkC) (Q := fun _ => True) Tryz.underlying24 (sz := 7) (by kernel_rfl) (by decide) (of_decide_eq_true (by kernel_rfl)) hw link_open h
  exact ⟨L, h1, h3⟩
theorem sheet_open {fuel : Nat} {cs : List Value} {y : DataW H × List MemPlace} (hw : Lgt 78 y.1) (h : DataW.trod enc Tryz.prog W 0 sp held fuel 78 cs = some y) : ∃ c : SheetT × Value, cs = sheetC c.1 c.2 ∧ Cls 0 W.heap.size W c.2 c.1.cells ∧ c.1.name.size ≤ maxLen ∧ c.1.cells.length ≤ reachBytes := by
  obtain ⟨xs, n, _, rfl, hl, hxl, hf⟩ := DataW.trod_struct Tryz.underlying78 h
  have hw2 := hw
  simp only [DataW.weights, Tryz.underlying78] at hw2
  have hl3 : cs.length = 2 := hl.trans (by kernel_rfl)
  match xs, hxl, cs, hl3 with
  | [y0, y1], _, [v0, v1], _ =>
    obtain ⟨s0, e0, q0, w0⟩ := DataW.trod_string Tryz.underlying9 (hf 0 _ rfl)
    obtain ⟨L, hc, k1⟩ := cls_open (v := v1) (x := y1) (fun n hn => hw2 n (DataW.weights_mem_each (j := 1) rfl rfl n hn)) (hf 1 _ rfl)
    cases e0
    exact ⟨(⟨s0, L⟩, v1), rfl, hc, w0, k1⟩
theorem shs_open {fuel : Nat} {v : Value} {x : DataW H × List MemPlace} (hw : Lgt 22 x.1) (h : DataW.trod enc Tryz.prog W 0 sp held fuel 22 [v] = some x) : ∃ L, Shs 0 W.heap.size W v L ∧ (∀ c ∈ L, c.name.size ≤ maxLen ∧ c.cells.length ≤ reachBytes) ∧ L.length ≤ reachBytes := by
  obtain ⟨L, h1, h2, h3⟩ := rws_open (C := fun c : SheetT × Value => sheetC c.1 c.2) (Q := fun c => Cls 0 W.heap.size W c.2 c.1.cells ∧ c.1.name.size ≤ maxLen ∧ c.1.cells.length ≤ reachBytes) Tryz.underlying22 (sz := 2) (by kernel_rfl) (by decide) (of_decide_eq_true (by kernel_rfl)) hw sheet_open h
  refine ⟨L.map (·.1), ⟨fun j => ((L[j]?).map (·.2)).getD (.slice none 0 0), ?_, fun j o hj => ?_⟩, fun c hc => ?_, by simpa using h3⟩
  · rw [List.length_map]
    refine Rws.congr h1 fun j hj => ?_
    simp [sheetsC, List.getElem?_eq_getElem hj]
  · rw [List.getElem?_map] at hj
    rcases hq : L[j]? with _ | c
    · rw [hq] at hj; cases hj
    · rw [hq] at hj
      cases hj
      dsimp only
      rw [hq]
      exact (h2 j c hq).1
  · obtain ⟨y, hy, rfl⟩ := List.mem_map.1 hc
    obtain ⟨j, hj⟩ := List.getElem?_of_mem hy
    exact (h2 j y hj).2
theorem book_open {fuel : Nat} {cs : List Value} {y : DataW H × List MemPlace} (hw : Lgt 26 y.1) (h : DataW.trod enc Tryz.prog W 0 sp held fuel 26 cs = some y) : ∃ sv nv lv x, cs = [sv, nv, lv] ∧ BkM 0 W.heap.size W sv nv lv x ∧ (∀ c ∈ x.sheets, c.name.size ≤ maxLen ∧ c.cells.length ≤ reachBytes) ∧ x.sheets.length ≤ reachBytes ∧ x.names.length ≤ reachBytes ∧ x.links.length ≤ reachBytes := by
  obtain ⟨xs, n, _, rfl, hl, hxl, hf⟩ := DataW.trod_struct Tryz.underlying26 h
  have hw2 := hw
  simp only [DataW.weights, Tryz.underlying26] at hw2
  have hl3 : cs.length = 3 := hl.trans (by kernel_rfl)
  match xs, hxl, cs, hl3 with
  | [y0, y1, y2], _, [v0, v1, v2], _ =>
    obtain ⟨L0, h0, k0, b0⟩ := shs_open (v := v0) (x := y0) (fun n hn => hw2 n (DataW.weights_mem_each (j := 0) rfl rfl n hn)) (hf 0 _ rfl)
    obtain ⟨L1, h1, b1⟩ := nms_open (v := v1) (x := y1) (fun n hn => hw2 n (DataW.weights_mem_each (j := 1) rfl rfl n hn)) (hf 1 _ rfl)
    obtain ⟨L2, h2, b2⟩ := lks_open (v := v2) (x := y2) (fun n hn => hw2 n (DataW.weights_mem_each (j := 2) rfl rfl n hn)) (hf 2 _ rfl)
    exact ⟨v0, v1, v2, ⟨L0, L1, L2⟩, rfl, ⟨h0, h1, h2⟩, k0, b0, b1, b2⟩
theorem put_open {fuel : Nat} {cs : List Value} {y : DataW H × List MemPlace} (hw : Lgt 29 y.1) (h : DataW.trod enc Tryz.prog W 0 sp held fuel 29 cs = some y) : ∃ p : PutT, cs = put6 p ∧ p.sh.size ≤ maxLen := by
  obtain ⟨xs, n, _, rfl, hl, hxl, hf⟩ := DataW.trod_struct Tryz.underlying29 h
  have hw2 := hw
  simp only [DataW.weights, Tryz.underlying29] at hw2
  have hl3 : cs.length = 6 := hl.trans (by kernel_rfl)
  match xs, hxl, cs, hl3 with
  | [y0, y1, y2, y3, y4, y5], _, [v0, v1, v2, v3, v4, v5], _ =>
    obtain ⟨s0, e0, q0, w0⟩ := DataW.trod_string Tryz.underlying9 (hf 0 _ rfl)
    obtain ⟨n1, e1, q1, w1⟩ := DataW.trod_int Tryz.underlying3 (hf 1 _ rfl)
    obtain ⟨n2, e2, q2, w2⟩ := DataW.trod_int Tryz.underlying3 (hf 2 _ rfl)
    obtain ⟨s3, e3, q3, w3⟩ := DataW.trod_string Tryz.underlying9 (hf 3 _ rfl)
    obtain ⟨n4, e4, q4, w4⟩ := DataW.trod_int Tryz.underlying3 (hf 4 _ rfl)
    obtain ⟨L, hc, k1⟩ := cls_open (v := v5) (x := y5) (fun n hn => hw2 n (DataW.weights_mem_each (j := 5) rfl rfl n hn)) (hf 5 _ rfl)
    cases e0; cases e1; cases e2; cases e3; cases e4
    obtain ⟨a, c, rfl, _, _⟩ := hc.slice
    exact ⟨⟨s0, n1, n2, s3, n4, a, L.length, c⟩, rfl, w0⟩
theorem puts_open {fuel : Nat} {v : Value} {x : DataW H × List MemPlace} (hw : Lgt 59 x.1) (h : DataW.trod enc Tryz.prog W 0 sp held fuel 59 [v] = some x) : ∃ L, Pts 0 W.heap.size W v L ∧ (∀ p ∈ L, p.sh.size ≤ maxLen) ∧ L.length ≤ reachBytes := by
  obtain ⟨L, h1, h2, h3⟩ := rws_open (C := put6) (Q := fun p : PutT => p.sh.size ≤ maxLen) Tryz.underlying59 (sz := 6) (by kernel_rfl) (by decide) (of_decide_eq_true (by kernel_rfl)) hw put_open h
  refine ⟨L, h1, fun p hp => ?_, h3⟩
  obtain ⟨j, hj⟩ := List.getElem?_of_mem hp
  exact h2 j p hj
end
end Go.Proofs.YtpafokmkcblcnaaGreatDoor.Sh

namespace Go.Proofs.YtpafokmkcblcnaaGreatDoor.Sh
open Go.RowKit Go.Fm
set_option maxRecDepth 100000
structure RS (w u : World) (a1 a2 a3 : Value) (x : BookT) : Prop where
  bx : u.heap[w.heap.size]? = some (bkO a1 a2 a3)
  bk : BkIn w.heap.size u a1 a2 a3 x
  fn : Fine x
  bl : Below w.heap.size w u
section
variable {w u v : World} {a1 a2 a3 : Value} {x : BookT}
theorem RS.step (h : RS w u a1 a2 a3 x) (hb : Below u.heap.size u v) : RS w v a1 a2 a3 x :=
  ⟨(hb.block _ (blk_lt h.bx)).trans h.bx, h.bk.below hb, h.fn, Sh.bel_step h.bl h.bl.size hb⟩
theorem RS.alloc (h : RS w u a1 a2 a3 x) (o : Obj) : RS w (u.alloc o) a1 a2 a3 x := h.step (Sh.bel_alloc (Below.refl _ _) (Nat.le_refl _) _)
theorem RS.cells (h : RS w u a1 a2 a3 x) : u.cell? ⟨w.heap.size, 0, none⟩ = some a1 ∧ u.cell? ⟨w.heap.size, 1, none⟩ = some a2 ∧ u.cell? ⟨w.heap.size, 2, none⟩ = some a3 := b_cells h.bx
theorem RS.tab (h : RS w u a1 a2 a3 x) (T : Tab9 w) : Tab9 u := T.below h.bl
theorem RS.count (h : RS w u a1 a2 a3 x) : Calls Tryz.prog 24 #[.agg #[a1, a2, a3]] u fun e v => e = .returned (.int .i64 (cntL x.sheets : Nat)) ∧ Below u.heap.size u v := by
  obtain ⟨lo, hi, h1, h2, _⟩ := h.bk
  have := h.fn.rt.ct
  exact count_any h1 h2 (by omega)
theorem RS.get (h : RS w u a1 a2 a3 x) (s : ByteArray) (r c : Int) : Calls Tryz.prog 22 #[.agg #[a1, a2, a3], .string s, .int .i64 r, .int .i64 c] u fun e v => e = .returned (.string (getL (cellsO x.sheets s) r c)) ∧ Below u.heap.size u v := by
  obtain ⟨lo, hi, h1, h2, _⟩ := h.bk
  exact get_any h1 h2 s r c
theorem RS.check (h : RS w u a1 a2 a3 x) (T : Tab9 w) : Calls Tryz.prog 11 #[.agg #[a1, a2, a3]] u fun e v => e = .returned (.int .i64 0) ∧ Below u.heap.size u v := by
  obtain ⟨lo, hi, h1, h2, _⟩ := h.bk
  have := check_any h1 h2 h.fn.ok h.fn.cells (h.tab T)
  rw [h.fn.check] at this
  exact this
theorem RS.put (h : RS w u a1 a2 a3 x) (T : Tab9 w) (s : ByteArray) (r c : Int) (t : ByteArray) : Calls Tryz.prog 13 #[.agg #[a1, a2, a3], .string s, .int .i64 r, .int .i64 c, .string t] u (PutP u (putE x s r c t) (putAt x ((idxN x.sheets s).getD 0) ⟨r, c, t⟩)) := by
  obtain ⟨lo, hi, h1, h2, _⟩ := h.bk
  exact put_any h1 h2 h.fn.small h.fn.rises (h.tab T) s r c t
theorem RS.drop (h : RS w u a1 a2 a3 x) (s : ByteArray) : Calls Tryz.prog 30 #[.agg #[a1, a2, a3], .string s] u (PutP u (dropE x s) (dropAt x ((idxN x.sheets s).getD 0))) := by
  obtain ⟨lo, hi, h1, h2, _⟩ := h.bk
  exact drop_any h1 h2 h.fn.small s
theorem cls_none (u : World) : Cls 0 0 u (.slice none ([] : List CellT).length 0) [] := .inl ⟨rfl, rfl⟩
theorem RS.add (h : RS w u a1 a2 a3 x) (T : Tab9 w) (s : ByteArray) (hs : s.size ≤ 9223372036854775807) (k : Int) : Calls Tryz.prog 28 #[.agg #[a1, a2, a3], .string s, .int .i64 k, .slice none 0 0] u (PutP u (addE x s k []) (addAt x k.toNat ⟨s, []⟩)) := by
  obtain ⟨lo, hi, h1, h2, _⟩ := h.bk
  exact add_any h1 h2 h.fn.small (h.tab T) s hs k (L := []) (cls_none u) (Nat.zero_le _) (by simp)
theorem RS.store (h : RS w u a1 a2 a3 x) {y : BookT} (hy : Fine y) {b1 b2 b3 : Value} (ho : OwnB u.heap.size v b1 b2 b3 y) (hv : Below u.heap.size u v) {z : World} (hz : Below v.heap.size v z) (h1 : (#[b1, b2, b3] : Array Value).all (·.oneCell') = true) :
    Hid ((Instr.storeAt 26 (.pointer (some ⟨w.heap.size, 0, none⟩)) (.agg #[b1, b2, b3])).run Tryz.prog z = .ok () (z.setRow w.heap.size #[b1, b2, b3])) ∧ RS w (z.setRow w.heap.size #[b1, b2, b3]) b1 b2 b3 y := by
  have hlt := blk_lt h.bx
  have hs := hv.size
  have hb := (hz.block _ (by omega)).trans ((hv.block _ hlt).trans h.bx)
  refine ⟨stBk hb rfl rfl h1, setRow_heap _ _ _ _ _ _ hb, ?_, hy, below_setRow (Sh.bel_step (Sh.bel_step h.bl h.bl.size hv) (Nat.le_trans h.bl.size hs) hz) (Nat.le_refl _) _⟩
  exact (((ho.bkIn hlt).below hz).row _)
theorem PutP.any {err : Int} {y : BookT} {e : Ending} (h : PutP u err y e v) : ∃ c1 n1 m1 c2 n2 m2 c3 n3 m3, e = .returned (.tuple #[.agg #[.slice c1 n1 m1, .slice c2 n2 m2, .slice c3 n3 m3], .int .i64 err]) ∧ Hid (err = 0 → OwnB u.heap.size v (.slice c1 n1 m1) (.slice c2 n2 m2) (.slice c3 n3 m3) y) ∧ Hid (Below u.heap.size u v) := by
  obtain ⟨hp, hv⟩ := h
  by_cases he : err = 0
  · rw [if_pos he] at hp
    obtain ⟨s, n, l, rfl, ho⟩ := hp
    have hbk := ho.bkm
    obtain ⟨c1, k1, rfl, _, _⟩ := hbk.sh.slice
    obtain ⟨c2, k2, rfl, _, _⟩ := hbk.nm.slice
    obtain ⟨c3, k3, rfl, _, _⟩ := hbk.lk.slice
    exact ⟨c1, _, k1, c2, _, k2, c3, _, k3, by rw [he], fun _ => ho, hv⟩
  · rw [if_neg he] at hp
    exact ⟨none, 0, 0, none, 0, 0, none, 0, 0, hp, fun e => absurd e he, hv⟩
end
theorem p_cells {u : World} {q : Nat} {p : PutT} (h : u.heap[q]? = some (.cells (put6 p).toArray 29)) : u.cell? ⟨q, 0, none⟩ = some (.string p.sh) ∧ u.cell? ⟨q, 1, none⟩ = some (.int .i64 p.r) ∧ u.cell? ⟨q, 2, none⟩ = some (.int .i64 p.c) ∧ u.cell? ⟨q, 3, none⟩ = some (.string p.t) ∧ u.cell? ⟨q, 4, none⟩ = some (.int .i64 p.at1) :=
  ⟨cell_heap h rfl, cell_heap h rfl, cell_heap h rfl, cell_heap h rfl, cell_heap h rfl⟩
end Go.Proofs.YtpafokmkcblcnaaGreatDoor.Sh

namespace Go.Proofs.YtpafokmkcblcnaaGreatDoor.Sh
open Go.RowKit Go.Fm
set_option maxRecDepth 100000
structure RP (w : World) (q : Nat) (p : PutT) (u : World) (a1 a2 a3 : Value) (x : BookT) : Prop where
  rs : RS w u a1 a2 a3 x
  px : u.heap[q]? = some (.cells (put6 p).toArray 29)
  lt : w.heap.size < q
section
variable {w u v : World} {q : Nat} {p : PutT} {a1 a2 a3 : Value} {x : BookT}
theorem RP.step (h : RP w q p u a1 a2 a3 x) (hb : Below u.heap.size u v) : RP w q p v a1 a2 a3 x := ⟨h.rs.step hb, (hb.block _ (blk_lt h.px)).trans h.px, h.lt⟩
theorem RP.alloc (h : RP w q p u a1 a2 a3 x) (o : Obj) : RP w q p (u.alloc o) a1 a2 a3 x := h.step (Sh.bel_alloc (Below.refl _ _) (Nat.le_refl _) _)
theorem RP.cells (h : RP w q p u a1 a2 a3 x) : (u.cell? ⟨w.heap.size, 0, none⟩ = some a1 ∧ u.cell? ⟨w.heap.size, 1, none⟩ = some a2 ∧ u.cell? ⟨w.heap.size, 2, none⟩ = some a3) ∧ (u.cell? ⟨q, 0, none⟩ = some (.string p.sh) ∧ u.cell? ⟨q, 1, none⟩ = some (.int .i64 p.r) ∧ u.cell? ⟨q, 2, none⟩ = some (.int .i64 p.c) ∧ u.cell? ⟨q, 3, none⟩ = some (.string p.t) ∧ u.cell? ⟨q, 4, none⟩ = some (.int .i64 p.at1)) := ⟨h.rs.cells, p_cells h.px⟩
theorem RP.store (h : RP w q p u a1 a2 a3 x) {y : BookT} (hy : Fine y) {b1 b2 b3 : Value} (ho : OwnB u.heap.size v b1 b2 b3 y) (hv : Below u.heap.size u v) {z : World} (hz : Below v.heap.size v z) (h1 : (#[b1, b2, b3] : Array Value).all (·.oneCell') = true) :
    Hid ((Instr.storeAt 26 (.pointer (some ⟨w.heap.size, 0, none⟩)) (.agg #[b1, b2, b3])).run Tryz.prog z = .ok () (z.setRow w.heap.size #[b1, b2, b3])) ∧ RP w q p (z.setRow w.heap.size #[b1, b2, b3]) b1 b2 b3 y := by
  obtain ⟨r1, r2⟩ := h.rs.store hy ho hv hz h1
  have hl := h.lt
  have hq := blk_lt h.px
  have hs := hv.size
  exact ⟨r1, r2, by rw [setRow_other _ _ _ _ (by omega)]; exact (hz.block _ (by omega)).trans ((hv.block _ hq).trans h.px), hl⟩
end
theorem ba_same {a b : ByteArray} (h : a.toList = b.toList) : a = b := by
  have h2 : a.data.toList = b.data.toList := by simpa [ByteArray.toList_eq] using h
  cases a; cases b
  congr
  exact Array.toList_inj.1 h2
theorem put_all {x : BookT} (h : Fine x) {s : ByteArray} {r c : Int} {t : ByteArray} (he : putE x s r c t = 0) :
    Fine (putAt x ((idxN x.sheets s).getD 0) ⟨r, c, t⟩) ∧ getL (cellsO (putAt x ((idxN x.sheets s).getD 0) ⟨r, c, t⟩).sheets s) r c = t ∧
    (cntL (putAt x ((idxN x.sheets s).getD 0) ⟨r, c, t⟩).sheets : Int) = cntL x.sheets + (if (getL (cellsO x.sheets s) r c).toList == [] && !(t.toList == []) then 1 else 0) - (if !((getL (cellsO x.sheets s) r c).toList == []) && t.toList == [] then 1 else 0) := by
  obtain ⟨i, hx, hf⟩ := h.put he
  rw [hx]
  have hi := idx_lt hx
  refine ⟨hf, ba_same (put_told hx ⟨r, c, t⟩), ?_⟩
  have e : cellsO x.sheets s = x.sheets[i].cells := by
    unfold cellsO
    rw [hx]
    simp [List.getElem?_eq_getElem hi]
  rw [e]
  exact put_count h.rt hi ⟨r, c, t⟩
theorem drop_all {x : BookT} (h : Fine x) {s : ByteArray} (he : dropE x s = 0) : Fine (dropAt x ((idxN x.sheets s).getD 0)) := by
  obtain ⟨i, hx, hf⟩ := h.drop he
  rw [hx]
  exact hf
end Go.Proofs.YtpafokmkcblcnaaGreatDoor.Sh

namespace Go.Proofs.YtpafokmkcblcnaaGreatDoor.Sh
open Go.RowKit Go.Fm
set_option maxRecDepth 100000
theorem own_row {base g j : Nat} {v : World} {b1 b2 b3 : Value} {y : BookT} (h : OwnB base v b1 b2 b3 y) (hg : g < base) (hj : j < base) (es : Array Value) : BkIn g (v.setRow j es) b1 b2 b3 y :=
  ⟨base, v.heap.size, h.bkm.kept fun i a b => setRow_other _ _ _ _ (by omega), by rw [setRow_size]; exact Nat.le_refl _, .inr hg⟩
theorem RP.store2 {w u z : World} {q : Nat} {p : PutT} {a1 a2 a3 b1 b2 b3 : Value} {x y : BookT} (h : RP w q p u a1 a2 a3 x) (hz : Below u.heap.size u z) (hk : BkIn w.heap.size z b1 b2 b3 y) (hy : Fine y) (h1 : (#[b1, b2, b3] : Array Value).all (·.oneCell') = true) :
    Hid ((Instr.storeAt 26 (.pointer (some ⟨w.heap.size, 0, none⟩)) (.agg #[b1, b2, b3])).run Tryz.prog z = .ok () (z.setRow w.heap.size #[b1, b2, b3])) ∧ RP w q p (z.setRow w.heap.size #[b1, b2, b3]) b1 b2 b3 y := by
  have hz2 := h.step hz
  have hl := h.lt
  refine ⟨stBk hz2.rs.bx rfl rfl h1, ⟨setRow_heap _ _ _ _ _ _ hz2.rs.bx, hk.row _, hy, below_setRow hz2.rs.bl (Nat.le_refl _) _⟩, by rw [setRow_other _ _ _ _ (by omega)]; exact hz2.px, hl⟩
theorem RP.dropped {w u v : World} {q : Nat} {p : PutT} {a1 a2 a3 : Value} {x : BookT} (h : RP w q p u a1 a2 a3 x) (hv : Below u.heap.size u v) (c1 c2 c3 : Value) :
    Calls Tryz.prog 30 #[.agg #[a1, a2, a3], .string p.sh] (v.alloc (bkO c1 c2 c3)) fun e v4 => ∃ o1 p1 q1 o2 p2 q2 o3 p3 q3 z, e = .returned (.tuple #[.agg #[.slice o1 p1 q1, .slice o2 p2 q2, .slice o3 p3 q3], .int .i64 (dropE x p.sh)]) ∧
      Hid ((Instr.storeAt 26 (.pointer (some ⟨v.heap.size, 0, none⟩)) (.agg #[.slice o1 p1 q1, .slice o2 p2 q2, .slice o3 p3 q3])).run Tryz.prog v4 = .ok () z) ∧
      Hid (z.heap[v.heap.size]? = some (bkO (.slice o1 p1 q1) (.slice o2 p2 q2) (.slice o3 p3 q3))) ∧ Hid (RP w q p z a1 a2 a3 x) ∧
      Hid (dropE x p.sh = 0 → Hid ((Instr.storeAt 26 (.pointer (some ⟨w.heap.size, 0, none⟩)) (.agg #[.slice o1 p1 q1, .slice o2 p2 q2, .slice o3 p3 q3])).run Tryz.prog z = .ok () (z.setRow w.heap.size #[.slice o1 p1 q1, .slice o2 p2 q2, .slice o3 p3 q3])) ∧ RP w q p (z.setRow w.heap.size #[.slice o1 p1 q1, .slice o2 p2 q2, .slice o3 p3 q3]) (.slice o1 p1 q1) (.slice o2 p2 q2) (.slice o3 p3 q3) (dropAt x ((idxN x.sheets p.sh).getD 0))) := by
  have hU := (h.step hv).alloc (bkO c1 c2 c3)
  refine (hU.rs.drop p.sh).mono ?_
  rintro e v4 hp
  obtain ⟨o1, p1, q1, o2, p2, q2, o3, p3, q3, rfl, HO, HB⟩ := PutP.any hp
  have hs := hv.size
  have hb4 := HB.out.size
  have hw := blk_lt h.rs.bx
  have hsz : (v.alloc (bkO c1 c2 c3)).heap.size = v.heap.size + 1 := by simp
  have hx : v4.heap[v.heap.size]? = some (bkO c1 c2 c3) := (HB.out.block _ (by omega)).trans (heap_alloc_new v _)
  have hz : Below u.heap.size u (v4.setRow v.heap.size #[.slice o1 p1 q1, .slice o2 p2 q2, .slice o3 p3 q3]) := below_setRow (Sh.bel_step (Sh.bel_alloc hv (Nat.le_refl _) _) (by omega) HB.out) hs _
  refine ⟨o1, p1, q1, o2, p2, q2, o3, p3, q3, _, rfl, stBk hx rfl rfl (by simp [Value.oneCell']), setRow_heap _ _ _ _ _ _ hx, h.step hz, fun he => ?_⟩
  exact h.store2 hz (own_row (HO.out he) (by omega) (by omega) _) (drop_all h.rs.fn he) (by simp [Value.oneCell'])
end Go.Proofs.YtpafokmkcblcnaaGreatDoor.Sh
