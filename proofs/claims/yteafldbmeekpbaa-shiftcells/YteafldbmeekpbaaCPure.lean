/- Where cells go, plainly; two rows of one's own beside one another. -/
import Derived.Test.YteafldbmeekpbaaCSame
import Derived.Test.YteafldbmeekpbaaHFun
namespace Go.Proofs.Yteafldbmeekpbaa
open Go.RowKit
set_option maxRecDepth 100000
set_option linter.unusedVariables false
set_option linter.unusedSimpArgs false
def lnC : Bool → CT → Int
  | true, x => x.c
  | false, x => x.r
def stC : Bool → CT → Int → CT
  | true, x, q => ⟨x.r, q, x.t⟩
  | false, x, q => ⟨q, x.c, x.t⟩
/-- A cell that has no place behind it, and does not go either. -/
def dwC (n m p : Int) : Bool := decide (0 < n) || !(decide (1 ≤ p) && decide (p ≤ m))
def stepC (a n m : Int) (cols : Bool) : Option (List CT × List CT) → CT → Option (List CT × List CT)
  | none, _ => none
  | some (M, G), x => if posB a n m (lnC cols x) = true then some (M ++ [stC cols x (posF a n m (lnC cols x))], G) else if dwC n m (lnC cols x) = true then none else some (M, G ++ [x])
theorem step_some (a n m : Int) (cols : Bool) (M G : List CT) (x : CT) : stepC a n m cols (some (M, G)) x = if posB a n m (lnC cols x) = true then some (M ++ [stC cols x (posF a n m (lnC cols x))], G) else if dwC n m (lnC cols x) = true then none else some (M, G ++ [x]) := rfl
def wkC (a n m : Int) (cols : Bool) (L : List CT) : Option (List CT × List CT) := L.foldl (stepC a n m cols) (some ([], []))
def clF (a n m : Int) (cols : Bool) (L : List CT) : Option (List CT × List CT) := if goodB a n m = true then wkC a n m cols L else none
theorem wk_none (a n m : Int) (cols : Bool) : ∀ L : List CT, L.foldl (stepC a n m cols) none = none
  | [] => rfl
  | x :: L => by rw [List.foldl_cons]; exact wk_none a n m cols L
theorem wk_succ {a n m : Int} {cols : Bool} {L : List CT} {k : Nat} (hk : k < L.length) : wkC a n m cols (L.take (k + 1)) = stepC a n m cols (wkC a n m cols (L.take k)) L[k] := by
  unfold wkC
  rw [List.take_succ_eq_append_getElem hk, List.foldl_append]
  rfl
theorem wk_dead {a n m : Int} {cols : Bool} {L : List CT} {k : Nat} (h : wkC a n m cols (L.take k) = none) : wkC a n m cols L = none := by
  unfold wkC at *
  conv => lhs; rw [← List.take_append_drop k L]
  rw [List.foldl_append, h]
  exact wk_none a n m cols _
theorem step_len {a n m : Int} {cols : Bool} {M G M' G' : List CT} {x : CT} (h : stepC a n m cols (some (M, G)) x = some (M', G')) : M'.length + G'.length = M.length + G.length + 1 := by
  rw [step_some] at h
  split at h
  · cases h; simp; omega
  · split at h
    · cases h
    · cases h; simp; omega
theorem wk_len {a n m : Int} {cols : Bool} {L : List CT} : ∀ {k : Nat} {M G : List CT}, k ≤ L.length → wkC a n m cols (L.take k) = some (M, G) → M.length + G.length = k
  | 0, M, G, _, h => by
    have : (some (([] : List CT), ([] : List CT))) = some (M, G) := by rw [← h]; simp [wkC]
    cases this; rfl
  | k + 1, M, G, hk, h => by
    rw [wk_succ (by omega)] at h
    cases h0 : wkC a n m cols (L.take k) with
    | none => rw [h0] at h; cases h
    | some s =>
      obtain ⟨M0, G0⟩ := s
      rw [h0] at h
      have := wk_len (by omega) h0
      rw [step_len h]; omega
/-- The four ways of a cell, as the program goes them. -/
theorem way_out {a n m : Int} {cols : Bool} {M G : List CT} {x : CT} (hg : goodB a n m = true) (h : (decide (1 ≤ lnC cols x) && decide (lnC cols x ≤ m)) = false) : stepC a n m cols (some (M, G)) x = none := by
  have e1 : posB a n m (lnC cols x) = false := by unfold posB; rw [h]; simp
  have e2 : dwC n m (lnC cols x) = true := by unfold dwC; rw [h]; simp
  rw [step_some, e1, e2]; rfl
theorem way_over {a n m : Int} {cols : Bool} {M G : List CT} {x : CT} (hg : goodB a n m = true) (h : (decide (1 ≤ lnC cols x) && decide (lnC cols x ≤ m)) = true) (ho : m < mvF a n (lnC cols x)) : stepC a n m cols (some (M, G)) x = none := by
  have hb := good_bd hg
  have hp : 1 ≤ lnC cols x ∧ lnC cols x ≤ m := by simpa using h
  have e1 : posB a n m (lnC cols x) = false := by unfold posB; rw [decide_eq_false (by omega : ¬ mvF a n (lnC cols x) ≤ m)]; simp
  have hn : 0 < n := by
    unfold mvF nxF at ho
    rcases Int.lt_or_le 0 n with h | h
    · exact h
    · repeat' split at ho
      all_goals omega
  have e2 : dwC n m (lnC cols x) = true := by unfold dwC; rw [decide_eq_true hn]; rfl
  rw [step_some, e1, e2]; rfl
theorem way_move {a n m : Int} {cols : Bool} {M G : List CT} {x : CT} (hg : goodB a n m = true) (h : (decide (1 ≤ lnC cols x) && decide (lnC cols x ≤ m)) = true) (ho : mvF a n (lnC cols x) ≤ m) (hs : mvB a n (lnC cols x) = true) : stepC a n m cols (some (M, G)) x = some (M ++ [stC cols x (mvF a n (lnC cols x))], G) := by
  have e1 : posB a n m (lnC cols x) = true := by unfold posB; rw [hg, h, hs, decide_eq_true ho]; rfl
  have e2 : posF a n m (lnC cols x) = mvF a n (lnC cols x) := by unfold posF; rw [e1]; rfl
  rw [step_some, e1, e2]; rfl
theorem way_gone {a n m : Int} {cols : Bool} {M G : List CT} {x : CT} (hg : goodB a n m = true) (h : (decide (1 ≤ lnC cols x) && decide (lnC cols x ≤ m)) = true) (hs : mvB a n (lnC cols x) = false) : stepC a n m cols (some (M, G)) x = some (M, G ++ [x]) := by
  have hb := good_bd hg
  have e1 : posB a n m (lnC cols x) = false := by unfold posB; rw [hs]; simp
  have hn : ¬ 0 < n := by
    intro hn
    unfold mvB nxF at hs
    rw [if_neg (by omega)] at hs
    cases hd : decide (lnC cols x < a) <;> rw [hd] at hs <;> cases hs
  have e2 : dwC n m (lnC cols x) = false := by unfold dwC; rw [h, decide_eq_false hn]; rfl
  rw [step_some, e1, e2]; rfl
/-- The ways as the document goes them. -/
theorem ref_move {a n m : Int} {cols : Bool} {M G : List CT} {x : CT} (h : posB a n m (lnC cols x) = true) : stepC a n m cols (some (M, G)) x = some (M ++ [stC cols x (posF a n m (lnC cols x))], G) := by
  rw [step_some, h]; rfl
theorem ref_dead {a n m : Int} {cols : Bool} {M G : List CT} {x : CT} (h : posB a n m (lnC cols x) = false) (hd : dwC n m (lnC cols x) = true) : stepC a n m cols (some (M, G)) x = none := by
  rw [step_some, h, hd]; rfl
theorem ref_gone {a n m : Int} {cols : Bool} {M G : List CT} {x : CT} (h : posB a n m (lnC cols x) = false) (hd : dwC n m (lnC cols x) = false) : stepC a n m cols (some (M, G)) x = some (M, G ++ [x]) := by
  rw [step_some, h, hd]; rfl
/-- What is answered. -/
def CAns (B : Nat) (w' : World) (e : Ending) : Option (List CT × List CT) → Prop
  | none => e = .returned (.tuple #[.slice none 0 0, .slice none 0 0, .bool false])
  | some (M, G) => ∃ mv gv, e = .returned (.tuple #[mv, gv, .bool true]) ∧ OwnM B w' mv M ∧ OwnM B w' gv G
def Apt (mv gv : Value) : Prop := ∀ g, mv.ownBlock = some g → gv.ownBlock = some g → False
/-- Two rows of one's own beside one another, behind a world. -/
structure CQ (w : World) (mv gv : Value) (M G : List CT) (u : World) : Prop where
  bel : Below w.heap.size w u
  mo : OwnM w.heap.size u mv M
  go : OwnM w.heap.size u gv G
  ap : Apt mv gv
theorem CQ.begin (w : World) : CQ w (.slice none 0 0) (.slice none 0 0) [] [] w := ⟨Below.refl _ _, OwnM.nil _ _, OwnM.nil _ _, fun g h => by cases h⟩
theorem CQ.below {w u u' : World} {mv gv : Value} {M G : List CT} (h : CQ w mv gv M G u) (hb : Below u.heap.size u u') : CQ w mv gv M G u' :=
  ⟨bel_step h.bel hb, h.mo.below hb, h.go.below hb, h.ap⟩
theorem ownM_cat2 {base : Nat} {w : World} {v : Value} {L : List CT} {y : CT} {b : Nat} (h : OwnM base w v L) (hg : w.heap[b]? = some (nmO y)) (hn : L.length + 1 ≤ 4398046511104) (hbase : base ≤ w.heap.size) :
    ∃ v' w', Hid ((Builtin.append_ #[39, 39] 39 #[v, .slice (some ⟨b, 0, none⟩) 1 1]).run Try.prog w = .ok v' w') ∧ OwnM base w' v' (L ++ [y]) ∧ w.grownBy w' v.ownBlock ∧ Below base w w' ∧ (v'.ownBlock = v.ownBlock ∨ v'.ownBlock = some w.heap.size) := by
  obtain ⟨i, z, hi, hz, hz1, hz2, hz3, _⟩ := ninfo
  have hrow := fun k hk => (World.ownsRow.lt h k hk).1
  obtain ⟨v', w', r1, o1, g1, _, l1⟩ := run_append_own_at w base 39 39 45 i z 3 32 Try.underlying39 hi hz hz1 hz2 hz3 (by decide) v _ _ h ⟨b, 0, none⟩ 1 1 (ncl y) rfl (fun j u hj => by
    rw [Addr.add_mid, cell_of_row w b (0 + j) _ _ _ hg, Nat.zero_add, ← hj]; simp) (fun u hu => by
    simp only [ncl, List.mem_cons, List.not_mem_nil, or_false] at hu
    rcases hu with rfl | rfl | rfl <;> rfl) (by simp only [maxLen]; omega) (by omega) hbase
  refine ⟨v', w', r1, ?_, g1, (Below.refl base w).grown g1 hbase hrow, l1⟩
  unfold OwnM
  rw [List.length_append, List.flatMap_append]
  simpa using o1
/-- One more of those that stay. -/
theorem CQ.more {w u : World} {mv gv : Value} {M G : List CT} (h : CQ w mv gv M G u) {b : Nat} {y : CT} (hg : u.heap[b]? = some (nmO y)) (hn : M.length + 1 ≤ 4398046511104) :
    ∃ v' u', Hid ((Builtin.append_ #[39, 39] 39 #[mv, .slice (some ⟨b, 0, none⟩) 1 1]).run Try.prog u = .ok v' u') ∧ CQ w v' gv (M ++ [y]) G u' := by
  obtain ⟨v', u', r1, o1, g1, b1, l1⟩ := ownM_cat2 h.mo hg hn h.bel.size
  refine ⟨v', u', r1, h.bel.trans b1, o1, h.go.kept g1 ?_, ?_⟩
  · cases hq : gv.ownBlock with
    | none => exact .inl rfl
    | some k => exact .inr fun e => h.ap k e.symm hq
  · intro k h1 h2
    rcases l1 with e | e
    · exact h.ap k (e.symm.trans h1) h2
    · have := (World.ownsRow.lt h.go k h2).2
      rw [e] at h1; cases h1; omega
theorem CQ.swap {w u : World} {mv gv : Value} {M G : List CT} (h : CQ w mv gv M G u) : CQ w gv mv G M u := ⟨h.bel, h.go, h.mo, fun g h1 h2 => h.ap g h2 h1⟩
theorem set0 {u : World} {g : Nat} {a b c v : Value} {t : TypeId} (h : u.heap[g]? = some (.cells #[a, b, c] t (0, 0))) : (u.setCell ⟨g, 0, none⟩ v).heap[g]? = some (.cells #[v, b, c] t (0, 0)) := by
  simp [World.setCell, Array.getElem?_modify, h]
theorem set1 {u : World} {g : Nat} {a b c v : Value} {t : TypeId} (h : u.heap[g]? = some (.cells #[a, b, c] t (0, 0))) : (u.setCell ⟨g, 1, none⟩ v).heap[g]? = some (.cells #[a, v, c] t (0, 0)) := by
  simp [World.setCell, Array.getElem?_modify, h]
/-- Behind a cell's own box, whatever came between, the box written at one place: what is loaded, built into a row of one, and put behind those that stay. -/
theorem CQ.pack {w wr u : World} {mv gv : Value} {M G : List CT} (h : CQ w mv gv M G wr) {y : CT} (hb : Below wr.heap.size wr u) (hy : u.heap[wr.heap.size]? = some (nmO y)) (hn : M.length + 1 ≤ 4398046511104) :
    ∃ v' u2 u', Hid ((Instr.loadAt 45 (.pointer (some ⟨wr.heap.size, 0, none⟩))).run Try.prog u = .ok (nmV y) u) ∧ Hid ((Instr.buildSlice 39 1 #[(0, nmV y)]).run Try.prog u = .ok (.slice (some ⟨u.heap.size, 0, none⟩) 1 1) u2) ∧
      Hid ((Builtin.append_ #[39, 39] 39 #[mv, .slice (some ⟨u.heap.size, 0, none⟩) 1 1]).run Try.prog u2 = .ok v' u') ∧ Hid (CQ w v' gv (M ++ [y]) G u') := by
  have h2 := h.below (bel_step hb (bel_alloc (Below.refl u.heap.size u) (nmO y)))
  obtain ⟨v', u', r, q⟩ := h2.more (heap_alloc_new u (nmO y)) hn
  exact ⟨v', u.alloc (nmO y), u', nload hy, nslice_one u y, r, q⟩
theorem y_box {wr u : World} {y : CT} (hb : Below (wr.alloc (nmO y)).heap.size (wr.alloc (nmO y)) u) : u.heap[wr.heap.size]? = some (nmO y) := new1 hb
end Go.Proofs.Yteafldbmeekpbaa
