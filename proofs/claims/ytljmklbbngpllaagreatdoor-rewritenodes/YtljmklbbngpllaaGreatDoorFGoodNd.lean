/- FGood3, FGood. -/
import Derived.Test.YtljmklbbngpllaaGreatDoorFGood2Nd
set_option linter.unusedVariables false
set_option linter.unusedSimpArgs false
set_option maxHeartbeats 16000000
set_option maxRecDepth 100000
namespace Go.Proofs.YtljmklbbngpllaaGreatDoor
open Go.RowKit Go.Fm
def aI8 (a : Lab) : Lab :=
 if a.k = 1 then ⟨1, nb, a.vk, a.vn, a.vs, nb, nb, 0, 0, false, false, nb, nb, 0, 0, false, false⟩
 else if a.k = 2 then ⟨2, nb, 0, 0, nb, a.b1, a.h1, a.r1, a.c1, a.fr1, a.fc1, nb, nb, 0, 0, false, false⟩
 else if a.k = 3 then ⟨3, nb, 0, 0, nb, a.b1, a.h1, a.r1, a.c1, a.fr1, a.fc1, a.b2, a.h2, a.r2, a.c2, a.fr2, a.fc2⟩
 else if a.k = 4 then ⟨4, a.s, 0, 0, nb, a.b1, nb, 0, 0, false, false, nb, nb, 0, 0, false, false⟩ else eF a.k a.s
def wK (a : Lab) : Bool := decide (a.k = 1) || (decide (a.k = 2) || (decide (a.k = 3) || decide (a.k = 4)))
section
variable {a : Lab} {p : Option Addr} {n c : Nat} {w : World}
theorem aHG (hk : a.k = 1) : Calls Tryz.prog 159 #[.agg (lcs a (.slice p n c))] w fun e w' => e = .returned (.agg (lcs ⟨1, nb, a.vk, a.vn, a.vs, nb, nb, 0, 0, false, false, nb, nb, 0, 0, false, false⟩ (.slice none 0 0))) ∧ Below w.heap.size w w' := by
 obtain ⟨w2, hw2⟩ : ∃ w2, (w.alloc (.cells (lcs a (.slice p n c)) 28)).alloc (.cells nd0 28) = w2 := ⟨_, rfl⟩
 have H0 : w2.heap[w.heap.size]? = some (.cells (lcs a (.slice p n c)) 28) := by rw [← hw2]; exact (Below.heap_alloc _ _ _ (by simp)).trans (heap_alloc_new w _)
 have H1 : w2.heap[w.heap.size + 1]? = some (.cells nd0 28) := by
  rw [← hw2]
  have := heap_alloc_new (w.alloc (.cells (lcs a (.slice p n c)) 28)) (.cells nd0 28)
  simpa using this
 have HB : Below w.heap.size w w2 := by rw [← hw2]; exact aA (aA (Below.refl _ _) _) _
 obtain ⟨c0, c1, l2, l3, l4⟩ := aN H0
 have L2 : Hid _ := l2
 have L3 : Hid _ := l3
 have L4 : Hid _ := l4
 have c17 := aY H0
 have c5 := dL H0
 have RS := jC H1 rfl ⟨1, nb, a.vk, a.vn, a.vs, nb, nb, 0, 0, false, false, nb, nb, 0, 0, false, false⟩ none 0 0
 have HG : Hid (w2.heap[w.heap.size + 1]? = some (.cells nd0 28)) := H1
 have HF : Hid (Below w.heap.size w (w2.setRow (w.heap.size + 1) (lcs ⟨1, nb, a.vk, a.vn, a.vs, nb, nb, 0, 0, false, false, nb, nb, 0, 0, false, false⟩ (.slice none 0 0)))) := HB.grown (aC _ _ _) HB.size (fun j e => by cases e; omega)
 rw [hk] at c0
 clear H0 H1 l2 l3 l4 HB
 generalize lcs a (.slice p n c) = bx at *
 go_enter Tryz.func159, Tryz.ntmps159
 go_wp2_with (first
  | (refine aB rfl 23 _ rfl _ _ rfl L2.out ?_; clear L2)
  | (refine aB rfl 25 _ rfl _ _ rfl L3.out ?_; clear L3)
  | (refine aB rfl 25 _ rfl _ _ rfl L4.out ?_; clear L4)
  | (refine aD rfl 28 _ _ rfl _ _ _ rfl rfl RS.out ?_))
 exact bodyPost_ret (bP HG.out (aV _ _) rfl rfl) rfl ⟨rfl, HF.out⟩
theorem aHH (hk : a.k = 2) : Calls Tryz.prog 159 #[.agg (lcs a (.slice p n c))] w fun e w' => e = .returned (.agg (lcs ⟨2, nb, 0, 0, nb, a.b1, a.h1, a.r1, a.c1, a.fr1, a.fc1, nb, nb, 0, 0, false, false⟩ (.slice none 0 0))) ∧ Below w.heap.size w w' := by
 obtain ⟨w2, hw2⟩ : ∃ w2, (w.alloc (.cells (lcs a (.slice p n c)) 28)).alloc (.cells nd0 28) = w2 := ⟨_, rfl⟩
 have H0 : w2.heap[w.heap.size]? = some (.cells (lcs a (.slice p n c)) 28) := by rw [← hw2]; exact (Below.heap_alloc _ _ _ (by simp)).trans (heap_alloc_new w _)
 have H1 : w2.heap[w.heap.size + 1]? = some (.cells nd0 28) := by
  rw [← hw2]
  have := heap_alloc_new (w.alloc (.cells (lcs a (.slice p n c)) 28)) (.cells nd0 28)
  simpa using this
 have HB : Below w.heap.size w w2 := by rw [← hw2]; exact aA (aA (Below.refl _ _) _) _
 obtain ⟨c0, c1, l2, l3, l4⟩ := aN H0
 have L2 : Hid _ := l2
 have L3 : Hid _ := l3
 have L4 : Hid _ := l4
 have c17 := aY H0
 have c5 := dL H0
 have RS := jC H1 rfl ⟨2, nb, 0, 0, nb, a.b1, a.h1, a.r1, a.c1, a.fr1, a.fc1, nb, nb, 0, 0, false, false⟩ none 0 0
 have HG : Hid (w2.heap[w.heap.size + 1]? = some (.cells nd0 28)) := H1
 have HF : Hid (Below w.heap.size w (w2.setRow (w.heap.size + 1) (lcs ⟨2, nb, 0, 0, nb, a.b1, a.h1, a.r1, a.c1, a.fr1, a.fc1, nb, nb, 0, 0, false, false⟩ (.slice none 0 0)))) := HB.grown (aC _ _ _) HB.size (fun j e => by cases e; omega)
 rw [hk] at c0
 clear H0 H1 l2 l3 l4 HB
 generalize lcs a (.slice p n c) = bx at *
 go_enter Tryz.func159, Tryz.ntmps159
 go_wp2_with (first
  | (refine aB rfl 23 _ rfl _ _ rfl L2.out ?_; clear L2)
  | (refine aB rfl 25 _ rfl _ _ rfl L3.out ?_; clear L3)
  | (refine aB rfl 25 _ rfl _ _ rfl L4.out ?_; clear L4)
  | (refine aD rfl 28 _ _ rfl _ _ _ rfl rfl RS.out ?_))
 exact bodyPost_ret (bP HG.out (aV _ _) rfl rfl) rfl ⟨rfl, HF.out⟩
theorem aHI (hk : a.k = 3) : Calls Tryz.prog 159 #[.agg (lcs a (.slice p n c))] w fun e w' => e = .returned (.agg (lcs ⟨3, nb, 0, 0, nb, a.b1, a.h1, a.r1, a.c1, a.fr1, a.fc1, a.b2, a.h2, a.r2, a.c2, a.fr2, a.fc2⟩ (.slice none 0 0))) ∧ Below w.heap.size w w' := by
 obtain ⟨w2, hw2⟩ : ∃ w2, (w.alloc (.cells (lcs a (.slice p n c)) 28)).alloc (.cells nd0 28) = w2 := ⟨_, rfl⟩
 have H0 : w2.heap[w.heap.size]? = some (.cells (lcs a (.slice p n c)) 28) := by rw [← hw2]; exact (Below.heap_alloc _ _ _ (by simp)).trans (heap_alloc_new w _)
 have H1 : w2.heap[w.heap.size + 1]? = some (.cells nd0 28) := by
  rw [← hw2]
  have := heap_alloc_new (w.alloc (.cells (lcs a (.slice p n c)) 28)) (.cells nd0 28)
  simpa using this
 have HB : Below w.heap.size w w2 := by rw [← hw2]; exact aA (aA (Below.refl _ _) _) _
 obtain ⟨c0, c1, l2, l3, l4⟩ := aN H0
 have L2 : Hid _ := l2
 have L3 : Hid _ := l3
 have L4 : Hid _ := l4
 have c17 := aY H0
 have c5 := dL H0
 have RS := jC H1 rfl ⟨3, nb, 0, 0, nb, a.b1, a.h1, a.r1, a.c1, a.fr1, a.fc1, a.b2, a.h2, a.r2, a.c2, a.fr2, a.fc2⟩ none 0 0
 have HG : Hid (w2.heap[w.heap.size + 1]? = some (.cells nd0 28)) := H1
 have HF : Hid (Below w.heap.size w (w2.setRow (w.heap.size + 1) (lcs ⟨3, nb, 0, 0, nb, a.b1, a.h1, a.r1, a.c1, a.fr1, a.fc1, a.b2, a.h2, a.r2, a.c2, a.fr2, a.fc2⟩ (.slice none 0 0)))) := HB.grown (aC _ _ _) HB.size (fun j e => by cases e; omega)
 rw [hk] at c0
 clear H0 H1 l2 l3 l4 HB
 generalize lcs a (.slice p n c) = bx at *
 go_enter Tryz.func159, Tryz.ntmps159
 go_wp2_with (first
  | (refine aB rfl 23 _ rfl _ _ rfl L2.out ?_; clear L2)
  | (refine aB rfl 25 _ rfl _ _ rfl L3.out ?_; clear L3)
  | (refine aB rfl 25 _ rfl _ _ rfl L4.out ?_; clear L4)
  | (refine aD rfl 28 _ _ rfl _ _ _ rfl rfl RS.out ?_))
 exact bodyPost_ret (bP HG.out (aV _ _) rfl rfl) rfl ⟨rfl, HF.out⟩
theorem aHJ (hk : a.k = 4) : Calls Tryz.prog 159 #[.agg (lcs a (.slice p n c))] w fun e w' => e = .returned (.agg (lcs ⟨4, a.s, 0, 0, nb, a.b1, nb, 0, 0, false, false, nb, nb, 0, 0, false, false⟩ (.slice none 0 0))) ∧ Below w.heap.size w w' := by
 obtain ⟨w2, hw2⟩ : ∃ w2, (w.alloc (.cells (lcs a (.slice p n c)) 28)).alloc (.cells nd0 28) = w2 := ⟨_, rfl⟩
 have H0 : w2.heap[w.heap.size]? = some (.cells (lcs a (.slice p n c)) 28) := by rw [← hw2]; exact (Below.heap_alloc _ _ _ (by simp)).trans (heap_alloc_new w _)
 have H1 : w2.heap[w.heap.size + 1]? = some (.cells nd0 28) := by
  rw [← hw2]
  have := heap_alloc_new (w.alloc (.cells (lcs a (.slice p n c)) 28)) (.cells nd0 28)
  simpa using this
 have HB : Below w.heap.size w w2 := by rw [← hw2]; exact aA (aA (Below.refl _ _) _) _
 obtain ⟨c0, c1, l2, l3, l4⟩ := aN H0
 have L2 : Hid _ := l2
 have L3 : Hid _ := l3
 have L4 : Hid _ := l4
 have c17 := aY H0
 have c5 := dL H0
 have RS := jC H1 rfl ⟨4, a.s, 0, 0, nb, a.b1, nb, 0, 0, false, false, nb, nb, 0, 0, false, false⟩ none 0 0
 have HG : Hid (w2.heap[w.heap.size + 1]? = some (.cells nd0 28)) := H1
 have HF : Hid (Below w.heap.size w (w2.setRow (w.heap.size + 1) (lcs ⟨4, a.s, 0, 0, nb, a.b1, nb, 0, 0, false, false, nb, nb, 0, 0, false, false⟩ (.slice none 0 0)))) := HB.grown (aC _ _ _) HB.size (fun j e => by cases e; omega)
 rw [hk] at c0
 clear H0 H1 l2 l3 l4 HB
 generalize lcs a (.slice p n c) = bx at *
 go_enter Tryz.func159, Tryz.ntmps159
 go_wp2_with (first
  | (refine aB rfl 23 _ rfl _ _ rfl L2.out ?_; clear L2)
  | (refine aB rfl 25 _ rfl _ _ rfl L3.out ?_; clear L3)
  | (refine aB rfl 25 _ rfl _ _ rfl L4.out ?_; clear L4)
  | (refine aD rfl 28 _ _ rfl _ _ _ rfl rfl RS.out ?_))
 exact bodyPost_ret (bP HG.out (aV _ _) rfl rfl) rfl ⟨rfl, HF.out⟩
theorem aHK (h1 : (a.k == 1) = false) (h2 : (a.k == 2) = false) (h3 : (a.k == 3) = false) (h4 : (a.k == 4) = false) : Calls Tryz.prog 159 #[.agg (lcs a (.slice p n c))] w fun e w' => e = .returned (.agg (lcs (eF a.k a.s) (.slice p n c))) ∧ Below w.heap.size w w' := by
 obtain ⟨w2, hw2⟩ : ∃ w2, (w.alloc (.cells (lcs a (.slice p n c)) 28)).alloc (.cells nd0 28) = w2 := ⟨_, rfl⟩
 have H0 : w2.heap[w.heap.size]? = some (.cells (lcs a (.slice p n c)) 28) := by rw [← hw2]; exact (Below.heap_alloc _ _ _ (by simp)).trans (heap_alloc_new w _)
 have H1 : w2.heap[w.heap.size + 1]? = some (.cells nd0 28) := by
  rw [← hw2]
  have := heap_alloc_new (w.alloc (.cells (lcs a (.slice p n c)) 28)) (.cells nd0 28)
  simpa using this
 have HB : Below w.heap.size w w2 := by rw [← hw2]; exact aA (aA (Below.refl _ _) _) _
 obtain ⟨c0, c1, l2, l3, l4⟩ := aN H0
 have L2 : Hid _ := l2
 have L3 : Hid _ := l3
 have L4 : Hid _ := l4
 have c17 := aY H0
 have c5 := dL H0
 have RS := jC H1 rfl (eF a.k a.s) p n c
 have HG : Hid (w2.heap[w.heap.size + 1]? = some (.cells nd0 28)) := H1
 have HF : Hid (Below w.heap.size w (w2.setRow (w.heap.size + 1) (lcs (eF a.k a.s) (.slice p n c)))) := HB.grown (aC _ _ _) HB.size (fun j e => by cases e; omega)
 clear H0 H1 l2 l3 l4 HB
 generalize lcs a (.slice p n c) = bx at *
 go_enter Tryz.func159, Tryz.ntmps159
 go_wp2_with (first
  | (refine aB rfl 23 _ rfl _ _ rfl L2.out ?_; clear L2)
  | (refine aB rfl 25 _ rfl _ _ rfl L3.out ?_; clear L3)
  | (refine aB rfl 25 _ rfl _ _ rfl L4.out ?_; clear L4)
  | (refine aD rfl 28 _ _ rfl _ _ _ rfl rfl RS.out ?_))
 exact bodyPost_ret (bP HG.out (aV _ _) rfl rfl) rfl ⟨rfl, HF.out⟩
theorem aDo : Calls Tryz.prog 159 #[.agg (lcs a (.slice p n c))] w fun e w' => e = .returned (.agg (lcs (aI8 a) (if wK a = true then .slice none 0 0 else .slice p n c))) ∧ Below w.heap.size w w' := by
 unfold aI8 wK
 by_cases h1 : a.k = 1
 ·simp only [if_pos h1, decide_eq_true h1, Bool.true_or, if_true]; exact aHG h1
 by_cases h2 : a.k = 2
 ·simp only [if_neg h1, if_pos h2, decide_eq_false h1, decide_eq_true h2, Bool.true_or, Bool.false_or, if_true]; exact aHH h2
 by_cases h3 : a.k = 3
 ·simp only [if_neg h1, if_neg h2, if_pos h3, decide_eq_false h1, decide_eq_false h2, decide_eq_true h3, Bool.true_or, Bool.false_or, if_true]; exact aHI h3
 by_cases h4 : a.k = 4
 ·simp only [if_neg h1, if_neg h2, if_neg h3, if_pos h4, decide_eq_false h1, decide_eq_false h2, decide_eq_false h3, decide_eq_true h4, Bool.false_or, if_true]; exact aHJ h4
 ·simp only [if_neg h1, if_neg h2, if_neg h3, if_neg h4, decide_eq_false h1, decide_eq_false h2, decide_eq_false h3, decide_eq_false h4, Bool.false_or, Bool.false_eq_true, if_false]
  exact aHK (by simpa using h1) (by simpa using h2) (by simpa using h3) (by simpa using h4)
def aJX (a : Lab) (n : Nat) : Nat := if wK a = true then 0 else n
def uR (a : Lab) (n : Nat) : Bool := rY a (aI8 a) && ((n : Int) == (aJX a n : Int))
theorem uS {l : Bool} {b : Lab} {p' : Option Addr} {n' c' : Nat} (NM : Calls Tryz.prog 159 #[.agg (lcs a (.slice p n c))] (w.alloc (.cells (lcs a (.slice p n c)) 28)) fun e w' => e = .returned (.agg (lcs b (.slice p' n' c'))) ∧ Below (w.alloc (.cells (lcs a (.slice p n c)) 28)).heap.size (w.alloc (.cells (lcs a (.slice p n c)) 28)) w') (hl : rY a b = l) :
  Calls Tryz.prog 123 #[.agg (lcs a (.slice p n c))] w fun e w' => e = .returned (.bool (l && ((n : Int) == (n' : Int)))) ∧ Below w.heap.size w w' := by
 have RL : Hid _ := lod (z := (0, 0)) (heap_alloc_new w (.cells (lcs a (.slice p n c)) 28)) rfl Tryz.underlying28 (by rw [aV]; exact bS)
 have NM2 : Calls Tryz.prog 159 #[.agg (lcs a (.slice p n c))] (w.alloc (.cells (lcs a (.slice p n c)) 28)) fun e w1 => e = .returned (.agg (lcs b (.slice p' n' c'))) ∧ Hid ((Instr.storeAt 28 (.pointer (some ⟨w1.heap.size, 0, none⟩)) (.agg (lcs b (.slice p' n' c')))).run Tryz.prog (w1.alloc (.cells nd0 28)) = .ok () (w1.alloc (.cells (lcs b (.slice p' n' c')) 28))) ∧
   Hid ((Instr.loadAt 28 (.pointer (some ⟨w.heap.size, 0, none⟩))).run Tryz.prog (w1.alloc (.cells (lcs b (.slice p' n' c')) 28)) = .ok (.agg (lcs a (.slice p n c))) (w1.alloc (.cells (lcs b (.slice p' n' c')) 28))) ∧
   Hid ((Instr.loadAt 28 (.pointer (some ⟨w1.heap.size, 0, none⟩))).run Tryz.prog (w1.alloc (.cells (lcs b (.slice p' n' c')) 28)) = .ok (.agg (lcs b (.slice p' n' c'))) (w1.alloc (.cells (lcs b (.slice p' n' c')) 28))) ∧
   (Calls Tryz.prog 160 #[.agg (lcs a (.slice p n c)), .agg (lcs b (.slice p' n' c'))] (w1.alloc (.cells (lcs b (.slice p' n' c')) 28)) fun e w3 => e = .returned (.bool l) ∧ w3.cell? ⟨w.heap.size, 17, none⟩ = some (.slice p n c) ∧ w3.cell? ⟨w1.heap.size, 17, none⟩ = some (.slice p' n' c') ∧ Hid (Below w.heap.size w w3)) := NM.mono (by
  rintro e w1 ⟨rfl, hs⟩
  have h0 := new1 hs
  have h0' : (w1.alloc (.cells (lcs b (.slice p' n' c')) 28)).heap[w.heap.size]? = some (.cells (lcs a (.slice p n c)) 28) := (Below.heap_alloc _ _ _ (aS h0)).trans h0
  have h1 := heap_alloc_new w1 (.cells (lcs b (.slice p' n' c')) 28)
  refine ⟨rfl, run_storeAt_new w1 28 nd0 _ (by rw [aV]; exact bS) rfl (iC _ _ _ _), lod (z := (0, 0)) h0' rfl Tryz.underlying28 (by rw [aV]; exact bS), lod (z := (0, 0)) h1 rfl Tryz.underlying28 (by rw [aV]; exact bS), ?_⟩
  refine aDn.mono ?_
  rintro e w3 ⟨rfl, hs3⟩
  exact ⟨by rw [hl], aY ((hs3.block _ (aS h0')).trans h0'), aY ((hs3.block _ (aS h1)).trans h1), aG (aA (aR hs) _) hs3⟩)
 clear NM hl
 generalize lcs a (.slice p n c) = bx at *
 generalize lcs b (.slice p' n' c') = bz at *
 cases l
 ·go_enter Tryz.func123, Tryz.ntmps123
  go_wp2_with (first
   | (refine aB rfl 28 _ rfl _ _ rfl RL.out ?_; clear RL)
   | (go_at_call 159; refine NM2.mono ?_; rintro e w1 ⟨rfl, RS, RA, RB, AL⟩)
   | (refine aD rfl 28 _ _ rfl _ _ _ rfl rfl RS.out ?_; clear RS)
   | (refine aB rfl 28 _ rfl _ _ rfl RA.out ?_; clear RA)
   | (refine aB rfl 28 _ rfl _ _ rfl RB.out ?_; clear RB)
   | (go_at_call 160; refine AL.mono ?_; rintro e w3 ⟨rfl, c3, d3, HU⟩))
  all_goals (go_ret; exact ⟨by first | rfl | (simp; done), HU.out⟩)
 ·go_enter Tryz.func123, Tryz.ntmps123
  go_wp2_with (first
   | (refine aB rfl 28 _ rfl _ _ rfl RL.out ?_; clear RL)
   | (go_at_call 159; refine NM2.mono ?_; rintro e w1 ⟨rfl, RS, RA, RB, AL⟩)
   | (refine aD rfl 28 _ _ rfl _ _ _ rfl rfl RS.out ?_; clear RS)
   | (refine aB rfl 28 _ rfl _ _ rfl RA.out ?_; clear RA)
   | (refine aB rfl 28 _ rfl _ _ rfl RB.out ?_; clear RB)
   | (go_at_call 160; refine AL.mono ?_; rintro e w3 ⟨rfl, c3, d3, HU⟩))
  all_goals (go_ret; exact ⟨by first | rfl | (simp; done), HU.out⟩)
theorem aAb : Calls Tryz.prog 123 #[.agg (lcs a (.slice p n c))] w fun e w' => e = .returned (.bool (uR a n)) ∧ Below w.heap.size w w' := by
 have NM := aDo (a := a) (p := p) (n := n) (c := c) (w := w.alloc (.cells (lcs a (.slice p n c)) 28))
 unfold uR aJX
 cases hq : wK a
 ·rw [hq] at NM
  exact uS NM rfl
 ·rw [hq] at NM
  exact uS NM rfl
end
def okL (a : Lab) (n : Nat) : Bool := uR a n && oL a n
def ZT (t : T) : Prop := ∀ x ∈ dQ t, nK x.1
theorem ZT.top {t : T} (h : ZT t) : nK t.1 := h t (by simp [dQ])
theorem ZT.kid {t s : T} (h : ZT t) (hs : s ∈ kids t.2) : ZT s := fun x hx => h x (by
 rw [dQ, gW]
 exact List.mem_cons_of_mem _ (List.mem_flatMap.2 ⟨s, hs, hx⟩))
theorem aFQ (d : Nat) (t : T) : gT okL d t = (decide (d ≠ 0) && okL t.1 (kids t.2).length && (kids t.2).all (gT okL (d - 1))) := by
 show (decide (d ≠ 0) && okL t.1 (kids t.2).length && gw okL (d - 1) t.2) = _
 rw [aGZ]
theorem aHL {t : T} {w : World} {es : Array Value} (h : NT w es t) : Calls Tryz.prog 81 #[.agg es, .int .i64 0] w fun e w' => e = .returned (.bool false) ∧ Below w.heap.size w w' := by
 go_enter Tryz.func81, Tryz.ntmps81
 go_wp2
 go_ret
 exact ⟨rfl, aA (Below.refl _ _) _⟩
theorem aJY {a : Lab} {p : Option Addr} {n c : Nat} {w : World} {d : Nat} (hd : ((d : Int) == 0) = false) (h : okL a n = false) (Z : nK a) (T : eD w) : Calls Tryz.prog 81 #[.agg (lcs a (.slice p n c)), .int .i64 (d : Nat)] w fun e w' => e = .returned (.bool false) ∧ Below w.heap.size w w' := by
 have B1 : Below w.heap.size w (w.alloc (.cells (lcs a (.slice p n c)) 28)) := aA (Below.refl _ _) _
 have RL : Hid _ := lod (z := (0, 0)) (heap_alloc_new w (.cells (lcs a (.slice p n c)) 28)) rfl Tryz.underlying28 (by rw [aV]; exact bS)
 have BA := aAb (a := a) (p := p) (n := n) (c := c) (w := w.alloc (.cells (lcs a (.slice p n c)) 28))
 have BA2 : Calls Tryz.prog 123 #[.agg (lcs a (.slice p n c))] (w.alloc (.cells (lcs a (.slice p n c)) 28)) fun e w1 => e = .returned (.bool (uR a n)) ∧ Hid ((Instr.loadAt 28 (.pointer (some ⟨w.heap.size, 0, none⟩))).run Tryz.prog w1 = .ok (.agg (lcs a (.slice p n c))) w1) ∧ Hid (Below w.heap.size w w1) := BA.mono (by
  rintro e w1 ⟨rfl, hs⟩
  exact ⟨rfl, lod (z := (0, 0)) (new1 hs) rfl Tryz.underlying28 (by rw [aV]; exact bS), aR hs⟩)
 have PA := fun u (hu : Below w.heap.size w u) => kU (a := a) (p := p) (n := n) (c := c) (w := u) Z (T.below hu)
 unfold okL at h
 clear BA B1
 generalize lcs a (.slice p n c) = bx at *
 generalize uR a n = q1 at *
 generalize oL a n = q2 at *
 cases q1
 ·go_enter Tryz.func81, Tryz.ntmps81
  go_wp2_with (first
   | (refine aF 28 _ rfl _ _ rfl RL.out (by go_simp) ?_; clear RL)
   | (go_at_call 123; refine BA2.mono ?_; rintro e w1 ⟨rfl, RL1, HB1⟩))
  all_goals (go_ret; exact ⟨rfl, HB1.out⟩)
 ·have hq : q2 = false := by simpa using h
  subst hq
  clear h
  go_enter Tryz.func81, Tryz.ntmps81
  go_wp2_with (first
   | (refine aF 28 _ rfl _ _ rfl RL.out (by go_simp) ?_; clear RL)
   | (go_at_call 123; refine BA2.mono ?_; rintro e w1 ⟨rfl, RL1, HB1⟩)
   | (refine aF 28 _ rfl _ _ rfl RL1.out (by go_simp) ?_; clear RL1)
   | (go_at_call 124; refine (PA _ HB1.out).mono ?_; rintro e w2 ⟨rfl, hs⟩; have HB2 : Hid (Below w.heap.size w w2) := aG HB1.out hs; clear hs))
  all_goals (go_ret; exact ⟨rfl, HB2.out⟩)
theorem aI9 {t : T} {p : Option Addr} {n c : Nat} {w : World} {d : Nat} (hd : ((d : Int) == 0) = false) (hd2 : d ≤ 1000) (h : okL t.1 n = true) (Z : nK t.1) (T : eD w) (hs : SF w p n t.2) (hn : n ≤ 1000000)
  (IH : ∀ s ∈ kids t.2, ∀ (w : World) (es : Array Value), NT w es s → eD w → Calls Tryz.prog 81 #[.agg es, .int .i64 ((d - 1 : Nat) : Int)] w fun e w' => e = .returned (.bool (gT okL (d - 1) s)) ∧ Below w.heap.size w w') :
  Calls Tryz.prog 81 #[.agg (lcs t.1 (.slice p n c)), .int .i64 (d : Nat)] w fun e w' => e = .returned (.bool ((kids t.2).all (gT okL (d - 1)))) ∧ Below w.heap.size w w' := by
 have RL : Hid _ := lod (z := (0, 0)) (heap_alloc_new w (.cells (lcs t.1 (.slice p n c)) 28)) rfl Tryz.underlying28 (by rw [aV]; exact bS)
 have BA := aAb (a := t.1) (p := p) (n := n) (c := c) (w := w.alloc (.cells (lcs t.1 (.slice p n c)) 28))
 have BA2 : Calls Tryz.prog 123 #[.agg (lcs t.1 (.slice p n c))] (w.alloc (.cells (lcs t.1 (.slice p n c)) 28)) fun e w1 => e = .returned (.bool (uR t.1 n)) ∧ Hid ((Instr.loadAt 28 (.pointer (some ⟨w.heap.size, 0, none⟩))).run Tryz.prog w1 = .ok (.agg (lcs t.1 (.slice p n c))) w1) ∧ Hid (w1.heap[w.heap.size]? = some (.cells (lcs t.1 (.slice p n c)) 28) ∧ Below w.heap.size w w1) := BA.mono (by
  rintro e w1 ⟨rfl, hs⟩
  exact ⟨rfl, lod (z := (0, 0)) (new1 hs) rfl Tryz.underlying28 (by rw [aV]; exact bS), new1 hs, aR hs⟩)
 have PA := fun u (hu : u.heap[w.heap.size]? = some (.cells (lcs t.1 (.slice p n c)) 28) ∧ Below w.heap.size w u) => (kU (a := t.1) (p := p) (n := n) (c := c) (w := u) Z (T.below hu.2)).mono (R' := fun e w2 => e = .returned (.bool (oL t.1 n)) ∧ w2.cell? ⟨w.heap.size, 17, none⟩ = some (.slice p n c) ∧ Hid (Below w.heap.size w w2)) (by
  rintro e w2 ⟨rfl, hs⟩
  exact ⟨rfl, aY ((hs.block _ (aS hu.1)).trans hu.1), aG hu.2 hs⟩)
 unfold okL at h
 rw [Bool.and_eq_true] at h
 rw [h.1] at BA2
 rw [h.2] at PA
 have HS : Hid (SF w p n t.2) := hs
 have HT : Hid (eD w) := T
 have HI : Hid (∀ s ∈ kids t.2, ∀ (w : World) (es : Array Value), NT w es s → eD w → Calls Tryz.prog 81 #[.agg es, .int .i64 ((d - 1 : Nat) : Int)] w fun e w' => e = .returned (.bool (gT okL (d - 1) s)) ∧ Below w.heap.size w w') := IH
 have HL : Hid ((kids t.2).length = n) := hs.1.symm
 have hd1 : (d : Int) - 1 = ((d - 1 : Nat) : Int) := by
  have : d ≠ 0 := by intro e; subst e; simp at hd
  omega
 clear BA h hs T IH Z
 generalize lcs t.1 (.slice p n c) = bx at *
 generalize hq : (kids t.2).all (gT okL (d - 1)) = q
 have HQ : Hid ((kids t.2).all (gT okL (d - 1)) = q) := hq
 clear hq
 go_enter Tryz.func81, Tryz.ntmps81
 go_wp2_with (first
  | (refine aF 28 _ rfl _ _ rfl RL.out (by go_simp) ?_; clear RL)
  | (go_at_call 123; refine BA2.mono ?_; rintro e w1 ⟨rfl, RL1, HB1⟩)
  | (refine aF 28 _ rfl _ _ rfl RL1.out (by go_simp) ?_; clear RL1)
  | (go_at_call 124; refine (PA _ HB1.out).mono ?_; rintro e w2 ⟨rfl, c17, HB2⟩))
 clear PA BA2 HB1
 go_loopw [22] (fun i wr => ∃ k : Nat, k ≤ n ∧ i = .int .i64 (k : Nat) ∧ Hid (Below w.heap.size w wr) ∧ Hid (((kids t.2).take k).all (gT okL (d - 1)) = true)) (fun i _ => n - (intOf i).toNat)
 case atStart => exact ⟨0, Nat.zero_le _, rfl, HB2, rfl⟩
 case round =>
  obtain ⟨k, hk, rfl, HB, HA⟩ := hrel
  by_cases hlt : k < n
  ·have hki : (k : Int) < n := by omega
   obtain ⟨a', es, s, rfl, RL, HI1, RS, RL2, HNT, HM⟩ := HS.out.step HB.out hlt
   have C := HI.out s HM.out _ _ HNT.out (HT.out.below (aA HB.out _))
   have hwr : IntKind.i64.wrap ((d - 1 : Nat) : Int) = ((d - 1 : Nat) : Int) := by
    simp [IntKind.wrap, IntKind.bits, IntKind.signed]; omega
   have HTK : Hid ((kids t.2).take (k + 1) = (kids t.2).take k ++ [s]) := by show _ = _; rw [List.take_add_one, HI1.out]; rfl
   have aJZ : Hid (s ∈ kids t.2) := HM
   cases hq : gT okL (d - 1) s
   ·rw [hq] at C
    have HQ2 : Hid (q = false) := by
     show _ = _
     rw [← HQ.out]
     cases hall : (kids t.2).all (gT okL (d - 1))
     ·rfl
     ·have := List.all_eq_true.1 hall s aJZ.out
      rw [hq] at this; cases this
    clear hq HI1 HM HA HNT
    generalize ((d - 1 : Nat) : Int) = d1 at *
    go_wp2_with (first
     | (refine aB rfl 28 _ rfl _ _ rfl RL.out ?_; clear RL)
     | (refine aD rfl 28 _ _ rfl _ _ _ rfl rfl RS.out ?_; clear RS)
     | (refine aB rfl 28 _ rfl _ _ rfl RL2.out ?_; clear RL2)
     | (go_at_call 81; refine C.mono ?_; rintro e w3 ⟨rfl, hs⟩; have HU2 : Hid (Below w.heap.size w w3) := aG (aA HB.out _) hs; clear hs))
    go_ret
    exact ⟨by rw [HQ2.out]; rfl, HU2.out⟩
   ·rw [hq] at C
    have HA2 : Hid (((kids t.2).take (k + 1)).all (gT okL (d - 1)) = true) := by
     show _ = _
     rw [HTK.out, List.all_append, HA.out]
     simp [hq]
    clear hq HI1 HM HA HNT HTK aJZ
    generalize ((d - 1 : Nat) : Int) = d1 at *
    go_wp2_with (first
     | (refine aB rfl 28 _ rfl _ _ rfl RL.out ?_; clear RL)
     | (refine aD rfl 28 _ _ rfl _ _ _ rfl rfl RS.out ?_; clear RS)
     | (refine aB rfl 28 _ rfl _ _ rfl RL2.out ?_; clear RL2)
     | (go_at_call 81; refine C.mono ?_; rintro e w3 ⟨rfl, hs⟩; have HU2 : Hid (Below w.heap.size w w3) := aG (aA HB.out _) hs; clear hs))
    go_roundw
    case rel => exact ⟨k + 1, by omega, by go_num, HU2, HA2⟩
    case measure => simp [intOf]; omega
  ·have hki : ¬ (k : Int) < n := by omega
   have HQ2 : Hid (q = true) := by
    show _ = _
    rw [← HQ.out]
    have := HA.out
    rw [List.take_of_length_le (by have := HL.out; omega)] at this
    exact this
   clear HA
   go_wp2
   go_ret
   exact ⟨by rw [HQ2.out]; rfl, HB.out⟩
theorem rZ : ∀ t : T, zT t ≤ 1000000 → ZT t → ∀ d : Nat, d ≤ 1000 → ∀ (w : World) (es : Array Value), NT w es t → eD w → Calls Tryz.prog 81 #[.agg es, .int .i64 (d : Nat)] w fun e w' => e = .returned (.bool (gT okL d t)) ∧ Below w.heap.size w w' := by
 refine ind ?_
 intro t ih hz hZ d hd w es h T
 cases d with
 | zero => rw [aFQ]; exact aHL h
 | succ d =>
  obtain ⟨p, n, c, rfl, hs⟩ := h
  have hdb : (((d + 1 : Nat) : Int) == 0) = false := by simp; omega
  rw [aFQ]
  have hn := hs.1
  cases ho : okL t.1 (kids t.2).length
  ·rw [← hn] at ho
   simpa using aJY (p := p) (c := c) hdb ho hZ.top T
  ·rw [← hn] at ho
   have hkl := jF t
   have := aI9 (c := c) hdb (by omega) ho hZ.top T hs (by omega) (fun s hs' u e1 m1 m2 => ih s hs' (by have := iZ hs'; omega) (hZ.kid hs') d (by omega) u e1 m1 m2)
   simpa using this
theorem aDp {t : T} (hz : zT t ≤ 1000000) (hZ : ZT t) {w : World} {es : Array Value} (h : NT w es t) (T : eD w) : Calls Tryz.prog 58 #[.agg es] w fun e w' => e = .returned (.bool (gT okL 24 t)) ∧ Below w.heap.size w w' := by
 have C := rZ t hz hZ 24 (by omega) (w.alloc (.cells es 28)) es (h.below (aA (Below.refl _ _) _)) (T.below (aA (Below.refl _ _) _))
 have RL : Hid _ := (jG h).2 (heap_alloc_new w (.cells es 28))
 clear h T
 generalize gT okL 24 t = q at *
 go_enter Tryz.func58, Tryz.ntmps58
 go_wp2_with (first
  | (refine aB rfl 28 _ rfl _ _ rfl RL.out ?_; clear RL)
  | (go_at_call 81; refine C.mono ?_; rintro e w2 ⟨rfl, hs⟩; have HU2 : Hid (Below w.heap.size w w2) := aR hs; clear hs))
 go_ret
 exact ⟨rfl, HU2.out⟩
end Go.Proofs.YtljmklbbngpllaaGreatDoor
