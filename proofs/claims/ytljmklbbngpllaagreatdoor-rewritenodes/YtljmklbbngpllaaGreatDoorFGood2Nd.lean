/- FGood2. -/
import Derived.Test.YtljmklbbngpllaaGreatDoorFGood1Nd
set_option linter.unusedVariables false
set_option linter.unusedSimpArgs false
set_option maxHeartbeats 16000000
set_option maxRecDepth 100000
namespace Go.Proofs.YtljmklbbngpllaaGreatDoor
open Go.RowKit Go.Fm
def oL (a : Lab) (n : Nat) : Bool :=
 if a.k = 1 then gcB a.vk a.vn a.vs else if a.k = 2 then bB a.b1 a.h1 a.r1 a.c1 else if a.k = 3 then !(paB a.b1 a.h1 a.r1 a.c1 a.fr1 a.fc1 a.b2 a.h2 a.r2 a.c2 a.fr2 a.fc2).toList.isEmpty
 else if a.k = 4 then gnF a.s.data.toList && (a.b1.toList.isEmpty || gnF a.b1.data.toList) else if a.k = 5 then ((n : Int) == 1) && ((a.s.toList == [45]) || (a.s.toList == [37]))
 else if a.k = 6 then ((n : Int) == 2) && !((bY a.s.toList : Int) == 0) else if a.k = 7 then decide (n ≤ 16) && gfB a.s else false
structure nK (a : Lab) : Prop where
 s : a.s.size ≤ 9223372036854775807
 b1 : a.b1.size ≤ 9223372036854775807
 h1 : a.h1.size ≤ 9223372036854775807
 b2 : a.b2.size ≤ 9223372036854775807
 h2 : a.h2.size ≤ 9223372036854775807
theorem dL {u : World} {g : Nat} {a : Lab} {sl : Value} {z : Nat × Nat} (h : u.heap[g]? = some (.cells (lcs a sl) 28 z)) : u.cell? ⟨g, 5, none⟩ = some (.string a.b1) := by
 rw [cell_of_row u g 5 _ 28 z h]; rfl
theorem lZ (s : ByteArray) (w : World) : Calls Tryz.prog 127 #[.string s] w fun e w' => e = .returned (.int .i64 (bY s.toList : Nat)) ∧ w' = w := by
 have := nH s.toList w
 have e : ba s.toList = s := by rw [ByteArray.toList_eq]
 rw [e] at this
 exact this
section
variable {a : Lab} {p : Option Addr} {n c : Nat} {w : World}
theorem aHC (hk : a.k = 1) : Calls Tryz.prog 124 #[.agg (lcs a (.slice p n c))] w fun e w' => e = .returned (.bool (gcB a.vk a.vn a.vs)) ∧ Below w.heap.size w w' := by
 have H0 := heap_alloc_new w (.cells (lcs a (.slice p n c)) 28)
 have HB0 : Hid (Below w.heap.size w (w.alloc (.cells (lcs a (.slice p n c)) 28))) := aA (Below.refl _ _) _
 obtain ⟨c0, c1, l2, l3, l4⟩ := aN H0
 have L2 : Hid _ := l2
 have L3 : Hid _ := l3
 have L4 : Hid _ := l4
 have c17 := aY H0
 have c5 := dL H0
 rw [hk] at c0
 have G := fun u => aBh a.vk a.vn a.vs u
 clear H0 l2 l3 l4
 obtain ⟨w1, hw1⟩ : ∃ w1, w.alloc (.cells (lcs a (.slice p n c)) 28) = w1 := ⟨_, rfl⟩
 rw [hw1] at c0 c1 c17 c5 L2 L3 L4 HB0
 generalize lcs a (.slice p n c) = bx at *
 generalize gcB a.vk a.vn a.vs = q at *
 go_enter Tryz.func124, Tryz.ntmps124
 go_wp2_with (first
  | (refine aB rfl 23 _ rfl _ _ rfl L2.out ?_)
  | (go_at_call 161; refine (G _).mono ?_; rintro e w2 ⟨rfl, hs⟩; have HB : Hid (Below w.heap.size w w2) := aG HB0.out hs; clear hs))
 all_goals (go_ret; exact ⟨by first | rfl | (simp; done) | (simp; omega), HB.out⟩)
theorem aHD (hk : a.k = 2) (Z : nK a) (T : eD w) : Calls Tryz.prog 124 #[.agg (lcs a (.slice p n c))] w fun e w' => e = .returned (.bool (bB a.b1 a.h1 a.r1 a.c1)) ∧ Below w.heap.size w w' := by
 have H0 := heap_alloc_new w (.cells (lcs a (.slice p n c)) 28)
 have HB0 : Hid (Below w.heap.size w (w.alloc (.cells (lcs a (.slice p n c)) 28))) := aA (Below.refl _ _) _
 obtain ⟨c0, c1, l2, l3, l4⟩ := aN H0
 have L2 : Hid _ := l2
 have L3 : Hid _ := l3
 have L4 : Hid _ := l4
 have c17 := aY H0
 have c5 := dL H0
 rw [hk] at c0
 have G := fun u (hu : Below w.heap.size w u) => uF a.b1 a.h1 a.r1 a.c1 a.fr1 a.fc1 Z.b1 Z.h1 u (T.below hu)
 clear H0 l2 l3 l4
 obtain ⟨w1, hw1⟩ : ∃ w1, w.alloc (.cells (lcs a (.slice p n c)) 28) = w1 := ⟨_, rfl⟩
 rw [hw1] at c0 c1 c17 c5 L2 L3 L4 HB0
 generalize lcs a (.slice p n c) = bx at *
 generalize bB a.b1 a.h1 a.r1 a.c1 = q at *
 go_enter Tryz.func124, Tryz.ntmps124
 go_wp2_with (first
  | (refine aB rfl 25 _ rfl _ _ rfl L3.out ?_)
  | (go_at_call 162; refine (G _ HB0.out).mono ?_; rintro e w2 ⟨rfl, hs⟩; have HB : Hid (Below w.heap.size w w2) := aG HB0.out hs; clear hs))
 all_goals (go_ret; exact ⟨by first | rfl | (simp; done) | (simp; omega), HB.out⟩)
theorem aHE (hk : a.k = 3) (Z : nK a) (T : eD w) : Calls Tryz.prog 124 #[.agg (lcs a (.slice p n c))] w fun e w' => e = .returned (.bool (!(paB a.b1 a.h1 a.r1 a.c1 a.fr1 a.fc1 a.b2 a.h2 a.r2 a.c2 a.fr2 a.fc2).toList.isEmpty)) ∧ Below w.heap.size w w' := by
 have H0 := heap_alloc_new w (.cells (lcs a (.slice p n c)) 28)
 have HB0 : Hid (Below w.heap.size w (w.alloc (.cells (lcs a (.slice p n c)) 28))) := aA (Below.refl _ _) _
 obtain ⟨c0, c1, l2, l3, l4⟩ := aN H0
 have L2 : Hid _ := l2
 have L3 : Hid _ := l3
 have L4 : Hid _ := l4
 have c17 := aY H0
 have c5 := dL H0
 rw [hk] at c0
 have G := fun u (hu : Below w.heap.size w u) => aFE a.b1 a.h1 a.r1 a.c1 a.fr1 a.fc1 a.b2 a.h2 a.r2 a.c2 a.fr2 a.fc2 Z.b1 Z.h1 Z.b2 Z.h2 u (T.below hu)
 clear H0 l2 l3 l4
 obtain ⟨w1, hw1⟩ : ∃ w1, w.alloc (.cells (lcs a (.slice p n c)) 28) = w1 := ⟨_, rfl⟩
 rw [hw1] at c0 c1 c17 c5 L2 L3 L4 HB0
 generalize lcs a (.slice p n c) = bx at *
 generalize paB a.b1 a.h1 a.r1 a.c1 a.fr1 a.fc1 a.b2 a.h2 a.r2 a.c2 a.fr2 a.fc2 = q at *
 go_enter Tryz.func124, Tryz.ntmps124
 go_wp2_with (first
  | (refine aB rfl 25 _ rfl _ _ rfl L3.out ?_; clear L3)
  | (refine aB rfl 25 _ rfl _ _ rfl L4.out ?_; clear L4)
  | (go_at_call 163; refine (G _ HB0.out).mono ?_; rintro e w2 ⟨rfl, hs⟩; have HB : Hid (Below w.heap.size w w2) := aG HB0.out hs; clear hs))
 all_goals (go_ret; exact ⟨by first | rfl | (simp; done) | (simp; omega), HB.out⟩)
theorem aFG (hk : a.k = 4) (Z : nK a) (T : eD w) (hg : gnF a.s.data.toList = false) : Calls Tryz.prog 124 #[.agg (lcs a (.slice p n c))] w fun e w' => e = .returned (.bool false) ∧ Below w.heap.size w w' := by
 have H0 := heap_alloc_new w (.cells (lcs a (.slice p n c)) 28)
 have HB0 : Hid (Below w.heap.size w (w.alloc (.cells (lcs a (.slice p n c)) 28))) := aA (Below.refl _ _) _
 obtain ⟨c0, c1, l2, l3, l4⟩ := aN H0
 have L2 : Hid _ := l2
 have L3 : Hid _ := l3
 have L4 : Hid _ := l4
 have c17 := aY H0
 have c5 := dL H0
 rw [hk] at c0
 have G := fun u (hu : Below w.heap.size w u) => bU a.s Z.s u (T.below hu)
 rw [hg] at G
 have HH : Hid (Below (w.alloc (.cells (lcs a (.slice p n c)) 28)).heap.size (w.alloc (.cells (lcs a (.slice p n c)) 28)) (w.alloc (.cells (lcs a (.slice p n c)) 28))) := Below.refl _ _
 have aAa : Hid (Below w.heap.size w (w.alloc (.cells (lcs a (.slice p n c)) 28)) ∧ (w.alloc (.cells (lcs a (.slice p n c)) 28)).cell? ⟨w.heap.size, 5, none⟩ = some (.string a.b1)) := ⟨HB0.out, c5⟩
 have G1 : ∀ u, (Below w.heap.size w u ∧ u.cell? ⟨w.heap.size, 5, none⟩ = some (.string a.b1)) → Calls Tryz.prog 154 #[.string a.s] u fun e w2 => e = .returned (.bool false) ∧ w2.cell? ⟨w.heap.size, 5, none⟩ = some (.string a.b1) ∧ Hid (Below w.heap.size w w2) := fun u hu => (G u hu.1).mono (by
  rintro e w2 ⟨rfl, hs⟩
  exact ⟨rfl, bM hs hu.2, aG hu.1 hs⟩)
 clear G HH
 clear H0 l2 l3 l4
 obtain ⟨w1, hw1⟩ : ∃ w1, w.alloc (.cells (lcs a (.slice p n c)) 28) = w1 := ⟨_, rfl⟩
 rw [hw1] at c0 c1 c17 c5 L2 L3 L4 HB0 aAa
 generalize lcs a (.slice p n c) = bx at *
 go_enter Tryz.func124, Tryz.ntmps124
 go_wp2_with (first
  | (go_at_call 154; refine (G1 _ aAa.out).mono ?_; rintro e w2 ⟨rfl, c52, HB⟩))
 all_goals (go_ret; exact ⟨by first | rfl | (simp; done) | (simp; omega), HB.out⟩)
theorem aFH (hk : a.k = 4) (Z : nK a) (T : eD w) (hg : gnF a.s.data.toList = true) (he : a.b1.toList.isEmpty = true) : Calls Tryz.prog 124 #[.agg (lcs a (.slice p n c))] w fun e w' => e = .returned (.bool true) ∧ Below w.heap.size w w' := by
 have H0 := heap_alloc_new w (.cells (lcs a (.slice p n c)) 28)
 have HB0 : Hid (Below w.heap.size w (w.alloc (.cells (lcs a (.slice p n c)) 28))) := aA (Below.refl _ _) _
 obtain ⟨c0, c1, l2, l3, l4⟩ := aN H0
 have L2 : Hid _ := l2
 have L3 : Hid _ := l3
 have L4 : Hid _ := l4
 have c17 := aY H0
 have c5 := dL H0
 rw [hk] at c0
 have G := fun u (hu : Below w.heap.size w u) => bU a.s Z.s u (T.below hu)
 rw [hg] at G
 have HH : Hid (Below (w.alloc (.cells (lcs a (.slice p n c)) 28)).heap.size (w.alloc (.cells (lcs a (.slice p n c)) 28)) (w.alloc (.cells (lcs a (.slice p n c)) 28))) := Below.refl _ _
 have aAa : Hid (Below w.heap.size w (w.alloc (.cells (lcs a (.slice p n c)) 28)) ∧ (w.alloc (.cells (lcs a (.slice p n c)) 28)).cell? ⟨w.heap.size, 5, none⟩ = some (.string a.b1)) := ⟨HB0.out, c5⟩
 have G1 : ∀ u, (Below w.heap.size w u ∧ u.cell? ⟨w.heap.size, 5, none⟩ = some (.string a.b1)) → Calls Tryz.prog 154 #[.string a.s] u fun e w2 => e = .returned (.bool true) ∧ w2.cell? ⟨w.heap.size, 5, none⟩ = some (.string a.b1) ∧ Hid (Below w.heap.size w w2) := fun u hu => (G u hu.1).mono (by
  rintro e w2 ⟨rfl, hs⟩
  exact ⟨rfl, bM hs hu.2, aG hu.1 hs⟩)
 clear G HH
 clear H0 l2 l3 l4
 obtain ⟨w1, hw1⟩ : ∃ w1, w.alloc (.cells (lcs a (.slice p n c)) 28) = w1 := ⟨_, rfl⟩
 rw [hw1] at c0 c1 c17 c5 L2 L3 L4 HB0 aAa
 generalize lcs a (.slice p n c) = bx at *
 go_enter Tryz.func124, Tryz.ntmps124
 go_wp2_with (first
  | (go_at_call 154; refine (G1 _ aAa.out).mono ?_; rintro e w2 ⟨rfl, c52, HB⟩))
 all_goals (go_ret; exact ⟨by first | rfl | (simp; done) | (simp; omega), HB.out⟩)
theorem aFI (hk : a.k = 4) (Z : nK a) (T : eD w) (hg : gnF a.s.data.toList = true) (he : a.b1.toList.isEmpty = false) : Calls Tryz.prog 124 #[.agg (lcs a (.slice p n c))] w fun e w' => e = .returned (.bool (gnF a.b1.data.toList)) ∧ Below w.heap.size w w' := by
 have H0 := heap_alloc_new w (.cells (lcs a (.slice p n c)) 28)
 have HB0 : Hid (Below w.heap.size w (w.alloc (.cells (lcs a (.slice p n c)) 28))) := aA (Below.refl _ _) _
 obtain ⟨c0, c1, l2, l3, l4⟩ := aN H0
 have L2 : Hid _ := l2
 have L3 : Hid _ := l3
 have L4 : Hid _ := l4
 have c17 := aY H0
 have c5 := dL H0
 rw [hk] at c0
 have G := fun u (hu : Below w.heap.size w u) => bU a.s Z.s u (T.below hu)
 rw [hg] at G
 have GB := fun u (hu : Below w.heap.size w u) => bU a.b1 Z.b1 u (T.below hu)
 have HH : Hid (Below (w.alloc (.cells (lcs a (.slice p n c)) 28)).heap.size (w.alloc (.cells (lcs a (.slice p n c)) 28)) (w.alloc (.cells (lcs a (.slice p n c)) 28))) := Below.refl _ _
 have aAa : Hid (Below w.heap.size w (w.alloc (.cells (lcs a (.slice p n c)) 28)) ∧ (w.alloc (.cells (lcs a (.slice p n c)) 28)).cell? ⟨w.heap.size, 5, none⟩ = some (.string a.b1)) := ⟨HB0.out, c5⟩
 have G1 : ∀ u, (Below w.heap.size w u ∧ u.cell? ⟨w.heap.size, 5, none⟩ = some (.string a.b1)) → Calls Tryz.prog 154 #[.string a.s] u fun e w2 => e = .returned (.bool true) ∧ w2.cell? ⟨w.heap.size, 5, none⟩ = some (.string a.b1) ∧ Hid (Below w.heap.size w w2) := fun u hu => (G u hu.1).mono (by
  rintro e w2 ⟨rfl, hs⟩
  exact ⟨rfl, bM hs hu.2, aG hu.1 hs⟩)
 clear G HH
 clear H0 l2 l3 l4
 obtain ⟨w1, hw1⟩ : ∃ w1, w.alloc (.cells (lcs a (.slice p n c)) 28) = w1 := ⟨_, rfl⟩
 rw [hw1] at c0 c1 c17 c5 L2 L3 L4 HB0 aAa
 generalize lcs a (.slice p n c) = bx at *
 generalize gnF a.b1.data.toList = q at *
 go_enter Tryz.func124, Tryz.ntmps124
 go_wp2_with (first
  | (go_at_call 154; refine (G1 _ aAa.out).mono ?_; rintro e w2 ⟨rfl, c52, HB⟩; clear G1)
  | (go_at_call 154; refine (GB _ HB.out).mono ?_; rintro e w3 ⟨rfl, hs⟩; have HB3 : Hid (Below w.heap.size w w3) := aG HB.out hs; clear hs))
 all_goals (go_ret; exact ⟨by first | rfl | (simp; done) | (simp; omega), HB3.out⟩)
theorem aFJ (hk : a.k = 5) (hn : ((n : Int) == 1) = false) : Calls Tryz.prog 124 #[.agg (lcs a (.slice p n c))] w fun e w' => e = .returned (.bool false) ∧ Below w.heap.size w w' := by
 have H0 := heap_alloc_new w (.cells (lcs a (.slice p n c)) 28)
 have HB0 : Hid (Below w.heap.size w (w.alloc (.cells (lcs a (.slice p n c)) 28))) := aA (Below.refl _ _) _
 obtain ⟨c0, c1, l2, l3, l4⟩ := aN H0
 have L2 : Hid _ := l2
 have L3 : Hid _ := l3
 have L4 : Hid _ := l4
 have c17 := aY H0
 have c5 := dL H0
 rw [hk] at c0
 clear H0 l2 l3 l4
 obtain ⟨w1, hw1⟩ : ∃ w1, w.alloc (.cells (lcs a (.slice p n c)) 28) = w1 := ⟨_, rfl⟩
 rw [hw1] at c0 c1 c17 c5 L2 L3 L4 HB0
 generalize lcs a (.slice p n c) = bx at *
 go_enter Tryz.func124, Tryz.ntmps124
 go_wp2
 all_goals (go_ret; exact ⟨by first | rfl | (simp; done) | (simp; omega), HB0.out⟩)
theorem aFK (hk : a.k = 5) (hn : ((n : Int) == 1) = true) (h1 : (a.s.toList == [45]) = true) : Calls Tryz.prog 124 #[.agg (lcs a (.slice p n c))] w fun e w' => e = .returned (.bool true) ∧ Below w.heap.size w w' := by
 have H0 := heap_alloc_new w (.cells (lcs a (.slice p n c)) 28)
 have HB0 : Hid (Below w.heap.size w (w.alloc (.cells (lcs a (.slice p n c)) 28))) := aA (Below.refl _ _) _
 obtain ⟨c0, c1, l2, l3, l4⟩ := aN H0
 have L2 : Hid _ := l2
 have L3 : Hid _ := l3
 have L4 : Hid _ := l4
 have c17 := aY H0
 have c5 := dL H0
 rw [hk] at c0
 clear H0 l2 l3 l4
 obtain ⟨w1, hw1⟩ : ∃ w1, w.alloc (.cells (lcs a (.slice p n c)) 28) = w1 := ⟨_, rfl⟩
 rw [hw1] at c0 c1 c17 c5 L2 L3 L4 HB0
 generalize lcs a (.slice p n c) = bx at *
 go_enter Tryz.func124, Tryz.ntmps124
 go_wp2
 all_goals (go_ret; exact ⟨by first | rfl | (simp; done) | (simp; omega), HB0.out⟩)
theorem aFL (hk : a.k = 5) (hn : ((n : Int) == 1) = true) (h1 : (a.s.toList == [45]) = false) : Calls Tryz.prog 124 #[.agg (lcs a (.slice p n c))] w fun e w' => e = .returned (.bool (a.s.toList == [37])) ∧ Below w.heap.size w w' := by
 have H0 := heap_alloc_new w (.cells (lcs a (.slice p n c)) 28)
 have HB0 : Hid (Below w.heap.size w (w.alloc (.cells (lcs a (.slice p n c)) 28))) := aA (Below.refl _ _) _
 obtain ⟨c0, c1, l2, l3, l4⟩ := aN H0
 have L2 : Hid _ := l2
 have L3 : Hid _ := l3
 have L4 : Hid _ := l4
 have c17 := aY H0
 have c5 := dL H0
 rw [hk] at c0
 clear H0 l2 l3 l4
 obtain ⟨w1, hw1⟩ : ∃ w1, w.alloc (.cells (lcs a (.slice p n c)) 28) = w1 := ⟨_, rfl⟩
 rw [hw1] at c0 c1 c17 c5 L2 L3 L4 HB0
 generalize lcs a (.slice p n c) = bx at *
 go_enter Tryz.func124, Tryz.ntmps124
 go_wp2
 all_goals (go_ret; exact ⟨by first | rfl | (simp; done) | (simp; omega), HB0.out⟩)
theorem aFM (hk : a.k = 6) (hn : ((n : Int) == 2) = false) : Calls Tryz.prog 124 #[.agg (lcs a (.slice p n c))] w fun e w' => e = .returned (.bool false) ∧ Below w.heap.size w w' := by
 have H0 := heap_alloc_new w (.cells (lcs a (.slice p n c)) 28)
 have HB0 : Hid (Below w.heap.size w (w.alloc (.cells (lcs a (.slice p n c)) 28))) := aA (Below.refl _ _) _
 obtain ⟨c0, c1, l2, l3, l4⟩ := aN H0
 have L2 : Hid _ := l2
 have L3 : Hid _ := l3
 have L4 : Hid _ := l4
 have c17 := aY H0
 have c5 := dL H0
 rw [hk] at c0
 clear H0 l2 l3 l4
 obtain ⟨w1, hw1⟩ : ∃ w1, w.alloc (.cells (lcs a (.slice p n c)) 28) = w1 := ⟨_, rfl⟩
 rw [hw1] at c0 c1 c17 c5 L2 L3 L4 HB0
 generalize lcs a (.slice p n c) = bx at *
 go_enter Tryz.func124, Tryz.ntmps124
 go_wp2
 all_goals (go_ret; exact ⟨by first | rfl | (simp; done) | (simp; omega), HB0.out⟩)
theorem aFN (hk : a.k = 6) (hn : ((n : Int) == 2) = true) : Calls Tryz.prog 124 #[.agg (lcs a (.slice p n c))] w fun e w' => e = .returned (.bool (!((bY a.s.toList : Int) == 0))) ∧ Below w.heap.size w w' := by
 have H0 := heap_alloc_new w (.cells (lcs a (.slice p n c)) 28)
 have HB0 : Hid (Below w.heap.size w (w.alloc (.cells (lcs a (.slice p n c)) 28))) := aA (Below.refl _ _) _
 obtain ⟨c0, c1, l2, l3, l4⟩ := aN H0
 have L2 : Hid _ := l2
 have L3 : Hid _ := l3
 have L4 : Hid _ := l4
 have c17 := aY H0
 have c5 := dL H0
 rw [hk] at c0
 have G := fun u => lZ a.s u
 clear H0 l2 l3 l4
 obtain ⟨w1, hw1⟩ : ∃ w1, w.alloc (.cells (lcs a (.slice p n c)) 28) = w1 := ⟨_, rfl⟩
 rw [hw1] at c0 c1 c17 c5 L2 L3 L4 HB0
 generalize lcs a (.slice p n c) = bx at *
 generalize bY a.s.toList = q at *
 go_enter Tryz.func124, Tryz.ntmps124
 go_wp2_with (go_at_call 127; refine (G _).mono ?_; rintro e w2 ⟨rfl, hs⟩; obtain rfl := hs.symm; clear hs)
 all_goals (go_ret; exact ⟨by first | rfl | (simp; done) | (simp; omega), HB0.out⟩)
theorem aFO (hk : a.k = 7) (hn : ¬ (n : Int) ≤ 16) : Calls Tryz.prog 124 #[.agg (lcs a (.slice p n c))] w fun e w' => e = .returned (.bool false) ∧ Below w.heap.size w w' := by
 have H0 := heap_alloc_new w (.cells (lcs a (.slice p n c)) 28)
 have HB0 : Hid (Below w.heap.size w (w.alloc (.cells (lcs a (.slice p n c)) 28))) := aA (Below.refl _ _) _
 obtain ⟨c0, c1, l2, l3, l4⟩ := aN H0
 have L2 : Hid _ := l2
 have L3 : Hid _ := l3
 have L4 : Hid _ := l4
 have c17 := aY H0
 have c5 := dL H0
 rw [hk] at c0
 have hn2 : (16 : Int) < n := by omega
 clear H0 l2 l3 l4
 obtain ⟨w1, hw1⟩ : ∃ w1, w.alloc (.cells (lcs a (.slice p n c)) 28) = w1 := ⟨_, rfl⟩
 rw [hw1] at c0 c1 c17 c5 L2 L3 L4 HB0
 generalize lcs a (.slice p n c) = bx at *
 go_enter Tryz.func124, Tryz.ntmps124
 go_wp2
 all_goals (go_ret; exact ⟨by first | rfl | (simp; done) | (simp; omega), HB0.out⟩)
theorem aFP (hk : a.k = 7) (hn : (n : Int) ≤ 16) (Z : nK a) (T : eD w) : Calls Tryz.prog 124 #[.agg (lcs a (.slice p n c))] w fun e w' => e = .returned (.bool (gfB a.s)) ∧ Below w.heap.size w w' := by
 have H0 := heap_alloc_new w (.cells (lcs a (.slice p n c)) 28)
 have HB0 : Hid (Below w.heap.size w (w.alloc (.cells (lcs a (.slice p n c)) 28))) := aA (Below.refl _ _) _
 obtain ⟨c0, c1, l2, l3, l4⟩ := aN H0
 have L2 : Hid _ := l2
 have L3 : Hid _ := l3
 have L4 : Hid _ := l4
 have c17 := aY H0
 have c5 := dL H0
 rw [hk] at c0
 have G := fun u (hu : Below w.heap.size w u) => aFF a.s Z.s u (T.below hu)
 clear H0 l2 l3 l4
 obtain ⟨w1, hw1⟩ : ∃ w1, w.alloc (.cells (lcs a (.slice p n c)) 28) = w1 := ⟨_, rfl⟩
 rw [hw1] at c0 c1 c17 c5 L2 L3 L4 HB0
 generalize lcs a (.slice p n c) = bx at *
 generalize gfB a.s = q at *
 go_enter Tryz.func124, Tryz.ntmps124
 go_wp2_with (go_at_call 164; refine (G _ HB0.out).mono ?_; rintro e w2 ⟨rfl, hs⟩; have HB : Hid (Below w.heap.size w w2) := aG HB0.out hs; clear hs)
 all_goals (go_ret; exact ⟨by first | rfl | (simp; done) | (simp; omega), HB.out⟩)
theorem aHF (h1 : (a.k == 1) = false) (h2 : (a.k == 2) = false) (h3 : (a.k == 3) = false) (h4 : (a.k == 4) = false) (h5 : (a.k == 5) = false) (h6 : (a.k == 6) = false) (h7 : (a.k == 7) = false) : Calls Tryz.prog 124 #[.agg (lcs a (.slice p n c))] w fun e w' => e = .returned (.bool false) ∧ Below w.heap.size w w' := by
 have H0 := heap_alloc_new w (.cells (lcs a (.slice p n c)) 28)
 have HB0 : Hid (Below w.heap.size w (w.alloc (.cells (lcs a (.slice p n c)) 28))) := aA (Below.refl _ _) _
 obtain ⟨c0, c1, l2, l3, l4⟩ := aN H0
 have L2 : Hid _ := l2
 have L3 : Hid _ := l3
 have L4 : Hid _ := l4
 have c17 := aY H0
 have c5 := dL H0
 clear H0 l2 l3 l4
 obtain ⟨w1, hw1⟩ : ∃ w1, w.alloc (.cells (lcs a (.slice p n c)) 28) = w1 := ⟨_, rfl⟩
 rw [hw1] at c0 c1 c17 c5 L2 L3 L4 HB0
 generalize lcs a (.slice p n c) = bx at *
 generalize a.k = k at *
 go_enter Tryz.func124, Tryz.ntmps124
 go_wp2
 all_goals (go_ret; exact ⟨by first | rfl | (simp; done) | (simp; omega), HB0.out⟩)
theorem kU (Z : nK a) (T : eD w) : Calls Tryz.prog 124 #[.agg (lcs a (.slice p n c))] w fun e w' => e = .returned (.bool (oL a n)) ∧ Below w.heap.size w w' := by
 unfold oL
 by_cases h1 : a.k = 1
 ·rw [if_pos h1]; exact aHC h1
 rw [if_neg h1]
 by_cases h2 : a.k = 2
 ·rw [if_pos h2]; exact aHD h2 Z T
 rw [if_neg h2]
 by_cases h3 : a.k = 3
 ·rw [if_pos h3]; exact aHE h3 Z T
 rw [if_neg h3]
 by_cases h4 : a.k = 4
 ·rw [if_pos h4]
  cases hg : gnF a.s.data.toList
  ·exact aFG h4 Z T hg
  ·cases he : a.b1.toList.isEmpty
   ·simpa using aFI (p := p) (n := n) (c := c) h4 Z T hg he
   ·exact aFH h4 Z T hg he
 rw [if_neg h4]
 by_cases h5 : a.k = 5
 ·rw [if_pos h5]
  cases hn : ((n : Int) == 1)
  ·exact aFJ h5 hn
  ·cases hm : (a.s.toList == [45])
   ·simpa using aFL (p := p) (n := n) (c := c) h5 hn hm
   ·exact aFK h5 hn hm
 rw [if_neg h5]
 by_cases h6 : a.k = 6
 ·rw [if_pos h6]
  cases hn : ((n : Int) == 2)
  ·exact aFM h6 hn
  ·simpa using aFN (p := p) (n := n) (c := c) h6 hn
 rw [if_neg h6]
 by_cases h7 : a.k = 7
 ·rw [if_pos h7]
  by_cases hn : n ≤ 16
  ·rw [decide_eq_true hn]
   simpa using aFP (p := p) (n := n) (c := c) h7 (by omega) Z T
  ·rw [decide_eq_false hn]
   exact aFO h7 (by omega)
 rw [if_neg h7]
 exact aHF (by simpa using h1) (by simpa using h2) (by simpa using h3) (by simpa using h4) (by simpa using h5) (by simpa using h6) (by simpa using h7)
end
end Go.Proofs.YtljmklbbngpllaaGreatDoor
