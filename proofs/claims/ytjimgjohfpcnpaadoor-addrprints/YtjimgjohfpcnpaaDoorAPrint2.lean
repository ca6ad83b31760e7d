/- Print of the program: a ref's text. -/
import Derived.Test.YtjimgjohfpcnpaaDoorARCell
namespace Go.Proofs.YtjimgjohfpcnpaaDoor
open Go.RowKit
set_option maxRecDepth 100000
set_option linter.unusedVariables false
set_option linter.unusedSimpArgs false
/-- The text of a good ref. -/
def refT (b s : ByteArray) (R C : Nat) (fr fc : Bool) : ByteArray := ⟨(Ad.refW ⟨b.data.toList, s.data.toList, ⟨R, C, fr, fc⟩⟩).toArray⟩
/-- The text of any ref. -/
def prB (b s : ByteArray) (r c : Int) (fr fc : Bool) : ByteArray := if goodB b s r c = true then refT b s r.toNat c.toNat fr fc else ⟨#[]⟩
theorem gn_size {s : ByteArray} (h : gnF s.data.toList = true) : s.size ≤ 16 := by
  unfold gnF at h
  simp only [Bool.and_eq_true] at h
  rw [← size_list]
  exact (sp_parts h.1.1).1
theorem good_yes {b s : ByteArray} {r c : Int} (h : goodB b s r c = true) : ∃ R C : Nat, r = R ∧ c = C ∧ 1 ≤ R ∧ R ≤ 64 ∧ 1 ≤ C ∧ C ≤ 26 ∧
    ((s.toList = [] ∧ b.toList = []) ∨ ((s.toList == []) = false ∧ gnF s.data.toList = true ∧ b.toList = []) ∨ ((s.toList == []) = false ∧ gnF s.data.toList = true ∧ (b.toList == []) = false ∧ gnF b.data.toList = true)) := by
  rcases good_ways b s r c with ⟨_, h2⟩ | ⟨h1, h3, h4, _⟩ | ⟨_, _, _, h2⟩ | ⟨_, _, _, h2⟩ | ⟨h1, h3, h4, h5, h2⟩ | ⟨h1, h3, h4, h5, h2⟩
  · rw [h] at h2; cases h2
  · obtain ⟨R, C, e1, e2, q1, q2, q3, q4⟩ := in_yes h1
    exact ⟨R, C, e1, e2, q1, q2, q3, q4, .inl ⟨h3, h4⟩⟩
  · rw [h] at h2; cases h2
  · rw [h] at h2; cases h2
  · obtain ⟨R, C, e1, e2, q1, q2, q3, q4⟩ := in_yes h1
    exact ⟨R, C, e1, e2, q1, q2, q3, q4, .inr (.inl ⟨h3, h4, h5⟩)⟩
  · obtain ⟨R, C, e1, e2, q1, q2, q3, q4⟩ := in_yes h1
    exact ⟨R, C, e1, e2, q1, q2, q3, q4, .inr (.inr ⟨h3, h4, h5, h2.symm.trans h⟩)⟩
theorem nil_data {s : ByteArray} (h : s.toList = []) : s.data.toList = [] := by rw [← ByteArray.toList_eq]; exact h
theorem ne_data {s : ByteArray} (h : (s.toList == []) = false) : ¬ s.data.toList = [] := by
  rw [← ByteArray.toList_eq]
  simpa using h
theorem refT_ways {b s : ByteArray} {R C : Nat} {fr fc : Bool} (hw : (s.toList = [] ∧ b.toList = []) ∨ ((s.toList == []) = false ∧ gnF s.data.toList = true ∧ b.toList = []) ∨ ((s.toList == []) = false ∧ gnF s.data.toList = true ∧ (b.toList == []) = false ∧ gnF b.data.toList = true)) :
    (s.toList = [] ∧ b.toList = [] ∧ refT b s R C fr fc = cellB R C fr fc) ∨ ((s.toList == []) = false ∧ s.size ≤ 16 ∧ b.toList = [] ∧ refT b s R C fr fc = s ++ ⟨#[33]⟩ ++ cellB R C fr fc) ∨ ((s.toList == []) = false ∧ s.size ≤ 16 ∧ (b.toList == []) = false ∧ b.size ≤ 16 ∧ refT b s R C fr fc = (⟨#[91]⟩ : ByteArray) ++ b ++ ⟨#[93]⟩ ++ (s ++ ⟨#[33]⟩ ++ cellB R C fr fc)) := by
  unfold refT Ad.refW cellB
  rcases hw with ⟨h1, h2⟩ | ⟨h1, h3, h2⟩ | ⟨h1, h3, h2, h4⟩
  · left
    refine ⟨h1, h2, ?_⟩
    simp only [nil_data h1, nil_data h2, if_true, List.nil_append]
  · right; left
    refine ⟨h1, gn_size h3, h2, ?_⟩
    simp only [nil_data h2, if_true, List.nil_append, if_neg (ne_data h1)]
    apply ByteArray.ext
    simp
  · right; right
    refine ⟨h1, gn_size h3, h2, gn_size h4, ?_⟩
    simp only [if_neg (ne_data h2), if_neg (ne_data h1)]
    apply ByteArray.ext
    simp
theorem cellB_size (R C : Nat) (fr fc : Bool) (h1 : 1 ≤ R) (h2 : R ≤ 64) : (cellB R C fr fc).size ≤ 5 := by
  rw [← cellB_eq]
  have z1 := dol_size fc
  have z2 := dol_size fr
  have z3 := dec_short R h2
  have z4 : (⟨#[Ad.colC C]⟩ : ByteArray).size = 1 := rfl
  simp only [ByteArray.size_append, z4]
  omega

set_option maxHeartbeats 4000000 in
theorem aprint_no {b s : ByteArray} {r c : Int} {fr fc : Bool} {w : World} (GD : RC (w.alloc (refO b s r c fr fc)) 16 #[refV b s r c fr fc] (.bool false)) :
    Calls Tryd.prog 18 #[refV b s r c fr fc] w fun e w' => e = .returned (.string ⟨#[]⟩) ∧ Below w.heap.size w w' := by
  have HB0 : Hid (Below (w.alloc (refO b s r c fr fc)).heap.size (w.alloc (refO b s r c fr fc)) (w.alloc (refO b s r c fr fc))) := Below.refl _ _
  go_enter Tryd.func18, Tryd.ntmps18
  go_wp2_with (go_at_call 16; refine (GD _ HB0.out).mono ?_; rintro e w1 ⟨rfl, hb⟩; have HB1 : Hid (Below (w.alloc (refO b s r c fr fc)).heap.size (w.alloc (refO b s r c fr fc)) w1) := hb; clear hb)
  go_ret
  exact ⟨rfl, bel1 HB1.out⟩
set_option maxHeartbeats 4000000 in
theorem aprint_core {b s X R : ByteArray} {r c : Int} {fr fc : Bool} {w : World} (GD : RC (w.alloc (refO b s r c fr fc)) 16 #[refV b s r c fr fc] (.bool true)) (CE : RC (w.alloc (refO b s r c fr fc)) 44 #[refV b s r c fr fc] (.string X)) (hX : X.size ≤ 5)
    (hw : (s.toList = [] ∧ b.toList = [] ∧ R = X) ∨ ((s.toList == []) = false ∧ s.size ≤ 16 ∧ b.toList = [] ∧ R = s ++ ⟨#[33]⟩ ++ X) ∨ ((s.toList == []) = false ∧ s.size ≤ 16 ∧ (b.toList == []) = false ∧ b.size ≤ 16 ∧ R = (⟨#[91]⟩ : ByteArray) ++ b ++ ⟨#[93]⟩ ++ (s ++ ⟨#[33]⟩ ++ X))) :
    Calls Tryd.prog 18 #[refV b s r c fr fc] w fun e w' => e = .returned (.string R) ∧ Below w.heap.size w w' := by
  have HB0 : Hid (Below (w.alloc (refO b s r c fr fc)).heap.size (w.alloc (refO b s r c fr fc)) (w.alloc (refO b s r c fr fc))) := Below.refl _ _
  have y1 : (⟨#[33]⟩ : ByteArray).size ≤ 1 := Nat.le_refl 1
  have y2 : (⟨#[91]⟩ : ByteArray).size ≤ 1 := Nat.le_refl 1
  have y3 : (⟨#[93]⟩ : ByteArray).size ≤ 1 := Nat.le_refl 1
  rcases hw with ⟨h1, h2, rfl⟩ | ⟨h1, h3, h2, rfl⟩ | ⟨h1, h3, h2, h4, rfl⟩
  all_goals
    go_enter Tryd.func18, Tryd.ntmps18
    go_wp2_with (first | (go_at_call 16; refine (GD _ HB0.out).mono ?_; rintro e w1 ⟨rfl, hb⟩; have HB1 : Hid (Below (w.alloc (refO b s r c fr fc)).heap.size (w.alloc (refO b s r c fr fc)) w1) := hb; clear hb; obtain ⟨c0, c1, c2, c3, c4, c5⟩ := r_cells (new1 HB1.out)) | (go_at_call 44; refine (CE _ HB1.out).mono ?_; rintro e w2 ⟨rfl, hb⟩; have HB2 : Hid (Below (w.alloc (refO b s r c fr fc)).heap.size (w.alloc (refO b s r c fr fc)) w2) := hb; clear hb; obtain ⟨d0, d1, d2, d3, d4, d5⟩ := r_cells (new1 HB2.out)))
    go_ret
    exact ⟨rfl, bel1 HB2.out⟩
theorem aprint_any (b s : ByteArray) (r c : Int) (fr fc : Bool) (hb : b.size ≤ 9223372036854775807) (hs : s.size ≤ 9223372036854775807) (w : World) (T : Tabs w) :
    Calls Tryd.prog 18 #[refV b s r c fr fc] w fun e w' => e = .returned (.string (prB b s r c fr fc)) ∧ Below w.heap.size w w' := by
  have GD : RC (w.alloc (refO b s r c fr fc)) 16 #[refV b s r c fr fc] _ := RC.of fun u hu => agood_any b s r c fr fc hb hs u (T.below (bel1 hu))
  unfold prB
  cases hg : goodB b s r c
  · rw [hg] at GD
    exact aprint_no GD
  · rw [hg] at GD
    obtain ⟨R, C, rfl, rfl, q1, q2, q3, q4, hw⟩ := good_yes hg
    have CE : RC (w.alloc (refO b s R C fr fc)) 44 #[refV b s R C fr fc] (.string (cellB R C fr fc)) := RC.of fun u hu => pcell_any b s R C fr fc q1 q2 q3 q4 u (T.below (bel1 hu))
    exact aprint_core GD CE (cellB_size R C fr fc q1 q2) (refT_ways hw)
theorem prB_ct (r c : Int) : prB ⟨#[]⟩ ⟨#[]⟩ r c false false = ctB r c := by
  unfold prB ctB
  have e : goodB ⟨#[]⟩ ⟨#[]⟩ r c = inB r c := by
    unfold goodB
    have h0 : (⟨#[]⟩ : ByteArray).toList = [] := by rw [ByteArray.toList_eq]
    rw [if_pos h0, decide_eq_true h0, Bool.and_true]
  rw [e]
  split
  · unfold refT Ad.refW cellB
    rfl
  · rfl
set_option maxHeartbeats 2000000 in
theorem ct_any (r c : Int) (w : World) (T : Tabs w) : Calls Tryd.prog 22 #[.int .i64 r, .int .i64 c] w fun e w' => e = .returned (.string (ctB r c)) ∧ Below w.heap.size w w' := by
  have P := aprint_any ⟨#[]⟩ ⟨#[]⟩ r c false false (by decide) (by decide) w T
  rw [prB_ct] at P
  generalize ctB r c = X at *
  go_enter Tryd.func22, Tryd.ntmps22
  go_wp2_with (go_at_call 18; refine P.mono ?_; rintro e w1 ⟨rfl, hb⟩; have HB1 : Hid (Below w.heap.size w w1) := hb; clear hb)
  go_ret
  exact ⟨rfl, HB1.out⟩
end Go.Proofs.YtjimgjohfpcnpaaDoor
