/- Good of both: may a ref be? -/
import Derived.Test.YtjimgjohfpcnpaaDoorARName
namespace Go.Proofs.YtjimgjohfpcnpaaDoor
open Go.RowKit
set_option maxRecDepth 100000
set_option linter.unusedVariables false
set_option linter.unusedSimpArgs false
def goodB (b s : ByteArray) (r c : Int) : Bool := inB r c && (if s.toList = [] then decide (b.toList = []) else gnF s.data.toList && (decide (b.toList = []) || gnF b.data.toList))
theorem good_ways (b s : ByteArray) (r c : Int) : (inB r c = false ∧ goodB b s r c = false) ∨ (inB r c = true ∧ s.toList = [] ∧ b.toList = [] ∧ goodB b s r c = true) ∨
    (inB r c = true ∧ s.toList = [] ∧ (b.toList == []) = false ∧ goodB b s r c = false) ∨ (inB r c = true ∧ (s.toList == []) = false ∧ gnF s.data.toList = false ∧ goodB b s r c = false) ∨
    (inB r c = true ∧ (s.toList == []) = false ∧ gnF s.data.toList = true ∧ b.toList = [] ∧ goodB b s r c = true) ∨ (inB r c = true ∧ (s.toList == []) = false ∧ gnF s.data.toList = true ∧ (b.toList == []) = false ∧ goodB b s r c = gnF b.data.toList) := by
  unfold goodB
  cases h : inB r c
  · left; exact ⟨rfl, rfl⟩
  right
  by_cases hs : s.toList = []
  · by_cases hb : b.toList = []
    · left; simp [hs, hb]
    · right; left; simp [hs, hb]
  · right; right
    have hs2 : (s.toList == []) = false := by simpa using hs
    cases hg : gnF s.data.toList
    · left; simp [hs]
    · right
      by_cases hb : b.toList = []
      · left; simp [hs, hb]
      · right; simp [hs, hb]
set_option maxHeartbeats 4000000 in
theorem agood_any (b s : ByteArray) (r c : Int) (fr fc : Bool) (hb : b.size ≤ 9223372036854775807) (hs : s.size ≤ 9223372036854775807) (w : World) (T : Tabs w) :
    Calls Tryd.prog 16 #[refV b s r c fr fc] w fun e w' => e = .returned (.bool (goodB b s r c)) ∧ Below w.heap.size w w' := by
  have IN := fun u => in_any r c u
  have GS : RC (w.alloc (refO b s r c fr fc)) 11 #[.string s] _ := RC.of fun u hu => goodname_any s hs u (T.below (bel1 hu))
  have GB : RC (w.alloc (refO b s r c fr fc)) 11 #[.string b] _ := RC.of fun u hu => goodname_any b hb u (T.below (bel1 hu))
  have HB0 : Hid (Below (w.alloc (refO b s r c fr fc)).heap.size (w.alloc (refO b s r c fr fc)) (w.alloc (refO b s r c fr fc))) := Below.refl _ _
  rcases good_ways b s r c with ⟨h1, h2⟩ | ⟨h1, h3, h4, h2⟩ | ⟨h1, h3, h4, h2⟩ | ⟨h1, h3, h4, h2⟩ | ⟨h1, h3, h4, h5, h2⟩ | ⟨h1, h3, h4, h5, h2⟩
  · rw [h2]
    rw [h1] at IN
    go_enter Tryd.func16, Tryd.ntmps16
    go_wp2_with (go_at_call 32; refine (IN _).mono ?_; rintro e w' ⟨rfl, hw⟩; obtain rfl := hw.symm; clear hw)
    go_ret
    exact ⟨rfl, bel1 HB0.out⟩
  · rw [h2]
    rw [h1] at IN
    go_enter Tryd.func16, Tryd.ntmps16
    go_wp2_with (go_at_call 32; refine (IN _).mono ?_; rintro e w' ⟨rfl, hw⟩; obtain rfl := hw.symm; clear hw)
    go_ret
    exact ⟨rfl, bel1 HB0.out⟩
  · rw [h2]
    rw [h1] at IN
    go_enter Tryd.func16, Tryd.ntmps16
    go_wp2_with (go_at_call 32; refine (IN _).mono ?_; rintro e w' ⟨rfl, hw⟩; obtain rfl := hw.symm; clear hw)
    go_ret
    exact ⟨rfl, bel1 HB0.out⟩
  · rw [h2]
    rw [h1] at IN
    rw [h4] at GS
    clear GB
    go_enter Tryd.func16, Tryd.ntmps16
    go_wp2_with (first | (go_at_call 32; refine (IN _).mono ?_; rintro e w' ⟨rfl, hw⟩; obtain rfl := hw.symm; clear hw) | (go_at_call 11; refine (GS _ HB0.out).mono ?_; rintro e w1 ⟨rfl, hb⟩; have HB1 : Hid (Below (w.alloc (refO b s r c fr fc)).heap.size (w.alloc (refO b s r c fr fc)) w1) := hb; clear hb))
    go_ret
    exact ⟨rfl, bel1 HB1.out⟩
  · rw [h2]
    rw [h1] at IN
    rw [h4] at GS
    clear GB
    go_enter Tryd.func16, Tryd.ntmps16
    go_wp2_with (first | (go_at_call 32; refine (IN _).mono ?_; rintro e w' ⟨rfl, hw⟩; obtain rfl := hw.symm; clear hw) | (go_at_call 11; refine (GS _ HB0.out).mono ?_; rintro e w1 ⟨rfl, hb⟩; have HB1 : Hid (Below (w.alloc (refO b s r c fr fc)).heap.size (w.alloc (refO b s r c fr fc)) w1) := hb; clear hb; obtain ⟨c0, c1, c2, c3, c4, c5⟩ := r_cells (new1 HB1.out)))
    go_ret
    exact ⟨rfl, bel1 HB1.out⟩
  · rw [h2]
    rw [h1] at IN
    rw [h4] at GS
    generalize gnF b.data.toList = gb at *
    clear h2
    go_enter Tryd.func16, Tryd.ntmps16
    go_wp2_with (go_at_call 32; refine (IN _).mono ?_; rintro e w' ⟨rfl, hw⟩; obtain rfl := hw.symm; clear hw)
    refine (GS _ HB0.out).mono ?_
    rintro e w1 ⟨rfl, hb⟩
    have HB1 : Hid (Below (w.alloc (refO b s r c fr fc)).heap.size (w.alloc (refO b s r c fr fc)) w1) := hb
    clear hb GS
    obtain ⟨c0, c1, c2, c3, c4, c5⟩ := r_cells (new1 HB1.out)
    go_wp2_with fail
    refine (GB _ HB1.out).mono ?_
    rintro e w2 ⟨rfl, hb⟩
    have HB2 : Hid (Below (w.alloc (refO b s r c fr fc)).heap.size (w.alloc (refO b s r c fr fc)) w2) := hb
    clear hb
    go_wp2
    go_ret
    exact ⟨rfl, bel1 HB2.out⟩
set_option maxHeartbeats 4000000 in
theorem ragood_any (b s : ByteArray) (r c : Int) (fr fc : Bool) (hb : b.size ≤ 9223372036854775807) (hs : s.size ≤ 9223372036854775807) (w : World) :
    Calls Tryd.prog 17 #[refV b s r c fr fc] w fun e w' => e = .returned (.bool (goodB b s r c)) ∧ Below w.heap.size w w' := by
  have IN := fun u => rin_any r c u
  have GS : RC (w.alloc (refO b s r c fr fc)) 12 #[.string s] _ := RC.of fun u hu => rgoodname_any s hs u
  have GB : RC (w.alloc (refO b s r c fr fc)) 12 #[.string b] _ := RC.of fun u hu => rgoodname_any b hb u
  have HB0 : Hid (Below (w.alloc (refO b s r c fr fc)).heap.size (w.alloc (refO b s r c fr fc)) (w.alloc (refO b s r c fr fc))) := Below.refl _ _
  rcases good_ways b s r c with ⟨h1, h2⟩ | ⟨h1, h3, h4, h2⟩ | ⟨h1, h3, h4, h2⟩ | ⟨h1, h3, h4, h2⟩ | ⟨h1, h3, h4, h5, h2⟩ | ⟨h1, h3, h4, h5, h2⟩
  · rw [h2]
    rw [h1] at IN
    go_enter Tryd.func17, Tryd.ntmps17
    go_wp2_with (go_at_call 36; refine (IN _).mono ?_; rintro e w' ⟨rfl, hw⟩; obtain rfl := hw.symm; clear hw)
    go_ret
    exact ⟨rfl, bel1 HB0.out⟩
  · rw [h2]
    rw [h1] at IN
    go_enter Tryd.func17, Tryd.ntmps17
    go_wp2_with (go_at_call 36; refine (IN _).mono ?_; rintro e w' ⟨rfl, hw⟩; obtain rfl := hw.symm; clear hw)
    go_ret
    exact ⟨rfl, bel1 HB0.out⟩
  · rw [h2]
    rw [h1] at IN
    clear GS
    generalize gnF b.data.toList = gb at *
    go_enter Tryd.func17, Tryd.ntmps17
    go_wp2_with (first | (go_at_call 36; refine (IN _).mono ?_; rintro e w' ⟨rfl, hw⟩; obtain rfl := hw.symm; clear hw) | (go_at_call 12; refine (GB _ HB0.out).mono ?_; rintro e w1 ⟨rfl, hb⟩; have HB1 : Hid (Below (w.alloc (refO b s r c fr fc)).heap.size (w.alloc (refO b s r c fr fc)) w1) := hb; clear hb; obtain ⟨c0, c1, c2, c3, c4, c5⟩ := r_cells (new1 HB1.out)))
    all_goals (go_ret; exact ⟨rfl, bel1 HB1.out⟩)
  · rw [h2]
    rw [h1] at IN
    rw [h4] at GS
    clear GB
    go_enter Tryd.func17, Tryd.ntmps17
    go_wp2_with (first | (go_at_call 36; refine (IN _).mono ?_; rintro e w' ⟨rfl, hw⟩; obtain rfl := hw.symm; clear hw) | (go_at_call 12; refine (GS _ HB0.out).mono ?_; rintro e w1 ⟨rfl, hb⟩; have HB1 : Hid (Below (w.alloc (refO b s r c fr fc)).heap.size (w.alloc (refO b s r c fr fc)) w1) := hb; clear hb))
    go_ret
    exact ⟨rfl, bel1 HB1.out⟩
  · rw [h2]
    rw [h1] at IN
    rw [h4] at GS
    clear GB
    go_enter Tryd.func17, Tryd.ntmps17
    go_wp2_with (first | (go_at_call 36; refine (IN _).mono ?_; rintro e w' ⟨rfl, hw⟩; obtain rfl := hw.symm; clear hw) | (go_at_call 12; refine (GS _ HB0.out).mono ?_; rintro e w1 ⟨rfl, hb⟩; have HB1 : Hid (Below (w.alloc (refO b s r c fr fc)).heap.size (w.alloc (refO b s r c fr fc)) w1) := hb; clear hb; obtain ⟨c0, c1, c2, c3, c4, c5⟩ := r_cells (new1 HB1.out)))
    go_ret
    exact ⟨rfl, bel1 HB1.out⟩
  · rw [h2]
    rw [h1] at IN
    rw [h4] at GS
    generalize gnF b.data.toList = gb at *
    clear h2
    go_enter Tryd.func17, Tryd.ntmps17
    go_wp2_with (go_at_call 36; refine (IN _).mono ?_; rintro e w' ⟨rfl, hw⟩; obtain rfl := hw.symm; clear hw)
    refine (GS _ HB0.out).mono ?_
    rintro e w1 ⟨rfl, hb⟩
    have HB1 : Hid (Below (w.alloc (refO b s r c fr fc)).heap.size (w.alloc (refO b s r c fr fc)) w1) := hb
    clear hb GS
    obtain ⟨c0, c1, c2, c3, c4, c5⟩ := r_cells (new1 HB1.out)
    go_wp2_with fail
    refine (GB _ HB1.out).mono ?_
    rintro e w2 ⟨rfl, hb⟩
    have HB2 : Hid (Below (w.alloc (refO b s r c fr fc)).heap.size (w.alloc (refO b s r c fr fc)) w2) := hb
    clear hb
    obtain ⟨c0, c1, c2, c3, c4, c5⟩ := r_cells (new1 HB2.out)
    cases gb
    all_goals (go_wp2; go_ret; exact ⟨rfl, bel1 HB2.out⟩)
end Go.Proofs.YtjimgjohfpcnpaaDoor
