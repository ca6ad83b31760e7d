/- Print of the reference: a ref's text. -/
import Derived.Test.YtjimgjohfpcnpaaDoorAPrint2
namespace Go.Proofs.YtjimgjohfpcnpaaDoor
open Go.RowKit
set_option maxRecDepth 100000
set_option linter.unusedVariables false
set_option linter.unusedSimpArgs false
theorem in_mk {R C : Nat} (h1 : 1 ≤ R) (h2 : R ≤ 64) (h3 : 1 ≤ C) (h4 : C ≤ 26) : inB R C = true := by
  unfold inB
  simp only [Bool.and_eq_true, decide_eq_true_eq]
  omega
theorem rct_no (r c : Int) (hi : inB r c = false) (w : World) : Calls Tryd.prog 23 #[.int .i64 r, .int .i64 c] w fun e w' => e = .returned (.string ⟨#[]⟩) ∧ Below w.heap.size w w' := by
  have IN := fun u => rin_any r c u
  rw [hi] at IN
  clear hi
  go_enter Tryd.func23, Tryd.ntmps23
  go_wp2_with (go_at_call 36; refine (IN _).mono ?_; rintro e w' ⟨rfl, hw⟩; obtain rfl := hw.symm; clear hw)
  go_ret
  exact ⟨rfl, Below.refl _ _⟩
theorem rct_any (r c : Int) (w : World) : Calls Tryd.prog 23 #[.int .i64 r, .int .i64 c] w fun e w' => e = .returned (.string (ctB r c)) ∧ Below w.heap.size w w' := by
  unfold ctB
  cases hi : inB r c
  · exact rct_no r c hi w
  · obtain ⟨R, C, rfl, rfl, q1, q2, q3, q4⟩ := in_yes hi
    exact rct_yes R C hi q1 q2 q3 q4 w
theorem ret_str {a b : ByteArray} (h : a = b) : (Ending.returned (.string a)) = .returned (.string b) := by rw [h]
theorem cut_one (a : ByteArray) (x : UInt8) : ((⟨#[x]⟩ : ByteArray) ++ a).extract 0 1 = ⟨#[x]⟩ ∧ ((⟨#[x]⟩ : ByteArray) ++ a).extract 1 ((⟨#[x]⟩ : ByteArray) ++ a).size = a := by
  constructor
  · apply ByteArray.ext
    simp
  · apply ByteArray.ext
    simp
    right
    show a.size ≤ 1 + a.size - 1
    omega
set_option maxHeartbeats 4000000 in
theorem rcell_core {b s A X D R : ByteArray} {r c : Int} {fr fc : Bool} {w : World} (CT : RC (w.alloc (refO b s r c fr fc)) 23 #[.int .i64 r, .int .i64 c] (.string A)) (hA : 1 ≤ A.size ∧ A.size ≤ 5) (h0 : A.extract 0 1 = X) (h1 : A.extract 1 A.size = D) (hX : X.size ≤ 1) (hD : D.size ≤ 4)
    (hR : R = (if fc = true then (⟨#[36]⟩ : ByteArray) ++ X else X) ++ (if fr = true then ⟨#[36]⟩ else ⟨#[]⟩) ++ D) :
    Calls Tryd.prog 45 #[refV b s r c fr fc] w fun e w' => e = .returned (.string R) ∧ Below w.heap.size w w' := by
  have HB0 : Hid (Below (w.alloc (refO b s r c fr fc)).heap.size (w.alloc (refO b s r c fr fc)) (w.alloc (refO b s r c fr fc))) := Below.refl _ _
  have y1 : (⟨#[36]⟩ : ByteArray).size ≤ 1 := Nat.le_refl 1
  have HR : Hid (R = (if fc = true then (⟨#[36]⟩ : ByteArray) ++ X else X) ++ (if fr = true then ⟨#[36]⟩ else ⟨#[]⟩) ++ D) := hR
  clear hR
  cases fr <;> cases fc
  all_goals
    go_enter Tryd.func45, Tryd.ntmps45
    go_wp2_with (go_at_call 23; refine (CT _ HB0.out).mono ?_; rintro e w1 ⟨rfl, hb⟩; have HB1 : Hid (Below (w.alloc (refO b s r c _ _)).heap.size (w.alloc (refO b s r c _ _)) w1) := hb; clear hb; obtain ⟨c0, c1, c2, c3, c4, c5⟩ := r_cells (new1 HB1.out))
    go_ret
    refine ⟨ret_str ?_, bel1 HB1.out⟩
    rw [HR.out]
    apply ByteArray.ext
    simp
theorem rcell_any (b s : ByteArray) (R C : Nat) (fr fc : Bool) (hi : inB R C = true) (hR1 : 1 ≤ R) (hR2 : R ≤ 64) (hC1 : 1 ≤ C) (hC2 : C ≤ 26) (w : World) :
    Calls Tryd.prog 45 #[refV b s R C fr fc] w fun e w' => e = .returned (.string (cellB R C fr fc)) ∧ Below w.heap.size w w' := by
  have CT : RC (w.alloc (refO b s R C fr fc)) 23 #[.int .i64 R, .int .i64 C] (.string (cellB R C false false)) := RC.of fun u hu => rct_yes R C hi hR1 hR2 hC1 hC2 u
  rw [← ctB_eq] at CT
  obtain ⟨e1, e2⟩ := cut_one ⟨(Lib.decDigits R).toArray⟩ (Ad.colC C)
  have hz := cellB_size R C false false hR1 hR2
  rw [← ctB_eq] at hz
  refine rcell_core CT ⟨by rw [ByteArray.size_append]; exact Nat.le_add_right 1 _, hz⟩ e1 e2 (Nat.le_refl 1) (Nat.le_trans (dec_short R hR2) (by decide)) ?_
  rw [← cellB_eq]
  unfold dolB
  apply ByteArray.ext
  cases fr <;> cases fc <;> simp

set_option maxHeartbeats 4000000 in
theorem rprint_no {b s : ByteArray} {r c : Int} {fr fc : Bool} {w : World} (GD : RC (w.alloc (refO b s r c fr fc)) 17 #[refV b s r c fr fc] (.bool false)) :
    Calls Tryd.prog 19 #[refV b s r c fr fc] w fun e w' => e = .returned (.string ⟨#[]⟩) ∧ Below w.heap.size w w' := by
  have HB0 : Hid (Below (w.alloc (refO b s r c fr fc)).heap.size (w.alloc (refO b s r c fr fc)) (w.alloc (refO b s r c fr fc))) := Below.refl _ _
  go_enter Tryd.func19, Tryd.ntmps19
  go_wp2_with (go_at_call 17; refine (GD _ HB0.out).mono ?_; rintro e w1 ⟨rfl, hb⟩; have HB1 : Hid (Below (w.alloc (refO b s r c fr fc)).heap.size (w.alloc (refO b s r c fr fc)) w1) := hb; clear hb)
  go_ret
  exact ⟨rfl, bel1 HB1.out⟩
set_option maxHeartbeats 4000000 in
theorem rprint_core {b s X R : ByteArray} {r c : Int} {fr fc : Bool} {w : World} (GD : RC (w.alloc (refO b s r c fr fc)) 17 #[refV b s r c fr fc] (.bool true)) (CE : RC (w.alloc (refO b s r c fr fc)) 45 #[refV b s r c fr fc] (.string X)) (hX : X.size ≤ 5)
    (hw : (s.toList = [] ∧ b.toList = [] ∧ R = X) ∨ ((s.toList == []) = false ∧ s.size ≤ 16 ∧ b.toList = [] ∧ R = s ++ ⟨#[33]⟩ ++ X) ∨ ((s.toList == []) = false ∧ s.size ≤ 16 ∧ (b.toList == []) = false ∧ b.size ≤ 16 ∧ R = (⟨#[91]⟩ : ByteArray) ++ b ++ ⟨#[93]⟩ ++ (s ++ ⟨#[33]⟩ ++ X))) :
    Calls Tryd.prog 19 #[refV b s r c fr fc] w fun e w' => e = .returned (.string R) ∧ Below w.heap.size w w' := by
  have HB0 : Hid (Below (w.alloc (refO b s r c fr fc)).heap.size (w.alloc (refO b s r c fr fc)) (w.alloc (refO b s r c fr fc))) := Below.refl _ _
  have y1 : (⟨#[33]⟩ : ByteArray).size ≤ 1 := Nat.le_refl 1
  have y2 : (⟨#[91]⟩ : ByteArray).size ≤ 1 := Nat.le_refl 1
  have y3 : (⟨#[93]⟩ : ByteArray).size ≤ 1 := Nat.le_refl 1
  rcases hw with ⟨h1, h2, rfl⟩ | ⟨h1, h3, h2, rfl⟩ | ⟨h1, h3, h2, h4, rfl⟩
  all_goals
    go_enter Tryd.func19, Tryd.ntmps19
    go_wp2_with (first | (go_at_call 17; refine (GD _ HB0.out).mono ?_; rintro e w1 ⟨rfl, hb⟩; have HB1 : Hid (Below (w.alloc (refO b s r c fr fc)).heap.size (w.alloc (refO b s r c fr fc)) w1) := hb; clear hb; obtain ⟨c0, c1, c2, c3, c4, c5⟩ := r_cells (new1 HB1.out)) | (go_at_call 45; refine (CE _ HB1.out).mono ?_; rintro e w2 ⟨rfl, hb⟩; have HB2 : Hid (Below (w.alloc (refO b s r c fr fc)).heap.size (w.alloc (refO b s r c fr fc)) w2) := hb; clear hb; obtain ⟨d0, d1, d2, d3, d4, d5⟩ := r_cells (new1 HB2.out)))
    go_ret
    exact ⟨rfl, bel1 HB2.out⟩
theorem rprint_any (b s : ByteArray) (r c : Int) (fr fc : Bool) (hb : b.size ≤ 9223372036854775807) (hs : s.size ≤ 9223372036854775807) (w : World) :
    Calls Tryd.prog 19 #[refV b s r c fr fc] w fun e w' => e = .returned (.string (prB b s r c fr fc)) ∧ Below w.heap.size w w' := by
  have GD : RC (w.alloc (refO b s r c fr fc)) 17 #[refV b s r c fr fc] _ := RC.of fun u hu => ragood_any b s r c fr fc hb hs u
  unfold prB
  cases hg : goodB b s r c
  · rw [hg] at GD
    exact rprint_no GD
  · rw [hg] at GD
    obtain ⟨R, C, rfl, rfl, q1, q2, q3, q4, hw⟩ := good_yes hg
    have CE : RC (w.alloc (refO b s R C fr fc)) 45 #[refV b s R C fr fc] (.string (cellB R C fr fc)) := RC.of fun u hu => rcell_any b s R C fr fc (in_mk q1 q2 q3 q4) q1 q2 q3 q4 u
    exact rprint_core GD CE (cellB_size R C fr fc q1 q2) (refT_ways hw)
end Go.Proofs.YtjimgjohfpcnpaaDoor
