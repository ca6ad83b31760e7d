import Derived.Test.YtljfkkpkcjigpaaGreatDoorARParseB
import Derived.Test.YtljfkkpkcjigpaaGreatDoorFAlike
import Derived.BigQuiet
import Derived.Test.YtljfkkpkcjigpaaGreatDoorFSame
import Derived.Test.YtljfkkpkcjigpaaGreatDoorVGood
set_option linter.unusedVariables false
set_option linter.unusedSimpArgs false
/- Print of the reference: a ref's text. -/
namespace Go.Proofs.YtljfkkpkcjigpaaGreatDoor
open Go.RowKit
set_option maxRecDepth 100000
set_option linter.unusedVariables false
set_option linter.unusedSimpArgs false
theorem in_mk {R C : Nat} (h1 : 1 ≤ R) (h2 : R ≤ 64) (h3 : 1 ≤ C) (h4 : C ≤ 26) : inB R C = true := by
  unfold inB
  simp only [Bool.and_eq_true, decide_eq_true_eq]
  omega
theorem rct_no (r c : Int) (hi : inB r c = false) (w : World) : Calls Tryz.prog 156 #[.int .i64 r, .int .i64 c] w fun e w' => e = .returned (.string ⟨#[]⟩) ∧ Below w.heap.size w w' := by
  have IN := fun u => rin_any r c u
  rw [hi] at IN
  clear hi
  go_enter Tryz.func156, Tryz.ntmps156
  go_wp2_with (go_at_call 144; refine (IN _).mono ?_; rintro e w' ⟨rfl, hw⟩; obtain rfl := hw.symm; clear hw)
  go_ret
  exact ⟨rfl, Below.refl _ _⟩
theorem rct_any (r c : Int) (w : World) : Calls Tryz.prog 156 #[.int .i64 r, .int .i64 c] w fun e w' => e = .returned (.string (ctB r c)) ∧ Below w.heap.size w w' := by
  unfold ctB
  cases hi : inB r c
  · exact rct_no r c hi w
  · obtain ⟨R, C, rfl, rfl, q1, q2, q3, q4⟩ := in_yes hi
    exact rct_yes R C hi q1 q2 q3 q4 w
theorem ret_str {a b : ByteArray} (h : a = b) : (Ending.returned (.string a)) = .returned (.string b) := by rw [h]
theorem cut_one (a : ByteArray) (x : UInt8) : ((⟨#[x]⟩ : ByteArray) ++ a).extract 0 1 = ⟨#[x]⟩ ∧ ((⟨#[x]⟩ : ByteArray) ++ a).extract 1 ((⟨#[x]⟩ : ByteArray) ++ a).size = a := by
  constructor
  · apply ByteArray.ext
    simp
  · apply ByteArray.ext
    simp
    right
    show a.size ≤ 1 + a.size - 1
    omega
set_option maxHeartbeats 4000000 in
theorem rcell_core {b s A X D R : ByteArray} {r c : Int} {fr fc : Bool} {w : World} (CT : RC (w.alloc (refO b s r c fr fc)) 156 #[.int .i64 r, .int .i64 c] (.string A)) (hA : 1 ≤ A.size ∧ A.size ≤ 5) (h0 : A.extract 0 1 = X) (h1 : A.extract 1 A.size = D) (hX : X.size ≤ 1) (hD : D.size ≤ 4)
    (hR : R = (if fc = true then (⟨#[36]⟩ : ByteArray) ++ X else X) ++ (if fr = true then ⟨#[36]⟩ else ⟨#[]⟩) ++ D) :
    Calls Tryz.prog 112 #[refV b s r c fr fc] w fun e w' => e = .returned (.string R) ∧ Below w.heap.size w w' := by
  have HB0 : Hid (Below (w.alloc (refO b s r c fr fc)).heap.size (w.alloc (refO b s r c fr fc)) (w.alloc (refO b s r c fr fc))) := Below.refl _ _
  have y1 : (⟨#[36]⟩ : ByteArray).size ≤ 1 := Nat.le_refl 1
  have HR : Hid (R = (if fc = true then (⟨#[36]⟩ : ByteArray) ++ X else X) ++ (if fr = true then ⟨#[36]⟩ else ⟨#[]⟩) ++ D) := hR
  clear hR
  cases fr <;> cases fc
  all_goals
    go_enter Tryz.func112, Tryz.ntmps112
    go_wp2_with (go_at_call 156; refine (CT _ HB0.out).mono ?_; rintro e w1 ⟨rfl, hb⟩; have HB1 : Hid (Below (w.alloc (refO b s r c _ _)).heap.size (w.alloc (refO b s r c _ _)) w1) := hb; clear hb; obtain ⟨c0, c1, c2, c3, c4, c5⟩ := r_cells (new1 HB1.out))
    go_ret
    refine ⟨ret_str ?_, bel1 HB1.out⟩
    rw [HR.out]
    apply ByteArray.ext
    simp
theorem rcell_any (b s : ByteArray) (R C : Nat) (fr fc : Bool) (hi : inB R C = true) (hR1 : 1 ≤ R) (hR2 : R ≤ 64) (hC1 : 1 ≤ C) (hC2 : C ≤ 26) (w : World) :
    Calls Tryz.prog 112 #[refV b s R C fr fc] w fun e w' => e = .returned (.string (cellB R C fr fc)) ∧ Below w.heap.size w w' := by
  have CT : RC (w.alloc (refO b s R C fr fc)) 156 #[.int .i64 R, .int .i64 C] (.string (cellB R C false false)) := RC.of fun u hu => rct_yes R C hi hR1 hR2 hC1 hC2 u
  rw [← ctB_eq] at CT
  obtain ⟨e1, e2⟩ := cut_one ⟨(Lib.decDigits R).toArray⟩ (Ad.colC C)
  have hz := cellB_size R C false false hR1 hR2
  rw [← ctB_eq] at hz
  refine rcell_core CT ⟨by rw [ByteArray.size_append]; exact Nat.le_add_right 1 _, hz⟩ e1 e2 (Nat.le_refl 1) (Nat.le_trans (dec_short R hR2) (by decide)) ?_
  rw [← cellB_eq]
  unfold dolB
  apply ByteArray.ext
  cases fr <;> cases fc <;> simp

set_option maxHeartbeats 4000000 in
theorem rprint_no {b s : ByteArray} {r c : Int} {fr fc : Bool} {w : World} (GD : RC (w.alloc (refO b s r c fr fc)) 99 #[refV b s r c fr fc] (.bool false)) :
    Calls Tryz.prog 69 #[refV b s r c fr fc] w fun e w' => e = .returned (.string ⟨#[]⟩) ∧ Below w.heap.size w w' := by
  have HB0 : Hid (Below (w.alloc (refO b s r c fr fc)).heap.size (w.alloc (refO b s r c fr fc)) (w.alloc (refO b s r c fr fc))) := Below.refl _ _
  go_enter Tryz.func69, Tryz.ntmps69
  go_wp2_with (go_at_call 99; refine (GD _ HB0.out).mono ?_; rintro e w1 ⟨rfl, hb⟩; have HB1 : Hid (Below (w.alloc (refO b s r c fr fc)).heap.size (w.alloc (refO b s r c fr fc)) w1) := hb; clear hb)
  go_ret
  exact ⟨rfl, bel1 HB1.out⟩
set_option maxHeartbeats 4000000 in
theorem rprint_core {b s X R : ByteArray} {r c : Int} {fr fc : Bool} {w : World} (GD : RC (w.alloc (refO b s r c fr fc)) 99 #[refV b s r c fr fc] (.bool true)) (CE : RC (w.alloc (refO b s r c fr fc)) 112 #[refV b s r c fr fc] (.string X)) (hX : X.size ≤ 5)
    (hw : (s.toList = [] ∧ b.toList = [] ∧ R = X) ∨ ((s.toList == []) = false ∧ s.size ≤ 16 ∧ b.toList = [] ∧ R = s ++ ⟨#[33]⟩ ++ X) ∨ ((s.toList == []) = false ∧ s.size ≤ 16 ∧ (b.toList == []) = false ∧ b.size ≤ 16 ∧ R = (⟨#[91]⟩ : ByteArray) ++ b ++ ⟨#[93]⟩ ++ (s ++ ⟨#[33]⟩ ++ X))) :
    Calls Tryz.prog 69 #[refV b s r c fr fc] w fun e w' => e = .returned (.string R) ∧ Below w.heap.size w w' := by
  have HB0 : Hid (Below (w.alloc (refO b s r c fr fc)).heap.size (w.alloc (refO b s r c fr fc)) (w.alloc (refO b s r c fr fc))) := Below.refl _ _
  have y1 : (⟨#[33]⟩ : ByteArray).size ≤ 1 := Nat.le_refl 1
  have y2 : (⟨#[91]⟩ : ByteArray).size ≤ 1 := Nat.le_refl 1
  have y3 : (⟨#[93]⟩ : ByteArray).size ≤ 1 := Nat.le_refl 1
  rcases hw with ⟨h1, h2, rfl⟩ | ⟨h1, h3, h2, rfl⟩ | ⟨h1, h3, h2, h4, rfl⟩
  all_goals
    go_enter Tryz.func69, Tryz.ntmps69
    go_wp2_with (first | (go_at_call 99; refine (GD _ HB0.out).mono ?_; rintro e w1 ⟨rfl, hb⟩; have HB1 : Hid (Below (w.alloc (refO b s r c fr fc)).heap.size (w.alloc (refO b s r c fr fc)) w1) := hb; clear hb; obtain ⟨c0, c1, c2, c3, c4, c5⟩ := r_cells (new1 HB1.out)) | (go_at_call 112; refine (CE _ HB1.out).mono ?_; rintro e w2 ⟨rfl, hb⟩; have HB2 : Hid (Below (w.alloc (refO b s r c fr fc)).heap.size (w.alloc (refO b s r c fr fc)) w2) := hb; clear hb; obtain ⟨d0, d1, d2, d3, d4, d5⟩ := r_cells (new1 HB2.out)))
    go_ret
    exact ⟨rfl, bel1 HB2.out⟩
theorem raprint_any (b s : ByteArray) (r c : Int) (fr fc : Bool) (hb : b.size ≤ 9223372036854775807) (hs : s.size ≤ 9223372036854775807) (w : World) :
    Calls Tryz.prog 69 #[refV b s r c fr fc] w fun e w' => e = .returned (.string (prB b s r c fr fc)) ∧ Below w.heap.size w w' := by
  have GD : RC (w.alloc (refO b s r c fr fc)) 99 #[refV b s r c fr fc] _ := RC.of fun u hu => ragood_any b s r c fr fc hb hs u
  unfold prB
  cases hg : goodB b s r c
  · rw [hg] at GD
    exact rprint_no GD
  · rw [hg] at GD
    obtain ⟨R, C, rfl, rfl, q1, q2, q3, q4, hw⟩ := good_yes hg
    have CE : RC (w.alloc (refO b s R C fr fc)) 112 #[refV b s R C fr fc] (.string (cellB R C fr fc)) := RC.of fun u hu => rcell_any b s R C fr fc (in_mk q1 q2 q3 q4) q1 q2 q3 q4 u
    exact rprint_core GD CE (cellB_size R C fr fc q1 q2) (refT_ways hw)
end Go.Proofs.YtljfkkpkcjigpaaGreatDoor

/- PrintArea of the program. -/
namespace Go.Proofs.YtljfkkpkcjigpaaGreatDoor
open Go.RowKit
set_option maxRecDepth 100000
set_option linter.unusedVariables false
set_option linter.unusedSimpArgs false
theorem res_one {fn : Func} {i : Tmp} (hr : fn.results = #[.cell i 25]) {tmps : Array Value} {g : Nat} {wf : World} (hp : tmps.getD i undef = .pointer (some ⟨g, 0, none⟩)) {b s : ByteArray} {r c : Int} {fr fc : Bool}
    (h : wf.heap[g]? = some (refO b s r c fr fc)) : (results fn tmps).run Tryz.prog wf = .ok (refV b s r c fr fc) wf := by
  obtain ⟨c0, c1, c2, c3, c4, c5⟩ := r_cells h
  simp only [Array.getD_eq_getD_getElem?] at hp
  simp [results, hr, hp, go_sem, c0, c1, c2, c3, c4, c5]
set_option maxHeartbeats 2000000 in
theorem cellof_any (b s : ByteArray) (r c : Int) (fr fc : Bool) (w : World) :
    Calls Tryz.prog 137 #[refV b s r c fr fc] w fun e w' => e = .returned (refV ⟨#[]⟩ ⟨#[]⟩ r c fr fc) ∧ Below w.heap.size w w' := by
  go_enter Tryz.func137, Tryz.ntmps137
  go_wp2
  refine bodyPost_ret (v := refV ⟨#[]⟩ ⟨#[]⟩ r c fr fc) (by simp [results, Tryz.results137, go_sem]) rfl ?_
  refine ⟨rfl, ?_⟩
  repeat (first | exact Below.refl _ _ | refine Below.drew ?_ | refine bel_alloc ?_ _ | refine Below.setCell ?_ (by simp) _)
/-- The text of an area. -/
def paB (b1 s1 : ByteArray) (r1 c1 : Int) (fr1 fc1 : Bool) (b2 s2 : ByteArray) (r2 c2 : Int) (fr2 fc2 : Bool) : ByteArray :=
  if goodB b1 s1 r1 c1 = true ∧ goodB b2 s2 r2 c2 = true ∧ s2.toList = [] then refT b1 s1 r1.toNat c1.toNat fr1 fc1 ++ ⟨#[58]⟩ ++ cellB r2.toNat c2.toNat fr2 fc2 else ⟨#[]⟩
section
variable {b1 s1 b2 s2 X Y : ByteArray} {r1 c1 r2 c2 : Int} {fr1 fc1 fr2 fc2 : Bool} {w W : World}
set_option maxHeartbeats 4000000 in
theorem area_core (hW : W = (w.alloc (refO b1 s1 r1 c1 fr1 fc1)).alloc (refO b2 s2 r2 c2 fr2 fc2)) (P1 : RC W 109 #[.agg #[.string b1, .string s1, .int .i64 r1, .int .i64 c1, .bool fr1, .bool fc1]] (.string X)) (P2 : RC W 109 #[.agg #[.string b2, .string s2, .int .i64 r2, .int .i64 c2, .bool fr2, .bool fc2]] (.string Y))
    (CO : RC W 137 #[.agg #[.string b2, .string s2, .int .i64 r2, .int .i64 c2, .bool fr2, .bool fc2]] (.agg #[.string ⟨#[]⟩, .string ⟨#[]⟩, .int .i64 r2, .int .i64 c2, .bool fr2, .bool fc2])) (hX : (X.toList == []) = false) (hY : (Y.toList == []) = false) (zX : X.size ≤ 50) (zY : Y.size ≤ 50) {o : Bool}
    (NE : ∀ V, (binOp .neq 25 (.agg #[.string b2, .string s2, .int .i64 r2, .int .i64 c2, .bool fr2, .bool fc2]) (.agg #[.string ⟨#[]⟩, .string ⟨#[]⟩, .int .i64 r2, .int .i64 c2, .bool fr2, .bool fc2])).run Tryz.prog V = .ok (.bool o) V) :
    Calls Tryz.prog 93 #[.agg #[.string b1, .string s1, .int .i64 r1, .int .i64 c1, .bool fr1, .bool fc1], .agg #[.string b2, .string s2, .int .i64 r2, .int .i64 c2, .bool fr2, .bool fc2]] w fun e w' => e = .returned (.string (if o = true then ⟨#[]⟩ else X ++ ⟨#[58]⟩ ++ Y)) ∧ Below w.heap.size w w' := by
  have GU := guard25
  have HC : Hid (∀ u : World, Below W.heap.size W u → (u.cell? ⟨w.heap.size, 0, none⟩ = some (.string b1) ∧ u.cell? ⟨w.heap.size, 1, none⟩ = some (.string s1) ∧ u.cell? ⟨w.heap.size, 2, none⟩ = some (.int .i64 r1) ∧ u.cell? ⟨w.heap.size, 3, none⟩ = some (.int .i64 c1) ∧ u.cell? ⟨w.heap.size, 4, none⟩ = some (.bool fr1) ∧ u.cell? ⟨w.heap.size, 5, none⟩ = some (.bool fc1)) ∧ (u.cell? ⟨w.heap.size + 1, 0, none⟩ = some (.string b2) ∧ u.cell? ⟨w.heap.size + 1, 1, none⟩ = some (.string s2) ∧ u.cell? ⟨w.heap.size + 1, 2, none⟩ = some (.int .i64 r2) ∧ u.cell? ⟨w.heap.size + 1, 3, none⟩ = some (.int .i64 c2) ∧ u.cell? ⟨w.heap.size + 1, 4, none⟩ = some (.bool fr2) ∧ u.cell? ⟨w.heap.size + 1, 5, none⟩ = some (.bool fc2))) := by
    subst hW
    exact fun u hu => ⟨r_cells (new2 hu).1, r_cells (new2 hu).2⟩
  have HB : Hid (Below W.heap.size W W.drew) := (Below.refl _ _).drew
  have HF : Hid (∀ u, Below W.heap.size W u → Below w.heap.size w u) := by
    subst hW
    exact fun u hu => bel2 hu
  have z5 : ¬ 9223372036854775807 < X.size + 1 := by omega
  have z6 : ¬ 9223372036854775807 < X.size + 1 + Y.size := by omega
  have hW2 := hW.symm
  clear hW
  go_enter Tryz.func93, Tryz.ntmps93
  go_wp2_with fail
  try rw [hW2]
  go_region_held_law (fun u => (u.cell? ⟨w.heap.size, 0, none⟩ = some (.string b1) ∧ u.cell? ⟨w.heap.size, 1, none⟩ = some (.string s1) ∧ u.cell? ⟨w.heap.size, 2, none⟩ = some (.int .i64 r1) ∧ u.cell? ⟨w.heap.size, 3, none⟩ = some (.int .i64 c1) ∧ u.cell? ⟨w.heap.size, 4, none⟩ = some (.bool fr1) ∧ u.cell? ⟨w.heap.size, 5, none⟩ = some (.bool fc1)) ∧ (u.cell? ⟨w.heap.size + 1, 0, none⟩ = some (.string b2) ∧ u.cell? ⟨w.heap.size + 1, 1, none⟩ = some (.string s2) ∧ u.cell? ⟨w.heap.size + 1, 2, none⟩ = some (.int .i64 r2) ∧ u.cell? ⟨w.heap.size + 1, 3, none⟩ = some (.int .i64 c2) ∧ u.cell? ⟨w.heap.size + 1, 4, none⟩ = some (.bool fr2) ∧ u.cell? ⟨w.heap.size + 1, 5, none⟩ = some (.bool fc2)))
    (exact HC.out _ HB.out) (first
    | (go_at_call_of 109 b1; refine (P1 _ HB.out).mono ?_; rintro e w7 ⟨rfl, hb⟩; have HB : Hid (Below W.heap.size W w7) := hb; clear hb)
    | (go_at_call_of 109 b2; refine (P2 _ HB.out).mono ?_; rintro e w7 ⟨rfl, hb⟩; have HB : Hid (Below W.heap.size W w7) := hb; clear hb))
  go_wp2_with fail
  have HB : Hid (Below W.heap.size W (World.drew _)) := HB.out.drew
  go_region_held_law (fun u => (u.cell? ⟨w.heap.size, 0, none⟩ = some (.string b1) ∧ u.cell? ⟨w.heap.size, 1, none⟩ = some (.string s1) ∧ u.cell? ⟨w.heap.size, 2, none⟩ = some (.int .i64 r1) ∧ u.cell? ⟨w.heap.size, 3, none⟩ = some (.int .i64 c1) ∧ u.cell? ⟨w.heap.size, 4, none⟩ = some (.bool fr1) ∧ u.cell? ⟨w.heap.size, 5, none⟩ = some (.bool fc1)) ∧ (u.cell? ⟨w.heap.size + 1, 0, none⟩ = some (.string b2) ∧ u.cell? ⟨w.heap.size + 1, 1, none⟩ = some (.string s2) ∧ u.cell? ⟨w.heap.size + 1, 2, none⟩ = some (.int .i64 r2) ∧ u.cell? ⟨w.heap.size + 1, 3, none⟩ = some (.int .i64 c2) ∧ u.cell? ⟨w.heap.size + 1, 4, none⟩ = some (.bool fr2) ∧ u.cell? ⟨w.heap.size + 1, 5, none⟩ = some (.bool fc2)))
    (exact HC.out _ HB.out) (first
    | (go_at_call 137; refine (CO _ HB.out).mono ?_; rintro e w9 ⟨rfl, hb⟩; have HB : Hid (Below W.heap.size W w9) := hb; clear hb))
  cases o
  · go_wp2
    go_ret
    exact ⟨rfl, HF.out _ HB.out⟩
  · go_wp2
    go_ret
    exact ⟨rfl, HF.out _ HB.out⟩
end
end Go.Proofs.YtljfkkpkcjigpaaGreatDoor

/- PrintArea of the program, for every two refs. -/
namespace Go.Proofs.YtljfkkpkcjigpaaGreatDoor
open Go.RowKit
set_option maxRecDepth 100000
set_option linter.unusedVariables false
set_option linter.unusedSimpArgs false
section
variable {b1 s1 b2 s2 X Y : ByteArray} {r1 c1 r2 c2 : Int} {fr1 fc1 fr2 fc2 : Bool} {w W : World}
set_option maxHeartbeats 4000000 in
theorem area_no (hW : W = (w.alloc (refO b1 s1 r1 c1 fr1 fc1)).alloc (refO b2 s2 r2 c2 fr2 fc2)) (P1 : RC W 109 #[.agg #[.string b1, .string s1, .int .i64 r1, .int .i64 c1, .bool fr1, .bool fc1]] (.string X)) (P2 : RC W 109 #[.agg #[.string b2, .string s2, .int .i64 r2, .int .i64 c2, .bool fr2, .bool fc2]] (.string Y))
    (hXY : X.toList = [] ∨ ((X.toList == []) = false ∧ Y.toList = [])) :
    Calls Tryz.prog 93 #[.agg #[.string b1, .string s1, .int .i64 r1, .int .i64 c1, .bool fr1, .bool fc1], .agg #[.string b2, .string s2, .int .i64 r2, .int .i64 c2, .bool fr2, .bool fc2]] w fun e w' => e = .returned (.string ⟨#[]⟩) ∧ Below w.heap.size w w' := by
  have GU := guard25
  have HC : Hid (∀ u : World, Below W.heap.size W u → (u.cell? ⟨w.heap.size, 0, none⟩ = some (.string b1) ∧ u.cell? ⟨w.heap.size, 1, none⟩ = some (.string s1) ∧ u.cell? ⟨w.heap.size, 2, none⟩ = some (.int .i64 r1) ∧ u.cell? ⟨w.heap.size, 3, none⟩ = some (.int .i64 c1) ∧ u.cell? ⟨w.heap.size, 4, none⟩ = some (.bool fr1) ∧ u.cell? ⟨w.heap.size, 5, none⟩ = some (.bool fc1)) ∧ (u.cell? ⟨w.heap.size + 1, 0, none⟩ = some (.string b2) ∧ u.cell? ⟨w.heap.size + 1, 1, none⟩ = some (.string s2) ∧ u.cell? ⟨w.heap.size + 1, 2, none⟩ = some (.int .i64 r2) ∧ u.cell? ⟨w.heap.size + 1, 3, none⟩ = some (.int .i64 c2) ∧ u.cell? ⟨w.heap.size + 1, 4, none⟩ = some (.bool fr2) ∧ u.cell? ⟨w.heap.size + 1, 5, none⟩ = some (.bool fc2))) := by
    subst hW
    exact fun u hu => ⟨r_cells (new2 hu).1, r_cells (new2 hu).2⟩
  have HB : Hid (Below W.heap.size W W.drew) := (Below.refl _ _).drew
  have HF : Hid (∀ u, Below W.heap.size W u → Below w.heap.size w u) := by
    subst hW
    exact fun u hu => bel2 hu
  have hW2 := hW.symm
  clear hW
  go_enter Tryz.func93, Tryz.ntmps93
  go_wp2_with fail
  try rw [hW2]
  go_region_held_law (fun u => (u.cell? ⟨w.heap.size, 0, none⟩ = some (.string b1) ∧ u.cell? ⟨w.heap.size, 1, none⟩ = some (.string s1) ∧ u.cell? ⟨w.heap.size, 2, none⟩ = some (.int .i64 r1) ∧ u.cell? ⟨w.heap.size, 3, none⟩ = some (.int .i64 c1) ∧ u.cell? ⟨w.heap.size, 4, none⟩ = some (.bool fr1) ∧ u.cell? ⟨w.heap.size, 5, none⟩ = some (.bool fc1)) ∧ (u.cell? ⟨w.heap.size + 1, 0, none⟩ = some (.string b2) ∧ u.cell? ⟨w.heap.size + 1, 1, none⟩ = some (.string s2) ∧ u.cell? ⟨w.heap.size + 1, 2, none⟩ = some (.int .i64 r2) ∧ u.cell? ⟨w.heap.size + 1, 3, none⟩ = some (.int .i64 c2) ∧ u.cell? ⟨w.heap.size + 1, 4, none⟩ = some (.bool fr2) ∧ u.cell? ⟨w.heap.size + 1, 5, none⟩ = some (.bool fc2)))
    (exact HC.out _ HB.out) (first
    | (go_at_call_of 109 b1; refine (P1 _ HB.out).mono ?_; rintro e w7 ⟨rfl, hb⟩; have HB : Hid (Below W.heap.size W w7) := hb; clear hb)
    | (go_at_call_of 109 b2; refine (P2 _ HB.out).mono ?_; rintro e w7 ⟨rfl, hb⟩; have HB : Hid (Below W.heap.size W w7) := hb; clear hb))
  go_wp2_with fail
  rcases hXY with h | ⟨h, h'⟩
  · go_quiet ((fail))
    go_wp2
    go_ret
    exact ⟨rfl, HF.out _ (HB.out.trans ((drewN_below _ _).mono HB.out.size))⟩
  · go_quiet ((fail))
    go_wp2
    go_ret
    exact ⟨rfl, HF.out _ (HB.out.trans ((drewN_below _ _).mono HB.out.size))⟩
end
theorem prB_no {b s : ByteArray} {r c : Int} {fr fc : Bool} (h : goodB b s r c = false) : (prB b s r c fr fc).toList = [] := by
  unfold prB
  rw [if_neg (by rw [h]; decide), ByteArray.toList_eq]
theorem prB_yes {b s : ByteArray} {r c : Int} {fr fc : Bool} (h : goodB b s r c = true) : prB b s r c fr fc = refT b s r.toNat c.toNat fr fc ∧ ((prB b s r c fr fc).toList == []) = false ∧ (prB b s r c fr fc).size ≤ 50 := by
  have e : prB b s r c fr fc = refT b s r.toNat c.toNat fr fc := by unfold prB; rw [if_pos h]
  obtain ⟨R, C, rfl, rfl, q1, q2, q3, q4, hw⟩ := good_yes h
  have ew := refT_ways (R := R) (C := C) (fr := fr) (fc := fc) hw
  have hc := cellB_size R C fr fc q1 q2
  simp only [Int.toNat_natCast] at e
  refine ⟨by simp only [Int.toNat_natCast]; exact e, ?_, ?_⟩
  · rw [e, ByteArray.toList_eq]
    unfold refT
    have : Ad.refW ⟨b.data.toList, s.data.toList, ⟨R, C, fr, fc⟩⟩ ≠ [] := by
      unfold Ad.refW
      simp only [ne_eq, List.append_eq_nil_iff, not_and]
      intro _ _
      exact Ad.cell_ne
    simpa using this
  · rw [e]
    rcases ew with ⟨_, _, e⟩ | ⟨_, z1, _, e⟩ | ⟨_, z1, _, z2, e⟩
    · rw [e]; omega
    · rw [e]
      simp only [ByteArray.size_append, ByteArray.size_mk']
      have : (#[33] : Array UInt8).size = 1 := rfl
      omega
    · rw [e]
      simp only [ByteArray.size_append, ByteArray.size_mk']
      have : (#[33] : Array UInt8).size = 1 := rfl
      have : (#[91] : Array UInt8).size = 1 := rfl
      have : (#[93] : Array UInt8).size = 1 := rfl
      omega
theorem area_any (b1 s1 : ByteArray) (r1 c1 : Int) (fr1 fc1 : Bool) (b2 s2 : ByteArray) (r2 c2 : Int) (fr2 fc2 : Bool) (z1 : b1.size ≤ 9223372036854775807) (z2 : s1.size ≤ 9223372036854775807) (z3 : b2.size ≤ 9223372036854775807) (z4 : s2.size ≤ 9223372036854775807) (w : World) (T : Tabs w) :
    Calls Tryz.prog 93 #[refV b1 s1 r1 c1 fr1 fc1, refV b2 s2 r2 c2 fr2 fc2] w fun e w' => e = .returned (.string (paB b1 s1 r1 c1 fr1 fc1 b2 s2 r2 c2 fr2 fc2)) ∧ Below w.heap.size w w' := by
  have P1 : RC ((w.alloc (refO b1 s1 r1 c1 fr1 fc1)).alloc (refO b2 s2 r2 c2 fr2 fc2)) 109 #[refV b1 s1 r1 c1 fr1 fc1] _ := RC.of fun u hu => aprint_any b1 s1 r1 c1 fr1 fc1 z1 z2 u (T.below (bel2 hu))
  have P2 : RC ((w.alloc (refO b1 s1 r1 c1 fr1 fc1)).alloc (refO b2 s2 r2 c2 fr2 fc2)) 109 #[refV b2 s2 r2 c2 fr2 fc2] _ := RC.of fun u hu => aprint_any b2 s2 r2 c2 fr2 fc2 z3 z4 u (T.below (bel2 hu))
  have CO : RC ((w.alloc (refO b1 s1 r1 c1 fr1 fc1)).alloc (refO b2 s2 r2 c2 fr2 fc2)) 137 #[refV b2 s2 r2 c2 fr2 fc2] _ := RC.of fun u hu => cellof_any b2 s2 r2 c2 fr2 fc2 u
  unfold paB
  cases g1 : goodB b1 s1 r1 c1
  · rw [if_neg (by simp)]
    exact area_no rfl P1 P2 (.inl (prB_no g1))
  obtain ⟨e1, n1, l1⟩ := prB_yes (fr := fr1) (fc := fc1) g1
  cases g2 : goodB b2 s2 r2 c2
  · rw [if_neg (by simp)]
    exact area_no rfl P1 P2 (.inr ⟨n1, prB_no g2⟩)
  obtain ⟨e2, n2, l2⟩ := prB_yes (fr := fr2) (fc := fc2) g2
  by_cases hs : s2.toList = []
  · rw [if_pos ⟨rfl, rfl, hs⟩]
    obtain ⟨R, C, rfl, rfl, q1, q2, q3, q4, hw⟩ := good_yes g2
    have hb : b2.toList = [] := by
      rcases hw with ⟨_, h⟩ | ⟨h, _⟩ | ⟨h, _⟩
      · exact h
      · rw [hs] at h; cases h
      · rw [hs] at h; cases h
    have eb : b2 = ⟨#[]⟩ := Go.WideShapes.bytes_inj (by rw [nil_data hb])
    have es : s2 = ⟨#[]⟩ := Go.WideShapes.bytes_inj (by rw [nil_data hs])
    have := area_core (o := false) rfl P1 P2 CO n1 n2 l1 l2 (fun V => by rw [eb, es]; exact run_ne_ref _ _ _ _ _ _ V)
    have ec : refT b2 s2 ((R : Int).toNat) ((C : Int).toNat) fr2 fc2 = cellB R C fr2 fc2 := by
      unfold refT Ad.refW cellB
      simp only [nil_data hs, nil_data hb, if_true, List.nil_append, Int.toNat_natCast]
    rw [e1, e2, ec] at this
    exact this
  · rw [if_neg (fun q => hs q.2.2)]
    have := area_core (o := true) rfl P1 P2 CO n1 n2 l1 l2 (fun V => run_ne_other _ _ _ _ _ _ _ _ _ _ _ _ V (.inr (by
      rw [show (⟨#[]⟩ : ByteArray).toList = [] by rw [ByteArray.toList_eq]]
      simpa using hs)))
    exact this
end Go.Proofs.YtljfkkpkcjigpaaGreatDoor

/- Good constants and functions. -/
namespace Go.Proofs.YtljfkkpkcjigpaaGreatDoor
open Go.RowKit Go.Fm
set_option maxRecDepth 100000
set_option linter.unusedVariables false
set_option linter.unusedSimpArgs false
def gcB (k n : Int) (s : ByteArray) : Bool := if k = 0 then false else if k = 1 then decide (0 ≤ n) && goodF k n s else goodF k n s
def gfB (s : ByteArray) : Bool := (s.toList == (⟨(szF 97 65 s.data.toList).toArray⟩ : ByteArray).toList) && (gnF s.data.toList || ((typedF s).1 == 3))
set_option maxHeartbeats 2000000 in
theorem gconst_any (k n : Int) (s : ByteArray) (w : World) : Calls Tryz.prog 91 #[.agg #[.int .i64 k, .int .i64 n, .string s]] w fun e w' => e = .returned (.bool (gcB k n s)) ∧ Below w.heap.size w w' := by
  have V := fun u => vgood_any k n s u
  unfold gcB
  by_cases h0 : k = 0
  · subst h0
    rw [if_pos rfl]
    clear V
    go_enter Tryz.func91, Tryz.ntmps91
    go_wp2
    go_ret
    exact ⟨rfl, bel_alloc (Below.refl _ _) _⟩
  rw [if_neg h0]
  have h0b : (k == 0) = false := by simpa using h0
  by_cases h1 : k = 1
  · subst h1
    rw [if_pos rfl]
    generalize goodF 1 n s = g at *
    by_cases hn : 0 ≤ n
    · have hd : decide (0 ≤ n) = true := decide_eq_true hn
      rw [hd]
      go_enter Tryz.func91, Tryz.ntmps91
      go_wp2_with (go_at_call 135; refine (V _).mono ?_; rintro e w1 ⟨rfl, hs⟩; have HB : Hid (Below w.heap.size w w1) := bel1 hs; clear hs)
      all_goals (go_ret; exact ⟨by first | rfl | (simp; done), HB.out⟩)
    · have hd : decide (0 ≤ n) = false := decide_eq_false hn
      have hn2 : n < 0 := by omega
      rw [hd]
      clear V
      go_enter Tryz.func91, Tryz.ntmps91
      go_wp2
      all_goals (go_ret; exact ⟨by first | rfl | (simp; done), bel_alloc (Below.refl _ _) _⟩)
  · rw [if_neg h1]
    have h1b : (k == 1) = false := by simpa using h1
    generalize goodF k n s = g at *
    clear h0 h1
    go_enter Tryz.func91, Tryz.ntmps91
    go_wp2_with (go_at_call 135; refine (V _).mono ?_; rintro e w1 ⟨rfl, hs⟩; have HB : Hid (Below w.heap.size w w1) := bel1 hs; clear hs)
    all_goals (go_ret; exact ⟨by first | rfl | (simp; done), HB.out⟩)
set_option maxHeartbeats 2000000 in
theorem gfun_any (s : ByteArray) (hs : s.size ≤ 9223372036854775807) (w : World) (T : Tabs w) : Calls Tryz.prog 96 #[.string s] w fun e w' => e = .returned (.bool (gfB s)) ∧ Below w.heap.size w w' := by
  have U := fun u => up_any s hs u
  have G := fun u (hu : Below w.heap.size w u) => goodname_any s hs u (T.below hu)
  have TY := fun u (hu : Below w.heap.size w u) => typed_any s hs u (T.below hu)
  have FL := fun u => run_fld u (typedF s).1 (typedF s).2.1 (typedF s).2.2
  unfold gfB
  generalize (⟨(szF 97 65 s.data.toList).toArray⟩ : ByteArray) = X at *
  generalize gnF s.data.toList = gn at *
  generalize (typedF s).1 = k at *
  generalize (typedF s).2.1 = n at *
  generalize (typedF s).2.2 = x at *
  cases he : (s.toList == X.toList)
  · go_enter Tryz.func96, Tryz.ntmps96
    go_wp2_with (go_at_call 141; refine (U _).mono ?_; rintro e w1 ⟨rfl, hs⟩; have HB : Hid (Below w.heap.size w w1) := hs; clear hs)
    all_goals (go_ret; exact ⟨by first | rfl | (simp; done), HB.out⟩)
  · cases gn
    · go_enter Tryz.func96, Tryz.ntmps96
      go_wp2_with (first
        | (go_at_call 141; refine (U _).mono ?_; rintro e w1 ⟨rfl, hs⟩; have HB : Hid (Below w.heap.size w w1) := hs; clear hs)
        | (go_at_call 94; refine (G _ HB.out).mono ?_; rintro e w2 ⟨rfl, hs⟩; have HB2 : Hid (Below w.heap.size w w2) := bel_step HB.out hs; clear hs)
        | (go_at_call 142; refine (TY _ HB2.out).mono ?_; rintro e w3 ⟨rfl, hs⟩; have HB3 : Hid (Below w.heap.size w w3) := bel_step HB2.out hs; clear hs))
      all_goals (go_ret; exact ⟨by first | rfl | (simp; done), HB3.out⟩)
    · go_enter Tryz.func96, Tryz.ntmps96
      go_wp2_with (first
        | (go_at_call 141; refine (U _).mono ?_; rintro e w1 ⟨rfl, hs⟩; have HB : Hid (Below w.heap.size w w1) := hs; clear hs)
        | (go_at_call 94; refine (G _ HB.out).mono ?_; rintro e w2 ⟨rfl, hs⟩; have HB2 : Hid (Below w.heap.size w w2) := bel_step HB.out hs; clear hs))
      all_goals (go_ret; exact ⟨by first | rfl | (simp; done), HB2.out⟩)
end Go.Proofs.YtljfkkpkcjigpaaGreatDoor
