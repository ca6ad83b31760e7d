/- FSame, ARPrint, AArea, AArea2, FGood1. -/
import Derived.Test.YtljmklbbngpllaaGreatDoorFAlike2Bk
set_option linter.unusedVariables false
set_option linter.unusedSimpArgs false
set_option maxHeartbeats 16000000
set_option maxRecDepth 100000
namespace Go.Proofs.YtljmklbbngpllaaGreatDoor
open Go.RowKit Go.Fm
def sF : F → F → Bool
 | .nil, .nil => true
 | .node _ _ a l r, .node _ _ a' l' r' => (bO a a' && sF l l') && sF r r'
 | _, _ => false
def sT (s t : T) : Bool := bO s.1 t.1 && sF s.2 t.2
theorem aGb : ∀ f g : F, sF f g = true ↔ same f g := by
 intro f
 induction f with
 | nil => intro g; cases g <;> simp [sF, same]
 | node b o a l r ihl ihr =>
  intro g
  cases g with
  | nil => simp [sF, same]
  | node b' o' a' l' r' =>
   simp only [sF, same, Bool.and_eq_true, ihl l', ihr r']
   constructor
   ·rintro ⟨⟨h1, h2⟩, h3⟩; exact ⟨qL h1, h2, h3⟩
   ·rintro ⟨h1, h2, h3⟩; exact ⟨⟨by rw [h1]; exact pJ _, h2⟩, h3⟩
theorem aBI (s t : T) : sT s t = true ↔ aFw s t := by
 unfold sT aFw
 rw [Bool.and_eq_true, aGb]
 constructor
 ·rintro ⟨h1, h2⟩; exact ⟨qL h1, h2⟩
 ·rintro ⟨h1, h2⟩; exact ⟨by rw [h1]; exact pJ _, h2⟩
theorem xH (f g : F) : sF f g = true ↔ ((kids f).length = (kids g).length ∧ ∀ (i : Nat) (s t : T), (kids f)[i]? = some s → (kids g)[i]? = some t → sT s t = true) := by
 rw [aGb, aDw]
 constructor
 ·rintro ⟨h1, h2⟩
  refine ⟨h1, fun i s t hs ht => ?_⟩
  obtain ⟨l1, e1⟩ := List.getElem?_eq_some_iff.1 hs
  obtain ⟨l2, e2⟩ := List.getElem?_eq_some_iff.1 ht
  rw [aBI, ← e1, ← e2]
  exact h2 i l1 l2
 ·rintro ⟨h1, h2⟩
  refine ⟨h1, fun i l1 l2 => ?_⟩
  rw [← aBI]
  exact h2 i _ _ (List.getElem?_eq_getElem l1) (List.getElem?_eq_getElem l2)
theorem lW (t : T) : (kids t.2).length < zT t := by
 have : (kids t.2).length ≤ size t.2 := by
  rw [← wV, iL]
  have : ∀ l : List T, l.length ≤ (l.flatMap dA).length := by
   intro l
   induction l with
   | nil => exact Nat.zero_le _
   | cons a l ih => rw [List.flatMap_cons, List.length_append, List.length_cons, dA, List.length_cons]; omega
  exact this _
 unfold zT; omega
theorem iA {w : World} {es : Array Value} {t : T} (h : NT w es t) : True ∧ ∀ {u : World} {g : Nat}, u.heap[g]? = some (.cells es 28) → (Instr.loadAt 28 (.pointer (some ⟨g, 0, none⟩))).run Tryz.prog u = .ok (.agg es) u := by
 obtain ⟨p, n, c, rfl, hs⟩ := h
 exact ⟨trivial, fun hu => lod (z := (0, 0)) hu rfl Tryz.underlying28 (by rw [aV]; exact bV)⟩
end Go.Proofs.YtljmklbbngpllaaGreatDoor
namespace Go.Proofs.YtljmklbbngpllaaGreatDoor
open Go.RowKit
theorem aJf {R C : Nat} (h1 : 1 ≤ R) (h2 : R ≤ 64) (h3 : 1 ≤ C) (h4 : C ≤ 26) : inB R C = true := by
 unfold inB
 simp only [Bool.and_eq_true, decide_eq_true_eq]
 omega
theorem aIh {a b : ByteArray} (h : a = b) : (Ending.returned (.string a)) = .returned (.string b) := by rw [h]
theorem aIi (a : ByteArray) (x : UInt8) : ((⟨#[x]⟩ : ByteArray) ++ a).extract 0 1 = ⟨#[x]⟩ ∧ ((⟨#[x]⟩ : ByteArray) ++ a).extract 1 ((⟨#[x]⟩ : ByteArray) ++ a).size = a := by
 constructor
 ·apply ByteArray.ext
  simp
 ·apply ByteArray.ext
  simp
  right
  show a.size ≤ 1 + a.size - 1
  omega
theorem aBJ {b s A X D R : ByteArray} {r c : Int} {fr fc : Bool} {w : World} (CT : RC (w.alloc (aR b s r c fr fc)) 185 #[.int .i64 r, .int .i64 c] (.string A)) (hA : 1 ≤ A.size ∧ A.size ≤ 5) (h0 : A.extract 0 1 = X) (h1 : A.extract 1 A.size = D) (hX : X.size ≤ 1) (hD : D.size ≤ 4)
  (hR : R = (if fc = true then (⟨#[36]⟩ : ByteArray) ++ X else X) ++ (if fr = true then ⟨#[36]⟩ else ⟨#[]⟩) ++ D) :
  Calls Tryz.prog 142 #[aY b s r c fr fc] w fun e w' => e = .returned (.string R) ∧ Below w.heap.size w w' := by
 have HB0 : Hid (Below (w.alloc (aR b s r c fr fc)).heap.size (w.alloc (aR b s r c fr fc)) (w.alloc (aR b s r c fr fc))) := Below.refl _ _
 have y1 : (⟨#[36]⟩ : ByteArray).size ≤ 1 := Nat.le_refl 1
 have HR : Hid (R = (if fc = true then (⟨#[36]⟩ : ByteArray) ++ X else X) ++ (if fr = true then ⟨#[36]⟩ else ⟨#[]⟩) ++ D) := hR
 clear hR
 cases fr <;> cases fc
 all_goals
  go_enter Tryz.func142, Tryz.ntmps142
  go_wp2_with (go_at_call 185; refine (CT _ HB0.out).mono ?_; rintro e w1 ⟨rfl, hb⟩; have HB1 : Hid (Below (w.alloc (aR b s r c _ _)).heap.size (w.alloc (aR b s r c _ _)) w1) := hb; clear hb; obtain ⟨c0, c1, c2, c3, c4, c5⟩ := aQ (new1 HB1.out))
  go_ret
  refine ⟨aIh ?_, aS HB1.out⟩
  rw [HR.out]
  apply ByteArray.ext
  simp
theorem vL (b s : ByteArray) (R C : Nat) (fr fc : Bool) (hi : inB R C = true) (hR1 : 1 ≤ R) (hR2 : R ≤ 64) (hC1 : 1 ≤ C) (hC2 : C ≤ 26) (w : World) :
  Calls Tryz.prog 142 #[aY b s R C fr fc] w fun e w' => e = .returned (.string (gI R C fr fc)) ∧ Below w.heap.size w w' := by
 have CT : RC (w.alloc (aR b s R C fr fc)) 185 #[.int .i64 R, .int .i64 C] (.string (gI R C false false)) := RC.of fun u hu => aHm R C hi hR1 hR2 hC1 hC2 u
 rw [← aBe] at CT
 obtain ⟨e1, e2⟩ := aIi ⟨(Lib.decDigits R).toArray⟩ (Ad.dU C)
 have hz := iJ R C false false hR1 hR2
 rw [← aBe] at hz
 refine aBJ CT ⟨by rw [ByteArray.size_append]; exact Nat.le_add_right 1 _, hz⟩ e1 e2 (Nat.le_refl 1) (Nat.le_trans (lN R hR2) (by decide)) ?_
 rw [← rO]
 unfold wL
 apply ByteArray.ext
 cases fr <;> cases fc <;> simp
theorem aDY {b s : ByteArray} {r c : Int} {fr fc : Bool} {w : World} (GD : RC (w.alloc (aR b s r c fr fc)) 107 #[aY b s r c fr fc] (.bool false)) :
  Calls Tryz.prog 102 #[aY b s r c fr fc] w fun e w' => e = .returned (.string ⟨#[]⟩) ∧ Below w.heap.size w w' := by
 have HB0 : Hid (Below (w.alloc (aR b s r c fr fc)).heap.size (w.alloc (aR b s r c fr fc)) (w.alloc (aR b s r c fr fc))) := Below.refl _ _
 go_enter Tryz.func102, Tryz.ntmps102
 go_wp2_with (go_at_call 107; refine (GD _ HB0.out).mono ?_; rintro e w1 ⟨rfl, hb⟩; have HB1 : Hid (Below (w.alloc (aR b s r c fr fc)).heap.size (w.alloc (aR b s r c fr fc)) w1) := hb; clear hb)
 go_ret
 exact ⟨rfl, aS HB1.out⟩
theorem aAy {b s X R : ByteArray} {r c : Int} {fr fc : Bool} {w : World} (GD : RC (w.alloc (aR b s r c fr fc)) 107 #[aY b s r c fr fc] (.bool true)) (CE : RC (w.alloc (aR b s r c fr fc)) 142 #[aY b s r c fr fc] (.string X)) (hX : X.size ≤ 5)
  (hw : (s.toList = [] ∧ b.toList = [] ∧ R = X) ∨ ((s.toList == []) = false ∧ s.size ≤ 16 ∧ b.toList = [] ∧ R = s ++ ⟨#[33]⟩ ++ X) ∨ ((s.toList == []) = false ∧ s.size ≤ 16 ∧ (b.toList == []) = false ∧ b.size ≤ 16 ∧ R = (⟨#[91]⟩ : ByteArray) ++ b ++ ⟨#[93]⟩ ++ (s ++ ⟨#[33]⟩ ++ X))) :
  Calls Tryz.prog 102 #[aY b s r c fr fc] w fun e w' => e = .returned (.string R) ∧ Below w.heap.size w w' := by
 have HB0 : Hid (Below (w.alloc (aR b s r c fr fc)).heap.size (w.alloc (aR b s r c fr fc)) (w.alloc (aR b s r c fr fc))) := Below.refl _ _
 have y1 : (⟨#[33]⟩ : ByteArray).size ≤ 1 := Nat.le_refl 1
 have y2 : (⟨#[91]⟩ : ByteArray).size ≤ 1 := Nat.le_refl 1
 have y3 : (⟨#[93]⟩ : ByteArray).size ≤ 1 := Nat.le_refl 1
 rcases hw with ⟨h1, h2, rfl⟩ | ⟨h1, h3, h2, rfl⟩ | ⟨h1, h3, h2, h4, rfl⟩
 all_goals
  go_enter Tryz.func102, Tryz.ntmps102
  go_wp2_with (first | (go_at_call 107; refine (GD _ HB0.out).mono ?_; rintro e w1 ⟨rfl, hb⟩; have HB1 : Hid (Below (w.alloc (aR b s r c fr fc)).heap.size (w.alloc (aR b s r c fr fc)) w1) := hb; clear hb; obtain ⟨c0, c1, c2, c3, c4, c5⟩ := aQ (new1 HB1.out)) | (go_at_call 142; refine (CE _ HB1.out).mono ?_; rintro e w2 ⟨rfl, hb⟩; have HB2 : Hid (Below (w.alloc (aR b s r c fr fc)).heap.size (w.alloc (aR b s r c fr fc)) w2) := hb; clear hb; obtain ⟨d0, d1, d2, d3, d4, d5⟩ := aQ (new1 HB2.out)))
  go_ret
  exact ⟨rfl, aS HB2.out⟩
theorem aAz (b s : ByteArray) (r c : Int) (fr fc : Bool) (hb : b.size ≤ 9223372036854775807) (hs : s.size ≤ 9223372036854775807) (w : World) :
  Calls Tryz.prog 102 #[aY b s r c fr fc] w fun e w' => e = .returned (.string (prB b s r c fr fc)) ∧ Below w.heap.size w w' := by
 have GD : RC (w.alloc (aR b s r c fr fc)) 107 #[aY b s r c fr fc] _ := RC.of fun u hu => jP b s r c fr fc hb hs u
 unfold prB
 cases hg : bB b s r c
 ·rw [hg] at GD
  exact aDY GD
 ·rw [hg] at GD
  obtain ⟨R, C, rfl, rfl, q1, q2, q3, q4, hw⟩ := iH hg
  have CE : RC (w.alloc (aR b s R C fr fc)) 142 #[aY b s R C fr fc] (.string (gI R C fr fc)) := RC.of fun u hu => vL b s R C fr fc (aJf q1 q2 q3 q4) q1 q2 q3 q4 u
  exact aAy GD CE (iJ R C fr fc q1 q2) (oV hw)
theorem aBK (b s : ByteArray) (r c : Int) (fr fc : Bool) (w : World) :
  Calls Tryz.prog 203 #[aY b s r c fr fc] w fun e w' => e = .returned (aY ⟨#[]⟩ ⟨#[]⟩ r c fr fc) ∧ Below w.heap.size w w' := by
 go_enter Tryz.func203, Tryz.ntmps203
 go_wp2
 refine bodyPost_ret (v := aY ⟨#[]⟩ ⟨#[]⟩ r c fr fc) (by simp [results, Tryz.results203, go_sem]) rfl ?_
 refine ⟨rfl, ?_⟩
 repeat (first | exact Below.refl _ _ | refine Below.drew ?_ | refine aC ?_ _ | refine Below.setCell ?_ (by simp) _)
def paB (b1 s1 : ByteArray) (r1 c1 : Int) (fr1 fc1 : Bool) (b2 s2 : ByteArray) (r2 c2 : Int) (fr2 fc2 : Bool) : ByteArray :=
 if bB b1 s1 r1 c1 = true ∧ bB b2 s2 r2 c2 = true ∧ s2.toList = [] then rP b1 s1 r1.toNat c1.toNat fr1 fc1 ++ ⟨#[58]⟩ ++ gI r2.toNat c2.toNat fr2 fc2 else ⟨#[]⟩
section
variable {b1 s1 b2 s2 X Y : ByteArray} {r1 c1 r2 c2 : Int} {fr1 fc1 fr2 fc2 : Bool} {w W : World}
theorem vM (hW : W = (w.alloc (aR b1 s1 r1 c1 fr1 fc1)).alloc (aR b2 s2 r2 c2 fr2 fc2)) (P1 : RC W 132 #[.agg #[.string b1, .string s1, .int .i64 r1, .int .i64 c1, .bool fr1, .bool fc1]] (.string X)) (P2 : RC W 132 #[.agg #[.string b2, .string s2, .int .i64 r2, .int .i64 c2, .bool fr2, .bool fc2]] (.string Y))
  (CO : RC W 203 #[.agg #[.string b2, .string s2, .int .i64 r2, .int .i64 c2, .bool fr2, .bool fc2]] (.agg #[.string ⟨#[]⟩, .string ⟨#[]⟩, .int .i64 r2, .int .i64 c2, .bool fr2, .bool fc2])) (hX : (X.toList == []) = false) (hY : (Y.toList == []) = false) (zX : X.size ≤ 50) (zY : Y.size ≤ 50) {o : Bool}
  (NE : ∀ V, (binOp .neq 25 (.agg #[.string b2, .string s2, .int .i64 r2, .int .i64 c2, .bool fr2, .bool fc2]) (.agg #[.string ⟨#[]⟩, .string ⟨#[]⟩, .int .i64 r2, .int .i64 c2, .bool fr2, .bool fc2])).run Tryz.prog V = .ok (.bool o) V) :
  Calls Tryz.prog 163 #[.agg #[.string b1, .string s1, .int .i64 r1, .int .i64 c1, .bool fr1, .bool fc1], .agg #[.string b2, .string s2, .int .i64 r2, .int .i64 c2, .bool fr2, .bool fc2]] w fun e w' => e = .returned (.string (if o = true then ⟨#[]⟩ else X ++ ⟨#[58]⟩ ++ Y)) ∧ Below w.heap.size w w' := by
 have GU := dO
 have HC : Hid (∀ u : World, Below W.heap.size W u → (u.cell? ⟨w.heap.size, 0, none⟩ = some (.string b1) ∧ u.cell? ⟨w.heap.size, 1, none⟩ = some (.string s1) ∧ u.cell? ⟨w.heap.size, 2, none⟩ = some (.int .i64 r1) ∧ u.cell? ⟨w.heap.size, 3, none⟩ = some (.int .i64 c1) ∧ u.cell? ⟨w.heap.size, 4, none⟩ = some (.bool fr1) ∧ u.cell? ⟨w.heap.size, 5, none⟩ = some (.bool fc1)) ∧ (u.cell? ⟨w.heap.size + 1, 0, none⟩ = some (.string b2) ∧ u.cell? ⟨w.heap.size + 1, 1, none⟩ = some (.string s2) ∧ u.cell? ⟨w.heap.size + 1, 2, none⟩ = some (.int .i64 r2) ∧ u.cell? ⟨w.heap.size + 1, 3, none⟩ = some (.int .i64 c2) ∧ u.cell? ⟨w.heap.size + 1, 4, none⟩ = some (.bool fr2) ∧ u.cell? ⟨w.heap.size + 1, 5, none⟩ = some (.bool fc2))) := by
  subst hW
  exact fun u hu => ⟨aQ (new2 hu).1, aQ (new2 hu).2⟩
 have HB : Hid (Below W.heap.size W W.drew) := (Below.refl _ _).drew
 have HF : Hid (∀ u, Below W.heap.size W u → Below w.heap.size w u) := by
  subst hW
  exact fun u hu => yF hu
 have z5 : ¬ 9223372036854775807 < X.size + 1 := by omega
 have z6 : ¬ 9223372036854775807 < X.size + 1 + Y.size := by omega
 have hW2 := hW.symm
 clear hW
 go_enter Tryz.func163, Tryz.ntmps163
 go_wp2_with fail
 try rw [hW2]
 go_region_held_law (fun u => (u.cell? ⟨w.heap.size, 0, none⟩ = some (.string b1) ∧ u.cell? ⟨w.heap.size, 1, none⟩ = some (.string s1) ∧ u.cell? ⟨w.heap.size, 2, none⟩ = some (.int .i64 r1) ∧ u.cell? ⟨w.heap.size, 3, none⟩ = some (.int .i64 c1) ∧ u.cell? ⟨w.heap.size, 4, none⟩ = some (.bool fr1) ∧ u.cell? ⟨w.heap.size, 5, none⟩ = some (.bool fc1)) ∧ (u.cell? ⟨w.heap.size + 1, 0, none⟩ = some (.string b2) ∧ u.cell? ⟨w.heap.size + 1, 1, none⟩ = some (.string s2) ∧ u.cell? ⟨w.heap.size + 1, 2, none⟩ = some (.int .i64 r2) ∧ u.cell? ⟨w.heap.size + 1, 3, none⟩ = some (.int .i64 c2) ∧ u.cell? ⟨w.heap.size + 1, 4, none⟩ = some (.bool fr2) ∧ u.cell? ⟨w.heap.size + 1, 5, none⟩ = some (.bool fc2)))
  (exact HC.out _ HB.out) (first
  | (go_at_call_of 132 b1; refine (P1 _ HB.out).mono ?_; rintro e w7 ⟨rfl, hb⟩; have HB : Hid (Below W.heap.size W w7) := hb; clear hb)
  | (go_at_call_of 132 b2; refine (P2 _ HB.out).mono ?_; rintro e w7 ⟨rfl, hb⟩; have HB : Hid (Below W.heap.size W w7) := hb; clear hb))
 go_wp2_with fail
 have HB : Hid (Below W.heap.size W (World.drew _)) := HB.out.drew
 go_region_held_law (fun u => (u.cell? ⟨w.heap.size, 0, none⟩ = some (.string b1) ∧ u.cell? ⟨w.heap.size, 1, none⟩ = some (.string s1) ∧ u.cell? ⟨w.heap.size, 2, none⟩ = some (.int .i64 r1) ∧ u.cell? ⟨w.heap.size, 3, none⟩ = some (.int .i64 c1) ∧ u.cell? ⟨w.heap.size, 4, none⟩ = some (.bool fr1) ∧ u.cell? ⟨w.heap.size, 5, none⟩ = some (.bool fc1)) ∧ (u.cell? ⟨w.heap.size + 1, 0, none⟩ = some (.string b2) ∧ u.cell? ⟨w.heap.size + 1, 1, none⟩ = some (.string s2) ∧ u.cell? ⟨w.heap.size + 1, 2, none⟩ = some (.int .i64 r2) ∧ u.cell? ⟨w.heap.size + 1, 3, none⟩ = some (.int .i64 c2) ∧ u.cell? ⟨w.heap.size + 1, 4, none⟩ = some (.bool fr2) ∧ u.cell? ⟨w.heap.size + 1, 5, none⟩ = some (.bool fc2)))
  (exact HC.out _ HB.out) (first
  | (go_at_call 203; refine (CO _ HB.out).mono ?_; rintro e w9 ⟨rfl, hb⟩; have HB : Hid (Below W.heap.size W w9) := hb; clear hb))
 cases o
 ·go_wp2
  go_ret
  exact ⟨rfl, HF.out _ HB.out⟩
 ·go_wp2
  go_ret
  exact ⟨rfl, HF.out _ HB.out⟩
end
section
variable {b1 s1 b2 s2 X Y : ByteArray} {r1 c1 r2 c2 : Int} {fr1 fc1 fr2 fc2 : Bool} {w W : World}
theorem aCO (hW : W = (w.alloc (aR b1 s1 r1 c1 fr1 fc1)).alloc (aR b2 s2 r2 c2 fr2 fc2)) (P1 : RC W 132 #[.agg #[.string b1, .string s1, .int .i64 r1, .int .i64 c1, .bool fr1, .bool fc1]] (.string X)) (P2 : RC W 132 #[.agg #[.string b2, .string s2, .int .i64 r2, .int .i64 c2, .bool fr2, .bool fc2]] (.string Y))
  (hXY : X.toList = [] ∨ ((X.toList == []) = false ∧ Y.toList = [])) :
  Calls Tryz.prog 163 #[.agg #[.string b1, .string s1, .int .i64 r1, .int .i64 c1, .bool fr1, .bool fc1], .agg #[.string b2, .string s2, .int .i64 r2, .int .i64 c2, .bool fr2, .bool fc2]] w fun e w' => e = .returned (.string ⟨#[]⟩) ∧ Below w.heap.size w w' := by
 have GU := dO
 have HC : Hid (∀ u : World, Below W.heap.size W u → (u.cell? ⟨w.heap.size, 0, none⟩ = some (.string b1) ∧ u.cell? ⟨w.heap.size, 1, none⟩ = some (.string s1) ∧ u.cell? ⟨w.heap.size, 2, none⟩ = some (.int .i64 r1) ∧ u.cell? ⟨w.heap.size, 3, none⟩ = some (.int .i64 c1) ∧ u.cell? ⟨w.heap.size, 4, none⟩ = some (.bool fr1) ∧ u.cell? ⟨w.heap.size, 5, none⟩ = some (.bool fc1)) ∧ (u.cell? ⟨w.heap.size + 1, 0, none⟩ = some (.string b2) ∧ u.cell? ⟨w.heap.size + 1, 1, none⟩ = some (.string s2) ∧ u.cell? ⟨w.heap.size + 1, 2, none⟩ = some (.int .i64 r2) ∧ u.cell? ⟨w.heap.size + 1, 3, none⟩ = some (.int .i64 c2) ∧ u.cell? ⟨w.heap.size + 1, 4, none⟩ = some (.bool fr2) ∧ u.cell? ⟨w.heap.size + 1, 5, none⟩ = some (.bool fc2))) := by
  subst hW
  exact fun u hu => ⟨aQ (new2 hu).1, aQ (new2 hu).2⟩
 have HB : Hid (Below W.heap.size W W.drew) := (Below.refl _ _).drew
 have HF : Hid (∀ u, Below W.heap.size W u → Below w.heap.size w u) := by
  subst hW
  exact fun u hu => yF hu
 have hW2 := hW.symm
 clear hW
 go_enter Tryz.func163, Tryz.ntmps163
 go_wp2_with fail
 try rw [hW2]
 go_region_held_law (fun u => (u.cell? ⟨w.heap.size, 0, none⟩ = some (.string b1) ∧ u.cell? ⟨w.heap.size, 1, none⟩ = some (.string s1) ∧ u.cell? ⟨w.heap.size, 2, none⟩ = some (.int .i64 r1) ∧ u.cell? ⟨w.heap.size, 3, none⟩ = some (.int .i64 c1) ∧ u.cell? ⟨w.heap.size, 4, none⟩ = some (.bool fr1) ∧ u.cell? ⟨w.heap.size, 5, none⟩ = some (.bool fc1)) ∧ (u.cell? ⟨w.heap.size + 1, 0, none⟩ = some (.string b2) ∧ u.cell? ⟨w.heap.size + 1, 1, none⟩ = some (.string s2) ∧ u.cell? ⟨w.heap.size + 1, 2, none⟩ = some (.int .i64 r2) ∧ u.cell? ⟨w.heap.size + 1, 3, none⟩ = some (.int .i64 c2) ∧ u.cell? ⟨w.heap.size + 1, 4, none⟩ = some (.bool fr2) ∧ u.cell? ⟨w.heap.size + 1, 5, none⟩ = some (.bool fc2)))
  (exact HC.out _ HB.out) (first
  | (go_at_call_of 132 b1; refine (P1 _ HB.out).mono ?_; rintro e w7 ⟨rfl, hb⟩; have HB : Hid (Below W.heap.size W w7) := hb; clear hb)
  | (go_at_call_of 132 b2; refine (P2 _ HB.out).mono ?_; rintro e w7 ⟨rfl, hb⟩; have HB : Hid (Below W.heap.size W w7) := hb; clear hb))
 go_wp2_with fail
 rcases hXY with h | ⟨h, h'⟩
 ·go_quiet ((fail))
  go_wp2
  go_ret
  exact ⟨rfl, HF.out _ (HB.out.trans ((fM _ _).mono HB.out.size))⟩
 ·go_quiet ((fail))
  go_wp2
  go_ret
  exact ⟨rfl, HF.out _ (HB.out.trans ((fM _ _).mono HB.out.size))⟩
end
theorem aGc {b s : ByteArray} {r c : Int} {fr fc : Bool} (h : bB b s r c = false) : (prB b s r c fr fc).toList = [] := by
 unfold prB
 rw [if_neg (by rw [h]; decide), ByteArray.toList_eq]
theorem xI {b s : ByteArray} {r c : Int} {fr fc : Bool} (h : bB b s r c = true) : prB b s r c fr fc = rP b s r.toNat c.toNat fr fc ∧ ((prB b s r c fr fc).toList == []) = false ∧ (prB b s r c fr fc).size ≤ 50 := by
 have e : prB b s r c fr fc = rP b s r.toNat c.toNat fr fc := by unfold prB; rw [if_pos h]
 obtain ⟨R, C, rfl, rfl, q1, q2, q3, q4, hw⟩ := iH h
 have ew := oV (R := R) (C := C) (fr := fr) (fc := fc) hw
 have hc := iJ R C fr fc q1 q2
 simp only [Int.toNat_natCast] at e
 refine ⟨by simp only [Int.toNat_natCast]; exact e, ?_, ?_⟩
 ·rw [e, ByteArray.toList_eq]
  unfold rP
  have : Ad.qP ⟨b.data.toList, s.data.toList, ⟨R, C, fr, fc⟩⟩ ≠ [] := by
   unfold Ad.qP
   simp only [ne_eq, List.append_eq_nil_iff, not_and]
   intro _ _
   exact Ad.aHc
  simpa using this
 ·rw [e]
  rcases ew with ⟨_, _, e⟩ | ⟨_, z1, _, e⟩ | ⟨_, z1, _, z2, e⟩
  ·rw [e]; omega
  ·rw [e]
   simp only [ByteArray.size_append, ByteArray.size_mk']
   have : (#[33] : Array UInt8).size = 1 := rfl
   omega
  ·rw [e]
   simp only [ByteArray.size_append, ByteArray.size_mk']
   have : (#[33] : Array UInt8).size = 1 := rfl
   have : (#[91] : Array UInt8).size = 1 := rfl
   have : (#[93] : Array UInt8).size = 1 := rfl
   omega
theorem aGd (b1 s1 : ByteArray) (r1 c1 : Int) (fr1 fc1 : Bool) (b2 s2 : ByteArray) (r2 c2 : Int) (fr2 fc2 : Bool) (z1 : b1.size ≤ 9223372036854775807) (z2 : s1.size ≤ 9223372036854775807) (z3 : b2.size ≤ 9223372036854775807) (z4 : s2.size ≤ 9223372036854775807) (w : World) (T : eY w) :
  Calls Tryz.prog 163 #[aY b1 s1 r1 c1 fr1 fc1, aY b2 s2 r2 c2 fr2 fc2] w fun e w' => e = .returned (.string (paB b1 s1 r1 c1 fr1 fc1 b2 s2 r2 c2 fr2 fc2)) ∧ Below w.heap.size w w' := by
 have P1 : RC ((w.alloc (aR b1 s1 r1 c1 fr1 fc1)).alloc (aR b2 s2 r2 c2 fr2 fc2)) 132 #[aY b1 s1 r1 c1 fr1 fc1] _ := RC.of fun u hu => mR b1 s1 r1 c1 fr1 fc1 z1 z2 u (T.below (yF hu))
 have P2 : RC ((w.alloc (aR b1 s1 r1 c1 fr1 fc1)).alloc (aR b2 s2 r2 c2 fr2 fc2)) 132 #[aY b2 s2 r2 c2 fr2 fc2] _ := RC.of fun u hu => mR b2 s2 r2 c2 fr2 fc2 z3 z4 u (T.below (yF hu))
 have CO : RC ((w.alloc (aR b1 s1 r1 c1 fr1 fc1)).alloc (aR b2 s2 r2 c2 fr2 fc2)) 203 #[aY b2 s2 r2 c2 fr2 fc2] _ := RC.of fun u hu => aBK b2 s2 r2 c2 fr2 fc2 u
 unfold paB
 cases g1 : bB b1 s1 r1 c1
 ·rw [if_neg (by simp)]
  exact aCO rfl P1 P2 (.inl (aGc g1))
 obtain ⟨e1, n1, l1⟩ := xI (fr := fr1) (fc := fc1) g1
 cases g2 : bB b2 s2 r2 c2
 ·rw [if_neg (by simp)]
  exact aCO rfl P1 P2 (.inr ⟨n1, aGc g2⟩)
 obtain ⟨e2, n2, l2⟩ := xI (fr := fr2) (fc := fc2) g2
 by_cases hs : s2.toList = []
 ·rw [if_pos ⟨rfl, rfl, hs⟩]
  obtain ⟨R, C, rfl, rfl, q1, q2, q3, q4, hw⟩ := iH g2
  have hb : b2.toList = [] := by
   rcases hw with ⟨_, h⟩ | ⟨h, _⟩ | ⟨h, _⟩
   ·exact h
   ·rw [hs] at h; cases h
   ·rw [hs] at h; cases h
  have eb : b2 = ⟨#[]⟩ := Go.WideShapes.bytes_inj (by rw [iI hb])
  have es : s2 = ⟨#[]⟩ := Go.WideShapes.bytes_inj (by rw [iI hs])
  have := vM (o := false) rfl P1 P2 CO n1 n2 l1 l2 (fun V => by rw [eb, es]; exact aBH _ _ _ _ _ _ V)
  have ec : rP b2 s2 ((R : Int).toNat) ((C : Int).toNat) fr2 fc2 = gI R C fr2 fc2 := by
   unfold rP Ad.qP gI
   simp only [iI hs, iI hb, if_true, List.nil_append, Int.toNat_natCast]
  rw [e1, e2, ec] at this
  exact this
 ·rw [if_neg (fun q => hs q.2.2)]
  have := vM (o := true) rfl P1 P2 CO n1 n2 l1 l2 (fun V => xG _ _ _ _ _ _ _ _ _ _ _ _ V (.inr (by
   rw [show (⟨#[]⟩ : ByteArray).toList = [] by rw [ByteArray.toList_eq]]
   simpa using hs)))
  exact this
end Go.Proofs.YtljmklbbngpllaaGreatDoor
namespace Go.Proofs.YtljmklbbngpllaaGreatDoor
open Go.RowKit Go.Fm
def gcB (k n : Int) (s : ByteArray) : Bool := if k = 0 then false else if k = 1 then decide (0 ≤ n) && fQ k n s else fQ k n s
def gfB (s : ByteArray) : Bool := (s.toList == (⟨(szF 97 65 s.data.toList).toArray⟩ : ByteArray).toList) && (gnF s.data.toList || ((bM s).1 == 3))
theorem aBL (k n : Int) (s : ByteArray) (w : World) : Calls Tryz.prog 161 #[.agg #[.int .i64 k, .int .i64 n, .string s]] w fun e w' => e = .returned (.bool (gcB k n s)) ∧ Below w.heap.size w w' := by
 have V := fun u => aDS k n s u
 unfold gcB
 by_cases h0 : k = 0
 ·subst h0
  rw [if_pos rfl]
  clear V
  go_enter Tryz.func161, Tryz.ntmps161
  go_wp2
  go_ret
  exact ⟨rfl, aC (Below.refl _ _) _⟩
 rw [if_neg h0]
 have h0b : (k == 0) = false := by simpa using h0
 by_cases h1 : k = 1
 ·subst h1
  rw [if_pos rfl]
  generalize fQ 1 n s = g at *
  by_cases hn : 0 ≤ n
  ·have hd : decide (0 ≤ n) = true := decide_eq_true hn
   rw [hd]
   go_enter Tryz.func161, Tryz.ntmps161
   go_wp2_with (go_at_call 202; refine (V _).mono ?_; rintro e w1 ⟨rfl, hs⟩; have HB : Hid (Below w.heap.size w w1) := aS hs; clear hs)
   all_goals (go_ret; exact ⟨by first | rfl | (simp; done), HB.out⟩)
  ·have hd : decide (0 ≤ n) = false := decide_eq_false hn
   have hn2 : n < 0 := by omega
   rw [hd]
   clear V
   go_enter Tryz.func161, Tryz.ntmps161
   go_wp2
   all_goals (go_ret; exact ⟨by first | rfl | (simp; done), aC (Below.refl _ _) _⟩)
 ·rw [if_neg h1]
  have h1b : (k == 1) = false := by simpa using h1
  generalize fQ k n s = g at *
  clear h0 h1
  go_enter Tryz.func161, Tryz.ntmps161
  go_wp2_with (go_at_call 202; refine (V _).mono ?_; rintro e w1 ⟨rfl, hs⟩; have HB : Hid (Below w.heap.size w w1) := aS hs; clear hs)
  all_goals (go_ret; exact ⟨by first | rfl | (simp; done), HB.out⟩)
theorem aGe (s : ByteArray) (hs : s.size ≤ 9223372036854775807) (w : World) (T : eY w) : Calls Tryz.prog 164 #[.string s] w fun e w' => e = .returned (.bool (gfB s)) ∧ Below w.heap.size w w' := by
 have U := fun u => wF s hs u
 have G := fun u (hu : Below w.heap.size w u) => cK s hs u (T.below hu)
 have TY := fun u (hu : Below w.heap.size w u) => lK s hs u (T.below hu)
 have FL := fun u => wK u (bM s).1 (bM s).2.1 (bM s).2.2
 unfold gfB
 generalize (⟨(szF 97 65 s.data.toList).toArray⟩ : ByteArray) = X at *
 generalize gnF s.data.toList = gn at *
 generalize (bM s).1 = k at *
 generalize (bM s).2.1 = n at *
 generalize (bM s).2.2 = x at *
 cases he : (s.toList == X.toList)
 ·go_enter Tryz.func164, Tryz.ntmps164
  go_wp2_with (go_at_call 194; refine (U _).mono ?_; rintro e w1 ⟨rfl, hs⟩; have HB : Hid (Below w.heap.size w w1) := hs; clear hs)
  all_goals (go_ret; exact ⟨by first | rfl | (simp; done), HB.out⟩)
 ·cases gn
  ·go_enter Tryz.func164, Tryz.ntmps164
   go_wp2_with (first
    | (go_at_call 194; refine (U _).mono ?_; rintro e w1 ⟨rfl, hs⟩; have HB : Hid (Below w.heap.size w w1) := hs; clear hs)
    | (go_at_call 154; refine (G _ HB.out).mono ?_; rintro e w2 ⟨rfl, hs⟩; have HB2 : Hid (Below w.heap.size w w2) := aJ HB.out hs; clear hs)
    | (go_at_call 200; refine (TY _ HB2.out).mono ?_; rintro e w3 ⟨rfl, hs⟩; have HB3 : Hid (Below w.heap.size w w3) := aJ HB2.out hs; clear hs))
   all_goals (go_ret; exact ⟨by first | rfl | (simp; done), HB3.out⟩)
  ·go_enter Tryz.func164, Tryz.ntmps164
   go_wp2_with (first
    | (go_at_call 194; refine (U _).mono ?_; rintro e w1 ⟨rfl, hs⟩; have HB : Hid (Below w.heap.size w w1) := hs; clear hs)
    | (go_at_call 154; refine (G _ HB.out).mono ?_; rintro e w2 ⟨rfl, hs⟩; have HB2 : Hid (Below w.heap.size w w2) := aJ HB.out hs; clear hs))
   all_goals (go_ret; exact ⟨by first | rfl | (simp; done), HB2.out⟩)
end Go.Proofs.YtljmklbbngpllaaGreatDoor
