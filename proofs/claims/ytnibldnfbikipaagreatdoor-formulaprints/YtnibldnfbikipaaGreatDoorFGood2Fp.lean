/- AArea2, FGood1, FGood2. -/
import Derived.Test.YtnibldnfbikipaaGreatDoorAAreaFp
set_option linter.unusedVariables false
set_option linter.unusedSimpArgs false
set_option maxHeartbeats 16000000
set_option maxRecDepth 100000
namespace Go.Proofs.YtnibldnfbikipaaGreatDoor
open Go.RowKit
section
variable {b1 s1 b2 s2 X Y : ByteArray} {r1 c1 r2 c2 : Int} {fr1 fc1 fr2 fc2 : Bool} {w W : World}
theorem area_no (hW : W = (w.alloc (refO b1 s1 r1 c1 fr1 fc1)).alloc (refO b2 s2 r2 c2 fr2 fc2)) (P1 : RC W 180 #[.agg #[.string b1, .string s1, .int .i64 r1, .int .i64 c1, .bool fr1, .bool fc1]] (.string X)) (P2 : RC W 180 #[.agg #[.string b2, .string s2, .int .i64 r2, .int .i64 c2, .bool fr2, .bool fc2]] (.string Y))
  (hXY : X.toList = [] ∨ ((X.toList == []) = false ∧ Y.toList = [])) :
  Calls Tryz.prog 168 #[.agg #[.string b1, .string s1, .int .i64 r1, .int .i64 c1, .bool fr1, .bool fc1], .agg #[.string b2, .string s2, .int .i64 r2, .int .i64 c2, .bool fr2, .bool fc2]] w fun e w' => e = .returned (.string ⟨#[]⟩) ∧ Below w.heap.size w w' := by
 have GU := guard25
 have HC : Hid (∀ u : World, Below W.heap.size W u → (u.cell? ⟨w.heap.size, 0, none⟩ = some (.string b1) ∧ u.cell? ⟨w.heap.size, 1, none⟩ = some (.string s1) ∧ u.cell? ⟨w.heap.size, 2, none⟩ = some (.int .i64 r1) ∧ u.cell? ⟨w.heap.size, 3, none⟩ = some (.int .i64 c1) ∧ u.cell? ⟨w.heap.size, 4, none⟩ = some (.bool fr1) ∧ u.cell? ⟨w.heap.size, 5, none⟩ = some (.bool fc1)) ∧ (u.cell? ⟨w.heap.size + 1, 0, none⟩ = some (.string b2) ∧ u.cell? ⟨w.heap.size + 1, 1, none⟩ = some (.string s2) ∧ u.cell? ⟨w.heap.size + 1, 2, none⟩ = some (.int .i64 r2) ∧ u.cell? ⟨w.heap.size + 1, 3, none⟩ = some (.int .i64 c2) ∧ u.cell? ⟨w.heap.size + 1, 4, none⟩ = some (.bool fr2) ∧ u.cell? ⟨w.heap.size + 1, 5, none⟩ = some (.bool fc2))) := by
  subst hW
  exact fun u hu => ⟨r_cells (new2 hu).1, r_cells (new2 hu).2⟩
 have HB : Hid (Below W.heap.size W W.drew) := (Below.refl _ _).drew
 have HF : Hid (∀ u, Below W.heap.size W u → Below w.heap.size w u) := by
  subst hW
  exact fun u hu => bel2 hu
 have hW2 := hW.symm
 clear hW
 go_enter Tryz.func168, Tryz.ntmps168
 go_wp2_with fail
 try rw [hW2]
 go_region_held_law (fun u => (u.cell? ⟨w.heap.size, 0, none⟩ = some (.string b1) ∧ u.cell? ⟨w.heap.size, 1, none⟩ = some (.string s1) ∧ u.cell? ⟨w.heap.size, 2, none⟩ = some (.int .i64 r1) ∧ u.cell? ⟨w.heap.size, 3, none⟩ = some (.int .i64 c1) ∧ u.cell? ⟨w.heap.size, 4, none⟩ = some (.bool fr1) ∧ u.cell? ⟨w.heap.size, 5, none⟩ = some (.bool fc1)) ∧ (u.cell? ⟨w.heap.size + 1, 0, none⟩ = some (.string b2) ∧ u.cell? ⟨w.heap.size + 1, 1, none⟩ = some (.string s2) ∧ u.cell? ⟨w.heap.size + 1, 2, none⟩ = some (.int .i64 r2) ∧ u.cell? ⟨w.heap.size + 1, 3, none⟩ = some (.int .i64 c2) ∧ u.cell? ⟨w.heap.size + 1, 4, none⟩ = some (.bool fr2) ∧ u.cell? ⟨w.heap.size + 1, 5, none⟩ = some (.bool fc2)))
  (exact HC.out _ HB.out) (first
  | (go_at_call_of 180 b1; refine (P1 _ HB.out).mono ?_; rintro e w7 ⟨rfl, hb⟩; have HB : Hid (Below W.heap.size W w7) := hb; clear hb)
  | (go_at_call_of 180 b2; refine (P2 _ HB.out).mono ?_; rintro e w7 ⟨rfl, hb⟩; have HB : Hid (Below W.heap.size W w7) := hb; clear hb))
 go_wp2_with fail
 rcases hXY with h | ⟨h, h'⟩
 ·go_quiet ((fail))
  go_wp2
  go_ret
  exact ⟨rfl, HF.out _ (HB.out.trans ((drewN_below _ _).mono HB.out.size))⟩
 ·go_quiet ((fail))
  go_wp2
  go_ret
  exact ⟨rfl, HF.out _ (HB.out.trans ((drewN_below _ _).mono HB.out.size))⟩
end
theorem prB_no {b s : ByteArray} {r c : Int} {fr fc : Bool} (h : goodB b s r c = false) : (prB b s r c fr fc).toList = [] := by
 unfold prB
 rw [if_neg (by rw [h]; decide), ByteArray.toList_eq]
theorem prB_yes {b s : ByteArray} {r c : Int} {fr fc : Bool} (h : goodB b s r c = true) : prB b s r c fr fc = refT b s r.toNat c.toNat fr fc ∧ ((prB b s r c fr fc).toList == []) = false ∧ (prB b s r c fr fc).size ≤ 50 := by
 have e : prB b s r c fr fc = refT b s r.toNat c.toNat fr fc := by unfold prB; rw [if_pos h]
 obtain ⟨R, C, rfl, rfl, q1, q2, q3, q4, hw⟩ := good_yes h
 have ew := refT_ways (R := R) (C := C) (fr := fr) (fc := fc) hw
 have hc := cellB_size R C fr fc q1 q2
 simp only [Int.toNat_natCast] at e
 refine ⟨by simp only [Int.toNat_natCast]; exact e, ?_, ?_⟩
 ·rw [e, ByteArray.toList_eq]
  unfold refT
  have : Ad.refW ⟨b.data.toList, s.data.toList, ⟨R, C, fr, fc⟩⟩ ≠ [] := by
   unfold Ad.refW
   simp only [ne_eq, List.append_eq_nil_iff, not_and]
   intro _ _
   exact Ad.cell_ne
  simpa using this
 ·rw [e]
  rcases ew with ⟨_, _, e⟩ | ⟨_, z1, _, e⟩ | ⟨_, z1, _, z2, e⟩
  ·rw [e]; omega
  ·rw [e]
   simp only [ByteArray.size_append, ByteArray.size_mk']
   have : (#[33] : Array UInt8).size = 1 := rfl
   omega
  ·rw [e]
   simp only [ByteArray.size_append, ByteArray.size_mk']
   have : (#[33] : Array UInt8).size = 1 := rfl
   have : (#[91] : Array UInt8).size = 1 := rfl
   have : (#[93] : Array UInt8).size = 1 := rfl
   omega
theorem area_any (b1 s1 : ByteArray) (r1 c1 : Int) (fr1 fc1 : Bool) (b2 s2 : ByteArray) (r2 c2 : Int) (fr2 fc2 : Bool) (z1 : b1.size ≤ 9223372036854775807) (z2 : s1.size ≤ 9223372036854775807) (z3 : b2.size ≤ 9223372036854775807) (z4 : s2.size ≤ 9223372036854775807) (w : World) (T : Tabs w) :
  Calls Tryz.prog 168 #[refV b1 s1 r1 c1 fr1 fc1, refV b2 s2 r2 c2 fr2 fc2] w fun e w' => e = .returned (.string (paB b1 s1 r1 c1 fr1 fc1 b2 s2 r2 c2 fr2 fc2)) ∧ Below w.heap.size w w' := by
 have P1 : RC ((w.alloc (refO b1 s1 r1 c1 fr1 fc1)).alloc (refO b2 s2 r2 c2 fr2 fc2)) 180 #[refV b1 s1 r1 c1 fr1 fc1] _ := RC.of fun u hu => aprint_any b1 s1 r1 c1 fr1 fc1 z1 z2 u (T.below (bel2 hu))
 have P2 : RC ((w.alloc (refO b1 s1 r1 c1 fr1 fc1)).alloc (refO b2 s2 r2 c2 fr2 fc2)) 180 #[refV b2 s2 r2 c2 fr2 fc2] _ := RC.of fun u hu => aprint_any b2 s2 r2 c2 fr2 fc2 z3 z4 u (T.below (bel2 hu))
 have CO : RC ((w.alloc (refO b1 s1 r1 c1 fr1 fc1)).alloc (refO b2 s2 r2 c2 fr2 fc2)) 213 #[refV b2 s2 r2 c2 fr2 fc2] _ := RC.of fun u hu => cellof_any b2 s2 r2 c2 fr2 fc2 u
 unfold paB
 cases g1 : goodB b1 s1 r1 c1
 ·rw [if_neg (by simp)]
  exact area_no rfl P1 P2 (.inl (prB_no g1))
 obtain ⟨e1, n1, l1⟩ := prB_yes (fr := fr1) (fc := fc1) g1
 cases g2 : goodB b2 s2 r2 c2
 ·rw [if_neg (by simp)]
  exact area_no rfl P1 P2 (.inr ⟨n1, prB_no g2⟩)
 obtain ⟨e2, n2, l2⟩ := prB_yes (fr := fr2) (fc := fc2) g2
 by_cases hs : s2.toList = []
 ·rw [if_pos ⟨rfl, rfl, hs⟩]
  obtain ⟨R, C, rfl, rfl, q1, q2, q3, q4, hw⟩ := good_yes g2
  have hb : b2.toList = [] := by
   rcases hw with ⟨_, h⟩ | ⟨h, _⟩ | ⟨h, _⟩
   ·exact h
   ·rw [hs] at h; cases h
   ·rw [hs] at h; cases h
  have eb : b2 = ⟨#[]⟩ := Go.WideShapes.bytes_inj (by rw [nil_data hb])
  have es : s2 = ⟨#[]⟩ := Go.WideShapes.bytes_inj (by rw [nil_data hs])
  have := area_core (o := false) rfl P1 P2 CO n1 n2 l1 l2 (fun V => by rw [eb, es]; exact run_ne_ref _ _ _ _ _ _ V)
  have ec : refT b2 s2 ((R : Int).toNat) ((C : Int).toNat) fr2 fc2 = cellB R C fr2 fc2 := by
   unfold refT Ad.refW cellB
   simp only [nil_data hs, nil_data hb, if_true, List.nil_append, Int.toNat_natCast]
  rw [e1, e2, ec] at this
  exact this
 ·rw [if_neg (fun q => hs q.2.2)]
  have := area_core (o := true) rfl P1 P2 CO n1 n2 l1 l2 (fun V => run_ne_other _ _ _ _ _ _ _ _ _ _ _ _ V (.inr (by
   rw [show (⟨#[]⟩ : ByteArray).toList = [] by rw [ByteArray.toList_eq]]
   simpa using hs)))
  exact this
end Go.Proofs.YtnibldnfbikipaaGreatDoor
namespace Go.Proofs.YtnibldnfbikipaaGreatDoor
open Go.RowKit Go.Fm
def gcB (k n : Int) (s : ByteArray) : Bool := if k = 0 then false else if k = 1 then decide (0 ≤ n) && goodF k n s else goodF k n s
def gfB (s : ByteArray) : Bool := (s.toList == (⟨(szF 97 65 s.data.toList).toArray⟩ : ByteArray).toList) && (gnF s.data.toList || ((typedF s).1 == 3))
theorem gconst_any (k n : Int) (s : ByteArray) (w : World) : Calls Tryz.prog 166 #[.agg #[.int .i64 k, .int .i64 n, .string s]] w fun e w' => e = .returned (.bool (gcB k n s)) ∧ Below w.heap.size w w' := by
 have V := fun u => vgood_any k n s u
 unfold gcB
 by_cases h0 : k = 0
 ·subst h0
  rw [if_pos rfl]
  clear V
  go_enter Tryz.func166, Tryz.ntmps166
  go_wp2
  go_ret
  exact ⟨rfl, bel_alloc (Below.refl _ _) _⟩
 rw [if_neg h0]
 have h0b : (k == 0) = false := by simpa using h0
 by_cases h1 : k = 1
 ·subst h1
  rw [if_pos rfl]
  generalize goodF 1 n s = g at *
  by_cases hn : 0 ≤ n
  ·have hd : decide (0 ≤ n) = true := decide_eq_true hn
   rw [hd]
   go_enter Tryz.func166, Tryz.ntmps166
   go_wp2_with (go_at_call 211; refine (V _).mono ?_; rintro e w1 ⟨rfl, hs⟩; have HB : Hid (Below w.heap.size w w1) := bel1 hs; clear hs)
   all_goals (go_ret; exact ⟨by first | rfl | (simp; done), HB.out⟩)
  ·have hd : decide (0 ≤ n) = false := decide_eq_false hn
   have hn2 : n < 0 := by omega
   rw [hd]
   clear V
   go_enter Tryz.func166, Tryz.ntmps166
   go_wp2
   all_goals (go_ret; exact ⟨by first | rfl | (simp; done), bel_alloc (Below.refl _ _) _⟩)
 ·rw [if_neg h1]
  have h1b : (k == 1) = false := by simpa using h1
  generalize goodF k n s = g at *
  clear h0 h1
  go_enter Tryz.func166, Tryz.ntmps166
  go_wp2_with (go_at_call 211; refine (V _).mono ?_; rintro e w1 ⟨rfl, hs⟩; have HB : Hid (Below w.heap.size w w1) := bel1 hs; clear hs)
  all_goals (go_ret; exact ⟨by first | rfl | (simp; done), HB.out⟩)
theorem gfun_any (s : ByteArray) (hs : s.size ≤ 9223372036854775807) (w : World) (T : Tabs w) : Calls Tryz.prog 170 #[.string s] w fun e w' => e = .returned (.bool (gfB s)) ∧ Below w.heap.size w w' := by
 have U := fun u => up_any s hs u
 have G := fun u (hu : Below w.heap.size w u) => goodname_any s hs u (T.below hu)
 have TY := fun u (hu : Below w.heap.size w u) => typed_any s hs u (T.below hu)
 have FL := fun u => run_fld u (typedF s).1 (typedF s).2.1 (typedF s).2.2
 unfold gfB
 generalize (⟨(szF 97 65 s.data.toList).toArray⟩ : ByteArray) = X at *
 generalize gnF s.data.toList = gn at *
 generalize (typedF s).1 = k at *
 generalize (typedF s).2.1 = n at *
 generalize (typedF s).2.2 = x at *
 cases he : (s.toList == X.toList)
 ·go_enter Tryz.func170, Tryz.ntmps170
  go_wp2_with (go_at_call 214; refine (U _).mono ?_; rintro e w1 ⟨rfl, hs⟩; have HB : Hid (Below w.heap.size w w1) := hs; clear hs)
  all_goals (go_ret; exact ⟨by first | rfl | (simp; done), HB.out⟩)
 ·cases gn
  ·go_enter Tryz.func170, Tryz.ntmps170
   go_wp2_with (first
    | (go_at_call 214; refine (U _).mono ?_; rintro e w1 ⟨rfl, hs⟩; have HB : Hid (Below w.heap.size w w1) := hs; clear hs)
    | (go_at_call 76; refine (G _ HB.out).mono ?_; rintro e w2 ⟨rfl, hs⟩; have HB2 : Hid (Below w.heap.size w w2) := bel_step HB.out hs; clear hs)
    | (go_at_call 160; refine (TY _ HB2.out).mono ?_; rintro e w3 ⟨rfl, hs⟩; have HB3 : Hid (Below w.heap.size w w3) := bel_step HB2.out hs; clear hs))
   all_goals (go_ret; exact ⟨by first | rfl | (simp; done), HB3.out⟩)
  ·go_enter Tryz.func170, Tryz.ntmps170
   go_wp2_with (first
    | (go_at_call 214; refine (U _).mono ?_; rintro e w1 ⟨rfl, hs⟩; have HB : Hid (Below w.heap.size w w1) := hs; clear hs)
    | (go_at_call 76; refine (G _ HB.out).mono ?_; rintro e w2 ⟨rfl, hs⟩; have HB2 : Hid (Below w.heap.size w w2) := bel_step HB.out hs; clear hs))
   all_goals (go_ret; exact ⟨by first | rfl | (simp; done), HB2.out⟩)
def partsB (a : Lab) (n : Nat) : Bool :=
 if a.k = 1 then gcB a.vk a.vn a.vs else if a.k = 2 then goodB a.b1 a.h1 a.r1 a.c1 else if a.k = 3 then !(paB a.b1 a.h1 a.r1 a.c1 a.fr1 a.fc1 a.b2 a.h2 a.r2 a.c2 a.fr2 a.fc2).toList.isEmpty
 else if a.k = 4 then gnF a.s.data.toList && (a.b1.toList.isEmpty || gnF a.b1.data.toList) else if a.k = 5 then ((n : Int) == 1) && ((a.s.toList == [45]) || (a.s.toList == [37]))
 else if a.k = 6 then ((n : Int) == 2) && !((strn a.s.toList : Int) == 0) else if a.k = 7 then decide (n ≤ 16) && gfB a.s else false
structure LabZ (a : Lab) : Prop where
 s : a.s.size ≤ 9223372036854775807
 b1 : a.b1.size ≤ 9223372036854775807
 h1 : a.h1.size ≤ 9223372036854775807
 b2 : a.b2.size ≤ 9223372036854775807
 h2 : a.h2.size ≤ 9223372036854775807
theorem cell5 {u : World} {g : Nat} {a : Lab} {sl : Value} {z : Nat × Nat} (h : u.heap[g]? = some (.cells (lcs a sl) 67 z)) : u.cell? ⟨g, 5, none⟩ = some (.string a.b1) := by
 rw [cell_of_row u g 5 _ 67 z h]; rfl
theorem strength_b (s : ByteArray) (w : World) : Calls Tryz.prog 169 #[.string s] w fun e w' => e = .returned (.int .i64 (strn s.toList : Nat)) ∧ w' = w := by
 have := strength_any s.toList w
 have e : ba s.toList = s := by rw [ByteArray.toList_eq]
 rw [e] at this
 exact this
section
variable {a : Lab} {p : Option Addr} {n c : Nat} {w : World}
theorem parts_1 (hk : a.k = 1) : Calls Tryz.prog 122 #[.agg (lcs a (.slice p n c))] w fun e w' => e = .returned (.bool (gcB a.vk a.vn a.vs)) ∧ Below w.heap.size w w' := by
 have H0 := heap_alloc_new w (.cells (lcs a (.slice p n c)) 67)
 have HB0 : Hid (Below w.heap.size w (w.alloc (.cells (lcs a (.slice p n c)) 67))) := bel_alloc (Below.refl _ _) _
 obtain ⟨c0, c1, l2, l3, l4⟩ := box_all H0
 have L2 : Hid _ := l2
 have L3 : Hid _ := l3
 have L4 : Hid _ := l4
 have c17 := cell17 H0
 have c5 := cell5 H0
 rw [hk] at c0
 have G := fun u => gconst_any a.vk a.vn a.vs u
 clear H0 l2 l3 l4
 obtain ⟨w1, hw1⟩ : ∃ w1, w.alloc (.cells (lcs a (.slice p n c)) 67) = w1 := ⟨_, rfl⟩
 rw [hw1] at c0 c1 c17 c5 L2 L3 L4 HB0
 generalize lcs a (.slice p n c) = bx at *
 generalize gcB a.vk a.vn a.vs = q at *
 go_enter Tryz.func122, Tryz.ntmps122
 go_wp2_with (first
  | (refine wpList_load_run rfl 62 _ rfl _ _ rfl L2.out ?_)
  | (go_at_call 166; refine (G _).mono ?_; rintro e w2 ⟨rfl, hs⟩; have HB : Hid (Below w.heap.size w w2) := bel_step HB0.out hs; clear hs))
 all_goals (go_ret; exact ⟨by first | rfl | (simp; done) | (simp; omega), HB.out⟩)
theorem parts_2 (hk : a.k = 2) (Z : LabZ a) (T : Tabs w) : Calls Tryz.prog 122 #[.agg (lcs a (.slice p n c))] w fun e w' => e = .returned (.bool (goodB a.b1 a.h1 a.r1 a.c1)) ∧ Below w.heap.size w w' := by
 have H0 := heap_alloc_new w (.cells (lcs a (.slice p n c)) 67)
 have HB0 : Hid (Below w.heap.size w (w.alloc (.cells (lcs a (.slice p n c)) 67))) := bel_alloc (Below.refl _ _) _
 obtain ⟨c0, c1, l2, l3, l4⟩ := box_all H0
 have L2 : Hid _ := l2
 have L3 : Hid _ := l3
 have L4 : Hid _ := l4
 have c17 := cell17 H0
 have c5 := cell5 H0
 rw [hk] at c0
 have G := fun u (hu : Below w.heap.size w u) => agood_any a.b1 a.h1 a.r1 a.c1 a.fr1 a.fc1 Z.b1 Z.h1 u (T.below hu)
 clear H0 l2 l3 l4
 obtain ⟨w1, hw1⟩ : ∃ w1, w.alloc (.cells (lcs a (.slice p n c)) 67) = w1 := ⟨_, rfl⟩
 rw [hw1] at c0 c1 c17 c5 L2 L3 L4 HB0
 generalize lcs a (.slice p n c) = bx at *
 generalize goodB a.b1 a.h1 a.r1 a.c1 = q at *
 go_enter Tryz.func122, Tryz.ntmps122
 go_wp2_with (first
  | (refine wpList_load_run rfl 64 _ rfl _ _ rfl L3.out ?_)
  | (go_at_call 167; refine (G _ HB0.out).mono ?_; rintro e w2 ⟨rfl, hs⟩; have HB : Hid (Below w.heap.size w w2) := bel_step HB0.out hs; clear hs))
 all_goals (go_ret; exact ⟨by first | rfl | (simp; done) | (simp; omega), HB.out⟩)
theorem parts_3 (hk : a.k = 3) (Z : LabZ a) (T : Tabs w) : Calls Tryz.prog 122 #[.agg (lcs a (.slice p n c))] w fun e w' => e = .returned (.bool (!(paB a.b1 a.h1 a.r1 a.c1 a.fr1 a.fc1 a.b2 a.h2 a.r2 a.c2 a.fr2 a.fc2).toList.isEmpty)) ∧ Below w.heap.size w w' := by
 have H0 := heap_alloc_new w (.cells (lcs a (.slice p n c)) 67)
 have HB0 : Hid (Below w.heap.size w (w.alloc (.cells (lcs a (.slice p n c)) 67))) := bel_alloc (Below.refl _ _) _
 obtain ⟨c0, c1, l2, l3, l4⟩ := box_all H0
 have L2 : Hid _ := l2
 have L3 : Hid _ := l3
 have L4 : Hid _ := l4
 have c17 := cell17 H0
 have c5 := cell5 H0
 rw [hk] at c0
 have G := fun u (hu : Below w.heap.size w u) => area_any a.b1 a.h1 a.r1 a.c1 a.fr1 a.fc1 a.b2 a.h2 a.r2 a.c2 a.fr2 a.fc2 Z.b1 Z.h1 Z.b2 Z.h2 u (T.below hu)
 clear H0 l2 l3 l4
 obtain ⟨w1, hw1⟩ : ∃ w1, w.alloc (.cells (lcs a (.slice p n c)) 67) = w1 := ⟨_, rfl⟩
 rw [hw1] at c0 c1 c17 c5 L2 L3 L4 HB0
 generalize lcs a (.slice p n c) = bx at *
 generalize paB a.b1 a.h1 a.r1 a.c1 a.fr1 a.fc1 a.b2 a.h2 a.r2 a.c2 a.fr2 a.fc2 = q at *
 go_enter Tryz.func122, Tryz.ntmps122
 go_wp2_with (first
  | (refine wpList_load_run rfl 64 _ rfl _ _ rfl L3.out ?_; clear L3)
  | (refine wpList_load_run rfl 64 _ rfl _ _ rfl L4.out ?_; clear L4)
  | (go_at_call 168; refine (G _ HB0.out).mono ?_; rintro e w2 ⟨rfl, hs⟩; have HB : Hid (Below w.heap.size w w2) := bel_step HB0.out hs; clear hs))
 all_goals (go_ret; exact ⟨by first | rfl | (simp; done) | (simp; omega), HB.out⟩)
theorem parts_4a (hk : a.k = 4) (Z : LabZ a) (T : Tabs w) (hg : gnF a.s.data.toList = false) : Calls Tryz.prog 122 #[.agg (lcs a (.slice p n c))] w fun e w' => e = .returned (.bool false) ∧ Below w.heap.size w w' := by
 have H0 := heap_alloc_new w (.cells (lcs a (.slice p n c)) 67)
 have HB0 : Hid (Below w.heap.size w (w.alloc (.cells (lcs a (.slice p n c)) 67))) := bel_alloc (Below.refl _ _) _
 obtain ⟨c0, c1, l2, l3, l4⟩ := box_all H0
 have L2 : Hid _ := l2
 have L3 : Hid _ := l3
 have L4 : Hid _ := l4
 have c17 := cell17 H0
 have c5 := cell5 H0
 rw [hk] at c0
 have G := fun u (hu : Below w.heap.size w u) => goodname_any a.s Z.s u (T.below hu)
 rw [hg] at G
 have HH : Hid (Below (w.alloc (.cells (lcs a (.slice p n c)) 67)).heap.size (w.alloc (.cells (lcs a (.slice p n c)) 67)) (w.alloc (.cells (lcs a (.slice p n c)) 67))) := Below.refl _ _
 have HB0c : Hid (Below w.heap.size w (w.alloc (.cells (lcs a (.slice p n c)) 67)) ∧ (w.alloc (.cells (lcs a (.slice p n c)) 67)).cell? ⟨w.heap.size, 5, none⟩ = some (.string a.b1)) := ⟨HB0.out, c5⟩
 have G1 : ∀ u, (Below w.heap.size w u ∧ u.cell? ⟨w.heap.size, 5, none⟩ = some (.string a.b1)) → Calls Tryz.prog 76 #[.string a.s] u fun e w2 => e = .returned (.bool false) ∧ w2.cell? ⟨w.heap.size, 5, none⟩ = some (.string a.b1) ∧ Hid (Below w.heap.size w w2) := fun u hu => (G u hu.1).mono (by
  rintro e w2 ⟨rfl, hs⟩
  exact ⟨rfl, cell_bel hs hu.2, bel_step hu.1 hs⟩)
 clear G HH
 clear H0 l2 l3 l4
 obtain ⟨w1, hw1⟩ : ∃ w1, w.alloc (.cells (lcs a (.slice p n c)) 67) = w1 := ⟨_, rfl⟩
 rw [hw1] at c0 c1 c17 c5 L2 L3 L4 HB0 HB0c
 generalize lcs a (.slice p n c) = bx at *
 go_enter Tryz.func122, Tryz.ntmps122
 go_wp2_with (first
  | (go_at_call 76; refine (G1 _ HB0c.out).mono ?_; rintro e w2 ⟨rfl, c52, HB⟩))
 all_goals (go_ret; exact ⟨by first | rfl | (simp; done) | (simp; omega), HB.out⟩)
theorem parts_4b (hk : a.k = 4) (Z : LabZ a) (T : Tabs w) (hg : gnF a.s.data.toList = true) (he : a.b1.toList.isEmpty = true) : Calls Tryz.prog 122 #[.agg (lcs a (.slice p n c))] w fun e w' => e = .returned (.bool true) ∧ Below w.heap.size w w' := by
 have H0 := heap_alloc_new w (.cells (lcs a (.slice p n c)) 67)
 have HB0 : Hid (Below w.heap.size w (w.alloc (.cells (lcs a (.slice p n c)) 67))) := bel_alloc (Below.refl _ _) _
 obtain ⟨c0, c1, l2, l3, l4⟩ := box_all H0
 have L2 : Hid _ := l2
 have L3 : Hid _ := l3
 have L4 : Hid _ := l4
 have c17 := cell17 H0
 have c5 := cell5 H0
 rw [hk] at c0
 have G := fun u (hu : Below w.heap.size w u) => goodname_any a.s Z.s u (T.below hu)
 rw [hg] at G
 have HH : Hid (Below (w.alloc (.cells (lcs a (.slice p n c)) 67)).heap.size (w.alloc (.cells (lcs a (.slice p n c)) 67)) (w.alloc (.cells (lcs a (.slice p n c)) 67))) := Below.refl _ _
 have HB0c : Hid (Below w.heap.size w (w.alloc (.cells (lcs a (.slice p n c)) 67)) ∧ (w.alloc (.cells (lcs a (.slice p n c)) 67)).cell? ⟨w.heap.size, 5, none⟩ = some (.string a.b1)) := ⟨HB0.out, c5⟩
 have G1 : ∀ u, (Below w.heap.size w u ∧ u.cell? ⟨w.heap.size, 5, none⟩ = some (.string a.b1)) → Calls Tryz.prog 76 #[.string a.s] u fun e w2 => e = .returned (.bool true) ∧ w2.cell? ⟨w.heap.size, 5, none⟩ = some (.string a.b1) ∧ Hid (Below w.heap.size w w2) := fun u hu => (G u hu.1).mono (by
  rintro e w2 ⟨rfl, hs⟩
  exact ⟨rfl, cell_bel hs hu.2, bel_step hu.1 hs⟩)
 clear G HH
 clear H0 l2 l3 l4
 obtain ⟨w1, hw1⟩ : ∃ w1, w.alloc (.cells (lcs a (.slice p n c)) 67) = w1 := ⟨_, rfl⟩
 rw [hw1] at c0 c1 c17 c5 L2 L3 L4 HB0 HB0c
 generalize lcs a (.slice p n c) = bx at *
 go_enter Tryz.func122, Tryz.ntmps122
 go_wp2_with (first
  | (go_at_call 76; refine (G1 _ HB0c.out).mono ?_; rintro e w2 ⟨rfl, c52, HB⟩))
 all_goals (go_ret; exact ⟨by first | rfl | (simp; done) | (simp; omega), HB.out⟩)
theorem parts_4c (hk : a.k = 4) (Z : LabZ a) (T : Tabs w) (hg : gnF a.s.data.toList = true) (he : a.b1.toList.isEmpty = false) : Calls Tryz.prog 122 #[.agg (lcs a (.slice p n c))] w fun e w' => e = .returned (.bool (gnF a.b1.data.toList)) ∧ Below w.heap.size w w' := by
 have H0 := heap_alloc_new w (.cells (lcs a (.slice p n c)) 67)
 have HB0 : Hid (Below w.heap.size w (w.alloc (.cells (lcs a (.slice p n c)) 67))) := bel_alloc (Below.refl _ _) _
 obtain ⟨c0, c1, l2, l3, l4⟩ := box_all H0
 have L2 : Hid _ := l2
 have L3 : Hid _ := l3
 have L4 : Hid _ := l4
 have c17 := cell17 H0
 have c5 := cell5 H0
 rw [hk] at c0
 have G := fun u (hu : Below w.heap.size w u) => goodname_any a.s Z.s u (T.below hu)
 rw [hg] at G
 have GB := fun u (hu : Below w.heap.size w u) => goodname_any a.b1 Z.b1 u (T.below hu)
 have HH : Hid (Below (w.alloc (.cells (lcs a (.slice p n c)) 67)).heap.size (w.alloc (.cells (lcs a (.slice p n c)) 67)) (w.alloc (.cells (lcs a (.slice p n c)) 67))) := Below.refl _ _
 have HB0c : Hid (Below w.heap.size w (w.alloc (.cells (lcs a (.slice p n c)) 67)) ∧ (w.alloc (.cells (lcs a (.slice p n c)) 67)).cell? ⟨w.heap.size, 5, none⟩ = some (.string a.b1)) := ⟨HB0.out, c5⟩
 have G1 : ∀ u, (Below w.heap.size w u ∧ u.cell? ⟨w.heap.size, 5, none⟩ = some (.string a.b1)) → Calls Tryz.prog 76 #[.string a.s] u fun e w2 => e = .returned (.bool true) ∧ w2.cell? ⟨w.heap.size, 5, none⟩ = some (.string a.b1) ∧ Hid (Below w.heap.size w w2) := fun u hu => (G u hu.1).mono (by
  rintro e w2 ⟨rfl, hs⟩
  exact ⟨rfl, cell_bel hs hu.2, bel_step hu.1 hs⟩)
 clear G HH
 clear H0 l2 l3 l4
 obtain ⟨w1, hw1⟩ : ∃ w1, w.alloc (.cells (lcs a (.slice p n c)) 67) = w1 := ⟨_, rfl⟩
 rw [hw1] at c0 c1 c17 c5 L2 L3 L4 HB0 HB0c
 generalize lcs a (.slice p n c) = bx at *
 generalize gnF a.b1.data.toList = q at *
 go_enter Tryz.func122, Tryz.ntmps122
 go_wp2_with (first
  | (go_at_call 76; refine (G1 _ HB0c.out).mono ?_; rintro e w2 ⟨rfl, c52, HB⟩; clear G1)
  | (go_at_call 76; refine (GB _ HB.out).mono ?_; rintro e w3 ⟨rfl, hs⟩; have HB3 : Hid (Below w.heap.size w w3) := bel_step HB.out hs; clear hs))
 all_goals (go_ret; exact ⟨by first | rfl | (simp; done) | (simp; omega), HB3.out⟩)
theorem parts_5a (hk : a.k = 5) (hn : ((n : Int) == 1) = false) : Calls Tryz.prog 122 #[.agg (lcs a (.slice p n c))] w fun e w' => e = .returned (.bool false) ∧ Below w.heap.size w w' := by
 have H0 := heap_alloc_new w (.cells (lcs a (.slice p n c)) 67)
 have HB0 : Hid (Below w.heap.size w (w.alloc (.cells (lcs a (.slice p n c)) 67))) := bel_alloc (Below.refl _ _) _
 obtain ⟨c0, c1, l2, l3, l4⟩ := box_all H0
 have L2 : Hid _ := l2
 have L3 : Hid _ := l3
 have L4 : Hid _ := l4
 have c17 := cell17 H0
 have c5 := cell5 H0
 rw [hk] at c0
 clear H0 l2 l3 l4
 obtain ⟨w1, hw1⟩ : ∃ w1, w.alloc (.cells (lcs a (.slice p n c)) 67) = w1 := ⟨_, rfl⟩
 rw [hw1] at c0 c1 c17 c5 L2 L3 L4 HB0
 generalize lcs a (.slice p n c) = bx at *
 go_enter Tryz.func122, Tryz.ntmps122
 go_wp2
 all_goals (go_ret; exact ⟨by first | rfl | (simp; done) | (simp; omega), HB0.out⟩)
theorem parts_5b (hk : a.k = 5) (hn : ((n : Int) == 1) = true) (h1 : (a.s.toList == [45]) = true) : Calls Tryz.prog 122 #[.agg (lcs a (.slice p n c))] w fun e w' => e = .returned (.bool true) ∧ Below w.heap.size w w' := by
 have H0 := heap_alloc_new w (.cells (lcs a (.slice p n c)) 67)
 have HB0 : Hid (Below w.heap.size w (w.alloc (.cells (lcs a (.slice p n c)) 67))) := bel_alloc (Below.refl _ _) _
 obtain ⟨c0, c1, l2, l3, l4⟩ := box_all H0
 have L2 : Hid _ := l2
 have L3 : Hid _ := l3
 have L4 : Hid _ := l4
 have c17 := cell17 H0
 have c5 := cell5 H0
 rw [hk] at c0
 clear H0 l2 l3 l4
 obtain ⟨w1, hw1⟩ : ∃ w1, w.alloc (.cells (lcs a (.slice p n c)) 67) = w1 := ⟨_, rfl⟩
 rw [hw1] at c0 c1 c17 c5 L2 L3 L4 HB0
 generalize lcs a (.slice p n c) = bx at *
 go_enter Tryz.func122, Tryz.ntmps122
 go_wp2
 all_goals (go_ret; exact ⟨by first | rfl | (simp; done) | (simp; omega), HB0.out⟩)
theorem parts_5c (hk : a.k = 5) (hn : ((n : Int) == 1) = true) (h1 : (a.s.toList == [45]) = false) : Calls Tryz.prog 122 #[.agg (lcs a (.slice p n c))] w fun e w' => e = .returned (.bool (a.s.toList == [37])) ∧ Below w.heap.size w w' := by
 have H0 := heap_alloc_new w (.cells (lcs a (.slice p n c)) 67)
 have HB0 : Hid (Below w.heap.size w (w.alloc (.cells (lcs a (.slice p n c)) 67))) := bel_alloc (Below.refl _ _) _
 obtain ⟨c0, c1, l2, l3, l4⟩ := box_all H0
 have L2 : Hid _ := l2
 have L3 : Hid _ := l3
 have L4 : Hid _ := l4
 have c17 := cell17 H0
 have c5 := cell5 H0
 rw [hk] at c0
 clear H0 l2 l3 l4
 obtain ⟨w1, hw1⟩ : ∃ w1, w.alloc (.cells (lcs a (.slice p n c)) 67) = w1 := ⟨_, rfl⟩
 rw [hw1] at c0 c1 c17 c5 L2 L3 L4 HB0
 generalize lcs a (.slice p n c) = bx at *
 go_enter Tryz.func122, Tryz.ntmps122
 go_wp2
 all_goals (go_ret; exact ⟨by first | rfl | (simp; done) | (simp; omega), HB0.out⟩)
theorem parts_6a (hk : a.k = 6) (hn : ((n : Int) == 2) = false) : Calls Tryz.prog 122 #[.agg (lcs a (.slice p n c))] w fun e w' => e = .returned (.bool false) ∧ Below w.heap.size w w' := by
 have H0 := heap_alloc_new w (.cells (lcs a (.slice p n c)) 67)
 have HB0 : Hid (Below w.heap.size w (w.alloc (.cells (lcs a (.slice p n c)) 67))) := bel_alloc (Below.refl _ _) _
 obtain ⟨c0, c1, l2, l3, l4⟩ := box_all H0
 have L2 : Hid _ := l2
 have L3 : Hid _ := l3
 have L4 : Hid _ := l4
 have c17 := cell17 H0
 have c5 := cell5 H0
 rw [hk] at c0
 clear H0 l2 l3 l4
 obtain ⟨w1, hw1⟩ : ∃ w1, w.alloc (.cells (lcs a (.slice p n c)) 67) = w1 := ⟨_, rfl⟩
 rw [hw1] at c0 c1 c17 c5 L2 L3 L4 HB0
 generalize lcs a (.slice p n c) = bx at *
 go_enter Tryz.func122, Tryz.ntmps122
 go_wp2
 all_goals (go_ret; exact ⟨by first | rfl | (simp; done) | (simp; omega), HB0.out⟩)
theorem parts_6b (hk : a.k = 6) (hn : ((n : Int) == 2) = true) : Calls Tryz.prog 122 #[.agg (lcs a (.slice p n c))] w fun e w' => e = .returned (.bool (!((strn a.s.toList : Int) == 0))) ∧ Below w.heap.size w w' := by
 have H0 := heap_alloc_new w (.cells (lcs a (.slice p n c)) 67)
 have HB0 : Hid (Below w.heap.size w (w.alloc (.cells (lcs a (.slice p n c)) 67))) := bel_alloc (Below.refl _ _) _
 obtain ⟨c0, c1, l2, l3, l4⟩ := box_all H0
 have L2 : Hid _ := l2
 have L3 : Hid _ := l3
 have L4 : Hid _ := l4
 have c17 := cell17 H0
 have c5 := cell5 H0
 rw [hk] at c0
 have G := fun u => strength_b a.s u
 clear H0 l2 l3 l4
 obtain ⟨w1, hw1⟩ : ∃ w1, w.alloc (.cells (lcs a (.slice p n c)) 67) = w1 := ⟨_, rfl⟩
 rw [hw1] at c0 c1 c17 c5 L2 L3 L4 HB0
 generalize lcs a (.slice p n c) = bx at *
 generalize strn a.s.toList = q at *
 go_enter Tryz.func122, Tryz.ntmps122
 go_wp2_with (go_at_call 169; refine (G _).mono ?_; rintro e w2 ⟨rfl, hs⟩; obtain rfl := hs.symm; clear hs)
 all_goals (go_ret; exact ⟨by first | rfl | (simp; done) | (simp; omega), HB0.out⟩)
theorem parts_7a (hk : a.k = 7) (hn : ¬ (n : Int) ≤ 16) : Calls Tryz.prog 122 #[.agg (lcs a (.slice p n c))] w fun e w' => e = .returned (.bool false) ∧ Below w.heap.size w w' := by
 have H0 := heap_alloc_new w (.cells (lcs a (.slice p n c)) 67)
 have HB0 : Hid (Below w.heap.size w (w.alloc (.cells (lcs a (.slice p n c)) 67))) := bel_alloc (Below.refl _ _) _
 obtain ⟨c0, c1, l2, l3, l4⟩ := box_all H0
 have L2 : Hid _ := l2
 have L3 : Hid _ := l3
 have L4 : Hid _ := l4
 have c17 := cell17 H0
 have c5 := cell5 H0
 rw [hk] at c0
 have hn2 : (16 : Int) < n := by omega
 clear H0 l2 l3 l4
 obtain ⟨w1, hw1⟩ : ∃ w1, w.alloc (.cells (lcs a (.slice p n c)) 67) = w1 := ⟨_, rfl⟩
 rw [hw1] at c0 c1 c17 c5 L2 L3 L4 HB0
 generalize lcs a (.slice p n c) = bx at *
 go_enter Tryz.func122, Tryz.ntmps122
 go_wp2
 all_goals (go_ret; exact ⟨by first | rfl | (simp; done) | (simp; omega), HB0.out⟩)
theorem parts_7b (hk : a.k = 7) (hn : (n : Int) ≤ 16) (Z : LabZ a) (T : Tabs w) : Calls Tryz.prog 122 #[.agg (lcs a (.slice p n c))] w fun e w' => e = .returned (.bool (gfB a.s)) ∧ Below w.heap.size w w' := by
 have H0 := heap_alloc_new w (.cells (lcs a (.slice p n c)) 67)
 have HB0 : Hid (Below w.heap.size w (w.alloc (.cells (lcs a (.slice p n c)) 67))) := bel_alloc (Below.refl _ _) _
 obtain ⟨c0, c1, l2, l3, l4⟩ := box_all H0
 have L2 : Hid _ := l2
 have L3 : Hid _ := l3
 have L4 : Hid _ := l4
 have c17 := cell17 H0
 have c5 := cell5 H0
 rw [hk] at c0
 have G := fun u (hu : Below w.heap.size w u) => gfun_any a.s Z.s u (T.below hu)
 clear H0 l2 l3 l4
 obtain ⟨w1, hw1⟩ : ∃ w1, w.alloc (.cells (lcs a (.slice p n c)) 67) = w1 := ⟨_, rfl⟩
 rw [hw1] at c0 c1 c17 c5 L2 L3 L4 HB0
 generalize lcs a (.slice p n c) = bx at *
 generalize gfB a.s = q at *
 go_enter Tryz.func122, Tryz.ntmps122
 go_wp2_with (go_at_call 170; refine (G _ HB0.out).mono ?_; rintro e w2 ⟨rfl, hs⟩; have HB : Hid (Below w.heap.size w w2) := bel_step HB0.out hs; clear hs)
 all_goals (go_ret; exact ⟨by first | rfl | (simp; done) | (simp; omega), HB.out⟩)
theorem parts_0 (h1 : (a.k == 1) = false) (h2 : (a.k == 2) = false) (h3 : (a.k == 3) = false) (h4 : (a.k == 4) = false) (h5 : (a.k == 5) = false) (h6 : (a.k == 6) = false) (h7 : (a.k == 7) = false) : Calls Tryz.prog 122 #[.agg (lcs a (.slice p n c))] w fun e w' => e = .returned (.bool false) ∧ Below w.heap.size w w' := by
 have H0 := heap_alloc_new w (.cells (lcs a (.slice p n c)) 67)
 have HB0 : Hid (Below w.heap.size w (w.alloc (.cells (lcs a (.slice p n c)) 67))) := bel_alloc (Below.refl _ _) _
 obtain ⟨c0, c1, l2, l3, l4⟩ := box_all H0
 have L2 : Hid _ := l2
 have L3 : Hid _ := l3
 have L4 : Hid _ := l4
 have c17 := cell17 H0
 have c5 := cell5 H0
 clear H0 l2 l3 l4
 obtain ⟨w1, hw1⟩ : ∃ w1, w.alloc (.cells (lcs a (.slice p n c)) 67) = w1 := ⟨_, rfl⟩
 rw [hw1] at c0 c1 c17 c5 L2 L3 L4 HB0
 generalize lcs a (.slice p n c) = bx at *
 generalize a.k = k at *
 go_enter Tryz.func122, Tryz.ntmps122
 go_wp2
 all_goals (go_ret; exact ⟨by first | rfl | (simp; done) | (simp; omega), HB0.out⟩)
theorem parts_any (Z : LabZ a) (T : Tabs w) : Calls Tryz.prog 122 #[.agg (lcs a (.slice p n c))] w fun e w' => e = .returned (.bool (partsB a n)) ∧ Below w.heap.size w w' := by
 unfold partsB
 by_cases h1 : a.k = 1
 ·rw [if_pos h1]; exact parts_1 h1
 rw [if_neg h1]
 by_cases h2 : a.k = 2
 ·rw [if_pos h2]; exact parts_2 h2 Z T
 rw [if_neg h2]
 by_cases h3 : a.k = 3
 ·rw [if_pos h3]; exact parts_3 h3 Z T
 rw [if_neg h3]
 by_cases h4 : a.k = 4
 ·rw [if_pos h4]
  cases hg : gnF a.s.data.toList
  ·exact parts_4a h4 Z T hg
  ·cases he : a.b1.toList.isEmpty
   ·simpa using parts_4c (p := p) (n := n) (c := c) h4 Z T hg he
   ·exact parts_4b h4 Z T hg he
 rw [if_neg h4]
 by_cases h5 : a.k = 5
 ·rw [if_pos h5]
  cases hn : ((n : Int) == 1)
  ·exact parts_5a h5 hn
  ·cases hm : (a.s.toList == [45])
   ·simpa using parts_5c (p := p) (n := n) (c := c) h5 hn hm
   ·exact parts_5b h5 hn hm
 rw [if_neg h5]
 by_cases h6 : a.k = 6
 ·rw [if_pos h6]
  cases hn : ((n : Int) == 2)
  ·exact parts_6a h6 hn
  ·simpa using parts_6b (p := p) (n := n) (c := c) h6 hn
 rw [if_neg h6]
 by_cases h7 : a.k = 7
 ·rw [if_pos h7]
  by_cases hn : n ≤ 16
  ·rw [decide_eq_true hn]
   simpa using parts_7b (p := p) (n := n) (c := c) h7 (by omega) Z T
  ·rw [decide_eq_false hn]
   exact parts_7a h7 (by omega)
 rw [if_neg h7]
 exact parts_0 (by simpa using h1) (by simpa using h2) (by simpa using h3) (by simpa using h4) (by simpa using h5) (by simpa using h6) (by simpa using h7)
end
end Go.Proofs.YtnibldnfbikipaaGreatDoor
