/- AArea2, FGood1. -/
import Derived.Test.YtljmklbbngpllaaGreatDoorAAreaNd
set_option linter.unusedVariables false
set_option linter.unusedSimpArgs false
set_option maxHeartbeats 16000000
set_option maxRecDepth 100000
namespace Go.Proofs.YtljmklbbngpllaaGreatDoor
open Go.RowKit
section
variable {b1 s1 b2 s2 X Y : ByteArray} {r1 c1 r2 c2 : Int} {fr1 fc1 fr2 fc2 : Bool} {w W : World}
theorem aCg (hW : W = (w.alloc (aU b1 s1 r1 c1 fr1 fc1)).alloc (aU b2 s2 r2 c2 fr2 fc2)) (P1 : RC W 132 #[.agg #[.string b1, .string s1, .int .i64 r1, .int .i64 c1, .bool fr1, .bool fc1]] (.string X)) (P2 : RC W 132 #[.agg #[.string b2, .string s2, .int .i64 r2, .int .i64 c2, .bool fr2, .bool fc2]] (.string Y))
  (hXY : X.toList = [] ∨ ((X.toList == []) = false ∧ Y.toList = [])) :
  Calls Tryz.prog 163 #[.agg #[.string b1, .string s1, .int .i64 r1, .int .i64 c1, .bool fr1, .bool fc1], .agg #[.string b2, .string s2, .int .i64 r2, .int .i64 c2, .bool fr2, .bool fc2]] w fun e w' => e = .returned (.string ⟨#[]⟩) ∧ Below w.heap.size w w' := by
 have GU := dH
 have HC : Hid (∀ u : World, Below W.heap.size W u → (u.cell? ⟨w.heap.size, 0, none⟩ = some (.string b1) ∧ u.cell? ⟨w.heap.size, 1, none⟩ = some (.string s1) ∧ u.cell? ⟨w.heap.size, 2, none⟩ = some (.int .i64 r1) ∧ u.cell? ⟨w.heap.size, 3, none⟩ = some (.int .i64 c1) ∧ u.cell? ⟨w.heap.size, 4, none⟩ = some (.bool fr1) ∧ u.cell? ⟨w.heap.size, 5, none⟩ = some (.bool fc1)) ∧ (u.cell? ⟨w.heap.size + 1, 0, none⟩ = some (.string b2) ∧ u.cell? ⟨w.heap.size + 1, 1, none⟩ = some (.string s2) ∧ u.cell? ⟨w.heap.size + 1, 2, none⟩ = some (.int .i64 r2) ∧ u.cell? ⟨w.heap.size + 1, 3, none⟩ = some (.int .i64 c2) ∧ u.cell? ⟨w.heap.size + 1, 4, none⟩ = some (.bool fr2) ∧ u.cell? ⟨w.heap.size + 1, 5, none⟩ = some (.bool fc2))) := by
  subst hW
  exact fun u hu => ⟨aP (new2 hu).1, aP (new2 hu).2⟩
 have HB : Hid (Below W.heap.size W W.drew) := (Below.refl _ _).drew
 have HF : Hid (∀ u, Below W.heap.size W u → Below w.heap.size w u) := by
  subst hW
  exact fun u hu => aCw hu
 have hW2 := hW.symm
 clear hW
 go_enter Tryz.func163, Tryz.ntmps163
 go_wp2_with fail
 try rw [hW2]
 go_region_held_law (fun u => (u.cell? ⟨w.heap.size, 0, none⟩ = some (.string b1) ∧ u.cell? ⟨w.heap.size, 1, none⟩ = some (.string s1) ∧ u.cell? ⟨w.heap.size, 2, none⟩ = some (.int .i64 r1) ∧ u.cell? ⟨w.heap.size, 3, none⟩ = some (.int .i64 c1) ∧ u.cell? ⟨w.heap.size, 4, none⟩ = some (.bool fr1) ∧ u.cell? ⟨w.heap.size, 5, none⟩ = some (.bool fc1)) ∧ (u.cell? ⟨w.heap.size + 1, 0, none⟩ = some (.string b2) ∧ u.cell? ⟨w.heap.size + 1, 1, none⟩ = some (.string s2) ∧ u.cell? ⟨w.heap.size + 1, 2, none⟩ = some (.int .i64 r2) ∧ u.cell? ⟨w.heap.size + 1, 3, none⟩ = some (.int .i64 c2) ∧ u.cell? ⟨w.heap.size + 1, 4, none⟩ = some (.bool fr2) ∧ u.cell? ⟨w.heap.size + 1, 5, none⟩ = some (.bool fc2)))
  (exact HC.out _ HB.out) (first
  | (go_at_call_of 132 b1; refine (P1 _ HB.out).mono ?_; rintro e w7 ⟨rfl, hb⟩; have HB : Hid (Below W.heap.size W w7) := hb; clear hb)
  | (go_at_call_of 132 b2; refine (P2 _ HB.out).mono ?_; rintro e w7 ⟨rfl, hb⟩; have HB : Hid (Below W.heap.size W w7) := hb; clear hb))
 go_wp2_with fail
 rcases hXY with h | ⟨h, h'⟩
 ·go_quiet ((fail))
  go_wp2
  go_ret
  exact ⟨rfl, HF.out _ (HB.out.trans ((fC _ _).mono HB.out.size))⟩
 ·go_quiet ((fail))
  go_wp2
  go_ret
  exact ⟨rfl, HF.out _ (HB.out.trans ((fC _ _).mono HB.out.size))⟩
end
theorem aFD {b s : ByteArray} {r c : Int} {fr fc : Bool} (h : bB b s r c = false) : (prB b s r c fr fc).toList = [] := by
 unfold prB
 rw [if_neg (by rw [h]; decide), ByteArray.toList_eq]
theorem aCh {b s : ByteArray} {r c : Int} {fr fc : Bool} (h : bB b s r c = true) : prB b s r c fr fc = qW b s r.toNat c.toNat fr fc ∧ ((prB b s r c fr fc).toList == []) = false ∧ (prB b s r c fr fc).size ≤ 50 := by
 have e : prB b s r c fr fc = qW b s r.toNat c.toNat fr fc := by unfold prB; rw [if_pos h]
 obtain ⟨R, C, rfl, rfl, q1, q2, q3, q4, hw⟩ := jX h
 have ew := uH (R := R) (C := C) (fr := fr) (fc := fc) hw
 have hc := qX R C fr fc q1 q2
 simp only [Int.toNat_natCast] at e
 refine ⟨by simp only [Int.toNat_natCast]; exact e, ?_, ?_⟩
 ·rw [e, ByteArray.toList_eq]
  unfold qW
  have : Ad.qD ⟨b.data.toList, s.data.toList, ⟨R, C, fr, fc⟩⟩ ≠ [] := by
   unfold Ad.qD
   simp only [ne_eq, List.append_eq_nil_iff, not_and]
   intro _ _
   exact Ad.aGx
  simpa using this
 ·rw [e]
  rcases ew with ⟨_, _, e⟩ | ⟨_, z1, _, e⟩ | ⟨_, z1, _, z2, e⟩
  ·rw [e]; omega
  ·rw [e]
   simp only [ByteArray.size_append, ByteArray.size_mk']
   have : (#[33] : Array UInt8).size = 1 := rfl
   omega
  ·rw [e]
   simp only [ByteArray.size_append, ByteArray.size_mk']
   have : (#[33] : Array UInt8).size = 1 := rfl
   have : (#[91] : Array UInt8).size = 1 := rfl
   have : (#[93] : Array UInt8).size = 1 := rfl
   omega
theorem aFE (b1 s1 : ByteArray) (r1 c1 : Int) (fr1 fc1 : Bool) (b2 s2 : ByteArray) (r2 c2 : Int) (fr2 fc2 : Bool) (z1 : b1.size ≤ 9223372036854775807) (z2 : s1.size ≤ 9223372036854775807) (z3 : b2.size ≤ 9223372036854775807) (z4 : s2.size ≤ 9223372036854775807) (w : World) (T : eD w) :
  Calls Tryz.prog 163 #[bC b1 s1 r1 c1 fr1 fc1, bC b2 s2 r2 c2 fr2 fc2] w fun e w' => e = .returned (.string (paB b1 s1 r1 c1 fr1 fc1 b2 s2 r2 c2 fr2 fc2)) ∧ Below w.heap.size w w' := by
 have P1 : RC ((w.alloc (aU b1 s1 r1 c1 fr1 fc1)).alloc (aU b2 s2 r2 c2 fr2 fc2)) 132 #[bC b1 s1 r1 c1 fr1 fc1] _ := RC.of fun u hu => lT b1 s1 r1 c1 fr1 fc1 z1 z2 u (T.below (aCw hu))
 have P2 : RC ((w.alloc (aU b1 s1 r1 c1 fr1 fc1)).alloc (aU b2 s2 r2 c2 fr2 fc2)) 132 #[bC b2 s2 r2 c2 fr2 fc2] _ := RC.of fun u hu => lT b2 s2 r2 c2 fr2 fc2 z3 z4 u (T.below (aCw hu))
 have CO : RC ((w.alloc (aU b1 s1 r1 c1 fr1 fc1)).alloc (aU b2 s2 r2 c2 fr2 fc2)) 203 #[bC b2 s2 r2 c2 fr2 fc2] _ := RC.of fun u hu => aBg b2 s2 r2 c2 fr2 fc2 u
 unfold paB
 cases g1 : bB b1 s1 r1 c1
 ·rw [if_neg (by simp)]
  exact aCg rfl P1 P2 (.inl (aFD g1))
 obtain ⟨e1, n1, l1⟩ := aCh (fr := fr1) (fc := fc1) g1
 cases g2 : bB b2 s2 r2 c2
 ·rw [if_neg (by simp)]
  exact aCg rfl P1 P2 (.inr ⟨n1, aFD g2⟩)
 obtain ⟨e2, n2, l2⟩ := aCh (fr := fr2) (fc := fc2) g2
 by_cases hs : s2.toList = []
 ·rw [if_pos ⟨rfl, rfl, hs⟩]
  obtain ⟨R, C, rfl, rfl, q1, q2, q3, q4, hw⟩ := jX g2
  have hb : b2.toList = [] := by
   rcases hw with ⟨_, h⟩ | ⟨h, _⟩ | ⟨h, _⟩
   ·exact h
   ·rw [hs] at h; cases h
   ·rw [hs] at h; cases h
  have eb : b2 = ⟨#[]⟩ := Go.WideShapes.bytes_inj (by rw [gU hb])
  have es : s2 = ⟨#[]⟩ := Go.WideShapes.bytes_inj (by rw [gU hs])
  have := uQ (o := false) rfl P1 P2 CO n1 n2 l1 l2 (fun V => by rw [eb, es]; exact aBe _ _ _ _ _ _ V)
  have ec : qW b2 s2 ((R : Int).toNat) ((C : Int).toNat) fr2 fc2 = jN R C fr2 fc2 := by
   unfold qW Ad.qD jN
   simp only [gU hs, gU hb, if_true, List.nil_append, Int.toNat_natCast]
  rw [e1, e2, ec] at this
  exact this
 ·rw [if_neg (fun q => hs q.2.2)]
  have := uQ (o := true) rfl P1 P2 CO n1 n2 l1 l2 (fun V => wH _ _ _ _ _ _ _ _ _ _ _ _ V (.inr (by
   rw [show (⟨#[]⟩ : ByteArray).toList = [] by rw [ByteArray.toList_eq]]
   simpa using hs)))
  exact this
end Go.Proofs.YtljmklbbngpllaaGreatDoor
namespace Go.Proofs.YtljmklbbngpllaaGreatDoor
open Go.RowKit Go.Fm
def gcB (k n : Int) (s : ByteArray) : Bool := if k = 0 then false else if k = 1 then decide (0 ≤ n) && mV k n s else mV k n s
def gfB (s : ByteArray) : Bool := (s.toList == (⟨(szF 97 65 s.data.toList).toArray⟩ : ByteArray).toList) && (gnF s.data.toList || ((bO s).1 == 3))
theorem aBh (k n : Int) (s : ByteArray) (w : World) : Calls Tryz.prog 161 #[.agg #[.int .i64 k, .int .i64 n, .string s]] w fun e w' => e = .returned (.bool (gcB k n s)) ∧ Below w.heap.size w w' := by
 have V := fun u => aDi k n s u
 unfold gcB
 by_cases h0 : k = 0
 ·subst h0
  rw [if_pos rfl]
  clear V
  go_enter Tryz.func161, Tryz.ntmps161
  go_wp2
  go_ret
  exact ⟨rfl, aA (Below.refl _ _) _⟩
 rw [if_neg h0]
 have h0b : (k == 0) = false := by simpa using h0
 by_cases h1 : k = 1
 ·subst h1
  rw [if_pos rfl]
  generalize mV 1 n s = g at *
  by_cases hn : 0 ≤ n
  ·have hd : decide (0 ≤ n) = true := decide_eq_true hn
   rw [hd]
   go_enter Tryz.func161, Tryz.ntmps161
   go_wp2_with (go_at_call 202; refine (V _).mono ?_; rintro e w1 ⟨rfl, hs⟩; have HB : Hid (Below w.heap.size w w1) := aR hs; clear hs)
   all_goals (go_ret; exact ⟨by first | rfl | (simp; done), HB.out⟩)
  ·have hd : decide (0 ≤ n) = false := decide_eq_false hn
   have hn2 : n < 0 := by omega
   rw [hd]
   clear V
   go_enter Tryz.func161, Tryz.ntmps161
   go_wp2
   all_goals (go_ret; exact ⟨by first | rfl | (simp; done), aA (Below.refl _ _) _⟩)
 ·rw [if_neg h1]
  have h1b : (k == 1) = false := by simpa using h1
  generalize mV k n s = g at *
  clear h0 h1
  go_enter Tryz.func161, Tryz.ntmps161
  go_wp2_with (go_at_call 202; refine (V _).mono ?_; rintro e w1 ⟨rfl, hs⟩; have HB : Hid (Below w.heap.size w w1) := aR hs; clear hs)
  all_goals (go_ret; exact ⟨by first | rfl | (simp; done), HB.out⟩)
theorem aFF (s : ByteArray) (hs : s.size ≤ 9223372036854775807) (w : World) (T : eD w) : Calls Tryz.prog 164 #[.string s] w fun e w' => e = .returned (.bool (gfB s)) ∧ Below w.heap.size w w' := by
 have U := fun u => vJ s hs u
 have G := fun u (hu : Below w.heap.size w u) => bU s hs u (T.below hu)
 have TY := fun u (hu : Below w.heap.size w u) => kP s hs u (T.below hu)
 have FL := fun u => vM u (bO s).1 (bO s).2.1 (bO s).2.2
 unfold gfB
 generalize (⟨(szF 97 65 s.data.toList).toArray⟩ : ByteArray) = X at *
 generalize gnF s.data.toList = gn at *
 generalize (bO s).1 = k at *
 generalize (bO s).2.1 = n at *
 generalize (bO s).2.2 = x at *
 cases he : (s.toList == X.toList)
 ·go_enter Tryz.func164, Tryz.ntmps164
  go_wp2_with (go_at_call 194; refine (U _).mono ?_; rintro e w1 ⟨rfl, hs⟩; have HB : Hid (Below w.heap.size w w1) := hs; clear hs)
  all_goals (go_ret; exact ⟨by first | rfl | (simp; done), HB.out⟩)
 ·cases gn
  ·go_enter Tryz.func164, Tryz.ntmps164
   go_wp2_with (first
    | (go_at_call 194; refine (U _).mono ?_; rintro e w1 ⟨rfl, hs⟩; have HB : Hid (Below w.heap.size w w1) := hs; clear hs)
    | (go_at_call 154; refine (G _ HB.out).mono ?_; rintro e w2 ⟨rfl, hs⟩; have HB2 : Hid (Below w.heap.size w w2) := aG HB.out hs; clear hs)
    | (go_at_call 200; refine (TY _ HB2.out).mono ?_; rintro e w3 ⟨rfl, hs⟩; have HB3 : Hid (Below w.heap.size w w3) := aG HB2.out hs; clear hs))
   all_goals (go_ret; exact ⟨by first | rfl | (simp; done), HB3.out⟩)
  ·go_enter Tryz.func164, Tryz.ntmps164
   go_wp2_with (first
    | (go_at_call 194; refine (U _).mono ?_; rintro e w1 ⟨rfl, hs⟩; have HB : Hid (Below w.heap.size w w1) := hs; clear hs)
    | (go_at_call 154; refine (G _ HB.out).mono ?_; rintro e w2 ⟨rfl, hs⟩; have HB2 : Hid (Below w.heap.size w w2) := aG HB.out hs; clear hs))
   all_goals (go_ret; exact ⟨by first | rfl | (simp; done), HB2.out⟩)
end Go.Proofs.YtljmklbbngpllaaGreatDoor
