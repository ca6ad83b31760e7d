/- ARArea, RQ2, RRight1. -/
import Derived.Test.YtljmklbbngpllaaGreatDoorRSameBk
set_option linter.unusedVariables false
set_option linter.unusedSimpArgs false
set_option maxHeartbeats 16000000
set_option maxRecDepth 100000
namespace Go.Proofs.YtljmklbbngpllaaGreatDoor
open Go.RowKit
section
variable {b1 s1 b2 s2 X Y : ByteArray} {r1 c1 r2 c2 : Int} {fr1 fc1 fr2 fc2 : Bool} {w W : World}
theorem tY (hW : W = (w.alloc (aR b1 s1 r1 c1 fr1 fc1)).alloc (aR b2 s2 r2 c2 fr2 fc2)) {g1 g2 : Bool} (G1 : RC W 107 #[.agg #[.string b1, .string s1, .int .i64 r1, .int .i64 c1, .bool fr1, .bool fc1]] (.bool g1)) (G2 : RC W 107 #[.agg #[.string b2, .string s2, .int .i64 r2, .int .i64 c2, .bool fr2, .bool fc2]] (.bool g2))
  (hg : g1 = false ∨ (g1 = true ∧ g2 = false) ∨ (g1 = true ∧ g2 = true ∧ (s2.toList == []) = false)) :
  Calls Tryz.prog 103 #[.agg #[.string b1, .string s1, .int .i64 r1, .int .i64 c1, .bool fr1, .bool fc1], .agg #[.string b2, .string s2, .int .i64 r2, .int .i64 c2, .bool fr2, .bool fc2]] w fun e w' => e = .returned (.string ⟨#[]⟩) ∧ Below w.heap.size w w' := by
 have HC : Hid (∀ u : World, Below W.heap.size W u → u.heap[w.heap.size]? = some (aR b1 s1 r1 c1 fr1 fc1) ∧ u.heap[w.heap.size + 1]? = some (aR b2 s2 r2 c2 fr2 fc2)) := by
  subst hW
  exact fun u hu => new2 hu
 have HB0 : Hid (Below W.heap.size W W) := Below.refl _ _
 have HF : Hid (∀ u, Below W.heap.size W u → Below w.heap.size w u) := by
  subst hW
  exact fun u hu => yF hu
 have hW2 := hW.symm
 clear hW
 obtain ⟨q0, q1, q2, q3, q4, q5⟩ := aQ (HC.out _ HB0.out).1
 obtain ⟨p0, p1, p2, p3, p4, p5⟩ := aQ (HC.out _ HB0.out).2
 rcases hg with rfl | ⟨rfl, rfl⟩ | ⟨rfl, rfl, hs⟩
 ·go_enter Tryz.func103, Tryz.ntmps103
  go_wp2_with fail
  try rw [hW2]
  refine (G1 _ HB0.out).mono ?_
  rintro e w1 ⟨rfl, hb⟩
  have HB1 : Hid (Below W.heap.size W w1) := hb
  clear hb
  go_wp2
  go_ret
  exact ⟨rfl, HF.out _ HB1.out⟩
 ·go_enter Tryz.func103, Tryz.ntmps103
  go_wp2_with fail
  try rw [hW2]
  refine (G1 _ HB0.out).mono ?_
  rintro e w1 ⟨rfl, hb⟩
  have HB1 : Hid (Below W.heap.size W w1) := hb
  clear hb q0 q1 q2 q3 q4 q5 p0 p1 p2 p3 p4 p5
  obtain ⟨p0, p1, p2, p3, p4, p5⟩ := aQ (HC.out _ HB1.out).2
  go_wp2_with fail
  refine (G2 _ HB1.out).mono ?_
  rintro e w2 ⟨rfl, hb⟩
  have HB2 : Hid (Below W.heap.size W w2) := hb
  clear hb
  go_wp2
  go_ret
  exact ⟨rfl, HF.out _ HB2.out⟩
 ·go_enter Tryz.func103, Tryz.ntmps103
  go_wp2_with fail
  try rw [hW2]
  refine (G1 _ HB0.out).mono ?_
  rintro e w1 ⟨rfl, hb⟩
  have HB1 : Hid (Below W.heap.size W w1) := hb
  clear hb q0 q1 q2 q3 q4 q5 p0 p1 p2 p3 p4 p5
  obtain ⟨p0, p1, p2, p3, p4, p5⟩ := aQ (HC.out _ HB1.out).2
  go_wp2_with fail
  refine (G2 _ HB1.out).mono ?_
  rintro e w2 ⟨rfl, hb⟩
  have HB2 : Hid (Below W.heap.size W w2) := hb
  clear hb p0 p1 p2 p3 p4 p5
  obtain ⟨p0, p1, p2, p3, p4, p5⟩ := aQ (HC.out _ HB2.out).2
  go_wp2
  go_ret
  exact ⟨rfl, HF.out _ HB2.out⟩
theorem aEt (hW : W = (w.alloc (aR b1 s1 r1 c1 fr1 fc1)).alloc (aR b2 s2 r2 c2 fr2 fc2)) (G1 : RC W 107 #[.agg #[.string b1, .string s1, .int .i64 r1, .int .i64 c1, .bool fr1, .bool fc1]] (.bool true)) (G2 : RC W 107 #[.agg #[.string b2, .string s2, .int .i64 r2, .int .i64 c2, .bool fr2, .bool fc2]] (.bool true)) (hs : s2.toList = [])
  (P1 : RC W 102 #[.agg #[.string b1, .string s1, .int .i64 r1, .int .i64 c1, .bool fr1, .bool fc1]] (.string X)) (P2 : RC W 142 #[.agg #[.string b2, .string s2, .int .i64 r2, .int .i64 c2, .bool fr2, .bool fc2]] (.string Y)) (zX : X.size ≤ 50) (zY : Y.size ≤ 50) :
  Calls Tryz.prog 103 #[.agg #[.string b1, .string s1, .int .i64 r1, .int .i64 c1, .bool fr1, .bool fc1], .agg #[.string b2, .string s2, .int .i64 r2, .int .i64 c2, .bool fr2, .bool fc2]] w fun e w' => e = .returned (.string (X ++ ⟨#[58]⟩ ++ Y)) ∧ Below w.heap.size w w' := by
 have HC : Hid (∀ u : World, Below W.heap.size W u → u.heap[w.heap.size]? = some (aR b1 s1 r1 c1 fr1 fc1) ∧ u.heap[w.heap.size + 1]? = some (aR b2 s2 r2 c2 fr2 fc2)) := by
  subst hW
  exact fun u hu => new2 hu
 have HB0 : Hid (Below W.heap.size W W) := Below.refl _ _
 have HF : Hid (∀ u, Below W.heap.size W u → Below w.heap.size w u) := by
  subst hW
  exact fun u hu => yF hu
 have z5 : ¬ 9223372036854775807 < X.size + 1 := by omega
 have z6 : ¬ 9223372036854775807 < X.size + 1 + Y.size := by omega
 have hW2 := hW.symm
 clear hW
 obtain ⟨q0, q1, q2, q3, q4, q5⟩ := aQ (HC.out _ HB0.out).1
 go_enter Tryz.func103, Tryz.ntmps103
 go_wp2_with fail
 try rw [hW2]
 refine (G1 _ HB0.out).mono ?_
 rintro e w1 ⟨rfl, hb⟩
 have HB1 : Hid (Below W.heap.size W w1) := hb
 clear hb q0 q1 q2 q3 q4 q5
 obtain ⟨p0, p1, p2, p3, p4, p5⟩ := aQ (HC.out _ HB1.out).2
 go_wp2_with fail
 refine (G2 _ HB1.out).mono ?_
 rintro e w2 ⟨rfl, hb⟩
 have HB : Hid (Below W.heap.size W w2) := hb
 clear hb p0 p1 p2 p3 p4 p5
 obtain ⟨p0, p1, p2, p3, p4, p5⟩ := aQ (HC.out _ HB.out).2
 go_wp2_with fail
 clear p0 p1 p2 p3 p4 p5
 replace HB : Hid (Below W.heap.size W w2.drew) := HB.out.drew
 go_region_held_law (fun u => (u.cell? ⟨w.heap.size, 0, none⟩ = some (.string b1) ∧ u.cell? ⟨w.heap.size, 1, none⟩ = some (.string s1) ∧ u.cell? ⟨w.heap.size, 2, none⟩ = some (.int .i64 r1) ∧ u.cell? ⟨w.heap.size, 3, none⟩ = some (.int .i64 c1) ∧ u.cell? ⟨w.heap.size, 4, none⟩ = some (.bool fr1) ∧ u.cell? ⟨w.heap.size, 5, none⟩ = some (.bool fc1)) ∧ (u.cell? ⟨w.heap.size + 1, 0, none⟩ = some (.string b2) ∧ u.cell? ⟨w.heap.size + 1, 1, none⟩ = some (.string s2) ∧ u.cell? ⟨w.heap.size + 1, 2, none⟩ = some (.int .i64 r2) ∧ u.cell? ⟨w.heap.size + 1, 3, none⟩ = some (.int .i64 c2) ∧ u.cell? ⟨w.heap.size + 1, 4, none⟩ = some (.bool fr2) ∧ u.cell? ⟨w.heap.size + 1, 5, none⟩ = some (.bool fc2)))
  (exact ⟨aQ (HC.out _ HB.out).1, aQ (HC.out _ HB.out).2⟩) (first
  | (go_at_call 102; refine (P1 _ HB.out).mono ?_; rintro e w7 ⟨rfl, hb⟩; have HB : Hid (Below W.heap.size W w7) := hb; clear hb)
  | (go_at_call 142; refine (P2 _ HB.out).mono ?_; rintro e w7 ⟨rfl, hb⟩; have HB : Hid (Below W.heap.size W w7) := hb; clear hb))
 all_goals (go_wp2; go_ret; exact ⟨rfl, HF.out _ HB.out⟩)
end
theorem aEu (b1 s1 : ByteArray) (r1 c1 : Int) (fr1 fc1 : Bool) (b2 s2 : ByteArray) (r2 c2 : Int) (fr2 fc2 : Bool) (z1 : b1.size ≤ 9223372036854775807) (z2 : s1.size ≤ 9223372036854775807) (z3 : b2.size ≤ 9223372036854775807) (z4 : s2.size ≤ 9223372036854775807) (w : World) :
  Calls Tryz.prog 103 #[aY b1 s1 r1 c1 fr1 fc1, aY b2 s2 r2 c2 fr2 fc2] w fun e w' => e = .returned (.string (paB b1 s1 r1 c1 fr1 fc1 b2 s2 r2 c2 fr2 fc2)) ∧ Below w.heap.size w w' := by
 have G1 : RC ((w.alloc (aR b1 s1 r1 c1 fr1 fc1)).alloc (aR b2 s2 r2 c2 fr2 fc2)) 107 #[aY b1 s1 r1 c1 fr1 fc1] _ := RC.of fun u hu => jP b1 s1 r1 c1 fr1 fc1 z1 z2 u
 have G2 : RC ((w.alloc (aR b1 s1 r1 c1 fr1 fc1)).alloc (aR b2 s2 r2 c2 fr2 fc2)) 107 #[aY b2 s2 r2 c2 fr2 fc2] _ := RC.of fun u hu => jP b2 s2 r2 c2 fr2 fc2 z3 z4 u
 unfold paB
 cases g1 : bB b1 s1 r1 c1
 ·rw [g1] at G1
  rw [if_neg (by simp)]
  exact tY rfl G1 G2 (.inl rfl)
 rw [g1] at G1
 cases g2 : bB b2 s2 r2 c2
 ·rw [g2] at G2
  rw [if_neg (by simp)]
  exact tY rfl G1 G2 (.inr (.inl ⟨rfl, rfl⟩))
 rw [g2] at G2
 by_cases hs : s2.toList = []
 ·rw [if_pos ⟨rfl, rfl, hs⟩]
  obtain ⟨e1, n1, l1⟩ := xI (fr := fr1) (fc := fc1) g1
  have P1 : RC ((w.alloc (aR b1 s1 r1 c1 fr1 fc1)).alloc (aR b2 s2 r2 c2 fr2 fc2)) 102 #[aY b1 s1 r1 c1 fr1 fc1] _ := RC.of fun u hu => aAz b1 s1 r1 c1 fr1 fc1 z1 z2 u
  rw [e1] at P1 l1
  obtain ⟨R, C, rfl, rfl, q1, q2, q3, q4, hw⟩ := iH g2
  exact aEt rfl G1 G2 hs P1 (RC.of fun u hu => vL b2 s2 R C fr2 fc2 (aJf q1 q2 q3 q4) q1 q2 q3 q4 u) l1 (Nat.le_trans (iJ R C fr2 fc2 q1 q2) (by decide))
 ·rw [if_neg (fun q => hs q.2.2)]
  exact tY rfl G1 G2 (.inr (.inr ⟨rfl, rfl, by simpa using hs⟩))
end Go.Proofs.YtljmklbbngpllaaGreatDoor
namespace Go.Proofs.YtljmklbbngpllaaGreatDoor
open Go.RowKit Go.Fm
section
variable {w u : World} {a b : Lab} {sl sb : Value} {g : Nat}
theorem RQ.jK (h : RQ w a sl g b sb u) (s : ByteArray) : ∃ u', Hid ((Instr.storeAt 9 (.pointer (some ⟨g, 1, none⟩)) (.string s)).run Tryz.prog u = .ok () u') ∧ RQ w a sl g { b with s := s } sb u' := by
 refine ⟨u.setCell ⟨g, 1, none⟩ (.string s), st9 (v := .string b.s) (aL h.t).2.1 (by simp [World.frozen?, h.t]), ?_⟩
 have hg := Lib.grownBy_setCell u g 1 (.string s)
 exact ⟨(hg.block _ (aW h.n) (fun e => by have := Option.some.inj e; have := h.lt; omega)).trans h.n, by simp [World.setCell, Array.getElem?_modify, h.t, lcs]; rfl, h.lt, h.b.setCell (Nat.le_of_lt h.lt) _⟩
theorem RQ.aEv (h : RQ w a sl g b sb u) (s : ByteArray) : ∃ u', Hid ((Instr.storeAt 9 (.pointer (some ⟨g, 5, none⟩)) (.string s)).run Tryz.prog u = .ok () u') ∧ RQ w a sl g { b with b1 := s } sb u' := by
 refine ⟨u.setCell ⟨g, 5, none⟩ (.string s), st9 (v := .string b.b1) (dD h.t) (by simp [World.frozen?, h.t]), ?_⟩
 have hg := Lib.grownBy_setCell u g 5 (.string s)
 exact ⟨(hg.block _ (aW h.n) (fun e => by have := Option.some.inj e; have := h.lt; omega)).trans h.n, by simp [World.setCell, Array.getElem?_modify, h.t, lcs]; rfl, h.lt, h.b.setCell (Nat.le_of_lt h.lt) _⟩
theorem RQ.fK (h : RQ w a sl g b sb u) (p : Option Addr) (n c : Nat) : ∃ u', Hid ((Instr.storeAt 26 (.pointer (some ⟨g, 17, none⟩)) (.slice p n c)).run Tryz.prog u = .ok () u') ∧ RQ w a sl g b (.slice p n c) u' := by
 refine ⟨u.setCell ⟨g, 17, none⟩ (.slice p n c), aL1 (v := sb) (aU h.t) (by simp [World.frozen?, h.t]), ?_⟩
 have hg := Lib.grownBy_setCell u g 17 (.slice p n c)
 exact ⟨(hg.block _ (aW h.n) (fun e => by have := Option.some.inj e; have := h.lt; omega)).trans h.n, by simp [World.setCell, Array.getElem?_modify, h.t, lcs]; rfl, h.lt, h.b.setCell (Nat.le_of_lt h.lt) _⟩
theorem RQ.aCd (h : RQ w a sl g b sb u) (k n : Int) (s : ByteArray) : ∃ u', Hid ((Instr.storeAt 23 (.pointer (some ⟨g, 2, none⟩)) (val k n s)).run Tryz.prog u = .ok () u') ∧ RQ w a sl g { b with vk := k, vn := n, vs := s } sb u' :=
 h.set 23 2 #[.int .i64 k, .int .i64 n, .string s] (by kernel_rfl) (by simp) (by simp [Value.oneCell']) rfl
theorem RQ.aEw (h : RQ w a sl g b sb u) (x y : ByteArray) (r c : Int) (fr fc : Bool) : ∃ u', Hid ((Instr.storeAt 25 (.pointer (some ⟨g, 5, none⟩)) (aY x y r c fr fc)).run Tryz.prog u = .ok () u') ∧ RQ w a sl g { b with b1 := x, h1 := y, r1 := r, c1 := c, fr1 := fr, fc1 := fc } sb u' :=
 h.set 25 5 #[.string x, .string y, .int .i64 r, .int .i64 c, .bool fr, .bool fc] (by kernel_rfl) (by simp) (by simp [Value.oneCell']) rfl
theorem RQ.aKr (h : RQ w a sl g b sb u) (x y : ByteArray) (r c : Int) (fr fc : Bool) : ∃ u', Hid ((Instr.storeAt 25 (.pointer (some ⟨g, 11, none⟩)) (aY x y r c fr fc)).run Tryz.prog u = .ok () u') ∧ RQ w a sl g { b with b2 := x, h2 := y, r2 := r, c2 := c, fr2 := fr, fc2 := fc } sb u' :=
 h.set 25 11 #[.string x, .string y, .int .i64 r, .int .i64 c, .bool fr, .bool fc] (by kernel_rfl) (by simp) (by simp [Value.oneCell']) rfl
theorem RQ.cells (h : RQ w a sl g b sb u) : u.cell? ⟨w.heap.size, 0, none⟩ = some (.int .i64 a.k) ∧ u.cell? ⟨w.heap.size, 1, none⟩ = some (.string a.s) ∧ u.cell? ⟨w.heap.size, 2, none⟩ = some (.int .i64 a.vk) ∧ u.cell? ⟨w.heap.size, 3, none⟩ = some (.int .i64 a.vn) ∧ u.cell? ⟨w.heap.size, 5, none⟩ = some (.string a.b1) ∧ u.cell? ⟨w.heap.size, 17, none⟩ = some sl := by
 have hc := fun j => cell_of_row u w.heap.size j (lcs a sl) 28 _ h.n
 exact ⟨(hc 0).trans rfl, (hc 1).trans rfl, (hc 2).trans rfl, (hc 3).trans rfl, (hc 5).trans rfl, (hc 17).trans rfl⟩
theorem RQ.ldV (h : RQ w a sl g b sb u) : (Instr.loadAt 23 (.pointer (some ⟨w.heap.size, 2, none⟩))).run Tryz.prog u = .ok (val a.vk a.vn a.vs) u := (aL h.n).2.2.1
theorem RQ.ldR (h : RQ w a sl g b sb u) : (Instr.loadAt 25 (.pointer (some ⟨w.heap.size, 5, none⟩))).run Tryz.prog u = .ok (aY a.b1 a.h1 a.r1 a.c1 a.fr1 a.fc1) u := (aL h.n).2.2.2.1
theorem RQ.ldT (h : RQ w a sl g b sb u) : (Instr.loadAt 25 (.pointer (some ⟨w.heap.size, 11, none⟩))).run Tryz.prog u = .ok (aY a.b2 a.h2 a.r2 a.c2 a.fr2 a.fc2) u := (aL h.n).2.2.2.2
theorem RQ.ldN (h : RQ w a (sl) g b sb u) : (Instr.loadAt 28 (.pointer (some ⟨w.heap.size, 0, none⟩))).run Tryz.prog u = .ok (.agg (lcs a sl)) u := lod (z := (0, 0)) h.n rfl Tryz.underlying28 (by rw [aV]; exact bV)
theorem RQ.ldW (h : RQ w a (sl) g b sb u) : (Instr.loadAt 28 (.pointer (some ⟨g, 0, none⟩))).run Tryz.prog u = .ok (.agg (lcs b sb)) u := lod (z := (0, 0)) h.t rfl Tryz.underlying28 (by rw [aV]; exact bV)
end
section
variable {a : Lab} {p : Option Addr} {n c : Nat} {w : World}
theorem aZ : Calls Tryz.prog 105 #[.agg (lcs a (.slice p n c))] (w.alloc (.cells (lcs a (.slice p n c)) 28)) fun e w1 => ∃ wx u0, e = .returned (.agg wx) ∧ Hid ((Instr.storeAt 28 (.pointer (some ⟨w1.heap.size, 0, none⟩)) (.agg wx)).run Tryz.prog (w1.alloc (.cells nd0 28)) = .ok () u0) ∧ Hid (RQ w a (.slice p n c) w1.heap.size (aT a.k nb) (.slice none 0 0) u0) := vW.mono (by
 rintro e w1 ⟨rfl, RS, c0, HH⟩
 exact ⟨_, _, rfl, RS, HH.out.1, HH.out.2.1, HH.out.2.2.1, HH.out.2.2.2⟩)
theorem bA : (Instr.loadAt 28 (.pointer (some ⟨w.heap.size, 0, none⟩))).run Tryz.prog (w.alloc (.cells (lcs a (.slice p n c)) 28)) = .ok (.agg (lcs a (.slice p n c))) (w.alloc (.cells (lcs a (.slice p n c)) 28)) := lod (z := (0, 0)) (heap_alloc_new w (.cells (lcs a (.slice p n c)) 28)) rfl Tryz.underlying28 (by rw [aV]; exact bV)
theorem aIV (f : F) : sF f f = true := by
 induction f with
 | nil => rfl
 | node b o l f r ihf ihr => simp [sF, pJ, ihf, ihr]
theorem bQ {f : F} (hz : zT (a, f) ≤ 1000000) (hs : SF w p n f) {g : Nat} {b : Lab} {u : World} (h : RQ w a (.slice p n c) g b (.slice p n c) u) : Calls Tryz.prog 13 #[.agg (lcs a (.slice p n c)), .agg (lcs b (.slice p n c))] u fun e w' => e = .returned (.bool (bO a b)) ∧ Below w.heap.size w w' := by
 have hN : NT w (lcs a (.slice p n c)) (a, f) := ⟨p, n, c, rfl, hs⟩
 have hM : NT w (lcs b (.slice p n c)) (b, f) := ⟨p, n, c, rfl, hs⟩
 have C := vX (a, f) hz (b, f) u _ _ (hN.below h.b) (hM.below h.b)
 refine C.mono ?_
 rintro e w' ⟨rfl, hb⟩
 refine ⟨?_, aJ h.b hb⟩
 unfold sT
 rw [aIV, Bool.and_true]
end
theorem ok1 {a : Lab} {n : Nat} (hk : a.k = 1) : okL a n = (bO a (⟨1, nb, a.vk, a.vn, a.vs, nb, nb, 0, 0, false, false, nb, nb, 0, 0, false, false⟩ : Lab) && ((n : Int) == 0) && gcB a.vk a.vn a.vs) := by
 unfold okL iN fD sV qH gM
 simp [hk]
theorem aIW (k n : Int) (s : ByteArray) : (fQ k n s = false ∧ gcB k n s = false) ∨ (fQ k n s = true ∧ (k == 0) = true ∧ gcB k n s = false) ∨ (fQ k n s = true ∧ (k == 0) = false ∧ (k == 1) = false ∧ gcB k n s = true) ∨ (fQ k n s = true ∧ (k == 0) = false ∧ (k == 1) = true ∧ n < 0 ∧ gcB k n s = false) ∨ (fQ k n s = true ∧ (k == 0) = false ∧ (k == 1) = true ∧ ¬ n < 0 ∧ gcB k n s = true) := by
 unfold gcB
 cases hg : fQ k n s
 ·left
  refine ⟨rfl, ?_⟩
  split
  ·rfl
  ·split <;> simp
 ·right
  by_cases h0 : k = 0
  ·left; simp [h0]
  ·right
   by_cases h1 : k = 1
   ·right
    subst h1
    by_cases hn : n < 0
    ·left; simp [hn]
    ·right; simp [hn]; omega
   ·left; simp [h0, h1]
section
variable {a : Lab} {p : Option Addr} {n c : Nat} {w : World} {f : F}
theorem aIX (hk : a.k = 1) (Z : jW a) (hz : zT (a, f) ≤ 1000000) (hs : SF w p n f) : Calls Tryz.prog 65 #[.agg (lcs a (.slice p n c))] w fun e w' => e = .returned (.bool (okL a n)) ∧ Below w.heap.size w w' := by
 have CG0 : Hid (∀ u, Below w.heap.size w u → Calls Tryz.prog 106 #[val a.vk a.vn a.vs] u fun e w' => e = .returned (.bool (fQ a.vk a.vn a.vs)) ∧ Below u.heap.size u w') := fun u _ => aBD a.vk a.vn a.vs u
 rw [ok1 hk]
 rcases aIW a.vk a.vn a.vs with ⟨hg, e⟩ | ⟨hg, h0, e⟩ | ⟨hg, h0, h1, e⟩ | ⟨hg, h0, h1, hv, e⟩ | ⟨hg, h0, h1, hv, e⟩
 ·rw [hg] at CG0
  clear hg
  rw [e, show (bO a (⟨1, nb, a.vk, a.vn, a.vs, nb, nb, 0, 0, false, false, nb, nb, 0, 0, false, false⟩ : Lab) && ((n : Int) == 0) && false) = false by simp]
  clear e
  have RL : Hid _ := bA (a := a) (p := p) (n := n) (c := c) (w := w)
  have C := aZ (a := a) (p := p) (n := n) (c := c) (w := w)
  rw [hk] at C
  go_enter Tryz.func65, Tryz.ntmps65
  go_wp2_with (first
   | (refine aA rfl 28 _ rfl _ _ rfl RL.out ?_; clear RL)
   | (go_at_call 105; refine C.mono ?_; clear C; rintro e w1 ⟨wx, u0, rfl, RS, HQ⟩; have hcc := HQ.out.cells; rw [hk] at hcc; have RR : Hid _ := HQ.out.ldV; obtain ⟨u2, RS2, hq2⟩ := HQ.out.aCd a.vk a.vn a.vs; have HQ2 : Hid (RQ w a (.slice p n c) w1.heap.size (⟨1, nb, a.vk, a.vn, a.vs, nb, nb, 0, 0, false, false, nb, nb, 0, 0, false, false⟩ : Lab) (.slice none 0 0) u2) := hq2; clear hq2 HQ; have hc2 := HQ2.out.cells; rw [hk] at hc2; have RR2 : Hid _ := HQ2.out.ldV; have CG := CG0.out _ HQ2.out.b)
   | (refine aB rfl 28 _ _ rfl _ _ _ rfl rfl RS.out ?_; clear RS)
   | (refine aA rfl 23 _ rfl _ _ rfl RR.out ?_; clear RR)
   | (refine aB rfl 23 _ _ rfl _ _ _ rfl rfl RS2.out ?_; clear RS2)
   | (refine aA rfl 23 _ rfl _ _ rfl RR2.out ?_; clear RR2))
  go_at_call 106
  refine CG.mono ?_
  clear CG
  rintro e w4 ⟨rfl, hb4⟩
  have HQ4 : Hid _ := HQ2.out.below hb4
  have hc5 := HQ4.out.cells
  rw [hk] at hc5
  clear HQ2 hb4
  go_wp2
  go_ret
  exact ⟨rfl, HQ4.out.b⟩
 ·rw [hg] at CG0
  clear hg
  rw [e, show (bO a (⟨1, nb, a.vk, a.vn, a.vs, nb, nb, 0, 0, false, false, nb, nb, 0, 0, false, false⟩ : Lab) && ((n : Int) == 0) && false) = false by simp]
  clear e
  have RL : Hid _ := bA (a := a) (p := p) (n := n) (c := c) (w := w)
  have C := aZ (a := a) (p := p) (n := n) (c := c) (w := w)
  rw [hk] at C
  go_enter Tryz.func65, Tryz.ntmps65
  go_wp2_with (first
   | (refine aA rfl 28 _ rfl _ _ rfl RL.out ?_; clear RL)
   | (go_at_call 105; refine C.mono ?_; clear C; rintro e w1 ⟨wx, u0, rfl, RS, HQ⟩; have hcc := HQ.out.cells; rw [hk] at hcc; have RR : Hid _ := HQ.out.ldV; obtain ⟨u2, RS2, hq2⟩ := HQ.out.aCd a.vk a.vn a.vs; have HQ2 : Hid (RQ w a (.slice p n c) w1.heap.size (⟨1, nb, a.vk, a.vn, a.vs, nb, nb, 0, 0, false, false, nb, nb, 0, 0, false, false⟩ : Lab) (.slice none 0 0) u2) := hq2; clear hq2 HQ; have hc2 := HQ2.out.cells; rw [hk] at hc2; have RR2 : Hid _ := HQ2.out.ldV; have CG := CG0.out _ HQ2.out.b)
   | (refine aB rfl 28 _ _ rfl _ _ _ rfl rfl RS.out ?_; clear RS)
   | (refine aA rfl 23 _ rfl _ _ rfl RR.out ?_; clear RR)
   | (refine aB rfl 23 _ _ rfl _ _ _ rfl rfl RS2.out ?_; clear RS2)
   | (refine aA rfl 23 _ rfl _ _ rfl RR2.out ?_; clear RR2))
  go_at_call 106
  refine CG.mono ?_
  clear CG
  rintro e w4 ⟨rfl, hb4⟩
  have HQ4 : Hid _ := HQ2.out.below hb4
  have hc5 := HQ4.out.cells
  rw [hk] at hc5
  clear HQ2 hb4
  go_wp2
  go_ret
  exact ⟨rfl, HQ4.out.b⟩
 ·rw [hg] at CG0
  clear hg
  rw [e]
  clear e
  by_cases hn : n = 0
  ·have hni : ¬ (0 : Int) < n := by omega
   rw [show (bO a (⟨1, nb, a.vk, a.vn, a.vs, nb, nb, 0, 0, false, false, nb, nb, 0, 0, false, false⟩ : Lab) && ((n : Int) == 0) && true) = bO a (⟨1, nb, a.vk, a.vn, a.vs, nb, nb, 0, 0, false, false, nb, nb, 0, 0, false, false⟩ : Lab) by simp [hn]]
   clear hn
   have RL : Hid _ := bA (a := a) (p := p) (n := n) (c := c) (w := w)
   have C := aZ (a := a) (p := p) (n := n) (c := c) (w := w)
   rw [hk] at C
   go_enter Tryz.func65, Tryz.ntmps65
   go_wp2_with (first
    | (refine aA rfl 28 _ rfl _ _ rfl RL.out ?_; clear RL)
    | (go_at_call 105; refine C.mono ?_; clear C; rintro e w1 ⟨wx, u0, rfl, RS, HQ⟩; have hcc := HQ.out.cells; rw [hk] at hcc; have RR : Hid _ := HQ.out.ldV; obtain ⟨u2, RS2, hq2⟩ := HQ.out.aCd a.vk a.vn a.vs; have HQ2 : Hid (RQ w a (.slice p n c) w1.heap.size (⟨1, nb, a.vk, a.vn, a.vs, nb, nb, 0, 0, false, false, nb, nb, 0, 0, false, false⟩ : Lab) (.slice none 0 0) u2) := hq2; clear hq2 HQ; have hc2 := HQ2.out.cells; rw [hk] at hc2; have RR2 : Hid _ := HQ2.out.ldV; have CG := CG0.out _ HQ2.out.b)
    | (refine aB rfl 28 _ _ rfl _ _ _ rfl rfl RS.out ?_; clear RS)
    | (refine aA rfl 23 _ rfl _ _ rfl RR.out ?_; clear RR)
    | (refine aB rfl 23 _ _ rfl _ _ _ rfl rfl RS2.out ?_; clear RS2)
    | (refine aA rfl 23 _ rfl _ _ rfl RR2.out ?_; clear RR2)
    | (go_at_call 106; refine CG.mono ?_; clear CG; rintro e w4 ⟨rfl, hb4⟩; have HQ4 : Hid _ := HQ2.out.below hb4; have hc5 := HQ4.out.cells; rw [hk] at hc5; clear HQ2 hb4; obtain ⟨u3, RS3, hq3⟩ := HQ4.out.fK p n c; have HQ3 : Hid (RQ w a (.slice p n c) w1.heap.size (⟨1, nb, a.vk, a.vn, a.vs, nb, nb, 0, 0, false, false, nb, nb, 0, 0, false, false⟩ : Lab) (.slice p n c) u3) := hq3; have C9 := bQ hz hs HQ3.out; have RLN : Hid _ := HQ3.out.ldN; have RLW : Hid _ := HQ3.out.ldW; have HB3 : Hid _ := HQ3.out.b; have hc4 := HQ4.out.cells; rw [hk] at hc4; have hc3 := HQ3.out.cells; rw [hk] at hc3; clear hq3)
    | (refine aB rfl 26 _ _ rfl _ _ _ rfl rfl RS3.out ?_; clear RS3)
    | (refine aA rfl 28 _ rfl _ _ rfl RLN.out ?_; clear RLN)
    | (refine aA rfl 28 _ rfl _ _ rfl RLW.out ?_; clear RLW)
    | (go_at_call 13; refine C9.mono ?_; clear C9; rintro e w9 ⟨rfl, hb9⟩))
   go_ret
   exact ⟨rfl, hb9⟩
  ·have hni : (0 : Int) < n := by omega
   rw [show (bO a (⟨1, nb, a.vk, a.vn, a.vs, nb, nb, 0, 0, false, false, nb, nb, 0, 0, false, false⟩ : Lab) && ((n : Int) == 0) && true) = false by simp [hn]]
   clear hn
   have RL : Hid _ := bA (a := a) (p := p) (n := n) (c := c) (w := w)
   have C := aZ (a := a) (p := p) (n := n) (c := c) (w := w)
   rw [hk] at C
   go_enter Tryz.func65, Tryz.ntmps65
   go_wp2_with (first
    | (refine aA rfl 28 _ rfl _ _ rfl RL.out ?_; clear RL)
    | (go_at_call 105; refine C.mono ?_; clear C; rintro e w1 ⟨wx, u0, rfl, RS, HQ⟩; have hcc := HQ.out.cells; rw [hk] at hcc; have RR : Hid _ := HQ.out.ldV; obtain ⟨u2, RS2, hq2⟩ := HQ.out.aCd a.vk a.vn a.vs; have HQ2 : Hid (RQ w a (.slice p n c) w1.heap.size (⟨1, nb, a.vk, a.vn, a.vs, nb, nb, 0, 0, false, false, nb, nb, 0, 0, false, false⟩ : Lab) (.slice none 0 0) u2) := hq2; clear hq2 HQ; have hc2 := HQ2.out.cells; rw [hk] at hc2; have RR2 : Hid _ := HQ2.out.ldV; have CG := CG0.out _ HQ2.out.b)
    | (refine aB rfl 28 _ _ rfl _ _ _ rfl rfl RS.out ?_; clear RS)
    | (refine aA rfl 23 _ rfl _ _ rfl RR.out ?_; clear RR)
    | (refine aB rfl 23 _ _ rfl _ _ _ rfl rfl RS2.out ?_; clear RS2)
    | (refine aA rfl 23 _ rfl _ _ rfl RR2.out ?_; clear RR2)
    | (go_at_call 106; refine CG.mono ?_; clear CG; rintro e w4 ⟨rfl, hb4⟩; have HQ4 : Hid _ := HQ2.out.below hb4; have hc5 := HQ4.out.cells; rw [hk] at hc5; clear HQ2 hb4; obtain ⟨u3, RS3, hq3⟩ := HQ4.out.fK p n c; have HQ3 : Hid (RQ w a (.slice p n c) w1.heap.size (⟨1, nb, a.vk, a.vn, a.vs, nb, nb, 0, 0, false, false, nb, nb, 0, 0, false, false⟩ : Lab) (.slice p n c) u3) := hq3; have C9 := bQ hz hs HQ3.out; have RLN : Hid _ := HQ3.out.ldN; have RLW : Hid _ := HQ3.out.ldW; have HB3 : Hid _ := HQ3.out.b; have hc4 := HQ4.out.cells; rw [hk] at hc4; have hc3 := HQ3.out.cells; rw [hk] at hc3; clear hq3)
    | (refine aB rfl 26 _ _ rfl _ _ _ rfl rfl RS3.out ?_; clear RS3))
   go_ret
   exact ⟨rfl, HB3.out⟩
 ·rw [hg] at CG0
  clear hg
  rw [e, show (bO a (⟨1, nb, a.vk, a.vn, a.vs, nb, nb, 0, 0, false, false, nb, nb, 0, 0, false, false⟩ : Lab) && ((n : Int) == 0) && false) = false by simp]
  clear e
  have RL : Hid _ := bA (a := a) (p := p) (n := n) (c := c) (w := w)
  have C := aZ (a := a) (p := p) (n := n) (c := c) (w := w)
  rw [hk] at C
  go_enter Tryz.func65, Tryz.ntmps65
  go_wp2_with (first
   | (refine aA rfl 28 _ rfl _ _ rfl RL.out ?_; clear RL)
   | (go_at_call 105; refine C.mono ?_; clear C; rintro e w1 ⟨wx, u0, rfl, RS, HQ⟩; have hcc := HQ.out.cells; rw [hk] at hcc; have RR : Hid _ := HQ.out.ldV; obtain ⟨u2, RS2, hq2⟩ := HQ.out.aCd a.vk a.vn a.vs; have HQ2 : Hid (RQ w a (.slice p n c) w1.heap.size (⟨1, nb, a.vk, a.vn, a.vs, nb, nb, 0, 0, false, false, nb, nb, 0, 0, false, false⟩ : Lab) (.slice none 0 0) u2) := hq2; clear hq2 HQ; have hc2 := HQ2.out.cells; rw [hk] at hc2; have RR2 : Hid _ := HQ2.out.ldV; have CG := CG0.out _ HQ2.out.b)
   | (refine aB rfl 28 _ _ rfl _ _ _ rfl rfl RS.out ?_; clear RS)
   | (refine aA rfl 23 _ rfl _ _ rfl RR.out ?_; clear RR)
   | (refine aB rfl 23 _ _ rfl _ _ _ rfl rfl RS2.out ?_; clear RS2)
   | (refine aA rfl 23 _ rfl _ _ rfl RR2.out ?_; clear RR2)
   | (go_at_call 106; refine CG.mono ?_; clear CG; rintro e w4 ⟨rfl, hb4⟩; have HQ4 : Hid _ := HQ2.out.below hb4; have hc5 := HQ4.out.cells; rw [hk] at hc5; clear HQ2 hb4))
  go_ret
  exact ⟨rfl, HQ4.out.b⟩
 ·rw [hg] at CG0
  clear hg
  rw [e]
  clear e
  by_cases hn : n = 0
  ·have hni : ¬ (0 : Int) < n := by omega
   rw [show (bO a (⟨1, nb, a.vk, a.vn, a.vs, nb, nb, 0, 0, false, false, nb, nb, 0, 0, false, false⟩ : Lab) && ((n : Int) == 0) && true) = bO a (⟨1, nb, a.vk, a.vn, a.vs, nb, nb, 0, 0, false, false, nb, nb, 0, 0, false, false⟩ : Lab) by simp [hn]]
   clear hn
   have RL : Hid _ := bA (a := a) (p := p) (n := n) (c := c) (w := w)
   have C := aZ (a := a) (p := p) (n := n) (c := c) (w := w)
   rw [hk] at C
   go_enter Tryz.func65, Tryz.ntmps65
   go_wp2_with (first
    | (refine aA rfl 28 _ rfl _ _ rfl RL.out ?_; clear RL)
    | (go_at_call 105; refine C.mono ?_; clear C; rintro e w1 ⟨wx, u0, rfl, RS, HQ⟩; have hcc := HQ.out.cells; rw [hk] at hcc; have RR : Hid _ := HQ.out.ldV; obtain ⟨u2, RS2, hq2⟩ := HQ.out.aCd a.vk a.vn a.vs; have HQ2 : Hid (RQ w a (.slice p n c) w1.heap.size (⟨1, nb, a.vk, a.vn, a.vs, nb, nb, 0, 0, false, false, nb, nb, 0, 0, false, false⟩ : Lab) (.slice none 0 0) u2) := hq2; clear hq2 HQ; have hc2 := HQ2.out.cells; rw [hk] at hc2; have RR2 : Hid _ := HQ2.out.ldV; have CG := CG0.out _ HQ2.out.b)
    | (refine aB rfl 28 _ _ rfl _ _ _ rfl rfl RS.out ?_; clear RS)
    | (refine aA rfl 23 _ rfl _ _ rfl RR.out ?_; clear RR)
    | (refine aB rfl 23 _ _ rfl _ _ _ rfl rfl RS2.out ?_; clear RS2)
    | (refine aA rfl 23 _ rfl _ _ rfl RR2.out ?_; clear RR2)
    | (go_at_call 106; refine CG.mono ?_; clear CG; rintro e w4 ⟨rfl, hb4⟩; have HQ4 : Hid _ := HQ2.out.below hb4; have hc5 := HQ4.out.cells; rw [hk] at hc5; clear HQ2 hb4; obtain ⟨u3, RS3, hq3⟩ := HQ4.out.fK p n c; have HQ3 : Hid (RQ w a (.slice p n c) w1.heap.size (⟨1, nb, a.vk, a.vn, a.vs, nb, nb, 0, 0, false, false, nb, nb, 0, 0, false, false⟩ : Lab) (.slice p n c) u3) := hq3; have C9 := bQ hz hs HQ3.out; have RLN : Hid _ := HQ3.out.ldN; have RLW : Hid _ := HQ3.out.ldW; have HB3 : Hid _ := HQ3.out.b; have hc4 := HQ4.out.cells; rw [hk] at hc4; have hc3 := HQ3.out.cells; rw [hk] at hc3; clear hq3)
    | (refine aB rfl 26 _ _ rfl _ _ _ rfl rfl RS3.out ?_; clear RS3)
    | (refine aA rfl 28 _ rfl _ _ rfl RLN.out ?_; clear RLN)
    | (refine aA rfl 28 _ rfl _ _ rfl RLW.out ?_; clear RLW)
    | (go_at_call 13; refine C9.mono ?_; clear C9; rintro e w9 ⟨rfl, hb9⟩))
   go_ret
   exact ⟨rfl, hb9⟩
  ·have hni : (0 : Int) < n := by omega
   rw [show (bO a (⟨1, nb, a.vk, a.vn, a.vs, nb, nb, 0, 0, false, false, nb, nb, 0, 0, false, false⟩ : Lab) && ((n : Int) == 0) && true) = false by simp [hn]]
   clear hn
   have RL : Hid _ := bA (a := a) (p := p) (n := n) (c := c) (w := w)
   have C := aZ (a := a) (p := p) (n := n) (c := c) (w := w)
   rw [hk] at C
   go_enter Tryz.func65, Tryz.ntmps65
   go_wp2_with (first
    | (refine aA rfl 28 _ rfl _ _ rfl RL.out ?_; clear RL)
    | (go_at_call 105; refine C.mono ?_; clear C; rintro e w1 ⟨wx, u0, rfl, RS, HQ⟩; have hcc := HQ.out.cells; rw [hk] at hcc; have RR : Hid _ := HQ.out.ldV; obtain ⟨u2, RS2, hq2⟩ := HQ.out.aCd a.vk a.vn a.vs; have HQ2 : Hid (RQ w a (.slice p n c) w1.heap.size (⟨1, nb, a.vk, a.vn, a.vs, nb, nb, 0, 0, false, false, nb, nb, 0, 0, false, false⟩ : Lab) (.slice none 0 0) u2) := hq2; clear hq2 HQ; have hc2 := HQ2.out.cells; rw [hk] at hc2; have RR2 : Hid _ := HQ2.out.ldV; have CG := CG0.out _ HQ2.out.b)
    | (refine aB rfl 28 _ _ rfl _ _ _ rfl rfl RS.out ?_; clear RS)
    | (refine aA rfl 23 _ rfl _ _ rfl RR.out ?_; clear RR)
    | (refine aB rfl 23 _ _ rfl _ _ _ rfl rfl RS2.out ?_; clear RS2)
    | (refine aA rfl 23 _ rfl _ _ rfl RR2.out ?_; clear RR2)
    | (go_at_call 106; refine CG.mono ?_; clear CG; rintro e w4 ⟨rfl, hb4⟩; have HQ4 : Hid _ := HQ2.out.below hb4; have hc5 := HQ4.out.cells; rw [hk] at hc5; clear HQ2 hb4; obtain ⟨u3, RS3, hq3⟩ := HQ4.out.fK p n c; have HQ3 : Hid (RQ w a (.slice p n c) w1.heap.size (⟨1, nb, a.vk, a.vn, a.vs, nb, nb, 0, 0, false, false, nb, nb, 0, 0, false, false⟩ : Lab) (.slice p n c) u3) := hq3; have C9 := bQ hz hs HQ3.out; have RLN : Hid _ := HQ3.out.ldN; have RLW : Hid _ := HQ3.out.ldW; have HB3 : Hid _ := HQ3.out.b; have hc4 := HQ4.out.cells; rw [hk] at hc4; have hc3 := HQ3.out.cells; rw [hk] at hc3; clear hq3)
    | (refine aB rfl 26 _ _ rfl _ _ _ rfl rfl RS3.out ?_; clear RS3))
   go_ret
   exact ⟨rfl, HB3.out⟩
end
end Go.Proofs.YtljmklbbngpllaaGreatDoor
