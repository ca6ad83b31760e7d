/- RwMath3. -/
import Derived.Test.YtljmklbbngpllaaGreatDoorRwFallsBk
set_option linter.unusedVariables false
set_option linter.unusedSimpArgs false
set_option maxHeartbeats 16000000
set_option maxRecDepth 100000
namespace Go.Proofs.YtljmklbbngpllaaGreatDoor.Rw
open Go.RowKit Go.Fm
def neg (C : Chg) : Chg := ⟨C.bk, C.sh, C.dr, C.co, C.a, -C.n, C.m⟩
theorem aAQ {a n m : Int} (h : Hs.bB a n m = true) : Hs.bB a (-n) m = true := by
 have := Hs.qN h
 exact Hs.dF.2 (by omega)
theorem aG1 {a n m p : Int} (hn : 1 ≤ n) (hp : 1 ≤ p) : Hs.mvB a n p = true ∧ Hs.mvF a n p = (if p < a then p else p + n) := by
 unfold Hs.mvB Hs.mvF Hs.nxF
 rw [if_neg (by omega : ¬ n < 0)]
 refine ⟨by simp, ?_⟩
 by_cases h : p < a <;> simp [h]
theorem aG2 {a n p : Int} (hn : 1 ≤ n) : Hs.mvB a (-n) (if p < a then p else p + n) = true ∧ Hs.mvF a (-n) (if p < a then p else p + n) = p := by
 unfold Hs.mvB Hs.mvF Hs.nxF
 rw [if_pos (by omega : -n < 0)]
 by_cases h : p < a
 ·rw [if_pos h]
  exact ⟨by simp [h], by rw [if_pos h]⟩
 ·rw [if_neg h]
  refine ⟨by simp; omega, ?_⟩
  rw [if_neg (by omega), if_neg (by omega)]
  omega
theorem aG3 {a n m p : Int} (hg : Hs.bB a n m = true) (hn : 1 ≤ n) (hp : 1 ≤ p) (hf : p + n ≤ m) : Hs.posB a n m p = true ∧ Hs.posB a (-n) m (Hs.iB a n m p) = true ∧ Hs.iB a (-n) m (Hs.iB a n m p) = p := by
 obtain ⟨u1, u2⟩ := aG1 (a := a) (m := m) hn hp
 obtain ⟨d1, d2⟩ := aG2 (a := a) (p := p) hn
 have hg2 := aAQ hg
 have hle : (if p < a then p else p + n) ≤ m := by split <;> omega
 have hge : 1 ≤ (if p < a then p else p + n) := by split <;> omega
 have h1 : Hs.posB a n m p = true := by
  unfold Hs.posB
  rw [hg, u1, u2]
  simp [hle]
  omega
 have h2 : Hs.iB a n m p = (if p < a then p else p + n) := by unfold Hs.iB; rw [if_pos h1, u2]
 rw [h2]
 have h3 : Hs.posB a (-n) m (if p < a then p else p + n) = true := by
  unfold Hs.posB
  rw [hg2, d1, d2]
  simp [hle, hge]
  omega
 exact ⟨h1, h3, by unfold Hs.iB; rw [if_pos h3, d2]⟩
theorem aI6 {a n m l h : Int} (hg : Hs.bB a n m = true) (hn : 1 ≤ n) (hl : 1 ≤ l) (hlh : l ≤ h) (hf : h + n ≤ m) :
  Hs.spB a n m l h = true ∧ Hs.spL a n m l h ≤ Hs.spH a n m l h ∧ Hs.spB a (-n) m (Hs.spL a n m l h) (Hs.spH a n m l h) = true ∧ Hs.spL a (-n) m (Hs.spL a n m l h) (Hs.spH a n m l h) = l ∧ Hs.spH a (-n) m (Hs.spL a n m l h) (Hs.spH a n m l h) = h := by
 obtain ⟨u1, u2⟩ := aG1 (a := a) (m := m) hn hl
 obtain ⟨u3, u4⟩ := aG1 (a := a) (m := m) hn (by omega : 1 ≤ h)
 obtain ⟨d1, d2⟩ := aG2 (a := a) (p := l) hn
 obtain ⟨d3, d4⟩ := aG2 (a := a) (p := h) hn
 have hg2 := aAQ hg
 have i1 : (if l < a then l else l + n) ≤ (if h < a then h else h + n) := by
  repeat' split
  all_goals omega
 have i2 : (if h < a then h else h + n) ≤ m := by split <;> omega
 have i3 : 1 ≤ (if l < a then l else l + n) := by split <;> omega
 have el : Hs.loF a n l = (if l < a then l else l + n) := by unfold Hs.loF; rw [u2]
 have eh : Hs.hiF a n m h = (if h < a then h else h + n) := by
  unfold Hs.hiF
  rw [u3, u4]
  simp only [if_true]
  exact Int.min_eq_left i2
 have h1 : Hs.spB a n m l h = true := by
  unfold Hs.spB
  rw [hg, el, eh]
  simp [i1]
  omega
 obtain ⟨e1, e2⟩ := Hs.aCS h1
 rw [e1, e2, el, eh]
 have el2 : Hs.loF a (-n) (if l < a then l else l + n) = l := by unfold Hs.loF; rw [d2]
 have eh2 : Hs.hiF a (-n) m (if h < a then h else h + n) = h := by
  unfold Hs.hiF
  rw [d3, d4]
  simp only [if_true]
  exact Int.min_eq_left (by omega)
 have h2 : Hs.spB a (-n) m (if l < a then l else l + n) (if h < a then h else h + n) = true := by
  unfold Hs.spB
  rw [hg2, el2, eh2]
  simp [i1, i2, i3, hlh]
  omega
 obtain ⟨f1, f2⟩ := Hs.aCS h2
 exact ⟨h1, i1, h2, by rw [f1, el2], by rw [f2, eh2]⟩
theorem aCg (C : Chg) (x : Rf) (v : Int) : ln C (bH C x v) = v := by unfold ln bH; split <;> rfl
theorem set_set (C : Chg) (x : Rf) (v v' : Int) : bH C (bH C x v) v' = bH C x v' := by unfold bH; split <;> rfl
theorem aCh (C : Chg) (x : Rf) : bH C x (ln C x) = x := by unfold bH ln; split <;> rfl
theorem aC1 (C : Chg) (H : Hm) (x : Rf) (v : Int) : ofR C H (bH C x v) = ofR C H x := by unfold ofR bH; split <;> rfl
theorem aJo {x y : Rf} (h1 : x.r ≤ y.r) (h2 : x.c ≤ y.c) : lo x y = x ∧ hi x y = y := by
 unfold lo hi c1 c2 o1 o2
 rw [if_neg (by omega : ¬ y.r < x.r), if_neg (by omega : ¬ y.r < x.r)]
 rw [if_neg (by omega : ¬ y.c < x.c), if_neg (by omega : ¬ y.c < x.c)]
 exact ⟨rfl, rfl⟩
section
variable {C : Chg} {H : Hm}
theorem aAR {l : Lab} {k : Nat} (hd : C.dr = false) (hg : Hs.bB C.a C.n C.m = true) (hn1 : 1 ≤ C.n) (h : okL l k = true) (hn : nm C H l = true) (hf : flL C.co C.n C.m l = false) : nm (neg C) H (rwL C l) = true ∧ rwL (neg C) (rwL C l) = l := by
 have hnr : ofR C H (top l) = true := by
  unfold nm at hn
  simp only [Bool.and_eq_true] at hn
  exact hn.2
 rcases aKM hn with hk | hk
 ·obtain ⟨e, _, hgd⟩ := aBM hk h
  have hi := iE hgd
  have hln : ln C (top l) = if C.co = true then l.c1 else l.r1 := rfl
  have hp : 1 ≤ ln C (top l) := by rw [hln]; split <;> omega
  have hfl : ln C (top l) + C.n ≤ C.m := by
   unfold flL at hf
   simp only [Bool.or_eq_false_iff, Bool.and_eq_false_iff] at hf
   have := hf.1
   rw [hk] at this
   simp at this
   rw [hln]; exact this
  obtain ⟨b1, b2, b3⟩ := aG3 hg hn1 hp hfl
  have e1 : rwL C l = jH (bH C (top l) (Hs.iB C.a C.n C.m (ln C (top l)))) := by
   unfold rwL rfL mvB mvX
   rw [if_pos hk, hd, b1]
   rfl
  rw [e1]
  refine ⟨?_, ?_⟩
  ·show (kd 2 && ofR C H (bH C (top l) _)) = true
   rw [aC1, hnr]; rfl
  ·show rfL (neg C) (bH C (top l) (Hs.iB C.a C.n C.m (ln C (top l)))) = l
   unfold rfL mvB mvX
   have q : ln (neg C) (bH C (top l) (Hs.iB C.a C.n C.m (ln C (top l)))) = Hs.iB C.a C.n C.m (ln C (top l)) := aCg C _ _
   rw [q]
   show (if (!C.dr && Hs.posB C.a (-C.n) C.m _) = true then jH (if C.dr = true then z0 else bH C (bH C (top l) _) (Hs.iB C.a (-C.n) C.m _)) else gone) = l
   rw [hd, b2, b3, set_set, aCh]
   exact e.symm
 ·obtain ⟨e, _, hp⟩ := aBN hk h
  obtain ⟨g1, g2, g3⟩ := aCT.1 hp
  have i1 := iE g1
  have i2 := iE g2
  unfold flL at hf
  simp only [Bool.or_eq_false_iff, Bool.and_eq_false_iff] at hf
  have hf3 := hf.2
  rw [hk] at hf3
  simp at hf3
  obtain ⟨⟨o1', o2'⟩, o3'⟩ := hf3
  have hid := aJo (x := top l) (y := tof l) o1' o2'
  have l1 : ln C (top l) = if C.co = true then l.c1 else l.r1 := rfl
  have l2 : ln C (tof l) = if C.co = true then l.c2 else l.r2 := rfl
  have hp1 : 1 ≤ ln C (top l) := by rw [l1]; split <;> omega
  have hle : ln C (top l) ≤ ln C (tof l) := by rw [l1, l2]; split <;> omega
  have hfl : ln C (tof l) + C.n ≤ C.m := by rw [l2]; exact o3'
  obtain ⟨b1, b0, b2, b3, b4⟩ := aI6 hg hn1 hp1 hle hfl
  have e1 : rwL C l = dZ (bH C (top l) (Hs.spL C.a C.n C.m (ln C (top l)) (ln C (tof l)))) (bH C (tof l) (Hs.spH C.a C.n C.m (ln C (top l)) (ln C (tof l)))) := by
   unfold rwL arL
   rw [if_neg (by omega), hid.1, hid.2]
   unfold arB arX arY
   rw [hd, b1]
   rfl
  rw [e1]
  generalize hL : Hs.spL C.a C.n C.m (ln C (top l)) (ln C (tof l)) = L at *
  generalize hU : Hs.spH C.a C.n C.m (ln C (top l)) (ln C (tof l)) = U at *
  refine ⟨?_, ?_⟩
  ·show (kd 3 && ofR C H (bH C (top l) L)) = true
   rw [aC1, hnr]; rfl
  ·show arL (neg C) (bH C (top l) L) (bH C (tof l) U) = l
   have aK8 : lo (bH C (top l) L) (bH C (tof l) U) = bH C (top l) L ∧ hi (bH C (top l) L) (bH C (tof l) U) = bH C (tof l) U := by
    refine aJo ?_ ?_
    ·unfold bH; split
     ·exact o1'
     ·exact b0
    ·unfold bH; split
     ·exact b0
     ·exact o2'
   unfold arL
   rw [aK8.1, aK8.2]
   unfold arB arX arY
   have q1 : ln (neg C) (bH C (top l) L) = L := aCg C _ _
   have q2 : ln (neg C) (bH C (tof l) U) = U := aCg C _ _
   rw [q1, q2]
   show (if (!C.dr && Hs.spB C.a (-C.n) C.m L U) = true then dZ (if C.dr = true then z0 else bH C (bH C (top l) L) (Hs.spL C.a (-C.n) C.m L U)) (if C.dr = true then z0 else bH C (bH C (tof l) U) (Hs.spH C.a (-C.n) C.m L U)) else gone) = l
   rw [hd, b2, b3, b4, set_set, set_set, aCh, aCh]
   exact e.symm
theorem aG4 (l : Lab) : nm (neg C) H l = nm C H l := rfl
theorem aI7 (hd : C.dr = false) (hg : Hs.bB C.a C.n C.m = true) (hn1 : 1 ≤ C.n) : ∀ (f : F) (d : Nat), gw okL d f = true → (∀ x ∈ pre f, flL C.co C.n C.m x.1 = false) → same (rwF (neg C) H (rwF C H f)) f := by
 intro f
 induction f with
 | nil => intro d _ _; trivial
 | node b o l f r ihf ihr =>
  intro d h hx
  simp only [gw, Bool.and_eq_true] at h
  obtain ⟨⟨⟨h0, h1⟩, h2⟩, h3⟩ := h
  have x0 := hx (l, f) (by simp [pre])
  have xf := ihf _ h2 fun y hy => hx y (by simp [pre, hy])
  have xr := ihr _ h3 fun y hy => hx y (by simp [pre, hy])
  cases hn : nm C H l
  ·have e : rwF C H (.node b o l f r) = .node 0 0 l (rwF C H f) (rwF C H r) := by
    conv => lhs; unfold rwF
    rw [hn]; rfl
   rw [e]
   unfold rwF
   rw [aG4, hn]
   exact ⟨rfl, xf, xr⟩
  ·have hf := aCP h1 hn
   subst hf
   obtain ⟨n1, n2⟩ := aAR hd hg hn1 h1 hn x0
   have e : rwF C H (.node b o l .nil r) = .node 0 0 (rwL C l) .nil (rwF C H r) := by
    conv => lhs; unfold rwF
    rw [hn]; rfl
   rw [e]
   unfold rwF
   rw [n1, n2]
   exact ⟨rfl, trivial, xr⟩
theorem aG5 (hd : C.dr = false) (hg : Hs.bB C.a C.n C.m = true) (hn1 : 1 ≤ C.n) {t : T} {d : Nat} (h : gT okL d t = true) (hx : (dA t).any (fun x => flL C.co C.n C.m x.1) = false) : sT (rwT (neg C) H (rwT C H t)) t = true := by
 have hx' : ∀ x ∈ dA t, flL C.co C.n C.m x.1 = false := fun x hm => by
  have := List.any_eq_false.1 hx x hm
  simpa using this
 unfold gT at h
 simp only [Bool.and_eq_true] at h
 obtain ⟨⟨h0, h1⟩, h2⟩ := h
 rw [aBI]
 cases hn : nm C H t.1
 ·have e : rwT C H t = (t.1, rwF C H t.2) := by unfold rwT; rw [hn]; rfl
  rw [e]
  unfold rwT
  rw [aG4, hn]
  exact ⟨rfl, aI7 hd hg hn1 t.2 _ h2 fun y hy => hx' y (by simp [dA, hy])⟩
 ·have hf := aCP h1 hn
  obtain ⟨n1, n2⟩ := aAR hd hg hn1 h1 hn (hx' t (by simp [dA]))
  have e : rwT C H t = (rwL C t.1, .nil) := by unfold rwT; rw [hn]; rfl
  rw [e]
  unfold rwT
  rw [n1, n2]
  refine ⟨rfl, ?_⟩
  show same .nil t.2
  rw [hf]; trivial
theorem aG6 {l : Lab} {n : Nat} (h : okL l n = true) : Bd l := by
 intro hk
 rcases hk with hk | hk
 ·obtain ⟨e, _, hgd⟩ := aBM hk h
  have hi := iE hgd
  have z2 : l.r2 = 0 := by rw [e]; rfl
  have z3 : l.c2 = 0 := by rw [e]; rfl
  omega
 ·obtain ⟨_, _, hp⟩ := aBN hk h
  obtain ⟨g1, g2, _⟩ := aCT.1 hp
  have i1 := iE g1
  have i2 := iE g2
  omega
theorem aK9 : ∀ (f : F) (d : Nat), gw okL d f = true → ∀ x ∈ pre f, Bd x.1 := by
 intro f
 induction f with
 | nil => intro d _ x hx; cases hx
 | node b o l f r ihf ihr =>
  intro d h x hx
  simp only [gw, Bool.and_eq_true] at h
  obtain ⟨⟨⟨h0, h1⟩, h2⟩, h3⟩ := h
  simp only [pre, List.mem_cons, List.mem_append] at hx
  rcases hx with rfl | hx | hx
  ·exact aG6 h1
  ·exact ihf _ h2 x hx
  ·exact ihr _ h3 x hx
theorem aJp {t : T} {d : Nat} (h : gT okL d t = true) : ∀ x ∈ dA t, Bd x.1 := by
 unfold gT at h
 simp only [Bool.and_eq_true] at h
 intro x hx
 simp only [dA, List.mem_cons] at hx
 rcases hx with rfl | hx
 ·exact aG6 h.1.2
 ·exact aK9 t.2 _ h.2 x hx
end
end Go.Proofs.YtljmklbbngpllaaGreatDoor.Rw
