/- AGood, ARName, AGoodR, APrint. -/
import Derived.Test.YtljmklbbngpllaaGreatDoorANameBk
set_option linter.unusedVariables false
set_option linter.unusedSimpArgs false
set_option maxHeartbeats 16000000
set_option maxRecDepth 100000
namespace Go.Proofs.YtljmklbbngpllaaGreatDoor
open Go.RowKit
theorem nS {l : List UInt8} (h : spF l = true) : l.length ≤ 16 ∧ kH l = true ∧ l.all okC = true := by
 unfold spF at h
 simp only [Bool.and_eq_true, decide_eq_true_eq] at h
 exact ⟨h.1.1, h.1.2, h.2⟩
theorem oQ {c : UInt8} (h : Ad.isL c = true) : c ≠ 39 ∧ c ≠ 45 ∧ c ≠ 46 ∧ isD c = false := by
 unfold Ad.isL at h
 simp only [Bool.or_eq_true, Bool.and_eq_true, decide_eq_true_eq] at h
 refine ⟨?_, ?_, ?_, ?_⟩
 ·rintro rfl; revert h; decide
 ·rintro rfl; revert h; decide
 ·rintro rfl; revert h; decide
 ·unfold isD; rw [Bool.and_eq_false_iff, decide_eq_false_iff_not, decide_eq_false_iff_not]; omega
theorem nU {l : List UInt8} (h : kH l = true) : (dG l).2 = false := by
 cases l with
 | nil => cases h
 | cons c r =>
  obtain ⟨_, h2, h3, h4⟩ := oQ h
  have e1 : dash (c :: r) = false := by unfold dash; simpa using h2
  have e2 : body (c :: r) = c :: r := by unfold body; rw [e1]; rfl
  have e3 : kP (c :: r) = c :: kP r := by unfold kP; rw [List.takeWhile_cons, if_pos (by simpa using h3)]
  unfold dG
  rw [e2, e3]
  have e4 : kN (c :: kP r) 1 12 = false := by unfold kN; rw [List.all_cons, h4]; rfl
  rw [if_neg (by rw [e4]; simp)]
theorem rM {s : ByteArray} (h : kH s.data.toList = true) : ((bM s).1 == 3) = (gY s).2 := by
 have hp := nU h
 have h0 : ¬ s.toList = [] := by
  rw [ByteArray.toList_eq]
  intro e
  rw [e] at h
  cases h
 have h1 : ¬ s.data.toList.head? = some 39 := by
  intro e
  cases hl : s.data.toList with
  | nil => rw [hl] at h; cases h
  | cons c r =>
   rw [hl] at h e
   simp only [List.head?_cons, Option.some.injEq] at e
   exact (oQ h).1 e
 unfold bM
 rw [if_neg h0, if_neg h1, if_neg (by rw [hp]; decide)]
 cases ht : (gY s).2
 ·rw [if_neg (by decide)]
  split <;> rfl
 ·rw [if_pos rfl]
  rfl
theorem wK (W : World) (k n : Int) (x : ByteArray) : (Instr.field 23 (.agg #[.int .i64 k, .int .i64 n, .string x]) 0).run Tryz.prog W = .ok (.int .i64 k) W := by kernel_rfl
theorem uH (s : ByteArray) (hs : s.size ≤ 9223372036854775807) (w : World) (T : eY w) :
  Calls Tryz.prog 199 #[.string s] w fun e w' => e = .returned (.bool ((bM s).1 == 3)) ∧ Below w.heap.size w w' := by
 have Y := lK s hs w T
 generalize (bM s).1 = k at *
 generalize (bM s).2.1 = n at *
 generalize (bM s).2.2 = x at *
 have FL := fun W => wK W k n x
 go_enter Tryz.func199, Tryz.ntmps199
 go_wp2_with (go_at_call 200; refine Y.mono ?_; rintro e w1 ⟨rfl, hb⟩; have HB : Hid (Below w.heap.size w w1) := hb; clear hb)
 go_ret
 exact ⟨rfl, HB.out⟩
theorem aFc (s : ByteArray) : (spF s.data.toList = false ∧ gnF s.data.toList = false) ∨ (spF s.data.toList = true ∧ 0 < s.size ∧ ((lcF s.data.toList = true ∧ gnF s.data.toList = false) ∨ (lcF s.data.toList = false ∧ gnF s.data.toList = !((bM s).1 == 3)))) := by
 unfold gnF
 rw [lH]
 cases h : spF s.data.toList
 ·left; exact ⟨rfl, rfl⟩
 ·right
  obtain ⟨h1, h2, h3⟩ := nS h
  refine ⟨rfl, ?_, ?_⟩
  ·rw [← bY]
   cases hl : s.data.toList with
   | nil => rw [hl] at h2; cases h2
   | cons a r => simp
  ·cases hc : lcF s.data.toList
   ·right; rw [rM h2]; exact ⟨rfl, rfl⟩
   ·left; exact ⟨rfl, rfl⟩
theorem cK (s : ByteArray) (hs : s.size ≤ 9223372036854775807) (w : World) (T : eY w) :
  Calls Tryz.prog 154 #[.string s] w fun e w' => e = .returned (.bool (gnF s.data.toList)) ∧ Below w.heap.size w w' := by
 have SP := zQ s hs w
 rcases aFc s with ⟨h1, h2⟩ | ⟨h1, hz, ⟨h3, h2⟩ | ⟨h3, h2⟩⟩
 ·rw [h1] at SP
  rw [h2]
  go_enter Tryz.func154, Tryz.ntmps154
  go_wp2_with (go_at_call 197; refine SP.mono ?_; rintro e w1 ⟨rfl, hb⟩; have HB : Hid (Below w.heap.size w w1) := hb; clear hb)
  go_ret
  exact ⟨rfl, HB.out⟩
 ·rw [h1] at SP
  rw [h2]
  have LC := fun u => nR s hz hs u
  rw [h3] at LC
  go_enter Tryz.func154, Tryz.ntmps154
  go_wp2_with (first | (go_at_call 197; refine SP.mono ?_; rintro e w1 ⟨rfl, hb⟩; have HB : Hid (Below w.heap.size w w1) := hb; clear hb) | (go_at_call 198; refine (LC _).mono ?_; rintro e w2 ⟨rfl, hb⟩; have HB2 : Hid (Below w.heap.size w w2) := aJ HB.out hb; clear hb))
  go_ret
  exact ⟨rfl, HB2.out⟩
 ·rw [h1] at SP
  rw [h2]
  have LC := fun u => nR s hz hs u
  have LT := fun u hu => uH s hs u hu
  rw [h3] at LC
  generalize ((bM s).1 == 3) = k at *
  go_enter Tryz.func154, Tryz.ntmps154
  go_wp2_with (first | (go_at_call 197; refine SP.mono ?_; rintro e w1 ⟨rfl, hb⟩; have HB : Hid (Below w.heap.size w w1) := hb; clear hb) | (go_at_call 198; refine (LC _).mono ?_; rintro e w2 ⟨rfl, hb⟩; have HB2 : Hid (Below w.heap.size w w2) := aJ HB.out hb; clear hb) | (go_at_call 199; refine (LT _ (T.below HB2.out)).mono ?_; rintro e w3 ⟨rfl, hb⟩; have HB3 : Hid (Below w.heap.size w w3) := aJ HB2.out hb; clear hb))
  go_ret
  exact ⟨rfl, HB3.out⟩
theorem zR : Ad.Names gnF := fun l h => by
 unfold gnF at h
 simp only [Bool.and_eq_true] at h
 obtain ⟨_, h2, h3⟩ := nS h.1.1
 refine ⟨fun e => ?_, fun x hx => ?_⟩
 ·rw [e] at h2; cases h2
 ·have hk := List.all_eq_true.1 h3 x hx
  refine ⟨?_, ?_, ?_⟩ <;> (rintro rfl; revert hk; decide)
theorem aFd (s : ByteArray) : ((gY s).2 = true ∧ 0 ≤ nP (szF 97 65 s.data.toList)) ∨ ((gY s).2 = false ∧ nP (szF 97 65 s.data.toList) < 0) := by
 rcases aBa s with ⟨a, _, c⟩ | ⟨a, _, c⟩ | ⟨a, c⟩
 ·left; rw [c]; exact ⟨a, by decide⟩
 ·left; rw [c]; exact ⟨a, by decide⟩
 ·right; rw [c]; exact ⟨a, by decide⟩
def oth (s : ByteArray) (k : Nat) : Bool := decide (s.size = 1) || !((s.data.toList.take k).drop 1).all Ad.isD
theorem aHk (s : ByteArray) : oth s 1 = decide (s.size = 1) := by
 unfold oth
 have : (s.data.toList.take 1).drop 1 = [] := by cases s.data.toList <;> simp
 rw [this]
 simp
theorem aFe (s : ByteArray) (k : Nat) (h1 : 1 ≤ k) (h : k < s.size) : oth s (k + 1) = (oth s k || !Ad.isD s[k]) := by
 unfold oth
 have hl := bY s
 rw [oN _ _ (by omega), List.drop_append_of_le_length (by simp; omega), List.all_append, ← byte_at s k h (by omega)]
 simp only [List.all_cons, List.all_nil, Bool.and_true, Bool.not_and, Bool.or_assoc]
theorem aHl (s : ByteArray) (h : 0 < s.size) : oth s s.size = !lcF s.data.toList := by
 unfold oth lcF
 have hl := bY s
 rw [List.take_of_length_le (by omega), hl]
 by_cases e : s.size = 1
 ·simp [e]
 ·have : 1 < s.size := by omega
  simp [e, this]
theorem fE (s : ByteArray) (hs : s.size ≤ 9223372036854775807) (w : World) :
  Calls Tryz.prog 108 #[.string s] w fun e w' => e = .returned (.bool (gnF s.data.toList)) ∧ Below w.heap.size w w' := by
 have hl := bY s
 generalize hr : gnF s.data.toList = r
 have HR : Hid (gnF s.data.toList = r) := hr
 clear hr
 have HN : Hid (spF s.data.toList = false → r = false) := fun h => by
  rw [← HR.out]; unfold gnF; rw [h]; rfl
 by_cases h0 : s.size = 0
 ·have h1 : (s.size : Int) < 1 := by omega
  have HE : Hid (r = false) := by
   apply HN.out
   have : s.data.toList = [] := List.eq_nil_of_length_eq_zero (by omega)
   rw [this]
   rfl
  go_enter Tryz.func108, Tryz.ntmps108
  go_wp2
  go_ret
  exact ⟨by rw [HE.out]; rfl, Below.refl _ _⟩
 have h1 : ¬ (s.size : Int) < 1 := by omega
 by_cases h16 : 16 < s.size
 ·have h2 : (16 : Int) < s.size := by omega
  have HE : Hid (r = false) := by
   apply HN.out
   unfold spF
   rw [decide_eq_false (show ¬ s.data.toList.length ≤ 16 by omega)]
   rfl
  go_enter Tryz.func108, Tryz.ntmps108
  go_wp2
  go_ret
  exact ⟨by rw [HE.out]; rfl, Below.refl _ _⟩
 have h2 : ¬ (16 : Int) < s.size := by omega
 have hz : 0 < s.size := by omega
 have L0 := fun u => pU s[0] u
 have hh := aCr s hz
 cases hL : Ad.isL s[0]
 ·rw [hL] at L0 hh
  have HE : Hid (r = false) := by
   apply HN.out
   unfold spF
   rw [hh]
   simp
  go_enter Tryz.func108, Tryz.ntmps108
  go_wp2_with (go_at_call 138; refine (L0 _).mono ?_; rintro e w' ⟨rfl, hw⟩; obtain rfl := hw.symm; clear hw)
  go_ret
  exact ⟨by rw [HE.out]; rfl, Below.refl _ _⟩
 rw [hL] at L0 hh
 have RT := fun u => rH s hs u
 have HT := aFd s
 generalize nP (szF 97 65 s.data.toList) = tn at *
 rcases HT with ⟨t1, t2⟩ | ⟨t1, t2⟩
 ·have HE : Hid (r = false) := by
   show _ = _
   rw [← HR.out]; unfold gnF; rw [lH, t1]; simp
  go_enter Tryz.func108, Tryz.ntmps108
  go_wp2_with (first | (go_at_call 138; refine (L0 _).mono ?_; rintro e w' ⟨rfl, hw⟩; obtain rfl := hw.symm; clear hw) | (go_at_call 110; refine (RT _).mono ?_; rintro e w1 ⟨rfl, hb⟩; have HB : Hid (Below w.heap.size w w1) := hb; clear hb))
  go_ret
  exact ⟨by rw [HE.out]; rfl, HB.out⟩
 have HE : Hid (r = (s.data.toList.all okC && !lcF s.data.toList)) := by
  show _ = _
  rw [← HR.out]
  unfold gnF spF
  rw [lH, t1, hh, decide_eq_true (show s.data.toList.length ≤ 16 by omega)]
  simp
 have HK0 : Hid ((s.data.toList.take 1).all okC = true) := by
  have e := lM okC s 0 hz (by simp) (by unfold okC; rw [hL]; rfl)
  exact e
 clear hh HR HN t1 hL
 go_enter Tryz.func108, Tryz.ntmps108
 go_wp2_with (first | (go_at_call 138; refine (L0 _).mono ?_; rintro e w' ⟨rfl, hw⟩; obtain rfl := hw.symm; clear hw) | (go_at_call 110; refine (RT _).mono ?_; rintro e w1 ⟨rfl, hb⟩; have HB : Hid (Below w.heap.size w w1) := hb; clear hb))
 clear L0 RT
 go_loop [3, 4] (fun v i => ∃ (k : Nat) (o : Bool), 1 ≤ k ∧ k ≤ s.size ∧ i = .int .i64 k ∧ v = .bool o ∧ Hid ((s.data.toList.take k).all okC = true ∧ o = oth s k)) (fun _ i => s.size - (intOf i).toNat)
 case atStart => exact ⟨1, _, Nat.le_refl _, by omega, rfl, rfl, HK0.out, by rw [aHk, Bool.eq_iff_iff]; simp; omega⟩
 case round =>
  obtain ⟨k, o, hk1, hk, rfl, rfl, ha⟩ := hrel
  by_cases hlt : k < s.size
  ·have Lk := fun u => pU s[k] u
   have Dk := fun u => aAU s[k] u
   have HS : Hid (okC s[k] = true → (s.data.toList.take (k + 1)).all okC = true) := fun h => lM okC s k hlt ha.out.1 h
   have HN : Hid (okC s[k] = false → r = false) := fun h => by
    rw [HE.out]
    cases hh : s.data.toList.all okC
    ·rfl
    ·rw [wJ okC s k hlt hh] at h; cases h
   have HO : Hid (okC s[k] = (Ad.isL s[k] || Ad.isD s[k] || (s[k] == 95))) := rfl
   have HP : Hid (oth s (k + 1) = (o || !Ad.isD s[k])) := by
    show _ = _
    rw [aFe s k hk1 hlt, ← ha.out.2]
   cases h1 : Ad.isL s[k]
   ·rw [h1] at Lk HO
    cases h2 : Ad.isD s[k]
    ·rw [h2] at Dk HO HP
     rcases zP s[k] 95 with ⟨h3, h4⟩ | ⟨h3, h4⟩
     ·have HA : Hid ((s.data.toList.take (k + 1)).all okC = true) := HS.out (by rw [HO.out, h3]; rfl)
      have h5 : ((s[k].toNat : Int) != 95) = false := by rw [h3]; rfl
      clear h1 h2 h3 h4 HN HS
      cases o
      all_goals
       go_wp2_with (first | (go_at_call 138; refine (Lk _).mono ?_; rintro e w' ⟨rfl, hw⟩; obtain rfl := hw.symm; clear hw) | (go_at_call 134; refine (Dk _).mono ?_; rintro e w' ⟨rfl, hw⟩; obtain rfl := hw.symm; clear hw))
       go_round
       case rel => exact ⟨k + 1, _, by omega, by omega, by go_num, rfl, HA.out, HP.out.symm⟩
       case measure => simp [intOf]; omega
     ·have HF : Hid (r = false) := HN.out (by rw [HO.out]; simpa using h3)
      have h5 : ((s[k].toNat : Int) != 95) = true := by rw [bne, show ((s[k].toNat : Int) == 95) = false from h4]; rfl
      clear h1 h2 h3 h4 HN HS
      go_wp2_with (first | (go_at_call 138; refine (Lk _).mono ?_; rintro e w' ⟨rfl, hw⟩; obtain rfl := hw.symm; clear hw) | (go_at_call 134; refine (Dk _).mono ?_; rintro e w' ⟨rfl, hw⟩; obtain rfl := hw.symm; clear hw))
      go_ret
      exact ⟨by rw [HF.out]; rfl, HB.out⟩
    ·rw [h2] at Dk HO HP
     have HA : Hid ((s.data.toList.take (k + 1)).all okC = true) := HS.out (by rw [HO.out]; rfl)
     clear h1 h2 HN HS
     cases o
     all_goals
      go_wp2_with (first | (go_at_call 138; refine (Lk _).mono ?_; rintro e w' ⟨rfl, hw⟩; obtain rfl := hw.symm; clear hw) | (go_at_call 134; refine (Dk _).mono ?_; rintro e w' ⟨rfl, hw⟩; obtain rfl := hw.symm; clear hw))
      go_round
      case rel => exact ⟨k + 1, _, by omega, by omega, by go_num, rfl, HA.out, HP.out.symm⟩
      case measure => simp [intOf]; omega
   ·rw [h1] at Lk HO
    have HA : Hid ((s.data.toList.take (k + 1)).all okC = true) := HS.out (by rw [HO.out]; rfl)
    clear HN HS
    generalize Ad.isD s[k] = dk at *
    clear h1
    cases o <;> cases dk
    all_goals
     go_wp2_with (first | (go_at_call 138; refine (Lk _).mono ?_; rintro e w' ⟨rfl, hw⟩; obtain rfl := hw.symm; clear hw) | (go_at_call 134; refine (Dk _).mono ?_; rintro e w' ⟨rfl, hw⟩; obtain rfl := hw.symm; clear hw))
     go_round
     case rel => exact ⟨k + 1, _, by omega, by omega, by go_num, rfl, HA.out, HP.out.symm⟩
     case measure => simp [intOf]; omega
  ·have HT : Hid (r = o) := by
    show _ = _
    have hh := ha.out
    obtain rfl : k = s.size := by omega
    rw [List.take_of_length_le (by omega)] at hh
    rw [HE.out, hh.1, hh.2, aHl s hz]
    rfl
   go_wp2
   go_ret
   exact ⟨by rw [HT.out]; rfl, HB.out⟩
def bB (b s : ByteArray) (r c : Int) : Bool := inB r c && (if s.toList = [] then decide (b.toList = []) else gnF s.data.toList && (decide (b.toList = []) || gnF b.data.toList))
theorem oU (b s : ByteArray) (r c : Int) : (inB r c = false ∧ bB b s r c = false) ∨ (inB r c = true ∧ s.toList = [] ∧ b.toList = [] ∧ bB b s r c = true) ∨
  (inB r c = true ∧ s.toList = [] ∧ (b.toList == []) = false ∧ bB b s r c = false) ∨ (inB r c = true ∧ (s.toList == []) = false ∧ gnF s.data.toList = false ∧ bB b s r c = false) ∨
  (inB r c = true ∧ (s.toList == []) = false ∧ gnF s.data.toList = true ∧ b.toList = [] ∧ bB b s r c = true) ∨ (inB r c = true ∧ (s.toList == []) = false ∧ gnF s.data.toList = true ∧ (b.toList == []) = false ∧ bB b s r c = gnF b.data.toList) := by
 unfold bB
 cases h : inB r c
 ·left; exact ⟨rfl, rfl⟩
 right
 by_cases hs : s.toList = []
 ·by_cases hb : b.toList = []
  ·left; simp [hs, hb]
  ·right; left; simp [hs, hb]
 ·right; right
  have hs2 : (s.toList == []) = false := by simpa using hs
  cases hg : gnF s.data.toList
  ·left; simp [hs]
  ·right
   by_cases hb : b.toList = []
   ·left; simp [hs, hb]
   ·right; simp [hs, hb]
theorem vC (b s : ByteArray) (r c : Int) (fr fc : Bool) (hb : b.size ≤ 9223372036854775807) (hs : s.size ≤ 9223372036854775807) (w : World) (T : eY w) :
  Calls Tryz.prog 162 #[aY b s r c fr fc] w fun e w' => e = .returned (.bool (bB b s r c)) ∧ Below w.heap.size w w' := by
 have IN := fun u => aEG r c u
 have GS : RC (w.alloc (aR b s r c fr fc)) 154 #[.string s] _ := RC.of fun u hu => cK s hs u (T.below (aS hu))
 have GB : RC (w.alloc (aR b s r c fr fc)) 154 #[.string b] _ := RC.of fun u hu => cK b hb u (T.below (aS hu))
 have HB0 : Hid (Below (w.alloc (aR b s r c fr fc)).heap.size (w.alloc (aR b s r c fr fc)) (w.alloc (aR b s r c fr fc))) := Below.refl _ _
 rcases oU b s r c with ⟨h1, h2⟩ | ⟨h1, h3, h4, h2⟩ | ⟨h1, h3, h4, h2⟩ | ⟨h1, h3, h4, h2⟩ | ⟨h1, h3, h4, h5, h2⟩ | ⟨h1, h3, h4, h5, h2⟩
 ·rw [h2]
  rw [h1] at IN
  go_enter Tryz.func162, Tryz.ntmps162
  go_wp2_with (go_at_call 196; refine (IN _).mono ?_; rintro e w' ⟨rfl, hw⟩; obtain rfl := hw.symm; clear hw)
  go_ret
  exact ⟨rfl, aS HB0.out⟩
 ·rw [h2]
  rw [h1] at IN
  go_enter Tryz.func162, Tryz.ntmps162
  go_wp2_with (go_at_call 196; refine (IN _).mono ?_; rintro e w' ⟨rfl, hw⟩; obtain rfl := hw.symm; clear hw)
  go_ret
  exact ⟨rfl, aS HB0.out⟩
 ·rw [h2]
  rw [h1] at IN
  go_enter Tryz.func162, Tryz.ntmps162
  go_wp2_with (go_at_call 196; refine (IN _).mono ?_; rintro e w' ⟨rfl, hw⟩; obtain rfl := hw.symm; clear hw)
  go_ret
  exact ⟨rfl, aS HB0.out⟩
 ·rw [h2]
  rw [h1] at IN
  rw [h4] at GS
  clear GB
  go_enter Tryz.func162, Tryz.ntmps162
  go_wp2_with (first | (go_at_call 196; refine (IN _).mono ?_; rintro e w' ⟨rfl, hw⟩; obtain rfl := hw.symm; clear hw) | (go_at_call 154; refine (GS _ HB0.out).mono ?_; rintro e w1 ⟨rfl, hb⟩; have HB1 : Hid (Below (w.alloc (aR b s r c fr fc)).heap.size (w.alloc (aR b s r c fr fc)) w1) := hb; clear hb))
  go_ret
  exact ⟨rfl, aS HB1.out⟩
 ·rw [h2]
  rw [h1] at IN
  rw [h4] at GS
  clear GB
  go_enter Tryz.func162, Tryz.ntmps162
  go_wp2_with (first | (go_at_call 196; refine (IN _).mono ?_; rintro e w' ⟨rfl, hw⟩; obtain rfl := hw.symm; clear hw) | (go_at_call 154; refine (GS _ HB0.out).mono ?_; rintro e w1 ⟨rfl, hb⟩; have HB1 : Hid (Below (w.alloc (aR b s r c fr fc)).heap.size (w.alloc (aR b s r c fr fc)) w1) := hb; clear hb; obtain ⟨c0, c1, c2, c3, c4, c5⟩ := aQ (new1 HB1.out)))
  go_ret
  exact ⟨rfl, aS HB1.out⟩
 ·rw [h2]
  rw [h1] at IN
  rw [h4] at GS
  generalize gnF b.data.toList = gb at *
  clear h2
  go_enter Tryz.func162, Tryz.ntmps162
  go_wp2_with (go_at_call 196; refine (IN _).mono ?_; rintro e w' ⟨rfl, hw⟩; obtain rfl := hw.symm; clear hw)
  refine (GS _ HB0.out).mono ?_
  rintro e w1 ⟨rfl, hb⟩
  have HB1 : Hid (Below (w.alloc (aR b s r c fr fc)).heap.size (w.alloc (aR b s r c fr fc)) w1) := hb
  clear hb GS
  obtain ⟨c0, c1, c2, c3, c4, c5⟩ := aQ (new1 HB1.out)
  go_wp2_with fail
  refine (GB _ HB1.out).mono ?_
  rintro e w2 ⟨rfl, hb⟩
  have HB2 : Hid (Below (w.alloc (aR b s r c fr fc)).heap.size (w.alloc (aR b s r c fr fc)) w2) := hb
  clear hb
  go_wp2
  go_ret
  exact ⟨rfl, aS HB2.out⟩
theorem jP (b s : ByteArray) (r c : Int) (fr fc : Bool) (hb : b.size ≤ 9223372036854775807) (hs : s.size ≤ 9223372036854775807) (w : World) :
  Calls Tryz.prog 107 #[aY b s r c fr fc] w fun e w' => e = .returned (.bool (bB b s r c)) ∧ Below w.heap.size w w' := by
 have IN := fun u => aCl r c u
 have GS : RC (w.alloc (aR b s r c fr fc)) 108 #[.string s] _ := RC.of fun u hu => fE s hs u
 have GB : RC (w.alloc (aR b s r c fr fc)) 108 #[.string b] _ := RC.of fun u hu => fE b hb u
 have HB0 : Hid (Below (w.alloc (aR b s r c fr fc)).heap.size (w.alloc (aR b s r c fr fc)) (w.alloc (aR b s r c fr fc))) := Below.refl _ _
 rcases oU b s r c with ⟨h1, h2⟩ | ⟨h1, h3, h4, h2⟩ | ⟨h1, h3, h4, h2⟩ | ⟨h1, h3, h4, h2⟩ | ⟨h1, h3, h4, h5, h2⟩ | ⟨h1, h3, h4, h5, h2⟩
 ·rw [h2]
  rw [h1] at IN
  go_enter Tryz.func107, Tryz.ntmps107
  go_wp2_with (go_at_call 144; refine (IN _).mono ?_; rintro e w' ⟨rfl, hw⟩; obtain rfl := hw.symm; clear hw)
  go_ret
  exact ⟨rfl, aS HB0.out⟩
 ·rw [h2]
  rw [h1] at IN
  go_enter Tryz.func107, Tryz.ntmps107
  go_wp2_with (go_at_call 144; refine (IN _).mono ?_; rintro e w' ⟨rfl, hw⟩; obtain rfl := hw.symm; clear hw)
  go_ret
  exact ⟨rfl, aS HB0.out⟩
 ·rw [h2]
  rw [h1] at IN
  clear GS
  generalize gnF b.data.toList = gb at *
  go_enter Tryz.func107, Tryz.ntmps107
  go_wp2_with (first | (go_at_call 144; refine (IN _).mono ?_; rintro e w' ⟨rfl, hw⟩; obtain rfl := hw.symm; clear hw) | (go_at_call 108; refine (GB _ HB0.out).mono ?_; rintro e w1 ⟨rfl, hb⟩; have HB1 : Hid (Below (w.alloc (aR b s r c fr fc)).heap.size (w.alloc (aR b s r c fr fc)) w1) := hb; clear hb; obtain ⟨c0, c1, c2, c3, c4, c5⟩ := aQ (new1 HB1.out)))
  all_goals (go_ret; exact ⟨rfl, aS HB1.out⟩)
 ·rw [h2]
  rw [h1] at IN
  rw [h4] at GS
  clear GB
  go_enter Tryz.func107, Tryz.ntmps107
  go_wp2_with (first | (go_at_call 144; refine (IN _).mono ?_; rintro e w' ⟨rfl, hw⟩; obtain rfl := hw.symm; clear hw) | (go_at_call 108; refine (GS _ HB0.out).mono ?_; rintro e w1 ⟨rfl, hb⟩; have HB1 : Hid (Below (w.alloc (aR b s r c fr fc)).heap.size (w.alloc (aR b s r c fr fc)) w1) := hb; clear hb))
  go_ret
  exact ⟨rfl, aS HB1.out⟩
 ·rw [h2]
  rw [h1] at IN
  rw [h4] at GS
  clear GB
  go_enter Tryz.func107, Tryz.ntmps107
  go_wp2_with (first | (go_at_call 144; refine (IN _).mono ?_; rintro e w' ⟨rfl, hw⟩; obtain rfl := hw.symm; clear hw) | (go_at_call 108; refine (GS _ HB0.out).mono ?_; rintro e w1 ⟨rfl, hb⟩; have HB1 : Hid (Below (w.alloc (aR b s r c fr fc)).heap.size (w.alloc (aR b s r c fr fc)) w1) := hb; clear hb; obtain ⟨c0, c1, c2, c3, c4, c5⟩ := aQ (new1 HB1.out)))
  go_ret
  exact ⟨rfl, aS HB1.out⟩
 ·rw [h2]
  rw [h1] at IN
  rw [h4] at GS
  generalize gnF b.data.toList = gb at *
  clear h2
  go_enter Tryz.func107, Tryz.ntmps107
  go_wp2_with (go_at_call 144; refine (IN _).mono ?_; rintro e w' ⟨rfl, hw⟩; obtain rfl := hw.symm; clear hw)
  refine (GS _ HB0.out).mono ?_
  rintro e w1 ⟨rfl, hb⟩
  have HB1 : Hid (Below (w.alloc (aR b s r c fr fc)).heap.size (w.alloc (aR b s r c fr fc)) w1) := hb
  clear hb GS
  obtain ⟨c0, c1, c2, c3, c4, c5⟩ := aQ (new1 HB1.out)
  go_wp2_with fail
  refine (GB _ HB1.out).mono ?_
  rintro e w2 ⟨rfl, hb⟩
  have HB2 : Hid (Below (w.alloc (aR b s r c fr fc)).heap.size (w.alloc (aR b s r c fr fc)) w2) := hb
  clear hb
  obtain ⟨c0, c1, c2, c3, c4, c5⟩ := aQ (new1 HB2.out)
  cases gb
  all_goals (go_wp2; go_ret; exact ⟨rfl, aS HB2.out⟩)
theorem rn1 : Utf8.encode (65 + ((1 : Nat) : Int) - 1) = ⟨#[Ad.dU 1]⟩ := by kernel_rfl
theorem rn2 : Utf8.encode (65 + ((2 : Nat) : Int) - 1) = ⟨#[Ad.dU 2]⟩ := by kernel_rfl
theorem rn3 : Utf8.encode (65 + ((3 : Nat) : Int) - 1) = ⟨#[Ad.dU 3]⟩ := by kernel_rfl
theorem rn4 : Utf8.encode (65 + ((4 : Nat) : Int) - 1) = ⟨#[Ad.dU 4]⟩ := by kernel_rfl
theorem rn5 : Utf8.encode (65 + ((5 : Nat) : Int) - 1) = ⟨#[Ad.dU 5]⟩ := by kernel_rfl
theorem rn6 : Utf8.encode (65 + ((6 : Nat) : Int) - 1) = ⟨#[Ad.dU 6]⟩ := by kernel_rfl
theorem rn7 : Utf8.encode (65 + ((7 : Nat) : Int) - 1) = ⟨#[Ad.dU 7]⟩ := by kernel_rfl
theorem rn8 : Utf8.encode (65 + ((8 : Nat) : Int) - 1) = ⟨#[Ad.dU 8]⟩ := by kernel_rfl
theorem rn9 : Utf8.encode (65 + ((9 : Nat) : Int) - 1) = ⟨#[Ad.dU 9]⟩ := by kernel_rfl
theorem aLd : Utf8.encode (65 + ((10 : Nat) : Int) - 1) = ⟨#[Ad.dU 10]⟩ := by kernel_rfl
theorem aLe : Utf8.encode (65 + ((11 : Nat) : Int) - 1) = ⟨#[Ad.dU 11]⟩ := by kernel_rfl
theorem aLf : Utf8.encode (65 + ((12 : Nat) : Int) - 1) = ⟨#[Ad.dU 12]⟩ := by kernel_rfl
theorem aLg : Utf8.encode (65 + ((13 : Nat) : Int) - 1) = ⟨#[Ad.dU 13]⟩ := by kernel_rfl
theorem aLh : Utf8.encode (65 + ((14 : Nat) : Int) - 1) = ⟨#[Ad.dU 14]⟩ := by kernel_rfl
theorem aLi : Utf8.encode (65 + ((15 : Nat) : Int) - 1) = ⟨#[Ad.dU 15]⟩ := by kernel_rfl
theorem aLj : Utf8.encode (65 + ((16 : Nat) : Int) - 1) = ⟨#[Ad.dU 16]⟩ := by kernel_rfl
theorem aLk : Utf8.encode (65 + ((17 : Nat) : Int) - 1) = ⟨#[Ad.dU 17]⟩ := by kernel_rfl
theorem aLl : Utf8.encode (65 + ((18 : Nat) : Int) - 1) = ⟨#[Ad.dU 18]⟩ := by kernel_rfl
theorem aLm : Utf8.encode (65 + ((19 : Nat) : Int) - 1) = ⟨#[Ad.dU 19]⟩ := by kernel_rfl
theorem aLn : Utf8.encode (65 + ((20 : Nat) : Int) - 1) = ⟨#[Ad.dU 20]⟩ := by kernel_rfl
theorem aLo : Utf8.encode (65 + ((21 : Nat) : Int) - 1) = ⟨#[Ad.dU 21]⟩ := by kernel_rfl
theorem aLp : Utf8.encode (65 + ((22 : Nat) : Int) - 1) = ⟨#[Ad.dU 22]⟩ := by kernel_rfl
theorem aLq : Utf8.encode (65 + ((23 : Nat) : Int) - 1) = ⟨#[Ad.dU 23]⟩ := by kernel_rfl
theorem aLr : Utf8.encode (65 + ((24 : Nat) : Int) - 1) = ⟨#[Ad.dU 24]⟩ := by kernel_rfl
theorem aLs : Utf8.encode (65 + ((25 : Nat) : Int) - 1) = ⟨#[Ad.dU 25]⟩ := by kernel_rfl
theorem aLt : Utf8.encode (65 + ((26 : Nat) : Int) - 1) = ⟨#[Ad.dU 26]⟩ := by kernel_rfl
theorem aFf (n : Nat) (h1 : 1 ≤ n) (h2 : n ≤ 26) : Utf8.encode (65 + (n : Int) - 1) = ⟨#[Ad.dU n]⟩ := by
 have h : n = 1 ∨ n = 2 ∨ n = 3 ∨ n = 4 ∨ n = 5 ∨ n = 6 ∨ n = 7 ∨ n = 8 ∨ n = 9 ∨ n = 10 ∨ n = 11 ∨ n = 12 ∨ n = 13 ∨ n = 14 ∨ n = 15 ∨ n = 16 ∨ n = 17 ∨ n = 18 ∨ n = 19 ∨ n = 20 ∨ n = 21 ∨ n = 22 ∨ n = 23 ∨ n = 24 ∨ n = 25 ∨ n = 26 := by omega
 rcases h with rfl | rfl | rfl | rfl | rfl | rfl | rfl | rfl | rfl | rfl | rfl | rfl | rfl | rfl | rfl | rfl | rfl | rfl | rfl | rfl | rfl | rfl | rfl | rfl | rfl | rfl
 ·exact rn1
 ·exact rn2
 ·exact rn3
 ·exact rn4
 ·exact rn5
 ·exact rn6
 ·exact rn7
 ·exact rn8
 ·exact rn9
 ·exact aLd
 ·exact aLe
 ·exact aLf
 ·exact aLg
 ·exact aLh
 ·exact aLi
 ·exact aLj
 ·exact aLk
 ·exact aLl
 ·exact aLm
 ·exact aLn
 ·exact aLo
 ·exact aLp
 ·exact aLq
 ·exact aLr
 ·exact aLs
 ·exact aLt
theorem wrap_i64 {n : Int} (h1 : -9223372036854775808 ≤ n) (h2 : n ≤ 9223372036854775807) : IntKind.i64.wrap n = n := by
 rw [IntKind.wrap_i64]; omega
theorem wrap_i32 {n : Int} (h1 : -2147483648 ≤ n) (h2 : n ≤ 2147483647) : IntKind.i32.wrap n = n := by
 rw [IntKind.wrap_i32]; omega
def wL (f : Bool) : ByteArray := if f = true then ⟨#[36]⟩ else ⟨#[]⟩
theorem nV (f : Bool) : (wL f).size ≤ 1 := by cases f <;> decide
theorem lN (n : Nat) (h : n ≤ 64) : (⟨(Lib.decDigits n).toArray⟩ : ByteArray).size ≤ 2 := by
 rw [size_mk]
 by_cases e : n < 10
 ·rw [Lib.decDigits_one e]; simp
 ·rw [Lib.decDigits, dif_neg e, Lib.decDigits_one (by omega)]; simp
def gI (R C : Nat) (fr fc : Bool) : ByteArray := ⟨(Ad.cellW ⟨R, C, fr, fc⟩).toArray⟩
theorem rO (R C : Nat) (fr fc : Bool) : wL fc ++ ⟨#[Ad.dU C]⟩ ++ wL fr ++ ⟨(Lib.decDigits R).toArray⟩ = gI R C fr fc := by
 unfold gI Ad.cellW wL
 apply ByteArray.ext
 cases fr <;> cases fc <;> simp
theorem aDj (b s : ByteArray) (R C : Nat) (fr fc : Bool) (hR1 : 1 ≤ R) (hR2 : R ≤ 64) (hC1 : 1 ≤ C) (hC2 : C ≤ 26) (w : World) (T : eY w) :
  Calls Tryz.prog 174 #[aY b s R C fr fc] w fun e w' => e = .returned (.string (gI R C fr fc)) ∧ Below w.heap.size w w' := by
 have D1 : RC (w.alloc (aR b s R C fr fc)) 213 #[.bool fc] (.string (wL fc)) := RC.same fun u hu => qR fc u
 have D2 : RC (w.alloc (aR b s R C fr fc)) 213 #[.bool fr] (.string (wL fr)) := RC.same fun u hu => qR fr u
 have IT : RC (w.alloc (aR b s R C fr fc)) 170 #[.int .i64 R] (.string ⟨(Lib.decDigits R).toArray⟩) := RC.of fun u hu => rA R (by omega) u (T.below (aS hu)).p
 have CV := aFf C hC1 hC2
 obtain ⟨m1, e1⟩ : ∃ m1 : Int, 65 + (C : Int) = m1 := ⟨_, rfl⟩
 rw [e1] at CV
 obtain ⟨m2, e2⟩ : ∃ m2 : Int, m1 - 1 = m2 := ⟨_, rfl⟩
 rw [e2] at CV
 have k1 : IntKind.i64.wrap m1 = m1 := wrap_i64 (by omega) (by omega)
 have k2 : IntKind.i64.wrap m2 = m2 := wrap_i64 (by omega) (by omega)
 have k3 : IntKind.i32.wrap m2 = m2 := wrap_i32 (by omega) (by omega)
 have z1 := nV fc
 have z2 := nV fr
 have z3 := lN R hR2
 rw [← rO]
 generalize wL fc = X1 at *
 generalize wL fr = X2 at *
 generalize (⟨(Lib.decDigits R).toArray⟩ : ByteArray) = X3 at *
 have z4 : (⟨#[Ad.dU C]⟩ : ByteArray).size ≤ 1 := Nat.le_refl 1
 generalize (⟨#[Ad.dU C]⟩ : ByteArray) = X4 at *
 have z5 : ¬ 9223372036854775807 < X1.size + X4.size := by omega
 have z6 : ¬ 9223372036854775807 < X1.size + X4.size + X2.size := by omega
 have z7 : ¬ 9223372036854775807 < X1.size + X4.size + X2.size + X3.size := by omega
 have HC : Hid (∀ u : World, Below (w.alloc (aR b s R C fr fc)).heap.size (w.alloc (aR b s R C fr fc)) u → u.cell? ⟨w.heap.size, 2, none⟩ = some (.int .i64 R) ∧ u.cell? ⟨w.heap.size, 3, none⟩ = some (.int .i64 C) ∧ u.cell? ⟨w.heap.size, 4, none⟩ = some (.bool fr) ∧ u.cell? ⟨w.heap.size, 5, none⟩ = some (.bool fc)) :=
  fun u hu => (aQ (new1 hu)).2.2
 have HB : Hid (Below (w.alloc (aR b s R C fr fc)).heap.size (w.alloc (aR b s R C fr fc)) (w.alloc (aR b s R C fr fc)).drew) := (Below.refl _ _).drew
 go_enter Tryz.func174, Tryz.ntmps174
 go_wp2
 go_region_held_law (fun u => u.cell? ⟨w.heap.size, 2, none⟩ = some (.int .i64 R) ∧ u.cell? ⟨w.heap.size, 3, none⟩ = some (.int .i64 C) ∧ u.cell? ⟨w.heap.size, 4, none⟩ = some (.bool fr) ∧ u.cell? ⟨w.heap.size, 5, none⟩ = some (.bool fc))
  (exact HC.out _ HB.out) (first
  | (go_at_call_of 213 fc; refine (D1 _ HB.out).mono ?_; rintro e w7 ⟨rfl, hb⟩; have HB : Hid (Below (w.alloc (aR b s R C fr fc)).heap.size (w.alloc (aR b s R C fr fc)) w7) := hb; clear hb)
  | (go_at_call_of 213 fr; refine (D2 _ HB.out).mono ?_; rintro e w7 ⟨rfl, hb⟩; have HB : Hid (Below (w.alloc (aR b s R C fr fc)).heap.size (w.alloc (aR b s R C fr fc)) w7) := hb; clear hb)
  | (go_at_call 170; refine (IT _ HB.out).mono ?_; rintro e w7 ⟨rfl, hb⟩; have HB : Hid (Below (w.alloc (aR b s R C fr fc)).heap.size (w.alloc (aR b s R C fr fc)) w7) := hb; clear hb))
 all_goals (go_wp2; go_ret; exact ⟨rfl, aS HB.out⟩)
end Go.Proofs.YtljmklbbngpllaaGreatDoor
