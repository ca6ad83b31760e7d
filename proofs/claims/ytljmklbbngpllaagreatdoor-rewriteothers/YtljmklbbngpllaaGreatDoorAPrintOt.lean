/- AGood, ARName, AGoodR, APrint. -/
import Derived.Test.YtljmklbbngpllaaGreatDoorANameOt
set_option linter.unusedVariables false
set_option linter.unusedSimpArgs false
set_option maxHeartbeats 16000000
set_option maxRecDepth 100000
namespace Go.Proofs.YtljmklbbngpllaaGreatDoor
open Go.RowKit
theorem sp_parts {l : List UInt8} (h : spF l = true) : l.length ≤ 16 ∧ headL l = true ∧ l.all okC = true := by
 unfold spF at h
 simp only [Bool.and_eq_true, decide_eq_true_eq] at h
 exact ⟨h.1.1, h.1.2, h.2⟩
theorem isL_facts {c : UInt8} (h : Ad.isL c = true) : c ≠ 39 ∧ c ≠ 45 ∧ c ≠ 46 ∧ isD c = false := by
 unfold Ad.isL at h
 simp only [Bool.or_eq_true, Bool.and_eq_true, decide_eq_true_eq] at h
 refine ⟨?_, ?_, ?_, ?_⟩
 ·rintro rfl; revert h; decide
 ·rintro rfl; revert h; decide
 ·rintro rfl; revert h; decide
 ·unfold isD; rw [Bool.and_eq_false_iff, decide_eq_false_iff_not, decide_eq_false_iff_not]; omega
theorem letter_parse {l : List UInt8} (h : headL l = true) : (parseF l).2 = false := by
 cases l with
 | nil => cases h
 | cons c r =>
  obtain ⟨_, h2, h3, h4⟩ := isL_facts h
  have e1 : dash (c :: r) = false := by unfold dash; simpa using h2
  have e2 : body (c :: r) = c :: r := by unfold body; rw [e1]; rfl
  have e3 : fstP (c :: r) = c :: fstP r := by unfold fstP; rw [List.takeWhile_cons, if_pos (by simpa using h3)]
  unfold parseF
  rw [e2, e3]
  have e4 : digs (c :: fstP r) 1 12 = false := by unfold digs; rw [List.all_cons, h4]; rfl
  rw [if_neg (by rw [e4]; simp)]
theorem typed_kind {s : ByteArray} (h : headL s.data.toList = true) : ((typedF s).1 == 3) = (truF s).2 := by
 have hp := letter_parse h
 have h0 : ¬ s.toList = [] := by
  rw [ByteArray.toList_eq]
  intro e
  rw [e] at h
  cases h
 have h1 : ¬ s.data.toList.head? = some 39 := by
  intro e
  cases hl : s.data.toList with
  | nil => rw [hl] at h; cases h
  | cons c r =>
   rw [hl] at h e
   simp only [List.head?_cons, Option.some.injEq] at e
   exact (isL_facts h).1 e
 unfold typedF
 rw [if_neg h0, if_neg h1, if_neg (by rw [hp]; decide)]
 cases ht : (truF s).2
 ·rw [if_neg (by decide)]
  split <;> rfl
 ·rw [if_pos rfl]
  rfl
theorem run_fld (W : World) (k n : Int) (x : ByteArray) : (Instr.field 23 (.agg #[.int .i64 k, .int .i64 n, .string x]) 0).run Tryz.prog W = .ok (.int .i64 k) W := by kernel_rfl
theorem liketruth_any (s : ByteArray) (hs : s.size ≤ 9223372036854775807) (w : World) (T : Tabs w) :
  Calls Tryz.prog 199 #[.string s] w fun e w' => e = .returned (.bool ((typedF s).1 == 3)) ∧ Below w.heap.size w w' := by
 have Y := typed_any s hs w T
 generalize (typedF s).1 = k at *
 generalize (typedF s).2.1 = n at *
 generalize (typedF s).2.2 = x at *
 have FL := fun W => run_fld W k n x
 go_enter Tryz.func199, Tryz.ntmps199
 go_wp2_with (go_at_call 200; refine Y.mono ?_; rintro e w1 ⟨rfl, hb⟩; have HB : Hid (Below w.heap.size w w1) := hb; clear hb)
 go_ret
 exact ⟨rfl, HB.out⟩
theorem gn_cases (s : ByteArray) : (spF s.data.toList = false ∧ gnF s.data.toList = false) ∨ (spF s.data.toList = true ∧ 0 < s.size ∧ ((lcF s.data.toList = true ∧ gnF s.data.toList = false) ∨ (lcF s.data.toList = false ∧ gnF s.data.toList = !((typedF s).1 == 3)))) := by
 unfold gnF
 rw [mk_list]
 cases h : spF s.data.toList
 ·left; exact ⟨rfl, rfl⟩
 ·right
  obtain ⟨h1, h2, h3⟩ := sp_parts h
  refine ⟨rfl, ?_, ?_⟩
  ·rw [← size_list]
   cases hl : s.data.toList with
   | nil => rw [hl] at h2; cases h2
   | cons a r => simp
  ·cases hc : lcF s.data.toList
   ·right; rw [typed_kind h2]; exact ⟨rfl, rfl⟩
   ·left; exact ⟨rfl, rfl⟩
theorem goodname_any (s : ByteArray) (hs : s.size ≤ 9223372036854775807) (w : World) (T : Tabs w) :
  Calls Tryz.prog 154 #[.string s] w fun e w' => e = .returned (.bool (gnF s.data.toList)) ∧ Below w.heap.size w w' := by
 have SP := spelled_any s hs w
 rcases gn_cases s with ⟨h1, h2⟩ | ⟨h1, hz, ⟨h3, h2⟩ | ⟨h3, h2⟩⟩
 ·rw [h1] at SP
  rw [h2]
  go_enter Tryz.func154, Tryz.ntmps154
  go_wp2_with (go_at_call 197; refine SP.mono ?_; rintro e w1 ⟨rfl, hb⟩; have HB : Hid (Below w.heap.size w w1) := hb; clear hb)
  go_ret
  exact ⟨rfl, HB.out⟩
 ·rw [h1] at SP
  rw [h2]
  have LC := fun u => likecell_any s hz hs u
  rw [h3] at LC
  go_enter Tryz.func154, Tryz.ntmps154
  go_wp2_with (first | (go_at_call 197; refine SP.mono ?_; rintro e w1 ⟨rfl, hb⟩; have HB : Hid (Below w.heap.size w w1) := hb; clear hb) | (go_at_call 198; refine (LC _).mono ?_; rintro e w2 ⟨rfl, hb⟩; have HB2 : Hid (Below w.heap.size w w2) := bel_step HB.out hb; clear hb))
  go_ret
  exact ⟨rfl, HB2.out⟩
 ·rw [h1] at SP
  rw [h2]
  have LC := fun u => likecell_any s hz hs u
  have LT := fun u hu => liketruth_any s hs u hu
  rw [h3] at LC
  generalize ((typedF s).1 == 3) = k at *
  go_enter Tryz.func154, Tryz.ntmps154
  go_wp2_with (first | (go_at_call 197; refine SP.mono ?_; rintro e w1 ⟨rfl, hb⟩; have HB : Hid (Below w.heap.size w w1) := hb; clear hb) | (go_at_call 198; refine (LC _).mono ?_; rintro e w2 ⟨rfl, hb⟩; have HB2 : Hid (Below w.heap.size w w2) := bel_step HB.out hb; clear hb) | (go_at_call 199; refine (LT _ (T.below HB2.out)).mono ?_; rintro e w3 ⟨rfl, hb⟩; have HB3 : Hid (Below w.heap.size w w3) := bel_step HB2.out hb; clear hb))
  go_ret
  exact ⟨rfl, HB3.out⟩
theorem gn_names : Ad.Names gnF := fun l h => by
 unfold gnF at h
 simp only [Bool.and_eq_true] at h
 obtain ⟨_, h2, h3⟩ := sp_parts h.1.1
 refine ⟨fun e => ?_, fun x hx => ?_⟩
 ·rw [e] at h2; cases h2
 ·have hk := List.all_eq_true.1 h3 x hx
  refine ⟨?_, ?_, ?_⟩ <;> (rintro rfl; revert hk; decide)
theorem tru_ways (s : ByteArray) : ((truF s).2 = true ∧ 0 ≤ truN (szF 97 65 s.data.toList)) ∨ ((truF s).2 = false ∧ truN (szF 97 65 s.data.toList) < 0) := by
 rcases truth_ways s with ⟨a, _, c⟩ | ⟨a, _, c⟩ | ⟨a, c⟩
 ·left; rw [c]; exact ⟨a, by decide⟩
 ·left; rw [c]; exact ⟨a, by decide⟩
 ·right; rw [c]; exact ⟨a, by decide⟩
def oth (s : ByteArray) (k : Nat) : Bool := decide (s.size = 1) || !((s.data.toList.take k).drop 1).all Ad.isD
theorem oth_one (s : ByteArray) : oth s 1 = decide (s.size = 1) := by
 unfold oth
 have : (s.data.toList.take 1).drop 1 = [] := by cases s.data.toList <;> simp
 rw [this]
 simp
theorem oth_step (s : ByteArray) (k : Nat) (h1 : 1 ≤ k) (h : k < s.size) : oth s (k + 1) = (oth s k || !Ad.isD s[k]) := by
 unfold oth
 have hl := size_list s
 rw [take_snoc _ _ (by omega), List.drop_append_of_le_length (by simp; omega), List.all_append, ← byte_at s k h (by omega)]
 simp only [List.all_cons, List.all_nil, Bool.and_true, Bool.not_and, Bool.or_assoc]
theorem oth_end (s : ByteArray) (h : 0 < s.size) : oth s s.size = !lcF s.data.toList := by
 unfold oth lcF
 have hl := size_list s
 rw [List.take_of_length_le (by omega), hl]
 by_cases e : s.size = 1
 ·simp [e]
 ·have : 1 < s.size := by omega
  simp [e, this]
theorem rgoodname_any (s : ByteArray) (hs : s.size ≤ 9223372036854775807) (w : World) :
  Calls Tryz.prog 108 #[.string s] w fun e w' => e = .returned (.bool (gnF s.data.toList)) ∧ Below w.heap.size w w' := by
 have hl := size_list s
 generalize hr : gnF s.data.toList = r
 have HR : Hid (gnF s.data.toList = r) := hr
 clear hr
 have HN : Hid (spF s.data.toList = false → r = false) := fun h => by
  rw [← HR.out]; unfold gnF; rw [h]; rfl
 by_cases h0 : s.size = 0
 ·have h1 : (s.size : Int) < 1 := by omega
  have HE : Hid (r = false) := by
   apply HN.out
   have : s.data.toList = [] := List.eq_nil_of_length_eq_zero (by omega)
   rw [this]
   rfl
  go_enter Tryz.func108, Tryz.ntmps108
  go_wp2
  go_ret
  exact ⟨by rw [HE.out]; rfl, Below.refl _ _⟩
 have h1 : ¬ (s.size : Int) < 1 := by omega
 by_cases h16 : 16 < s.size
 ·have h2 : (16 : Int) < s.size := by omega
  have HE : Hid (r = false) := by
   apply HN.out
   unfold spF
   rw [decide_eq_false (show ¬ s.data.toList.length ≤ 16 by omega)]
   rfl
  go_enter Tryz.func108, Tryz.ntmps108
  go_wp2
  go_ret
  exact ⟨by rw [HE.out]; rfl, Below.refl _ _⟩
 have h2 : ¬ (16 : Int) < s.size := by omega
 have hz : 0 < s.size := by omega
 have L0 := fun u => rletter_any s[0] u
 have hh := head_at s hz
 cases hL : Ad.isL s[0]
 ·rw [hL] at L0 hh
  have HE : Hid (r = false) := by
   apply HN.out
   unfold spF
   rw [hh]
   simp
  go_enter Tryz.func108, Tryz.ntmps108
  go_wp2_with (go_at_call 138; refine (L0 _).mono ?_; rintro e w' ⟨rfl, hw⟩; obtain rfl := hw.symm; clear hw)
  go_ret
  exact ⟨by rw [HE.out]; rfl, Below.refl _ _⟩
 rw [hL] at L0 hh
 have RT := fun u => rtruth_any s hs u
 have HT := tru_ways s
 generalize truN (szF 97 65 s.data.toList) = tn at *
 rcases HT with ⟨t1, t2⟩ | ⟨t1, t2⟩
 ·have HE : Hid (r = false) := by
   show _ = _
   rw [← HR.out]; unfold gnF; rw [mk_list, t1]; simp
  go_enter Tryz.func108, Tryz.ntmps108
  go_wp2_with (first | (go_at_call 138; refine (L0 _).mono ?_; rintro e w' ⟨rfl, hw⟩; obtain rfl := hw.symm; clear hw) | (go_at_call 110; refine (RT _).mono ?_; rintro e w1 ⟨rfl, hb⟩; have HB : Hid (Below w.heap.size w w1) := hb; clear hb))
  go_ret
  exact ⟨by rw [HE.out]; rfl, HB.out⟩
 have HE : Hid (r = (s.data.toList.all okC && !lcF s.data.toList)) := by
  show _ = _
  rw [← HR.out]
  unfold gnF spF
  rw [mk_list, t1, hh, decide_eq_true (show s.data.toList.length ≤ 16 by omega)]
  simp
 have HK0 : Hid ((s.data.toList.take 1).all okC = true) := by
  have e := alls_step okC s 0 hz (by simp) (by unfold okC; rw [hL]; rfl)
  exact e
 clear hh HR HN t1 hL
 go_enter Tryz.func108, Tryz.ntmps108
 go_wp2_with (first | (go_at_call 138; refine (L0 _).mono ?_; rintro e w' ⟨rfl, hw⟩; obtain rfl := hw.symm; clear hw) | (go_at_call 110; refine (RT _).mono ?_; rintro e w1 ⟨rfl, hb⟩; have HB : Hid (Below w.heap.size w w1) := hb; clear hb))
 clear L0 RT
 go_loop [3, 4] (fun v i => ∃ (k : Nat) (o : Bool), 1 ≤ k ∧ k ≤ s.size ∧ i = .int .i64 k ∧ v = .bool o ∧ Hid ((s.data.toList.take k).all okC = true ∧ o = oth s k)) (fun _ i => s.size - (intOf i).toNat)
 case atStart => exact ⟨1, _, Nat.le_refl _, by omega, rfl, rfl, HK0.out, by rw [oth_one, Bool.eq_iff_iff]; simp; omega⟩
 case round =>
  obtain ⟨k, o, hk1, hk, rfl, rfl, ha⟩ := hrel
  by_cases hlt : k < s.size
  ·have Lk := fun u => rletter_any s[k] u
   have Dk := fun u => rdigit_any s[k] u
   have HS : Hid (okC s[k] = true → (s.data.toList.take (k + 1)).all okC = true) := fun h => alls_step okC s k hlt ha.out.1 h
   have HN : Hid (okC s[k] = false → r = false) := fun h => by
    rw [HE.out]
    cases hh : s.data.toList.all okC
    ·rfl
    ·rw [alls_at okC s k hlt hh] at h; cases h
   have HO : Hid (okC s[k] = (Ad.isL s[k] || Ad.isD s[k] || (s[k] == 95))) := rfl
   have HP : Hid (oth s (k + 1) = (o || !Ad.isD s[k])) := by
    show _ = _
    rw [oth_step s k hk1 hlt, ← ha.out.2]
   cases h1 : Ad.isL s[k]
   ·rw [h1] at Lk HO
    cases h2 : Ad.isD s[k]
    ·rw [h2] at Dk HO HP
     rcases ch_facts s[k] 95 with ⟨h3, h4⟩ | ⟨h3, h4⟩
     ·have HA : Hid ((s.data.toList.take (k + 1)).all okC = true) := HS.out (by rw [HO.out, h3]; rfl)
      have h5 : ((s[k].toNat : Int) != 95) = false := by rw [h3]; rfl
      clear h1 h2 h3 h4 HN HS
      cases o
      all_goals
       go_wp2_with (first | (go_at_call 138; refine (Lk _).mono ?_; rintro e w' ⟨rfl, hw⟩; obtain rfl := hw.symm; clear hw) | (go_at_call 134; refine (Dk _).mono ?_; rintro e w' ⟨rfl, hw⟩; obtain rfl := hw.symm; clear hw))
       go_round
       case rel => exact ⟨k + 1, _, by omega, by omega, by go_num, rfl, HA.out, HP.out.symm⟩
       case measure => simp [intOf]; omega
     ·have HF : Hid (r = false) := HN.out (by rw [HO.out]; simpa using h3)
      have h5 : ((s[k].toNat : Int) != 95) = true := by rw [bne, show ((s[k].toNat : Int) == 95) = false from h4]; rfl
      clear h1 h2 h3 h4 HN HS
      go_wp2_with (first | (go_at_call 138; refine (Lk _).mono ?_; rintro e w' ⟨rfl, hw⟩; obtain rfl := hw.symm; clear hw) | (go_at_call 134; refine (Dk _).mono ?_; rintro e w' ⟨rfl, hw⟩; obtain rfl := hw.symm; clear hw))
      go_ret
      exact ⟨by rw [HF.out]; rfl, HB.out⟩
    ·rw [h2] at Dk HO HP
     have HA : Hid ((s.data.toList.take (k + 1)).all okC = true) := HS.out (by rw [HO.out]; rfl)
     clear h1 h2 HN HS
     cases o
     all_goals
      go_wp2_with (first | (go_at_call 138; refine (Lk _).mono ?_; rintro e w' ⟨rfl, hw⟩; obtain rfl := hw.symm; clear hw) | (go_at_call 134; refine (Dk _).mono ?_; rintro e w' ⟨rfl, hw⟩; obtain rfl := hw.symm; clear hw))
      go_round
      case rel => exact ⟨k + 1, _, by omega, by omega, by go_num, rfl, HA.out, HP.out.symm⟩
      case measure => simp [intOf]; omega
   ·rw [h1] at Lk HO
    have HA : Hid ((s.data.toList.take (k + 1)).all okC = true) := HS.out (by rw [HO.out]; rfl)
    clear HN HS
    generalize Ad.isD s[k] = dk at *
    clear h1
    cases o <;> cases dk
    all_goals
     go_wp2_with (first | (go_at_call 138; refine (Lk _).mono ?_; rintro e w' ⟨rfl, hw⟩; obtain rfl := hw.symm; clear hw) | (go_at_call 134; refine (Dk _).mono ?_; rintro e w' ⟨rfl, hw⟩; obtain rfl := hw.symm; clear hw))
     go_round
     case rel => exact ⟨k + 1, _, by omega, by omega, by go_num, rfl, HA.out, HP.out.symm⟩
     case measure => simp [intOf]; omega
  ·have HT : Hid (r = o) := by
    show _ = _
    have hh := ha.out
    obtain rfl : k = s.size := by omega
    rw [List.take_of_length_le (by omega)] at hh
    rw [HE.out, hh.1, hh.2, oth_end s hz]
    rfl
   go_wp2
   go_ret
   exact ⟨by rw [HT.out]; rfl, HB.out⟩
def goodB (b s : ByteArray) (r c : Int) : Bool := inB r c && (if s.toList = [] then decide (b.toList = []) else gnF s.data.toList && (decide (b.toList = []) || gnF b.data.toList))
theorem good_ways (b s : ByteArray) (r c : Int) : (inB r c = false ∧ goodB b s r c = false) ∨ (inB r c = true ∧ s.toList = [] ∧ b.toList = [] ∧ goodB b s r c = true) ∨
  (inB r c = true ∧ s.toList = [] ∧ (b.toList == []) = false ∧ goodB b s r c = false) ∨ (inB r c = true ∧ (s.toList == []) = false ∧ gnF s.data.toList = false ∧ goodB b s r c = false) ∨
  (inB r c = true ∧ (s.toList == []) = false ∧ gnF s.data.toList = true ∧ b.toList = [] ∧ goodB b s r c = true) ∨ (inB r c = true ∧ (s.toList == []) = false ∧ gnF s.data.toList = true ∧ (b.toList == []) = false ∧ goodB b s r c = gnF b.data.toList) := by
 unfold goodB
 cases h : inB r c
 ·left; exact ⟨rfl, rfl⟩
 right
 by_cases hs : s.toList = []
 ·by_cases hb : b.toList = []
  ·left; simp [hs, hb]
  ·right; left; simp [hs, hb]
 ·right; right
  have hs2 : (s.toList == []) = false := by simpa using hs
  cases hg : gnF s.data.toList
  ·left; simp [hs]
  ·right
   by_cases hb : b.toList = []
   ·left; simp [hs, hb]
   ·right; simp [hs, hb]
theorem agood_any (b s : ByteArray) (r c : Int) (fr fc : Bool) (hb : b.size ≤ 9223372036854775807) (hs : s.size ≤ 9223372036854775807) (w : World) (T : Tabs w) :
  Calls Tryz.prog 162 #[refV b s r c fr fc] w fun e w' => e = .returned (.bool (goodB b s r c)) ∧ Below w.heap.size w w' := by
 have IN := fun u => in_any r c u
 have GS : RC (w.alloc (refO b s r c fr fc)) 154 #[.string s] _ := RC.of fun u hu => goodname_any s hs u (T.below (bel1 hu))
 have GB : RC (w.alloc (refO b s r c fr fc)) 154 #[.string b] _ := RC.of fun u hu => goodname_any b hb u (T.below (bel1 hu))
 have HB0 : Hid (Below (w.alloc (refO b s r c fr fc)).heap.size (w.alloc (refO b s r c fr fc)) (w.alloc (refO b s r c fr fc))) := Below.refl _ _
 rcases good_ways b s r c with ⟨h1, h2⟩ | ⟨h1, h3, h4, h2⟩ | ⟨h1, h3, h4, h2⟩ | ⟨h1, h3, h4, h2⟩ | ⟨h1, h3, h4, h5, h2⟩ | ⟨h1, h3, h4, h5, h2⟩
 ·rw [h2]
  rw [h1] at IN
  go_enter Tryz.func162, Tryz.ntmps162
  go_wp2_with (go_at_call 196; refine (IN _).mono ?_; rintro e w' ⟨rfl, hw⟩; obtain rfl := hw.symm; clear hw)
  go_ret
  exact ⟨rfl, bel1 HB0.out⟩
 ·rw [h2]
  rw [h1] at IN
  go_enter Tryz.func162, Tryz.ntmps162
  go_wp2_with (go_at_call 196; refine (IN _).mono ?_; rintro e w' ⟨rfl, hw⟩; obtain rfl := hw.symm; clear hw)
  go_ret
  exact ⟨rfl, bel1 HB0.out⟩
 ·rw [h2]
  rw [h1] at IN
  go_enter Tryz.func162, Tryz.ntmps162
  go_wp2_with (go_at_call 196; refine (IN _).mono ?_; rintro e w' ⟨rfl, hw⟩; obtain rfl := hw.symm; clear hw)
  go_ret
  exact ⟨rfl, bel1 HB0.out⟩
 ·rw [h2]
  rw [h1] at IN
  rw [h4] at GS
  clear GB
  go_enter Tryz.func162, Tryz.ntmps162
  go_wp2_with (first | (go_at_call 196; refine (IN _).mono ?_; rintro e w' ⟨rfl, hw⟩; obtain rfl := hw.symm; clear hw) | (go_at_call 154; refine (GS _ HB0.out).mono ?_; rintro e w1 ⟨rfl, hb⟩; have HB1 : Hid (Below (w.alloc (refO b s r c fr fc)).heap.size (w.alloc (refO b s r c fr fc)) w1) := hb; clear hb))
  go_ret
  exact ⟨rfl, bel1 HB1.out⟩
 ·rw [h2]
  rw [h1] at IN
  rw [h4] at GS
  clear GB
  go_enter Tryz.func162, Tryz.ntmps162
  go_wp2_with (first | (go_at_call 196; refine (IN _).mono ?_; rintro e w' ⟨rfl, hw⟩; obtain rfl := hw.symm; clear hw) | (go_at_call 154; refine (GS _ HB0.out).mono ?_; rintro e w1 ⟨rfl, hb⟩; have HB1 : Hid (Below (w.alloc (refO b s r c fr fc)).heap.size (w.alloc (refO b s r c fr fc)) w1) := hb; clear hb; obtain ⟨c0, c1, c2, c3, c4, c5⟩ := r_cells (new1 HB1.out)))
  go_ret
  exact ⟨rfl, bel1 HB1.out⟩
 ·rw [h2]
  rw [h1] at IN
  rw [h4] at GS
  generalize gnF b.data.toList = gb at *
  clear h2
  go_enter Tryz.func162, Tryz.ntmps162
  go_wp2_with (go_at_call 196; refine (IN _).mono ?_; rintro e w' ⟨rfl, hw⟩; obtain rfl := hw.symm; clear hw)
  refine (GS _ HB0.out).mono ?_
  rintro e w1 ⟨rfl, hb⟩
  have HB1 : Hid (Below (w.alloc (refO b s r c fr fc)).heap.size (w.alloc (refO b s r c fr fc)) w1) := hb
  clear hb GS
  obtain ⟨c0, c1, c2, c3, c4, c5⟩ := r_cells (new1 HB1.out)
  go_wp2_with fail
  refine (GB _ HB1.out).mono ?_
  rintro e w2 ⟨rfl, hb⟩
  have HB2 : Hid (Below (w.alloc (refO b s r c fr fc)).heap.size (w.alloc (refO b s r c fr fc)) w2) := hb
  clear hb
  go_wp2
  go_ret
  exact ⟨rfl, bel1 HB2.out⟩
theorem ragood_any (b s : ByteArray) (r c : Int) (fr fc : Bool) (hb : b.size ≤ 9223372036854775807) (hs : s.size ≤ 9223372036854775807) (w : World) :
  Calls Tryz.prog 107 #[refV b s r c fr fc] w fun e w' => e = .returned (.bool (goodB b s r c)) ∧ Below w.heap.size w w' := by
 have IN := fun u => rin_any r c u
 have GS : RC (w.alloc (refO b s r c fr fc)) 108 #[.string s] _ := RC.of fun u hu => rgoodname_any s hs u
 have GB : RC (w.alloc (refO b s r c fr fc)) 108 #[.string b] _ := RC.of fun u hu => rgoodname_any b hb u
 have HB0 : Hid (Below (w.alloc (refO b s r c fr fc)).heap.size (w.alloc (refO b s r c fr fc)) (w.alloc (refO b s r c fr fc))) := Below.refl _ _
 rcases good_ways b s r c with ⟨h1, h2⟩ | ⟨h1, h3, h4, h2⟩ | ⟨h1, h3, h4, h2⟩ | ⟨h1, h3, h4, h2⟩ | ⟨h1, h3, h4, h5, h2⟩ | ⟨h1, h3, h4, h5, h2⟩
 ·rw [h2]
  rw [h1] at IN
  go_enter Tryz.func107, Tryz.ntmps107
  go_wp2_with (go_at_call 144; refine (IN _).mono ?_; rintro e w' ⟨rfl, hw⟩; obtain rfl := hw.symm; clear hw)
  go_ret
  exact ⟨rfl, bel1 HB0.out⟩
 ·rw [h2]
  rw [h1] at IN
  go_enter Tryz.func107, Tryz.ntmps107
  go_wp2_with (go_at_call 144; refine (IN _).mono ?_; rintro e w' ⟨rfl, hw⟩; obtain rfl := hw.symm; clear hw)
  go_ret
  exact ⟨rfl, bel1 HB0.out⟩
 ·rw [h2]
  rw [h1] at IN
  clear GS
  generalize gnF b.data.toList = gb at *
  go_enter Tryz.func107, Tryz.ntmps107
  go_wp2_with (first | (go_at_call 144; refine (IN _).mono ?_; rintro e w' ⟨rfl, hw⟩; obtain rfl := hw.symm; clear hw) | (go_at_call 108; refine (GB _ HB0.out).mono ?_; rintro e w1 ⟨rfl, hb⟩; have HB1 : Hid (Below (w.alloc (refO b s r c fr fc)).heap.size (w.alloc (refO b s r c fr fc)) w1) := hb; clear hb; obtain ⟨c0, c1, c2, c3, c4, c5⟩ := r_cells (new1 HB1.out)))
  all_goals (go_ret; exact ⟨rfl, bel1 HB1.out⟩)
 ·rw [h2]
  rw [h1] at IN
  rw [h4] at GS
  clear GB
  go_enter Tryz.func107, Tryz.ntmps107
  go_wp2_with (first | (go_at_call 144; refine (IN _).mono ?_; rintro e w' ⟨rfl, hw⟩; obtain rfl := hw.symm; clear hw) | (go_at_call 108; refine (GS _ HB0.out).mono ?_; rintro e w1 ⟨rfl, hb⟩; have HB1 : Hid (Below (w.alloc (refO b s r c fr fc)).heap.size (w.alloc (refO b s r c fr fc)) w1) := hb; clear hb))
  go_ret
  exact ⟨rfl, bel1 HB1.out⟩
 ·rw [h2]
  rw [h1] at IN
  rw [h4] at GS
  clear GB
  go_enter Tryz.func107, Tryz.ntmps107
  go_wp2_with (first | (go_at_call 144; refine (IN _).mono ?_; rintro e w' ⟨rfl, hw⟩; obtain rfl := hw.symm; clear hw) | (go_at_call 108; refine (GS _ HB0.out).mono ?_; rintro e w1 ⟨rfl, hb⟩; have HB1 : Hid (Below (w.alloc (refO b s r c fr fc)).heap.size (w.alloc (refO b s r c fr fc)) w1) := hb; clear hb; obtain ⟨c0, c1, c2, c3, c4, c5⟩ := r_cells (new1 HB1.out)))
  go_ret
  exact ⟨rfl, bel1 HB1.out⟩
 ·rw [h2]
  rw [h1] at IN
  rw [h4] at GS
  generalize gnF b.data.toList = gb at *
  clear h2
  go_enter Tryz.func107, Tryz.ntmps107
  go_wp2_with (go_at_call 144; refine (IN _).mono ?_; rintro e w' ⟨rfl, hw⟩; obtain rfl := hw.symm; clear hw)
  refine (GS _ HB0.out).mono ?_
  rintro e w1 ⟨rfl, hb⟩
  have HB1 : Hid (Below (w.alloc (refO b s r c fr fc)).heap.size (w.alloc (refO b s r c fr fc)) w1) := hb
  clear hb GS
  obtain ⟨c0, c1, c2, c3, c4, c5⟩ := r_cells (new1 HB1.out)
  go_wp2_with fail
  refine (GB _ HB1.out).mono ?_
  rintro e w2 ⟨rfl, hb⟩
  have HB2 : Hid (Below (w.alloc (refO b s r c fr fc)).heap.size (w.alloc (refO b s r c fr fc)) w2) := hb
  clear hb
  obtain ⟨c0, c1, c2, c3, c4, c5⟩ := r_cells (new1 HB2.out)
  cases gb
  all_goals (go_wp2; go_ret; exact ⟨rfl, bel1 HB2.out⟩)
theorem rn1 : Utf8.encode (65 + ((1 : Nat) : Int) - 1) = ⟨#[Ad.colC 1]⟩ := by kernel_rfl
theorem rn2 : Utf8.encode (65 + ((2 : Nat) : Int) - 1) = ⟨#[Ad.colC 2]⟩ := by kernel_rfl
theorem rn3 : Utf8.encode (65 + ((3 : Nat) : Int) - 1) = ⟨#[Ad.colC 3]⟩ := by kernel_rfl
theorem rn4 : Utf8.encode (65 + ((4 : Nat) : Int) - 1) = ⟨#[Ad.colC 4]⟩ := by kernel_rfl
theorem rn5 : Utf8.encode (65 + ((5 : Nat) : Int) - 1) = ⟨#[Ad.colC 5]⟩ := by kernel_rfl
theorem rn6 : Utf8.encode (65 + ((6 : Nat) : Int) - 1) = ⟨#[Ad.colC 6]⟩ := by kernel_rfl
theorem rn7 : Utf8.encode (65 + ((7 : Nat) : Int) - 1) = ⟨#[Ad.colC 7]⟩ := by kernel_rfl
theorem rn8 : Utf8.encode (65 + ((8 : Nat) : Int) - 1) = ⟨#[Ad.colC 8]⟩ := by kernel_rfl
theorem rn9 : Utf8.encode (65 + ((9 : Nat) : Int) - 1) = ⟨#[Ad.colC 9]⟩ := by kernel_rfl
theorem rn10 : Utf8.encode (65 + ((10 : Nat) : Int) - 1) = ⟨#[Ad.colC 10]⟩ := by kernel_rfl
theorem rn11 : Utf8.encode (65 + ((11 : Nat) : Int) - 1) = ⟨#[Ad.colC 11]⟩ := by kernel_rfl
theorem rn12 : Utf8.encode (65 + ((12 : Nat) : Int) - 1) = ⟨#[Ad.colC 12]⟩ := by kernel_rfl
theorem rn13 : Utf8.encode (65 + ((13 : Nat) : Int) - 1) = ⟨#[Ad.colC 13]⟩ := by kernel_rfl
theorem rn14 : Utf8.encode (65 + ((14 : Nat) : Int) - 1) = ⟨#[Ad.colC 14]⟩ := by kernel_rfl
theorem rn15 : Utf8.encode (65 + ((15 : Nat) : Int) - 1) = ⟨#[Ad.colC 15]⟩ := by kernel_rfl
theorem rn16 : Utf8.encode (65 + ((16 : Nat) : Int) - 1) = ⟨#[Ad.colC 16]⟩ := by kernel_rfl
theorem rn17 : Utf8.encode (65 + ((17 : Nat) : Int) - 1) = ⟨#[Ad.colC 17]⟩ := by kernel_rfl
theorem rn18 : Utf8.encode (65 + ((18 : Nat) : Int) - 1) = ⟨#[Ad.colC 18]⟩ := by kernel_rfl
theorem rn19 : Utf8.encode (65 + ((19 : Nat) : Int) - 1) = ⟨#[Ad.colC 19]⟩ := by kernel_rfl
theorem rn20 : Utf8.encode (65 + ((20 : Nat) : Int) - 1) = ⟨#[Ad.colC 20]⟩ := by kernel_rfl
theorem rn21 : Utf8.encode (65 + ((21 : Nat) : Int) - 1) = ⟨#[Ad.colC 21]⟩ := by kernel_rfl
theorem rn22 : Utf8.encode (65 + ((22 : Nat) : Int) - 1) = ⟨#[Ad.colC 22]⟩ := by kernel_rfl
theorem rn23 : Utf8.encode (65 + ((23 : Nat) : Int) - 1) = ⟨#[Ad.colC 23]⟩ := by kernel_rfl
theorem rn24 : Utf8.encode (65 + ((24 : Nat) : Int) - 1) = ⟨#[Ad.colC 24]⟩ := by kernel_rfl
theorem rn25 : Utf8.encode (65 + ((25 : Nat) : Int) - 1) = ⟨#[Ad.colC 25]⟩ := by kernel_rfl
theorem rn26 : Utf8.encode (65 + ((26 : Nat) : Int) - 1) = ⟨#[Ad.colC 26]⟩ := by kernel_rfl
theorem run_rune (n : Nat) (h1 : 1 ≤ n) (h2 : n ≤ 26) : Utf8.encode (65 + (n : Int) - 1) = ⟨#[Ad.colC n]⟩ := by
 have h : n = 1 ∨ n = 2 ∨ n = 3 ∨ n = 4 ∨ n = 5 ∨ n = 6 ∨ n = 7 ∨ n = 8 ∨ n = 9 ∨ n = 10 ∨ n = 11 ∨ n = 12 ∨ n = 13 ∨ n = 14 ∨ n = 15 ∨ n = 16 ∨ n = 17 ∨ n = 18 ∨ n = 19 ∨ n = 20 ∨ n = 21 ∨ n = 22 ∨ n = 23 ∨ n = 24 ∨ n = 25 ∨ n = 26 := by omega
 rcases h with rfl | rfl | rfl | rfl | rfl | rfl | rfl | rfl | rfl | rfl | rfl | rfl | rfl | rfl | rfl | rfl | rfl | rfl | rfl | rfl | rfl | rfl | rfl | rfl | rfl | rfl
 ·exact rn1
 ·exact rn2
 ·exact rn3
 ·exact rn4
 ·exact rn5
 ·exact rn6
 ·exact rn7
 ·exact rn8
 ·exact rn9
 ·exact rn10
 ·exact rn11
 ·exact rn12
 ·exact rn13
 ·exact rn14
 ·exact rn15
 ·exact rn16
 ·exact rn17
 ·exact rn18
 ·exact rn19
 ·exact rn20
 ·exact rn21
 ·exact rn22
 ·exact rn23
 ·exact rn24
 ·exact rn25
 ·exact rn26
theorem wrap_i64 {n : Int} (h1 : -9223372036854775808 ≤ n) (h2 : n ≤ 9223372036854775807) : IntKind.i64.wrap n = n := by
 rw [IntKind.wrap_i64]; omega
theorem wrap_i32 {n : Int} (h1 : -2147483648 ≤ n) (h2 : n ≤ 2147483647) : IntKind.i32.wrap n = n := by
 rw [IntKind.wrap_i32]; omega
def dolB (f : Bool) : ByteArray := if f = true then ⟨#[36]⟩ else ⟨#[]⟩
theorem dol_size (f : Bool) : (dolB f).size ≤ 1 := by cases f <;> decide
theorem dec_short (n : Nat) (h : n ≤ 64) : (⟨(Lib.decDigits n).toArray⟩ : ByteArray).size ≤ 2 := by
 rw [size_mk]
 by_cases e : n < 10
 ·rw [Lib.decDigits_one e]; simp
 ·rw [Lib.decDigits, dif_neg e, Lib.decDigits_one (by omega)]; simp
def cellB (R C : Nat) (fr fc : Bool) : ByteArray := ⟨(Ad.cellW ⟨R, C, fr, fc⟩).toArray⟩
theorem cellB_eq (R C : Nat) (fr fc : Bool) : dolB fc ++ ⟨#[Ad.colC C]⟩ ++ dolB fr ++ ⟨(Lib.decDigits R).toArray⟩ = cellB R C fr fc := by
 unfold cellB Ad.cellW dolB
 apply ByteArray.ext
 cases fr <;> cases fc <;> simp
theorem pcell_any (b s : ByteArray) (R C : Nat) (fr fc : Bool) (hR1 : 1 ≤ R) (hR2 : R ≤ 64) (hC1 : 1 ≤ C) (hC2 : C ≤ 26) (w : World) (T : Tabs w) :
  Calls Tryz.prog 174 #[refV b s R C fr fc] w fun e w' => e = .returned (.string (cellB R C fr fc)) ∧ Below w.heap.size w w' := by
 have D1 : RC (w.alloc (refO b s R C fr fc)) 213 #[.bool fc] (.string (dolB fc)) := RC.same fun u hu => dollar_any fc u
 have D2 : RC (w.alloc (refO b s R C fr fc)) 213 #[.bool fr] (.string (dolB fr)) := RC.same fun u hu => dollar_any fr u
 have IT : RC (w.alloc (refO b s R C fr fc)) 170 #[.int .i64 R] (.string ⟨(Lib.decDigits R).toArray⟩) := RC.of fun u hu => itoa_any R (by omega) u (T.below (bel1 hu)).p
 have CV := run_rune C hC1 hC2
 obtain ⟨m1, e1⟩ : ∃ m1 : Int, 65 + (C : Int) = m1 := ⟨_, rfl⟩
 rw [e1] at CV
 obtain ⟨m2, e2⟩ : ∃ m2 : Int, m1 - 1 = m2 := ⟨_, rfl⟩
 rw [e2] at CV
 have k1 : IntKind.i64.wrap m1 = m1 := wrap_i64 (by omega) (by omega)
 have k2 : IntKind.i64.wrap m2 = m2 := wrap_i64 (by omega) (by omega)
 have k3 : IntKind.i32.wrap m2 = m2 := wrap_i32 (by omega) (by omega)
 have z1 := dol_size fc
 have z2 := dol_size fr
 have z3 := dec_short R hR2
 rw [← cellB_eq]
 generalize dolB fc = X1 at *
 generalize dolB fr = X2 at *
 generalize (⟨(Lib.decDigits R).toArray⟩ : ByteArray) = X3 at *
 have z4 : (⟨#[Ad.colC C]⟩ : ByteArray).size ≤ 1 := Nat.le_refl 1
 generalize (⟨#[Ad.colC C]⟩ : ByteArray) = X4 at *
 have z5 : ¬ 9223372036854775807 < X1.size + X4.size := by omega
 have z6 : ¬ 9223372036854775807 < X1.size + X4.size + X2.size := by omega
 have z7 : ¬ 9223372036854775807 < X1.size + X4.size + X2.size + X3.size := by omega
 have HC : Hid (∀ u : World, Below (w.alloc (refO b s R C fr fc)).heap.size (w.alloc (refO b s R C fr fc)) u → u.cell? ⟨w.heap.size, 2, none⟩ = some (.int .i64 R) ∧ u.cell? ⟨w.heap.size, 3, none⟩ = some (.int .i64 C) ∧ u.cell? ⟨w.heap.size, 4, none⟩ = some (.bool fr) ∧ u.cell? ⟨w.heap.size, 5, none⟩ = some (.bool fc)) :=
  fun u hu => (r_cells (new1 hu)).2.2
 have HB : Hid (Below (w.alloc (refO b s R C fr fc)).heap.size (w.alloc (refO b s R C fr fc)) (w.alloc (refO b s R C fr fc)).drew) := (Below.refl _ _).drew
 go_enter Tryz.func174, Tryz.ntmps174
 go_wp2
 go_region_held_law (fun u => u.cell? ⟨w.heap.size, 2, none⟩ = some (.int .i64 R) ∧ u.cell? ⟨w.heap.size, 3, none⟩ = some (.int .i64 C) ∧ u.cell? ⟨w.heap.size, 4, none⟩ = some (.bool fr) ∧ u.cell? ⟨w.heap.size, 5, none⟩ = some (.bool fc))
  (exact HC.out _ HB.out) (first
  | (go_at_call_of 213 fc; refine (D1 _ HB.out).mono ?_; rintro e w7 ⟨rfl, hb⟩; have HB : Hid (Below (w.alloc (refO b s R C fr fc)).heap.size (w.alloc (refO b s R C fr fc)) w7) := hb; clear hb)
  | (go_at_call_of 213 fr; refine (D2 _ HB.out).mono ?_; rintro e w7 ⟨rfl, hb⟩; have HB : Hid (Below (w.alloc (refO b s R C fr fc)).heap.size (w.alloc (refO b s R C fr fc)) w7) := hb; clear hb)
  | (go_at_call 170; refine (IT _ HB.out).mono ?_; rintro e w7 ⟨rfl, hb⟩; have HB : Hid (Below (w.alloc (refO b s R C fr fc)).heap.size (w.alloc (refO b s R C fr fc)) w7) := hb; clear hb))
 all_goals (go_wp2; go_ret; exact ⟨rfl, bel1 HB.out⟩)
end Go.Proofs.YtljmklbbngpllaaGreatDoor
