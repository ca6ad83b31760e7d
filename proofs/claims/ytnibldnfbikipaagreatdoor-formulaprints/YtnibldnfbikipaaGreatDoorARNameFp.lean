/- VJoin, AName, AGood, ARName. -/
import Derived.Test.YtnibldnfbikipaaGreatDoorVTypedFp
set_option linter.unusedVariables false
set_option linter.unusedSimpArgs false
set_option maxHeartbeats 16000000
set_option maxRecDepth 100000
namespace Go.Proofs.YtnibldnfbikipaaGreatDoor
open Go.RowKit
structure Tabs (w : World) : Prop where
 p : PTab w
 f : FTab w
theorem Tabs.below {w w' : World} (h : Tabs w) (hb : Below w.heap.size w w') : Tabs w' := ⟨h.p.below hb, h.f.below hb⟩
abbrev val (k n : Int) (s : ByteArray) : Value := .agg #[.int .i64 k, .int .i64 n, .string s]
theorem k_cases (k : Int) : k = 0 ∨ k = 1 ∨ k = 2 ∨ k = 3 ∨ k = 4 ∨ (¬ k = 0 ∧ ¬ k = 1 ∧ ¬ k = 2 ∧ ¬ k = 3 ∧ ¬ k = 4) := by omega
theorem beq_no {k c : Int} (h : ¬ k = c) : (k == c) = false := by simpa using h
theorem parse_s (s : ByteArray) (hs : s.size ≤ 9223372036854775807) (u : World) : Calls Tryz.prog 203 #[.string s] u fun e w' => e = .returned (.tuple #[.int .i64 (parseF s.data.toList).1, .bool (parseF s.data.toList).2]) ∧ Below u.heap.size u w' := by
 have := parse_any s.data.toList u (by rw [size_list]; exact hs)
 rw [mk_list] at this
 exact this
theorem parse_gd (l : List UInt8) : gd (parseF l).1 = true := by unfold parseF; split <;> first | exact ans_gd _ | rfl
def textF (k n : Int) (s : ByteArray) : ByteArray :=
 if k = 1 then ⟨(printF n).toArray⟩ else if k = 2 then s else if k = 3 then (if (n != 0) = true then ⟨#[84, 82, 85, 69]⟩ else ⟨#[70, 65, 76, 83, 69]⟩) else if k = 4 then fnB n else ⟨#[]⟩
def goodF (k n : Int) (s : ByteArray) : Bool :=
 if k = 0 then (n == 0) && emB s else if k = 1 then emB s && gd n else if k = 2 then (n == 0) && lenB s else if k = 3 then emB s && ((n == 0) || (n == 1)) else if k = 4 then emB s && knB n else false
def typedF (s : ByteArray) : Int × Int × ByteArray :=
 if s.toList = [] then (0, 0, ⟨#[]⟩) else if s.data.toList.head? = some 39 then (2, 0, ⟨(s.data.toList.drop 1).toArray⟩)
 else if (parseF s.data.toList).2 = true then (1, (parseF s.data.toList).1, ⟨#[]⟩)
 else if (truF s).2 = true then (3, if (truF s).1 = true then 1 else 0, ⟨#[]⟩)
 else if fltN s = 0 then (2, 0, s) else (4, (fltN s : Nat), ⟨#[]⟩)
theorem truth_ways (s : ByteArray) : ((truF s).2 = true ∧ (truF s).1 = true ∧ truN (szF 97 65 s.data.toList) = 1) ∨ ((truF s).2 = true ∧ (truF s).1 = false ∧ truN (szF 97 65 s.data.toList) = 0) ∨ ((truF s).2 = false ∧ truN (szF 97 65 s.data.toList) = -1) := by
 unfold truF
 rcases tru_cases (szF 97 65 s.data.toList) with ⟨_, h, g⟩ | ⟨_, h, g⟩ | ⟨_, _, h, g⟩ <;> simp [h, g]
theorem vtext_any (k n : Int) (s : ByteArray) (hn : In64 n) (w : World) (T : Tabs w) :
  Calls Tryz.prog 174 #[val k n s] w fun e w' => e = .returned (.string (textF k n s)) ∧ Below w.heap.size w w' := by
 rcases k_cases k with rfl | rfl | rfl | rfl | rfl | ⟨h0, h1, h2, h3, h4⟩
 ·exact vtext_blank n s w
 ·exact vtext_num n s w _ (fun u hu => print_any n hn u (T.below hu).p)
 ·exact vtext_str n s w
 ·exact vtext_bool n s w _ (fun u => kind_bool n s u)
 ·exact vtext_bad n s w _ (fun u hu => fname_any n u (T.below hu).f)
 ·have e : textF k n s = ⟨#[]⟩ := by simp [textF, h1, h2, h3, h4]
  rw [e]
  exact vtext_none k n s w (beq_no h0) (beq_no h1) (beq_no h2) (beq_no h3) (beq_no h4)
theorem cut39 (l : List UInt8) : Lib.hasPrefix l [39] = decide (l.head? = some 39) ∧ Lib.trimPrefix l [39] = if l.head? = some 39 then l.drop 1 else l := by
 cases l with
 | nil => exact ⟨rfl, rfl⟩
 | cons b l =>
  have h : Lib.hasPrefix (b :: l) [39] = decide ((b :: l).head? = some 39) := by
   unfold Lib.hasPrefix
   simp [List.isPrefixOf]
   exact BEq.comm
  refine ⟨h, ?_⟩
  unfold Lib.trimPrefix
  rw [h]
  by_cases e : (b :: l).head? = some 39
  ·rw [if_pos e, if_pos (by simpa using e)]; rfl
  ·rw [if_neg e, if_neg (by simpa using e)]
theorem cutp_s (s : ByteArray) (u : World) : Calls Tryz.prog 73 #[.string s, .string ⟨#[39]⟩] u fun e w' => e = .returned (.tuple #[.string ⟨(if s.data.toList.head? = some 39 then s.data.toList.drop 1 else s.data.toList).toArray⟩, .bool (decide (s.data.toList.head? = some 39))]) ∧ w' = u := by
 have h := Tryz.strings_CutPrefix s ⟨#[39]⟩ u
 rw [show (⟨#[39]⟩ : ByteArray).data.toList = [39] from rfl, (cut39 _).1, (cut39 _).2] at h
 exact h
theorem typed_any (s : ByteArray) (hs : s.size ≤ 9223372036854775807) (w : World) (T : Tabs w) :
  Calls Tryz.prog 160 #[.string s] w fun e w' => e = .returned (val (typedF s).1 (typedF s).2.1 (typedF s).2.2) ∧ Below w.heap.size w w' := by
 have PF := fun u => cutp_s s u
 have PP := fun u => parse_s s hs u
 have PT := fun u => ptruth_any s hs u
 have PL : ∀ u : World, Below (w.alloc (.cells #[.int .i64 0, .int .i64 0, .string ⟨#[]⟩] 62)).heap.size (w.alloc (.cells #[.int .i64 0, .int .i64 0, .string ⟨#[]⟩] 62)) u → _ := fun u hu => pfault_any s u (T.below (bel1 hu)).f
 unfold typedF
 by_cases h0 : s.toList = []
 ·rw [if_pos h0]; exact typed_empty s w h0
 ·rw [if_neg h0]
  by_cases h1 : s.data.toList.head? = some 39
  ·rw [if_pos h1]
   simp only [h1, if_true, decide_true] at PF
   exact typed_quote s w h0 _ PF
  ·rw [if_neg h1]
   simp only [h1, if_false, decide_false] at PF
   by_cases h2 : (parseF s.data.toList).2 = true
   ·rw [if_pos h2]
    rw [h2] at PP
    exact typed_num s w h0 _ PF _ PP (parse_gd _)
   ·rw [if_neg h2]
    rw [Bool.not_eq_true] at h2
    rw [h2] at PP
    by_cases h3 : (truF s).2 = true
    ·rw [if_pos h3]
     rw [h3] at PT
     exact typed_truth s w h0 _ PF _ PP _ PT
    ·rw [if_neg h3]
     rw [Bool.not_eq_true] at h3
     rw [h3] at PT
     by_cases h4 : fltN s = 0
     ·rw [if_pos h4]
      simp only [h4, ne_eq, not_true_eq_false, decide_false] at PL
      exact typed_text s w h0 _ PF _ PP _ PT _ PL
     ·rw [if_neg h4]
      simp only [h4, ne_eq, not_false_eq_true, decide_true] at PL
      have := flt_le s
      exact typed_fault s w h0 _ PF _ PP _ PT _ PL (kn_nat _ (by omega) (by omega))
def okC (c : UInt8) : Bool := Ad.isL c || Ad.isD c || (c == 95)
def headL (l : List UInt8) : Bool := match l with
 | [] => false
 | c :: _ => Ad.isL c
def spF (l : List UInt8) : Bool := decide (l.length ≤ 16) && headL l && l.all okC
def lcF (l : List UInt8) : Bool := (l.drop 1).all Ad.isD && decide (1 < l.length)
def gnF (l : List UInt8) : Bool := spF l && !lcF l && !(truF ⟨l.toArray⟩).2
theorem alls_at (p : UInt8 → Bool) (s : ByteArray) (k : Nat) (h : k < s.size) (hall : s.data.toList.all p = true) : p s[k] = true := by
 rw [byte_at s k h (by rw [size_list]; exact h)]
 exact List.all_eq_true.1 hall _ (List.getElem_mem _)
theorem alls_step (p : UInt8 → Bool) (s : ByteArray) (k : Nat) (h : k < s.size) (ha : (s.data.toList.take k).all p = true) (hb : p s[k] = true) : (s.data.toList.take (k + 1)).all p = true := by
 rw [take_snoc _ _ (by rw [size_list]; exact h), List.all_append, ha, ← byte_at s k h (by rw [size_list]; exact h)]
 simp [hb]
theorem head_list : ∀ (l : List UInt8) (h : 0 < l.length), headL l = Ad.isL l[0]
 | [], h => by simp at h
 | a :: r, h => rfl
theorem head_at (s : ByteArray) (h : 0 < s.size) : headL s.data.toList = Ad.isL s[0] := by
 rw [byte_at s 0 h (by rw [size_list]; exact h)]
 exact head_list _ _
theorem ch_facts (c d : UInt8) : (c = d ∧ ((c.toNat : Int) == (d.toNat : Int)) = true) ∨ (c ≠ d ∧ ((c.toNat : Int) == (d.toNat : Int)) = false) := by
 by_cases h : c = d
 ·subst h; left; exact ⟨rfl, by simp⟩
 ·right
  refine ⟨h, ?_⟩
  rw [beq_eq_false_iff_ne]
  intro e
  exact h (UInt8.toNat_inj.1 (by omega))
theorem spelled_any (s : ByteArray) (hs : s.size ≤ 9223372036854775807) (w : World) :
  Calls Tryz.prog 110 #[.string s] w fun e w' => e = .returned (.bool (spF s.data.toList)) ∧ Below w.heap.size w w' := by
 have hl := size_list s
 generalize hr : spF s.data.toList = r
 have HR : Hid (spF s.data.toList = r) := hr
 clear hr
 by_cases h0 : s.size = 0
 ·have h1 : (s.size : Int) < 1 := by omega
  have HE : Hid (r = false) := by
   show _ = _
   have : s.data.toList = [] := List.eq_nil_of_length_eq_zero (by omega)
   rw [← HR.out, this]
   rfl
  go_enter Tryz.func110, Tryz.ntmps110
  go_wp2
  go_ret
  exact ⟨by rw [HE.out]; rfl, Below.refl _ _⟩
 have h1 : ¬ (s.size : Int) < 1 := by omega
 by_cases h16 : 16 < s.size
 ·have h2 : (16 : Int) < s.size := by omega
  have HE : Hid (r = false) := by
   show _ = _
   rw [← HR.out]
   unfold spF
   rw [decide_eq_false (show ¬ s.data.toList.length ≤ 16 by omega)]
   rfl
  go_enter Tryz.func110, Tryz.ntmps110
  go_wp2
  go_ret
  exact ⟨by rw [HE.out]; rfl, Below.refl _ _⟩
 have h2 : ¬ (16 : Int) < s.size := by omega
 have hz : 0 < s.size := by omega
 have L0 := fun u => letter_any s[0] u
 have hh := head_at s hz
 cases hL : Ad.isL s[0]
 ·rw [hL] at L0 hh
  have HE : Hid (r = false) := by
   show _ = _
   rw [← HR.out]
   unfold spF
   rw [hh]
   simp
  go_enter Tryz.func110, Tryz.ntmps110
  go_wp2_with (go_at_call 158; refine (L0 _).mono ?_; rintro e w' ⟨rfl, hw⟩; obtain rfl := hw.symm; clear hw)
  go_ret
  exact ⟨by rw [HE.out]; rfl, Below.refl _ _⟩
 rw [hL] at L0 hh
 have HE : Hid (r = s.data.toList.all okC) := by
  show _ = _
  rw [← HR.out]
  unfold spF
  rw [hh, decide_eq_true (show s.data.toList.length ≤ 16 by omega)]
  rfl
 clear hh HR
 obtain ⟨c, wb, hrun, hcell, hbel⟩ := run_bytes_row w s
 have HB : Hid (Below w.heap.size w wb) := hbel
 have HC : Hid (∀ (k : Nat) (h : k < s.size), wb.cell? ⟨w.heap.size, k, none⟩ = some (.int .u8 (s[k].toNat : Int))) := hcell
 clear hbel hcell
 go_enter Tryz.func110, Tryz.ntmps110
 go_wp2_with (go_at_call 158; refine (L0 _).mono ?_; rintro e w' ⟨rfl, hw⟩; obtain rfl := hw.symm; clear hw)
 go_loop [4, 22] (fun _ i => ∃ k : Nat, k ≤ s.size ∧ i = .int .i64 k ∧ Hid ((s.data.toList.take k).all okC = true)) (fun _ i => s.size - (intOf i).toNat)
 case atStart => exact ⟨0, Nat.zero_le _, rfl, by simp [Hid]⟩
 case round =>
  obtain ⟨k, hk, rfl, ha⟩ := hrel
  clear L0
  by_cases hlt : k < s.size
  ·have hck := HC.out k hlt
   have Lk := fun u => letter_any s[k] u
   have Dk := fun u => digit_any s[k] u
   have HS : Hid (okC s[k] = true → (s.data.toList.take (k + 1)).all okC = true) := fun h => alls_step okC s k hlt ha.out h
   have HN : Hid (okC s[k] = false → r = false) := fun h => by
    rw [HE.out]
    cases hh : s.data.toList.all okC
    ·rfl
    ·rw [alls_at okC s k hlt hh] at h; cases h
   have HO : Hid (okC s[k] = (Ad.isL s[k] || Ad.isD s[k] || (s[k] == 95))) := rfl
   cases h1 : Ad.isL s[k]
   ·rw [h1] at Lk HO
    cases h2 : Ad.isD s[k]
    ·rw [h2] at Dk HO
     rcases ch_facts s[k] 95 with ⟨h3, h4⟩ | ⟨h3, h4⟩
     ·have HA : Hid ((s.data.toList.take (k + 1)).all okC = true) := HS.out (by rw [HO.out, h3]; rfl)
      have h5 : ((s[k].toNat : Int) != 95) = false := by rw [h3]; rfl
      clear h1 h2 h3 h4 HN HS
      go_wp2_with (first | (go_at_call 158; refine (Lk _).mono ?_; rintro e w' ⟨rfl, hw⟩; obtain rfl := hw.symm; clear hw) | (go_at_call 159; refine (Dk _).mono ?_; rintro e w' ⟨rfl, hw⟩; obtain rfl := hw.symm; clear hw))
      go_round
      case rel => exact ⟨k + 1, by omega, by go_num, HA.out⟩
      case measure => simp [intOf]; omega
     ·have HF : Hid (r = false) := HN.out (by rw [HO.out]; simpa using h3)
      have h5 : ((s[k].toNat : Int) != 95) = true := by rw [bne, show ((s[k].toNat : Int) == 95) = false from h4]; rfl
      clear h1 h2 h3 h4 HN HS
      go_wp2_with (first | (go_at_call 158; refine (Lk _).mono ?_; rintro e w' ⟨rfl, hw⟩; obtain rfl := hw.symm; clear hw) | (go_at_call 159; refine (Dk _).mono ?_; rintro e w' ⟨rfl, hw⟩; obtain rfl := hw.symm; clear hw))
      go_ret
      exact ⟨by rw [HF.out]; rfl, HB.out⟩
    ·rw [h2] at Dk HO
     have HA : Hid ((s.data.toList.take (k + 1)).all okC = true) := HS.out (by rw [HO.out]; rfl)
     clear h1 h2 HN HS
     go_wp2_with (first | (go_at_call 158; refine (Lk _).mono ?_; rintro e w' ⟨rfl, hw⟩; obtain rfl := hw.symm; clear hw) | (go_at_call 159; refine (Dk _).mono ?_; rintro e w' ⟨rfl, hw⟩; obtain rfl := hw.symm; clear hw))
     go_round
     case rel => exact ⟨k + 1, by omega, by go_num, HA.out⟩
     case measure => simp [intOf]; omega
   ·rw [h1] at Lk HO
    have HA : Hid ((s.data.toList.take (k + 1)).all okC = true) := HS.out (by rw [HO.out]; rfl)
    clear h1 HN HS
    go_wp2_with (first | (go_at_call 158; refine (Lk _).mono ?_; rintro e w' ⟨rfl, hw⟩; obtain rfl := hw.symm; clear hw))
    go_round
    case rel => exact ⟨k + 1, by omega, by go_num, HA.out⟩
    case measure => simp [intOf]; omega
  ·have HT : Hid (r = true) := by
    show _ = _
    have hh := ha.out
    rw [List.take_of_length_le (by omega)] at hh
    rw [HE.out, hh]
   go_wp2
   go_ret
   exact ⟨by rw [HT.out]; rfl, HB.out⟩
theorem tail_bytes (s : ByteArray) : (s.extract 1 s.size).data.toList = s.data.toList.drop 1 := by
 have := drop_mk s.data.toList
 rw [mk_list] at this
 rw [this]
theorem likecell_any (s : ByteArray) (hz : 0 < s.size) (hs : s.size ≤ 9223372036854775807) (w : World) :
  Calls Tryz.prog 111 #[.string s] w fun e w' => e = .returned (.bool (lcF s.data.toList)) ∧ Below w.heap.size w w' := by
 have hl := size_list s
 generalize hr : lcF s.data.toList = r
 have HR : Hid (lcF s.data.toList = r) := hr
 clear hr
 have hx := tail_bytes s
 have hxs : (s.extract 1 s.size).size = s.size - 1 := by simp
 have HE : Hid (r = ((s.extract 1 s.size).data.toList.all Ad.isD && decide (1 < s.size))) := by
  show _ = _
  rw [← HR.out]
  unfold lcF
  rw [hx, hl]
 obtain ⟨t, ht⟩ : ∃ t, s.extract 1 s.size = t := ⟨_, rfl⟩
 rw [ht] at hx hxs HE
 have hlt := size_list t
 clear HR hx
 obtain ⟨c, wb, hrun, hcell, hbel⟩ := run_bytes_row w t
 have HB : Hid (Below w.heap.size w wb) := hbel
 have HC : Hid (∀ (k : Nat) (h : k < t.size), wb.cell? ⟨w.heap.size, k, none⟩ = some (.int .u8 (t[k].toNat : Int))) := hcell
 clear hbel hcell
 rw [← ht] at hrun
 clear ht
 have c1 : (1 : Int) ≤ s.size := by omega
 go_enter Tryz.func111, Tryz.ntmps111
 go_wp2
 go_loop [4, 9] (fun _ i => ∃ k : Nat, k ≤ t.size ∧ i = .int .i64 k ∧ Hid ((t.data.toList.take k).all Ad.isD = true)) (fun _ i => t.size - (intOf i).toNat)
 case atStart => exact ⟨0, Nat.zero_le _, rfl, by simp [Hid]⟩
 case round =>
  obtain ⟨k, hk, rfl, ha⟩ := hrel
  by_cases hlt2 : k < t.size
  ·have hck := HC.out k hlt2
   have Dk := fun u => digit_any t[k] u
   cases h2 : Ad.isD t[k]
   ·rw [h2] at Dk
    have HF : Hid (r = false) := by
     show _ = _
     rw [HE.out]
     cases hh : t.data.toList.all Ad.isD
     ·rfl
     ·rw [alls_at Ad.isD t k hlt2 hh] at h2; cases h2
    clear h2
    go_wp2_with (go_at_call 159; refine (Dk _).mono ?_; rintro e w' ⟨rfl, hw⟩; obtain rfl := hw.symm; clear hw)
    go_ret
    exact ⟨by rw [HF.out]; rfl, HB.out⟩
   ·rw [h2] at Dk
    have HA : Hid ((t.data.toList.take (k + 1)).all Ad.isD = true) := alls_step Ad.isD t k hlt2 ha.out h2
    clear h2
    go_wp2_with (go_at_call 159; refine (Dk _).mono ?_; rintro e w' ⟨rfl, hw⟩; obtain rfl := hw.symm; clear hw)
    go_round
    case rel => exact ⟨k + 1, by omega, by go_num, HA.out⟩
    case measure => simp [intOf]; omega
  ·have HT : Hid (r = decide ((1 : Int) < s.size)) := by
    show _ = _
    have hh := ha.out
    rw [List.take_of_length_le (by omega)] at hh
    rw [HE.out, hh, Bool.true_and, decide_eq_decide]
    omega
   go_wp2
   go_ret
   exact ⟨by rw [HT.out]; rfl, HB.out⟩
theorem sp_parts {l : List UInt8} (h : spF l = true) : l.length ≤ 16 ∧ headL l = true ∧ l.all okC = true := by
 unfold spF at h
 simp only [Bool.and_eq_true, decide_eq_true_eq] at h
 exact ⟨h.1.1, h.1.2, h.2⟩
theorem isL_facts {c : UInt8} (h : Ad.isL c = true) : c ≠ 39 ∧ c ≠ 45 ∧ c ≠ 46 ∧ isD c = false := by
 unfold Ad.isL at h
 simp only [Bool.or_eq_true, Bool.and_eq_true, decide_eq_true_eq] at h
 refine ⟨?_, ?_, ?_, ?_⟩
 ·rintro rfl; revert h; decide
 ·rintro rfl; revert h; decide
 ·rintro rfl; revert h; decide
 ·unfold isD; rw [Bool.and_eq_false_iff, decide_eq_false_iff_not, decide_eq_false_iff_not]; omega
theorem letter_parse {l : List UInt8} (h : headL l = true) : (parseF l).2 = false := by
 cases l with
 | nil => cases h
 | cons c r =>
  obtain ⟨_, h2, h3, h4⟩ := isL_facts h
  have e1 : dash (c :: r) = false := by unfold dash; simpa using h2
  have e2 : body (c :: r) = c :: r := by unfold body; rw [e1]; rfl
  have e3 : fstP (c :: r) = c :: fstP r := by unfold fstP; rw [List.takeWhile_cons, if_pos (by simpa using h3)]
  unfold parseF
  rw [e2, e3]
  have e4 : digs (c :: fstP r) 1 12 = false := by unfold digs; rw [List.all_cons, h4]; rfl
  rw [if_neg (by rw [e4]; simp)]
theorem typed_kind {s : ByteArray} (h : headL s.data.toList = true) : ((typedF s).1 == 3) = (truF s).2 := by
 have hp := letter_parse h
 have h0 : ¬ s.toList = [] := by
  rw [ByteArray.toList_eq]
  intro e
  rw [e] at h
  cases h
 have h1 : ¬ s.data.toList.head? = some 39 := by
  intro e
  cases hl : s.data.toList with
  | nil => rw [hl] at h; cases h
  | cons c r =>
   rw [hl] at h e
   simp only [List.head?_cons, Option.some.injEq] at e
   exact (isL_facts h).1 e
 unfold typedF
 rw [if_neg h0, if_neg h1, if_neg (by rw [hp]; decide)]
 cases ht : (truF s).2
 ·rw [if_neg (by decide)]
  split <;> rfl
 ·rw [if_pos rfl]
  rfl
theorem run_fld (W : World) (k n : Int) (x : ByteArray) : (Instr.field 62 (.agg #[.int .i64 k, .int .i64 n, .string x]) 0).run Tryz.prog W = .ok (.int .i64 k) W := by kernel_rfl
theorem liketruth_any (s : ByteArray) (hs : s.size ≤ 9223372036854775807) (w : World) (T : Tabs w) :
  Calls Tryz.prog 112 #[.string s] w fun e w' => e = .returned (.bool ((typedF s).1 == 3)) ∧ Below w.heap.size w w' := by
 have Y := typed_any s hs w T
 generalize (typedF s).1 = k at *
 generalize (typedF s).2.1 = n at *
 generalize (typedF s).2.2 = x at *
 have FL := fun W => run_fld W k n x
 go_enter Tryz.func112, Tryz.ntmps112
 go_wp2_with (go_at_call 160; refine Y.mono ?_; rintro e w1 ⟨rfl, hb⟩; have HB : Hid (Below w.heap.size w w1) := hb; clear hb)
 go_ret
 exact ⟨rfl, HB.out⟩
theorem gn_cases (s : ByteArray) : (spF s.data.toList = false ∧ gnF s.data.toList = false) ∨ (spF s.data.toList = true ∧ 0 < s.size ∧ ((lcF s.data.toList = true ∧ gnF s.data.toList = false) ∨ (lcF s.data.toList = false ∧ gnF s.data.toList = !((typedF s).1 == 3)))) := by
 unfold gnF
 rw [mk_list]
 cases h : spF s.data.toList
 ·left; exact ⟨rfl, rfl⟩
 ·right
  obtain ⟨h1, h2, h3⟩ := sp_parts h
  refine ⟨rfl, ?_, ?_⟩
  ·rw [← size_list]
   cases hl : s.data.toList with
   | nil => rw [hl] at h2; cases h2
   | cons a r => simp
  ·cases hc : lcF s.data.toList
   ·right; rw [typed_kind h2]; exact ⟨rfl, rfl⟩
   ·left; exact ⟨rfl, rfl⟩
theorem goodname_any (s : ByteArray) (hs : s.size ≤ 9223372036854775807) (w : World) (T : Tabs w) :
  Calls Tryz.prog 76 #[.string s] w fun e w' => e = .returned (.bool (gnF s.data.toList)) ∧ Below w.heap.size w w' := by
 have SP := spelled_any s hs w
 rcases gn_cases s with ⟨h1, h2⟩ | ⟨h1, hz, ⟨h3, h2⟩ | ⟨h3, h2⟩⟩
 ·rw [h1] at SP
  rw [h2]
  go_enter Tryz.func76, Tryz.ntmps76
  go_wp2_with (go_at_call 110; refine SP.mono ?_; rintro e w1 ⟨rfl, hb⟩; have HB : Hid (Below w.heap.size w w1) := hb; clear hb)
  go_ret
  exact ⟨rfl, HB.out⟩
 ·rw [h1] at SP
  rw [h2]
  have LC := fun u => likecell_any s hz hs u
  rw [h3] at LC
  go_enter Tryz.func76, Tryz.ntmps76
  go_wp2_with (first | (go_at_call 110; refine SP.mono ?_; rintro e w1 ⟨rfl, hb⟩; have HB : Hid (Below w.heap.size w w1) := hb; clear hb) | (go_at_call 111; refine (LC _).mono ?_; rintro e w2 ⟨rfl, hb⟩; have HB2 : Hid (Below w.heap.size w w2) := bel_step HB.out hb; clear hb))
  go_ret
  exact ⟨rfl, HB2.out⟩
 ·rw [h1] at SP
  rw [h2]
  have LC := fun u => likecell_any s hz hs u
  have LT := fun u hu => liketruth_any s hs u hu
  rw [h3] at LC
  generalize ((typedF s).1 == 3) = k at *
  go_enter Tryz.func76, Tryz.ntmps76
  go_wp2_with (first | (go_at_call 110; refine SP.mono ?_; rintro e w1 ⟨rfl, hb⟩; have HB : Hid (Below w.heap.size w w1) := hb; clear hb) | (go_at_call 111; refine (LC _).mono ?_; rintro e w2 ⟨rfl, hb⟩; have HB2 : Hid (Below w.heap.size w w2) := bel_step HB.out hb; clear hb) | (go_at_call 112; refine (LT _ (T.below HB2.out)).mono ?_; rintro e w3 ⟨rfl, hb⟩; have HB3 : Hid (Below w.heap.size w w3) := bel_step HB2.out hb; clear hb))
  go_ret
  exact ⟨rfl, HB3.out⟩
theorem gn_names : Ad.Names gnF := fun l h => by
 unfold gnF at h
 simp only [Bool.and_eq_true] at h
 obtain ⟨_, h2, h3⟩ := sp_parts h.1.1
 refine ⟨fun e => ?_, fun x hx => ?_⟩
 ·rw [e] at h2; cases h2
 ·have hk := List.all_eq_true.1 h3 x hx
  refine ⟨?_, ?_, ?_⟩ <;> (rintro rfl; revert hk; decide)
theorem tru_ways (s : ByteArray) : ((truF s).2 = true ∧ 0 ≤ truN (szF 97 65 s.data.toList)) ∨ ((truF s).2 = false ∧ truN (szF 97 65 s.data.toList) < 0) := by
 rcases truth_ways s with ⟨a, _, c⟩ | ⟨a, _, c⟩ | ⟨a, c⟩
 ·left; rw [c]; exact ⟨a, by decide⟩
 ·left; rw [c]; exact ⟨a, by decide⟩
 ·right; rw [c]; exact ⟨a, by decide⟩
def oth (s : ByteArray) (k : Nat) : Bool := decide (s.size = 1) || !((s.data.toList.take k).drop 1).all Ad.isD
theorem oth_one (s : ByteArray) : oth s 1 = decide (s.size = 1) := by
 unfold oth
 have : (s.data.toList.take 1).drop 1 = [] := by cases s.data.toList <;> simp
 rw [this]
 simp
theorem oth_step (s : ByteArray) (k : Nat) (h1 : 1 ≤ k) (h : k < s.size) : oth s (k + 1) = (oth s k || !Ad.isD s[k]) := by
 unfold oth
 have hl := size_list s
 rw [take_snoc _ _ (by omega), List.drop_append_of_le_length (by simp; omega), List.all_append, ← byte_at s k h (by omega)]
 simp only [List.all_cons, List.all_nil, Bool.and_true, Bool.not_and, Bool.or_assoc]
theorem oth_end (s : ByteArray) (h : 0 < s.size) : oth s s.size = !lcF s.data.toList := by
 unfold oth lcF
 have hl := size_list s
 rw [List.take_of_length_le (by omega), hl]
 by_cases e : s.size = 1
 ·simp [e]
 ·have : 1 < s.size := by omega
  simp [e, this]
theorem rgoodname_any (s : ByteArray) (hs : s.size ≤ 9223372036854775807) (w : World) :
  Calls Tryz.prog 48 #[.string s] w fun e w' => e = .returned (.bool (gnF s.data.toList)) ∧ Below w.heap.size w w' := by
 have hl := size_list s
 generalize hr : gnF s.data.toList = r
 have HR : Hid (gnF s.data.toList = r) := hr
 clear hr
 have HN : Hid (spF s.data.toList = false → r = false) := fun h => by
  rw [← HR.out]; unfold gnF; rw [h]; rfl
 by_cases h0 : s.size = 0
 ·have h1 : (s.size : Int) < 1 := by omega
  have HE : Hid (r = false) := by
   apply HN.out
   have : s.data.toList = [] := List.eq_nil_of_length_eq_zero (by omega)
   rw [this]
   rfl
  go_enter Tryz.func48, Tryz.ntmps48
  go_wp2
  go_ret
  exact ⟨by rw [HE.out]; rfl, Below.refl _ _⟩
 have h1 : ¬ (s.size : Int) < 1 := by omega
 by_cases h16 : 16 < s.size
 ·have h2 : (16 : Int) < s.size := by omega
  have HE : Hid (r = false) := by
   apply HN.out
   unfold spF
   rw [decide_eq_false (show ¬ s.data.toList.length ≤ 16 by omega)]
   rfl
  go_enter Tryz.func48, Tryz.ntmps48
  go_wp2
  go_ret
  exact ⟨by rw [HE.out]; rfl, Below.refl _ _⟩
 have h2 : ¬ (16 : Int) < s.size := by omega
 have hz : 0 < s.size := by omega
 have L0 := fun u => rletter_any s[0] u
 have hh := head_at s hz
 cases hL : Ad.isL s[0]
 ·rw [hL] at L0 hh
  have HE : Hid (r = false) := by
   apply HN.out
   unfold spF
   rw [hh]
   simp
  go_enter Tryz.func48, Tryz.ntmps48
  go_wp2_with (go_at_call 91; refine (L0 _).mono ?_; rintro e w' ⟨rfl, hw⟩; obtain rfl := hw.symm; clear hw)
  go_ret
  exact ⟨by rw [HE.out]; rfl, Below.refl _ _⟩
 rw [hL] at L0 hh
 have RT := fun u => rtruth_any s hs u
 have HT := tru_ways s
 generalize truN (szF 97 65 s.data.toList) = tn at *
 rcases HT with ⟨t1, t2⟩ | ⟨t1, t2⟩
 ·have HE : Hid (r = false) := by
   show _ = _
   rw [← HR.out]; unfold gnF; rw [mk_list, t1]; simp
  go_enter Tryz.func48, Tryz.ntmps48
  go_wp2_with (first | (go_at_call 91; refine (L0 _).mono ?_; rintro e w' ⟨rfl, hw⟩; obtain rfl := hw.symm; clear hw) | (go_at_call 92; refine (RT _).mono ?_; rintro e w1 ⟨rfl, hb⟩; have HB : Hid (Below w.heap.size w w1) := hb; clear hb))
  go_ret
  exact ⟨by rw [HE.out]; rfl, HB.out⟩
 have HE : Hid (r = (s.data.toList.all okC && !lcF s.data.toList)) := by
  show _ = _
  rw [← HR.out]
  unfold gnF spF
  rw [mk_list, t1, hh, decide_eq_true (show s.data.toList.length ≤ 16 by omega)]
  simp
 have HK0 : Hid ((s.data.toList.take 1).all okC = true) := by
  have e := alls_step okC s 0 hz (by simp) (by unfold okC; rw [hL]; rfl)
  exact e
 clear hh HR HN t1 hL
 go_enter Tryz.func48, Tryz.ntmps48
 go_wp2_with (first | (go_at_call 91; refine (L0 _).mono ?_; rintro e w' ⟨rfl, hw⟩; obtain rfl := hw.symm; clear hw) | (go_at_call 92; refine (RT _).mono ?_; rintro e w1 ⟨rfl, hb⟩; have HB : Hid (Below w.heap.size w w1) := hb; clear hb))
 clear L0 RT
 go_loop [3, 4] (fun v i => ∃ (k : Nat) (o : Bool), 1 ≤ k ∧ k ≤ s.size ∧ i = .int .i64 k ∧ v = .bool o ∧ Hid ((s.data.toList.take k).all okC = true ∧ o = oth s k)) (fun _ i => s.size - (intOf i).toNat)
 case atStart => exact ⟨1, _, Nat.le_refl _, by omega, rfl, rfl, HK0.out, by rw [oth_one, Bool.eq_iff_iff]; simp; omega⟩
 case round =>
  obtain ⟨k, o, hk1, hk, rfl, rfl, ha⟩ := hrel
  by_cases hlt : k < s.size
  ·have Lk := fun u => rletter_any s[k] u
   have Dk := fun u => rdigit_any s[k] u
   have HS : Hid (okC s[k] = true → (s.data.toList.take (k + 1)).all okC = true) := fun h => alls_step okC s k hlt ha.out.1 h
   have HN : Hid (okC s[k] = false → r = false) := fun h => by
    rw [HE.out]
    cases hh : s.data.toList.all okC
    ·rfl
    ·rw [alls_at okC s k hlt hh] at h; cases h
   have HO : Hid (okC s[k] = (Ad.isL s[k] || Ad.isD s[k] || (s[k] == 95))) := rfl
   have HP : Hid (oth s (k + 1) = (o || !Ad.isD s[k])) := by
    show _ = _
    rw [oth_step s k hk1 hlt, ← ha.out.2]
   cases h1 : Ad.isL s[k]
   ·rw [h1] at Lk HO
    cases h2 : Ad.isD s[k]
    ·rw [h2] at Dk HO HP
     rcases ch_facts s[k] 95 with ⟨h3, h4⟩ | ⟨h3, h4⟩
     ·have HA : Hid ((s.data.toList.take (k + 1)).all okC = true) := HS.out (by rw [HO.out, h3]; rfl)
      have h5 : ((s[k].toNat : Int) != 95) = false := by rw [h3]; rfl
      clear h1 h2 h3 h4 HN HS
      cases o
      all_goals
       go_wp2_with (first | (go_at_call 91; refine (Lk _).mono ?_; rintro e w' ⟨rfl, hw⟩; obtain rfl := hw.symm; clear hw) | (go_at_call 93; refine (Dk _).mono ?_; rintro e w' ⟨rfl, hw⟩; obtain rfl := hw.symm; clear hw))
       go_round
       case rel => exact ⟨k + 1, _, by omega, by omega, by go_num, rfl, HA.out, HP.out.symm⟩
       case measure => simp [intOf]; omega
     ·have HF : Hid (r = false) := HN.out (by rw [HO.out]; simpa using h3)
      have h5 : ((s[k].toNat : Int) != 95) = true := by rw [bne, show ((s[k].toNat : Int) == 95) = false from h4]; rfl
      clear h1 h2 h3 h4 HN HS
      go_wp2_with (first | (go_at_call 91; refine (Lk _).mono ?_; rintro e w' ⟨rfl, hw⟩; obtain rfl := hw.symm; clear hw) | (go_at_call 93; refine (Dk _).mono ?_; rintro e w' ⟨rfl, hw⟩; obtain rfl := hw.symm; clear hw))
      go_ret
      exact ⟨by rw [HF.out]; rfl, HB.out⟩
    ·rw [h2] at Dk HO HP
     have HA : Hid ((s.data.toList.take (k + 1)).all okC = true) := HS.out (by rw [HO.out]; rfl)
     clear h1 h2 HN HS
     cases o
     all_goals
      go_wp2_with (first | (go_at_call 91; refine (Lk _).mono ?_; rintro e w' ⟨rfl, hw⟩; obtain rfl := hw.symm; clear hw) | (go_at_call 93; refine (Dk _).mono ?_; rintro e w' ⟨rfl, hw⟩; obtain rfl := hw.symm; clear hw))
      go_round
      case rel => exact ⟨k + 1, _, by omega, by omega, by go_num, rfl, HA.out, HP.out.symm⟩
      case measure => simp [intOf]; omega
   ·rw [h1] at Lk HO
    have HA : Hid ((s.data.toList.take (k + 1)).all okC = true) := HS.out (by rw [HO.out]; rfl)
    clear HN HS
    generalize Ad.isD s[k] = dk at *
    clear h1
    cases o <;> cases dk
    all_goals
     go_wp2_with (first | (go_at_call 91; refine (Lk _).mono ?_; rintro e w' ⟨rfl, hw⟩; obtain rfl := hw.symm; clear hw) | (go_at_call 93; refine (Dk _).mono ?_; rintro e w' ⟨rfl, hw⟩; obtain rfl := hw.symm; clear hw))
     go_round
     case rel => exact ⟨k + 1, _, by omega, by omega, by go_num, rfl, HA.out, HP.out.symm⟩
     case measure => simp [intOf]; omega
  ·have HT : Hid (r = o) := by
    show _ = _
    have hh := ha.out
    obtain rfl : k = s.size := by omega
    rw [List.take_of_length_le (by omega)] at hh
    rw [HE.out, hh.1, hh.2, oth_end s hz]
    rfl
   go_wp2
   go_ret
   exact ⟨by rw [HT.out]; rfl, HB.out⟩
end Go.Proofs.YtnibldnfbikipaaGreatDoor
