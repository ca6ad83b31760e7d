/- Each function of value for every value, of the program and of the reference: the same Lean function. -/
import Derived.Test.YtelpllilepkjmaaDoorVRTyped
namespace Go.Proofs.YtelpllilepkjmaaDoor
open Go.RowKit
set_option maxRecDepth 100000
set_option linter.unusedVariables false
set_option linter.unusedSimpArgs false

/-- The tables that the program reads. -/
structure Tabs (w : World) : Prop where
  p : PTab w
  f : FTab w
theorem Tabs.below {w w' : World} (h : Tabs w) (hb : Below w.heap.size w w') : Tabs w' := ⟨h.p.below hb, h.f.below hb⟩
abbrev val (k n : Int) (s : ByteArray) : Value := .agg #[.int .i64 k, .int .i64 n, .string s]
theorem k_cases (k : Int) : k = 0 ∨ k = 1 ∨ k = 2 ∨ k = 3 ∨ k = 4 ∨ (¬ k = 0 ∧ ¬ k = 1 ∧ ¬ k = 2 ∧ ¬ k = 3 ∧ ¬ k = 4) := by omega
theorem beq_no {k c : Int} (h : ¬ k = c) : (k == c) = false := by simpa using h
theorem parse_s (s : ByteArray) (hs : s.size ≤ 9223372036854775807) (u : World) : Calls Tryd.prog 36 #[.string s] u fun e w' => e = .returned (.tuple #[.int .i64 (parseF s.data.toList).1, .bool (parseF s.data.toList).2]) ∧ Below u.heap.size u w' := by
  have := parse_any s.data.toList u (by rw [size_list]; exact hs)
  rw [mk_list] at this
  exact this
theorem rparse_s (s : ByteArray) (hs : s.size ≤ 9223372036854775807) (u : World) : Calls Tryd.prog 38 #[.string s] u fun e w' => e = .returned (.tuple #[.int .i64 (parseF s.data.toList).1, .bool (parseF s.data.toList).2]) ∧ Below u.heap.size u w' := by
  have := rparse_any s.data.toList u (by rw [size_list]; exact hs)
  rw [mk_list] at this
  exact this
theorem parse_gd (l : List UInt8) : gd (parseF l).1 = true := by unfold parseF; split <;> first | exact ans_gd _ | rfl
def In64 (n : Int) : Prop := -9223372036854775808 ≤ n ∧ n ≤ 9223372036854775807

def tonumF (k n : Int) (s : ByteArray) : Int × Int :=
  if k = 0 then (0, 0) else if k = 1 then (n, 0) else if k = 2 then (if (parseF s.data.toList).2 = true then (parseF s.data.toList).1 else 0, if (parseF s.data.toList).2 = true then 0 else 2)
  else if k = 3 then (if (n != 0) = true then 10000 else 0, 0) else if k = 4 then (0, n) else (0, 2)
def toboolF (k n : Int) (s : ByteArray) : Bool × Int :=
  if k = 0 then (false, 0) else if k = 1 then (n != 0, 0) else if k = 2 then ((truF s).2 && (truF s).1, if (truF s).2 = true then 0 else 2)
  else if k = 3 then (n != 0, 0) else if k = 4 then (false, n) else (false, 2)
def textF (k n : Int) (s : ByteArray) : ByteArray :=
  if k = 1 then ⟨(printF n).toArray⟩ else if k = 2 then s else if k = 3 then (if (n != 0) = true then ⟨#[84, 82, 85, 69]⟩ else ⟨#[70, 65, 76, 83, 69]⟩) else if k = 4 then fnB n else ⟨#[]⟩
def totextF (k n : Int) (s : ByteArray) : ByteArray × Int := if k = 4 then (⟨#[]⟩, n) else (textF k n s, 0)
def goodF (k n : Int) (s : ByteArray) : Bool :=
  if k = 0 then (n == 0) && emB s else if k = 1 then emB s && gd n else if k = 2 then (n == 0) && lenB s else if k = 3 then emB s && ((n == 0) || (n == 1)) else if k = 4 then emB s && knB n else false
def typedF (s : ByteArray) : Int × Int × ByteArray :=
  if s.toList = [] then (0, 0, ⟨#[]⟩) else if s.data.toList.head? = some 39 then (2, 0, ⟨(s.data.toList.drop 1).toArray⟩)
  else if (parseF s.data.toList).2 = true then (1, (parseF s.data.toList).1, ⟨#[]⟩)
  else if (truF s).2 = true then (3, if (truF s).1 = true then 1 else 0, ⟨#[]⟩)
  else if fltN s = 0 then (2, 0, s) else (4, (fltN s : Nat), ⟨#[]⟩)

theorem tonum_any (k n : Int) (s : ByteArray) (hs : s.size ≤ 9223372036854775807) (w : World) :
    Calls Tryd.prog 8 #[val k n s] w fun e w' => e = .returned (.tuple #[.int .i64 (tonumF k n s).1, .int .i64 (tonumF k n s).2]) ∧ Below w.heap.size w w' := by
  rcases k_cases k with rfl | rfl | rfl | rfl | rfl | ⟨h0, h1, h2, h3, h4⟩
  · exact tonum_blank n s w
  · exact tonum_num n s w
  · exact tonum_str n s w _ _ (fun u => parse_s s hs u)
  · exact tonum_bool n s w _ (fun u => kind_bool n s u)
  · exact tonum_bad n s w
  · have e : tonumF k n s = (0, 2) := by simp [tonumF, h0, h1, h2, h3, h4]
    rw [e]
    exact tonum_none k n s w (beq_no h0) (beq_no h1) (beq_no h2) (beq_no h3) (beq_no h4)
theorem rtonum_any (k n : Int) (s : ByteArray) (hs : s.size ≤ 9223372036854775807) (w : World) :
    Calls Tryd.prog 9 #[val k n s] w fun e w' => e = .returned (.tuple #[.int .i64 (tonumF k n s).1, .int .i64 (tonumF k n s).2]) ∧ Below w.heap.size w w' := by
  rcases k_cases k with rfl | rfl | rfl | rfl | rfl | ⟨h0, h1, h2, h3, h4⟩
  · exact rtonum_blank n s w
  · exact rtonum_num n s w
  · exact rtonum_str n s w _ _ (fun u => rparse_s s hs u)
  · exact rtonum_bool n s w
  · exact rtonum_bad n s w
  · have e : tonumF k n s = (0, 2) := by simp [tonumF, h0, h1, h2, h3, h4]
    rw [e]
    exact rtonum_none k n s w (beq_no h0) (beq_no h1) (beq_no h2) (beq_no h3) (beq_no h4)
theorem tobool_any (k n : Int) (s : ByteArray) (hs : s.size ≤ 9223372036854775807) (w : World) :
    Calls Tryd.prog 12 #[val k n s] w fun e w' => e = .returned (.tuple #[.bool (toboolF k n s).1, .int .i64 (toboolF k n s).2]) ∧ Below w.heap.size w w' := by
  rcases k_cases k with rfl | rfl | rfl | rfl | rfl | ⟨h0, h1, h2, h3, h4⟩
  · exact tobool_blank n s w
  · exact tobool_num n s w
  · exact tobool_str n s w _ _ (fun u => ptruth_any s hs u)
  · exact tobool_bool n s w _ (fun u => kind_bool n s u)
  · exact tobool_bad n s w
  · have e : toboolF k n s = (false, 2) := by simp [toboolF, h0, h1, h2, h3, h4]
    rw [e]
    exact tobool_none k n s w (beq_no h0) (beq_no h1) (beq_no h2) (beq_no h3) (beq_no h4)
theorem truth_ways (s : ByteArray) : ((truF s).2 = true ∧ (truF s).1 = true ∧ truN (szF 97 65 s.data.toList) = 1) ∨ ((truF s).2 = true ∧ (truF s).1 = false ∧ truN (szF 97 65 s.data.toList) = 0) ∨ ((truF s).2 = false ∧ truN (szF 97 65 s.data.toList) = -1) := by
  unfold truF
  rcases tru_cases (szF 97 65 s.data.toList) with ⟨_, h, g⟩ | ⟨_, h, g⟩ | ⟨_, _, h, g⟩ <;> simp [h, g]
theorem rtobool_any (k n : Int) (s : ByteArray) (hs : s.size ≤ 9223372036854775807) (w : World) :
    Calls Tryd.prog 13 #[val k n s] w fun e w' => e = .returned (.tuple #[.bool (toboolF k n s).1, .int .i64 (toboolF k n s).2]) ∧ Below w.heap.size w w' := by
  rcases k_cases k with rfl | rfl | rfl | rfl | rfl | ⟨h0, h1, h2, h3, h4⟩
  · exact rtobool_blank n s w
  · exact rtobool_num n s w
  · exact rtobool_str n s w _ _ _ (fun u => rtruth_any s hs u) (truth_ways s)
  · exact rtobool_bool n s w
  · exact rtobool_bad n s w
  · have e : toboolF k n s = (false, 2) := by simp [toboolF, h0, h1, h2, h3, h4]
    rw [e]
    exact rtobool_none k n s w (beq_no h0) (beq_no h1) (beq_no h2) (beq_no h3) (beq_no h4)
theorem vtext_any (k n : Int) (s : ByteArray) (hn : In64 n) (w : World) (T : Tabs w) :
    Calls Tryd.prog 16 #[val k n s] w fun e w' => e = .returned (.string (textF k n s)) ∧ Below w.heap.size w w' := by
  rcases k_cases k with rfl | rfl | rfl | rfl | rfl | ⟨h0, h1, h2, h3, h4⟩
  · exact vtext_blank n s w
  · exact vtext_num n s w _ (fun u hu => print_any n hn u (T.below hu).p)
  · exact vtext_str n s w
  · exact vtext_bool n s w _ (fun u => kind_bool n s u)
  · exact vtext_bad n s w _ (fun u hu => fname_any n u (T.below hu).f)
  · have e : textF k n s = ⟨#[]⟩ := by simp [textF, h1, h2, h3, h4]
    rw [e]
    exact vtext_none k n s w (beq_no h0) (beq_no h1) (beq_no h2) (beq_no h3) (beq_no h4)
theorem rtext_any (k n : Int) (s : ByteArray) (hn : In64 n) (w : World) :
    Calls Tryd.prog 17 #[val k n s] w fun e w' => e = .returned (.string (textF k n s)) ∧ Below w.heap.size w w' := by
  rcases k_cases k with rfl | rfl | rfl | rfl | rfl | ⟨h0, h1, h2, h3, h4⟩
  · exact rtext_blank n s w
  · exact rtext_num n s w _ (fun u hu => rprint_any n hn u)
  · exact rtext_str n s w
  · exact rtext_bool n s w
  · exact rtext_bad n s w
  · have e : textF k n s = ⟨#[]⟩ := by simp [textF, h1, h2, h3, h4]
    rw [e]
    exact rtext_none k n s w (beq_no h0) (beq_no h1) (beq_no h2) (beq_no h3) (beq_no h4)
theorem totext_any (k n : Int) (s : ByteArray) (hn : In64 n) (w : World) (T : Tabs w) :
    Calls Tryd.prog 10 #[val k n s] w fun e w' => e = .returned (.tuple #[.string (totextF k n s).1, .int .i64 (totextF k n s).2]) ∧ Below w.heap.size w w' := by
  rcases k_cases k with rfl | rfl | rfl | rfl | rfl | ⟨h0, h1, h2, h3, h4⟩
  · exact totext_blank n s w _ (fun u hu => vtext_any _ n s hn u (T.below hu))
  · exact totext_num n s w _ (fun u hu => vtext_any _ n s hn u (T.below hu))
  · exact totext_str n s w _ (fun u hu => vtext_any _ n s hn u (T.below hu))
  · exact totext_bool n s w _ (fun u hu => vtext_any _ n s hn u (T.below hu)) _ (fun u => kind_bool n s u)
  · exact totext_bad n s w
  · have e : totextF k n s = (textF k n s, 0) := by simp [totextF, h4]
    rw [e]
    exact totext_none k n s w (beq_no h0) (beq_no h1) (beq_no h2) (beq_no h3) (beq_no h4) _ (fun u hu => vtext_any _ n s hn u (T.below hu))
theorem rtotext_any (k n : Int) (s : ByteArray) (hn : In64 n) (w : World) :
    Calls Tryd.prog 11 #[val k n s] w fun e w' => e = .returned (.tuple #[.string (totextF k n s).1, .int .i64 (totextF k n s).2]) ∧ Below w.heap.size w w' := by
  by_cases h4 : k = 4
  · subst h4
    exact rtotext_bad n s w
  · have e : totextF k n s = (textF k n s, 0) := by simp [totextF, h4]
    rw [e]
    exact rtotext_else k n s w (beq_no h4) _ (fun u hu => rtext_any k n s hn u)
theorem vgood_any (k n : Int) (s : ByteArray) (w : World) :
    Calls Tryd.prog 14 #[val k n s] w fun e w' => e = .returned (.bool (goodF k n s)) ∧ Below w.heap.size w w' := by
  rcases k_cases k with rfl | rfl | rfl | rfl | rfl | ⟨h0, h1, h2, h3, h4⟩
  · exact vgood_blank n s w
  · exact vgood_num n s w
  · exact vgood_str n s w
  · exact vgood_bool n s w _ (fun u => kind_bool n s u)
  · exact vgood_bad n s w
  · have e : goodF k n s = false := by simp [goodF, h0, h1, h2, h3, h4]
    rw [e]
    exact vgood_none k n s w (beq_no h0) (beq_no h1) (beq_no h2) (beq_no h3) (beq_no h4)
theorem rvgood_any (k n : Int) (s : ByteArray) (w : World) :
    Calls Tryd.prog 15 #[val k n s] w fun e w' => e = .returned (.bool (goodF k n s)) ∧ Below w.heap.size w w' := by
  rcases k_cases k with rfl | rfl | rfl | rfl | rfl | ⟨h0, h1, h2, h3, h4⟩
  · exact rgood_blank n s w
  · exact rgood_num n s w
  · exact rgood_str n s w
  · exact rgood_bool n s w
  · exact rgood_bad n s w
  · have e : goodF k n s = false := by simp [goodF, h0, h1, h2, h3, h4]
    rw [e]
    exact rgood_none k n s w (beq_no h0) (beq_no h1) (beq_no h2) (beq_no h3) (beq_no h4)
/-- A text that does not begin with a quote. -/
theorem cut39 (l : List UInt8) : Lib.hasPrefix l [39] = decide (l.head? = some 39) ∧ Lib.trimPrefix l [39] = if l.head? = some 39 then l.drop 1 else l := by
  cases l with
  | nil => exact ⟨rfl, rfl⟩
  | cons b l =>
    have h : Lib.hasPrefix (b :: l) [39] = decide ((b :: l).head? = some 39) := by
      unfold Lib.hasPrefix
      simp [List.isPrefixOf]
      exact BEq.comm
    refine ⟨h, ?_⟩
    unfold Lib.trimPrefix
    rw [h]
    by_cases e : (b :: l).head? = some 39
    · rw [if_pos e, if_pos (by simpa using e)]; rfl
    · rw [if_neg e, if_neg (by simpa using e)]
theorem cutp_s (s : ByteArray) (u : World) : Calls Tryd.prog 49 #[.string s, .string ⟨#[39]⟩] u fun e w' => e = .returned (.tuple #[.string ⟨(if s.data.toList.head? = some 39 then s.data.toList.drop 1 else s.data.toList).toArray⟩, .bool (decide (s.data.toList.head? = some 39))]) ∧ w' = u := by
  have h := Tryd.strings_CutPrefix s ⟨#[39]⟩ u
  rw [show (⟨#[39]⟩ : ByteArray).data.toList = [39] from rfl, (cut39 _).1, (cut39 _).2] at h
  exact h
theorem typed_any (s : ByteArray) (hs : s.size ≤ 9223372036854775807) (w : World) (T : Tabs w) :
    Calls Tryd.prog 19 #[.string s] w fun e w' => e = .returned (val (typedF s).1 (typedF s).2.1 (typedF s).2.2) ∧ Below w.heap.size w w' := by
  have PF := fun u => cutp_s s u
  have PP := fun u => parse_s s hs u
  have PT := fun u => ptruth_any s hs u
  have PL : ∀ u : World, Below (w.alloc (.cells #[.int .i64 0, .int .i64 0, .string ⟨#[]⟩] 23)).heap.size (w.alloc (.cells #[.int .i64 0, .int .i64 0, .string ⟨#[]⟩] 23)) u → _ := fun u hu => pfault_any s u (T.below (bel1 hu)).f
  unfold typedF
  by_cases h0 : s.toList = []
  · rw [if_pos h0]; exact typed_empty s w h0
  · rw [if_neg h0]
    by_cases h1 : s.data.toList.head? = some 39
    · rw [if_pos h1]
      simp only [h1, if_true, decide_true] at PF
      exact typed_quote s w h0 _ PF
    · rw [if_neg h1]
      simp only [h1, if_false, decide_false] at PF
      by_cases h2 : (parseF s.data.toList).2 = true
      · rw [if_pos h2]
        rw [h2] at PP
        exact typed_num s w h0 _ PF _ PP (parse_gd _)
      · rw [if_neg h2]
        rw [Bool.not_eq_true] at h2
        rw [h2] at PP
        by_cases h3 : (truF s).2 = true
        · rw [if_pos h3]
          rw [h3] at PT
          exact typed_truth s w h0 _ PF _ PP _ PT
        · rw [if_neg h3]
          rw [Bool.not_eq_true] at h3
          rw [h3] at PT
          by_cases h4 : fltN s = 0
          · rw [if_pos h4]
            simp only [h4, ne_eq, not_true_eq_false, decide_false] at PL
            exact typed_text s w h0 _ PF _ PP _ PT _ PL
          · rw [if_neg h4]
            simp only [h4, ne_eq, not_false_eq_true, decide_true] at PL
            have := flt_le s
            exact typed_fault s w h0 _ PF _ PP _ PT _ PL (kn_nat _ (by omega) (by omega))
theorem rtyped_any (s : ByteArray) (hs : s.size ≤ 9223372036854775807) (w : World) :
    Calls Tryd.prog 20 #[.string s] w fun e w' => e = .returned (val (typedF s).1 (typedF s).2.1 (typedF s).2.2) ∧ Below w.heap.size w w' := by
  have PP := fun u => rparse_s s hs u
  have PT := fun u => rtruth_any s hs u
  unfold typedF
  by_cases h0 : s.toList = []
  · rw [if_pos h0]; exact rtyped_empty s w h0
  · rw [if_neg h0]
    have hz : 0 < s.size := by
      rcases Nat.eq_zero_or_pos s.size with e | e
      · exfalso; apply h0; rw [ByteArray.toList_eq]; exact List.eq_nil_of_length_eq_zero (by rw [size_list]; exact e)
      · exact e
    have hd : s.data.toList.head? = some (s[0]'hz) := by
      rw [List.head?_eq_getElem?, List.getElem?_eq_getElem (by rw [size_list]; exact hz)]
      simp
      rfl
    by_cases h1 : s.data.toList.head? = some 39
    · rw [if_pos h1]
      rw [hd] at h1
      have e39 : s[0]'hz = 39 := Option.some.inj h1
      have := rtyped_quote s w h0 hz hs (by rw [e39]; rfl)
      have ex : s.extract 1 s.size = ⟨(s.data.toList.drop 1).toArray⟩ := by
        have := drop_mk s.data.toList
        rw [mk_list] at this
        exact this
      rw [ex] at this
      exact this
    · rw [if_neg h1]
      rw [hd] at h1
      have hq : (((s[0]'hz).toNat : Int) == 39) = false := by
        rw [beq_eq_false_iff_ne]
        intro e
        apply h1
        congr 1
        apply UInt8.toNat_inj.1
        show _ = 39
        omega
      by_cases h2 : (parseF s.data.toList).2 = true
      · rw [if_pos h2]
        rw [h2] at PP
        exact rtyped_num s w h0 hz hs hq _ PP
      · rw [if_neg h2]
        rw [Bool.not_eq_true] at h2
        rw [h2] at PP
        rcases truth_ways s with ⟨a, b, c⟩ | ⟨a, b, c⟩ | ⟨a, c⟩
        · rw [if_pos a, b, if_pos rfl]
          rw [c] at PT
          exact rtyped_truth s w h0 hz hs hq _ PP _ PT (by decide)
        · rw [if_pos a, b, if_neg (by decide)]
          rw [c] at PT
          exact rtyped_truth s w h0 hz hs hq _ PP _ PT (by decide)
        · rw [if_neg (by rw [a]; decide)]
          rw [c] at PT
          have := rtyped_rest s w h0 hz hs hq _ PP _ PT (by decide)
          by_cases h4 : fltN s = 0
          · rw [if_pos h4] at this ⊢; exact this
          · rw [if_neg h4] at this ⊢; exact this
end Go.Proofs.YtelpllilepkjmaaDoor
