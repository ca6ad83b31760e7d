/- Each function of value for every value, of the program and of the reference: the same Lean function. -/
import Derived.Test.YtjimgjohfpcnpaaDoorVTyped
namespace Go.Proofs.YtjimgjohfpcnpaaDoor
open Go.RowKit
set_option maxRecDepth 100000
set_option linter.unusedVariables false
set_option linter.unusedSimpArgs false

/-- The tables that the program reads. -/
structure Tabs (w : World) : Prop where
  p : PTab w
  f : FTab w
theorem Tabs.below {w w' : World} (h : Tabs w) (hb : Below w.heap.size w w') : Tabs w' := ⟨h.p.below hb, h.f.below hb⟩
abbrev val (k n : Int) (s : ByteArray) : Value := .agg #[.int .i64 k, .int .i64 n, .string s]
theorem k_cases (k : Int) : k = 0 ∨ k = 1 ∨ k = 2 ∨ k = 3 ∨ k = 4 ∨ (¬ k = 0 ∧ ¬ k = 1 ∧ ¬ k = 2 ∧ ¬ k = 3 ∧ ¬ k = 4) := by omega
theorem beq_no {k c : Int} (h : ¬ k = c) : (k == c) = false := by simpa using h
theorem parse_s (s : ByteArray) (hs : s.size ≤ 9223372036854775807) (u : World) : Calls Tryd.prog 70 #[.string s] u fun e w' => e = .returned (.tuple #[.int .i64 (parseF s.data.toList).1, .bool (parseF s.data.toList).2]) ∧ Below u.heap.size u w' := by
  have := parse_any s.data.toList u (by rw [size_list]; exact hs)
  rw [mk_list] at this
  exact this
theorem parse_gd (l : List UInt8) : gd (parseF l).1 = true := by unfold parseF; split <;> first | exact ans_gd _ | rfl

def tonumF (k n : Int) (s : ByteArray) : Int × Int :=
  if k = 0 then (0, 0) else if k = 1 then (n, 0) else if k = 2 then (if (parseF s.data.toList).2 = true then (parseF s.data.toList).1 else 0, if (parseF s.data.toList).2 = true then 0 else 2)
  else if k = 3 then (if (n != 0) = true then 10000 else 0, 0) else if k = 4 then (0, n) else (0, 2)
def toboolF (k n : Int) (s : ByteArray) : Bool × Int :=
  if k = 0 then (false, 0) else if k = 1 then (n != 0, 0) else if k = 2 then ((truF s).2 && (truF s).1, if (truF s).2 = true then 0 else 2)
  else if k = 3 then (n != 0, 0) else if k = 4 then (false, n) else (false, 2)
def textF (k n : Int) (s : ByteArray) : ByteArray :=
  if k = 1 then ⟨(printF n).toArray⟩ else if k = 2 then s else if k = 3 then (if (n != 0) = true then ⟨#[84, 82, 85, 69]⟩ else ⟨#[70, 65, 76, 83, 69]⟩) else if k = 4 then fnB n else ⟨#[]⟩
def totextF (k n : Int) (s : ByteArray) : ByteArray × Int := if k = 4 then (⟨#[]⟩, n) else (textF k n s, 0)
def goodF (k n : Int) (s : ByteArray) : Bool :=
  if k = 0 then (n == 0) && emB s else if k = 1 then emB s && gd n else if k = 2 then (n == 0) && lenB s else if k = 3 then emB s && ((n == 0) || (n == 1)) else if k = 4 then emB s && knB n else false
def typedF (s : ByteArray) : Int × Int × ByteArray :=
  if s.toList = [] then (0, 0, ⟨#[]⟩) else if s.data.toList.head? = some 39 then (2, 0, ⟨(s.data.toList.drop 1).toArray⟩)
  else if (parseF s.data.toList).2 = true then (1, (parseF s.data.toList).1, ⟨#[]⟩)
  else if (truF s).2 = true then (3, if (truF s).1 = true then 1 else 0, ⟨#[]⟩)
  else if fltN s = 0 then (2, 0, s) else (4, (fltN s : Nat), ⟨#[]⟩)

theorem truth_ways (s : ByteArray) : ((truF s).2 = true ∧ (truF s).1 = true ∧ truN (szF 97 65 s.data.toList) = 1) ∨ ((truF s).2 = true ∧ (truF s).1 = false ∧ truN (szF 97 65 s.data.toList) = 0) ∨ ((truF s).2 = false ∧ truN (szF 97 65 s.data.toList) = -1) := by
  unfold truF
  rcases tru_cases (szF 97 65 s.data.toList) with ⟨_, h, g⟩ | ⟨_, h, g⟩ | ⟨_, _, h, g⟩ <;> simp [h, g]
/-- A text that does not begin with a quote. -/
theorem cut39 (l : List UInt8) : Lib.hasPrefix l [39] = decide (l.head? = some 39) ∧ Lib.trimPrefix l [39] = if l.head? = some 39 then l.drop 1 else l := by
  cases l with
  | nil => exact ⟨rfl, rfl⟩
  | cons b l =>
    have h : Lib.hasPrefix (b :: l) [39] = decide ((b :: l).head? = some 39) := by
      unfold Lib.hasPrefix
      simp [List.isPrefixOf]
      exact BEq.comm
    refine ⟨h, ?_⟩
    unfold Lib.trimPrefix
    rw [h]
    by_cases e : (b :: l).head? = some 39
    · rw [if_pos e, if_pos (by simpa using e)]; rfl
    · rw [if_neg e, if_neg (by simpa using e)]
theorem cutp_s (s : ByteArray) (u : World) : Calls Tryd.prog 28 #[.string s, .string ⟨#[39]⟩] u fun e w' => e = .returned (.tuple #[.string ⟨(if s.data.toList.head? = some 39 then s.data.toList.drop 1 else s.data.toList).toArray⟩, .bool (decide (s.data.toList.head? = some 39))]) ∧ w' = u := by
  have h := Tryd.strings_CutPrefix s ⟨#[39]⟩ u
  rw [show (⟨#[39]⟩ : ByteArray).data.toList = [39] from rfl, (cut39 _).1, (cut39 _).2] at h
  exact h
theorem typed_any (s : ByteArray) (hs : s.size ≤ 9223372036854775807) (w : World) (T : Tabs w) :
    Calls Tryd.prog 59 #[.string s] w fun e w' => e = .returned (val (typedF s).1 (typedF s).2.1 (typedF s).2.2) ∧ Below w.heap.size w w' := by
  have PF := fun u => cutp_s s u
  have PP := fun u => parse_s s hs u
  have PT := fun u => ptruth_any s hs u
  have PL : ∀ u : World, Below (w.alloc (.cells #[.int .i64 0, .int .i64 0, .string ⟨#[]⟩] 65)).heap.size (w.alloc (.cells #[.int .i64 0, .int .i64 0, .string ⟨#[]⟩] 65)) u → _ := fun u hu => pfault_any s u (T.below (bel1 hu)).f
  unfold typedF
  by_cases h0 : s.toList = []
  · rw [if_pos h0]; exact typed_empty s w h0
  · rw [if_neg h0]
    by_cases h1 : s.data.toList.head? = some 39
    · rw [if_pos h1]
      simp only [h1, if_true, decide_true] at PF
      exact typed_quote s w h0 _ PF
    · rw [if_neg h1]
      simp only [h1, if_false, decide_false] at PF
      by_cases h2 : (parseF s.data.toList).2 = true
      · rw [if_pos h2]
        rw [h2] at PP
        exact typed_num s w h0 _ PF _ PP (parse_gd _)
      · rw [if_neg h2]
        rw [Bool.not_eq_true] at h2
        rw [h2] at PP
        by_cases h3 : (truF s).2 = true
        · rw [if_pos h3]
          rw [h3] at PT
          exact typed_truth s w h0 _ PF _ PP _ PT
        · rw [if_neg h3]
          rw [Bool.not_eq_true] at h3
          rw [h3] at PT
          by_cases h4 : fltN s = 0
          · rw [if_pos h4]
            simp only [h4, ne_eq, not_true_eq_false, decide_false] at PL
            exact typed_text s w h0 _ PF _ PP _ PT _ PL
          · rw [if_neg h4]
            simp only [h4, ne_eq, not_false_eq_true, decide_true] at PL
            have := flt_le s
            exact typed_fault s w h0 _ PF _ PP _ PT _ PL (kn_nat _ (by omega) (by omega))
end Go.Proofs.YtjimgjohfpcnpaaDoor
