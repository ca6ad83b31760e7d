/- What ValueBack needs of pure functions. -/
import Derived.Test.YtelpllilepkjmaaDoorTypesWalk
import Derived.Test.YtelpllilepkjmaaDoorTurnsWalk
namespace Go.Proofs.YtelpllilepkjmaaDoor
open Go.RowKit
set_option maxRecDepth 100000
set_option linter.unusedVariables false
set_option linter.unusedSimpArgs false
theorem dec_head (u : Nat) : ∃ b r, Lib.decDigits u = b :: r ∧ isD b = true := by
  have h := dec_all u
  have hl : 1 ≤ (Lib.decDigits u).length := by
    rw [Lib.decDigits_length]; exact Lib.nDigits_pos u
  cases hd : Lib.decDigits u with
  | nil => rw [hd] at hl; simp at hl
  | cons b r => rw [hd] at h; simp at h; exact ⟨b, r, rfl, h.1⟩
theorem print_head (n : Int) : ∃ b r, printF n = b :: r ∧ b ≠ 39 := by
  unfold printF
  by_cases h : n < 0
  · exact ⟨45, _, by rw [if_pos h]; rfl, by decide⟩
  · obtain ⟨b, r, hb, hd⟩ := dec_head (n.natAbs / 10000)
    refine ⟨b, r ++ _, by rw [if_neg h, hb]; rfl, ?_⟩
    rintro rfl
    simp [isD] at hd
def typedG (l : List UInt8) : Int × Int × ByteArray :=
  if l = [] then (0, 0, ⟨#[]⟩) else if l.head? = some 39 then (2, 0, ⟨(l.drop 1).toArray⟩)
  else if (parseF l).2 = true then (1, (parseF l).1, ⟨#[]⟩)
  else if (truL (szF 97 65 l)).2 = true then (3, if (truL (szF 97 65 l)).1 = true then 1 else 0, ⟨#[]⟩)
  else if fltN ⟨l.toArray⟩ = 0 then (2, 0, ⟨l.toArray⟩) else (4, (fltN ⟨l.toArray⟩ : Nat), ⟨#[]⟩)
theorem typed_mk (l : List UInt8) : typedF ⟨l.toArray⟩ = typedG l := by
  unfold typedF truF
  rw [ByteArray.toList_mk]
  rfl
theorem ty_0 : typedG [] = (0, 0, ⟨#[]⟩) := by decide
theorem ty_f : typedG [70, 65, 76, 83, 69] = (3, 0, ⟨#[]⟩) := by decide
theorem ty_t : typedG [84, 82, 85, 69] = (3, 1, ⟨#[]⟩) := by decide
theorem ty_n : ∀ i, i < 9 → 1 ≤ i → typedG (fnm i).data.toList = (4, (i : Int), ⟨#[]⟩) := by decide
theorem ty_k (i : Nat) (h : i < 9) (h1 : 1 ≤ i) : typedF (fnm i) = (4, (i : Int), ⟨#[]⟩) := by
  have := typed_mk (fnm i).data.toList
  rw [mk_list, ty_n i h h1] at this
  exact this
/-- What a good value that is no text shows is typed to it. -/
theorem typed_show (k n : Int) (s : ByteArray) (hg : goodF k n s = true) (hk : k ≠ 2) : typedF (textF k n s) = (k, n, s) := by
  rcases k_cases k with rfl | rfl | rfl | rfl | rfl | ⟨h0, h1, h2, h3, h4⟩
  · simp [goodF] at hg
    obtain ⟨rfl, he⟩ := hg
    obtain rfl := em_nil he
    exact (typed_mk []).trans ty_0
  · simp [goodF] at hg
    obtain ⟨he, hgn⟩ := hg
    obtain rfl := em_nil he
    show typedF ⟨(printF n).toArray⟩ = _
    obtain ⟨b, r, hb, h39⟩ := print_head n
    have hp := parse_print n ((gd_iff n).1 hgn)
    unfold typedF
    have e1 : (⟨(printF n).toArray⟩ : ByteArray).toList = printF n := ByteArray.toList_mk _
    have e2 : (⟨(printF n).toArray⟩ : ByteArray).data.toList = printF n := by simp
    rw [e1, e2, if_neg (by rw [hb]; simp), if_neg (by rw [hb]; simpa using h39), hp]
    rfl
  · exact absurd rfl hk
  · simp [goodF] at hg
    obtain ⟨he, h01⟩ := hg
    obtain rfl := em_nil he
    rcases h01 with rfl | rfl
    · exact (typed_mk [70, 65, 76, 83, 69]).trans ty_f
    · exact (typed_mk [84, 82, 85, 69]).trans ty_t
  · simp [goodF] at hg
    obtain ⟨he, hkn⟩ := hg
    obtain rfl := em_nil he
    rw [kn_iff] at hkn
    rcases hkn with rfl | rfl | rfl | rfl | rfl | rfl | rfl | rfl
    · exact ty_k 1 (by decide) (by decide)
    · exact ty_k 2 (by decide) (by decide)
    · exact ty_k 3 (by decide) (by decide)
    · exact ty_k 4 (by decide) (by decide)
    · exact ty_k 5 (by decide) (by decide)
    · exact ty_k 6 (by decide) (by decide)
    · exact ty_k 7 (by decide) (by decide)
    · exact ty_k 8 (by decide) (by decide)
  · simp [goodF, h0, h1, h2, h3, h4] at hg
/-- A text that a text is typed to, and that bears no quote, is typed to itself. -/
theorem typed_str (s : ByteArray) (hk : (typedF s).1 = 2) : ¬ s.toList = [] ∧ (s.data.toList.head? ≠ some 39 → typedF s = (2, 0, s)) := by
  unfold typedF at hk ⊢
  split at hk
  · simp at hk
  · rename_i h0
    refine ⟨h0, fun h39 => ?_⟩
    rw [if_neg h0, if_neg h39]
    rw [if_neg h39] at hk
    split at hk
    · simp at hk
    · rename_i h2
      rw [if_neg h2]
      split at hk
      · simp at hk
      · rename_i h3
        rw [if_neg h3]
        split at hk
        · rename_i h4; rw [if_pos h4]
        · simp at hk
/-! The characters make the text again. -/
def cat : List ByteArray → ByteArray
  | [] => ⟨#[]⟩
  | x :: l => x ++ cat l
theorem cat_from (s : ByteArray) : ∀ (k p : Nat), s.size - p ≤ k → p ≤ s.size → cat (from_ s p) = s.extract p s.size
  | k, p, hk, hp => by
    by_cases h : p < s.size
    · have hd := dec_in s p h
      rw [from_step s p h]
      match k with
      | 0 => omega
      | k + 1 =>
        have ih := cat_from s k (p + (Utf8.decode s p).2) (by omega) hd.2
        show _ ++ cat _ = _
        rw [ih]
        apply ByteArray.ext
        rw [ByteArray.data_append, ByteArray.data_extract, ByteArray.data_extract, ByteArray.data_extract, Array.extract_append_extract]
        congr 1 <;> omega
    · rw [from_end s p h]
      obtain rfl : p = s.size := by omega
      apply ByteArray.ext
      simp [cat]
theorem cat_chars (s : ByteArray) : cat (chars s) = s := by
  rw [chars_from, cat_from s s.size 0 (by omega) (by omega)]
  exact ByteArray.extract_zero_size
theorem from_ne (s : ByteArray) : ∀ (k p : Nat), s.size - p ≤ k → ∀ x ∈ from_ s p, 0 < x.size
  | k, p, hk, x, hx => by
    by_cases h : p < s.size
    · have hd := dec_in s p h
      rw [from_step s p h] at hx
      rcases List.mem_cons.1 hx with rfl | hx
      · simp; omega
      · match k with
        | 0 => omega
        | k + 1 => exact from_ne s k (p + (Utf8.decode s p).2) (by omega) x hx
    · rw [from_end s p h] at hx; cases hx
end Go.Proofs.YtelpllilepkjmaaDoor
