/- The walk of the law ValueBack. -/
import Derived.Test.YtelpllilepkjmaaDoorBackA
import Derived.Test.YtelpllilepkjmaaDoorBackB
import Derived.Test.YtelpllilepkjmaaDoorBackC
namespace Go.Proofs.YtelpllilepkjmaaDoor
open Go.RowKit
set_option maxRecDepth 100000
set_option linter.unusedVariables false
set_option linter.unusedSimpArgs false
theorem neq_yes {k : Int} (h : k ≠ 2) : (k != 2) = true := by simpa using h
theorem text_size (k n : Int) (s : ByteArray) (hn : In64 n) (hg : goodF k n s = true) (hk : k ≠ 2) : (textF k n s).size ≤ 9223372036854775807 := by
  rcases k_cases k with rfl | rfl | rfl | rfl | rfl | ⟨h0, h1, h2, h3, h4⟩
  · show (⟨#[]⟩ : ByteArray).size ≤ _
    decide
  · have hgn : gd n = true := by simp [goodF] at hg; exact hg.2
    have := print_len n hgn
    show (⟨(printF n).toArray⟩ : ByteArray).size ≤ _
    rw [size_mk]
    omega
  · exact absurd rfl hk
  · show (if (n != 0) = true then (⟨#[84, 82, 85, 69]⟩ : ByteArray) else ⟨#[70, 65, 76, 83, 69]⟩).size ≤ _
    split <;> decide
  · show (fnB n).size ≤ _
    have hkn : knB n = true := by simp [goodF] at hg; exact hg.2
    rw [kn_iff] at hkn
    rcases hkn with rfl | rfl | rfl | rfl | rfl | rfl | rfl | rfl <;> decide
  · simp [goodF, h0, h1, h2, h3, h4] at hg
theorem back_walk (k n : Int) (s s2 : ByteArray) (hn : In64 n) (hs2 : s2.size ≤ 8796093022000) (w : World) (T : Tabs w) :
    Calls Tryd.prog 5 #[val k n s, .string s2] w fun e w' => e = .returned (.bool true) ∧ Below w.heap.size w w' := by
  have TW : ∀ u, Below (w.alloc (.cells #[.int .i64 k, .int .i64 n, .string s] 23)).heap.size (w.alloc (.cells #[.int .i64 k, .int .i64 n, .string s] 23)) u → Tabs u := fun u hu => T.below (bel1 hu)
  have LV : RB (w.alloc (.cells #[.int .i64 k, .int .i64 n, .string s] 23)) 18 #[] (.bool true) := fun u hu => lives_any u (TW u hu)
  have G1 : RB (w.alloc (.cells #[.int .i64 k, .int .i64 n, .string s] 23)) 14 #[val k n s] _ := fun u _ => vgood_any k n s u
  have G2 : RB (w.alloc (.cells #[.int .i64 k, .int .i64 n, .string s] 23)) 15 #[val k n s] _ := fun u _ => rvgood_any k n s u
  have H1 : RT (w.alloc (.cells #[.int .i64 k, .int .i64 n, .string s] 23)) 26 #[.string s2] (chars s2) := fun u _ => chars_any s2 hs2 u
  have Y2 : RB (w.alloc (.cells #[.int .i64 k, .int .i64 n, .string s] 23)) 19 #[.string s2] _ := fun u hu => typed_any s2 (by omega) u (TW u hu)
  have hl : (chars s2).length ≤ 9000000000000000 := by
    have := from_len s2 s2.size 0 (by omega)
    rw [← chars_from] at this
    omega
  have hne : ∀ x ∈ chars s2, 0 < x.size := fun x hx => from_ne s2 s2.size 0 (by omega) x hx
  have hcat := cat_chars s2
  have hs9 : s2.size ≤ 9223372036854775807 := by omega
  -- the text's own part
  have part : ((typedF s2).1 == 2) = false ∨ (((typedF s2).1 == 2) = true ∧ ∃ h0 : 0 < s2.size, (((s2[0]'h0).toNat : Int) != 39) = false) ∨
      (((typedF s2).1 == 2) = true ∧ ∃ h0 : 0 < s2.size, (((s2[0]'h0).toNat : Int) != 39) = true ∧ typedF s2 = (2, 0, s2)) := by
    by_cases h2 : (typedF s2).1 = 2
    · obtain ⟨h0, h39⟩ := typed_str s2 h2
      have hz : 0 < s2.size := by rw [nil_iff] at h0; omega
      have hd : s2.data.toList.head? = some (s2[0]'hz) := by
        rw [List.head?_eq_getElem?, List.getElem?_eq_getElem (by rw [size_list]; exact hz)]
        simp
        rfl
      right
      by_cases hq : ((s2[0]'hz).toNat : Int) = 39
      · left
        exact ⟨by simpa using h2, hz, by simpa using hq⟩
      · right
        refine ⟨by simpa using h2, hz, by simpa using hq, h39 ?_⟩
        rw [hd]
        intro e
        apply hq
        rw [Option.some.inj e]
        rfl
    · left; simpa using h2
  by_cases hg : goodF k n s = true
  · rw [hg] at G1 G2
    by_cases hk : k = 2
    · have hk' : (k != 2) = false := by simpa using hk
      rcases part with p | ⟨p, h0, q⟩ | ⟨p, h0, q, e⟩
      · exact back_BD (G := true) (Tx := s) hs9 hl hne hcat G1 G2 hk' H1 Y2 p LV
      · exact back_BE (G := true) (Tx := s) hs9 hl hne hcat G1 G2 hk' H1 Y2 p h0 q LV
      · rw [e] at Y2
        exact back_BF (G := true) (Tx := s) hs9 hl hne hcat G1 G2 hk' H1 Y2 rfl h0 q (fun u hu => vtext_any 2 0 s2 (by unfold In64; decide) u (TW u hu)) LV
    · have T1 : RB (w.alloc (.cells #[.int .i64 k, .int .i64 n, .string s] 23)) 16 #[val k n s] _ := fun u hu => vtext_any k n s hn u (TW u hu)
      have Y1 : RB (w.alloc (.cells #[.int .i64 k, .int .i64 n, .string s] 23)) 19 #[.string (textF k n s)] _ := fun u hu => typed_any (textF k n s) (text_size k n s hn hg hk) u (TW u hu)
      rw [typed_show k n s hg hk] at Y1
      rcases part with p | ⟨p, h0, q⟩ | ⟨p, h0, q, e⟩
      · exact back_CD (G := true) hs9 hl hne hcat G1 G2 (neq_yes hk) T1 Y1 H1 Y2 p LV
      · exact back_CE (G := true) hs9 hl hne hcat G1 G2 (neq_yes hk) T1 Y1 H1 Y2 p h0 q LV
      · rw [e] at Y2
        exact back_CF (G := true) hs9 hl hne hcat G1 G2 (neq_yes hk) T1 Y1 H1 Y2 rfl h0 q (fun u hu => vtext_any 2 0 s2 (by unfold In64; decide) u (TW u hu)) LV
  · rw [Bool.not_eq_true] at hg
    rw [hg] at G1 G2
    rcases part with p | ⟨p, h0, q⟩ | ⟨p, h0, q, e⟩
    · exact back_AD (G := true) (Tx := s) hs9 hl hne hcat G1 G2 H1 Y2 p LV
    · exact back_AE (G := true) (Tx := s) hs9 hl hne hcat G1 G2 H1 Y2 p h0 q LV
    · rw [e] at Y2
      exact back_AF (G := true) (Tx := s) hs9 hl hne hcat G1 G2 H1 Y2 rfl h0 q (fun u hu => vtext_any 2 0 s2 (by unfold In64; decide) u (TW u hu)) LV
end Go.Proofs.YtelpllilepkjmaaDoor
