/- The walks of Chars, of the program and of the reference. -/
import Derived.Test.YtelpllilepkjmaaDoorVCharsW
namespace Go.Proofs.YtelpllilepkjmaaDoor
open Go.RowKit
set_option maxRecDepth 100000
set_option linter.unusedVariables false
set_option linter.unusedSimpArgs false
theorem chars_from (s : ByteArray) : chars s = from_ s 0 := rfl
theorem nil_iff (s : ByteArray) : s.toList = [] ↔ s.size = 0 := by
  rw [ByteArray.toList_eq]
  constructor
  · intro h; have := congrArg List.length h; rw [size_list] at this; simpa using this
  · intro h; exact List.eq_nil_of_length_eq_zero (by rw [size_list]; exact h)
set_option maxHeartbeats 4000000 in
theorem chars_any (s : ByteArray) (hs : s.size ≤ 8796093022000) (w : World) : Calls Tryd.prog 26 #[.string s] w fun e w' => ∃ v, e = .returned v ∧ Sts w' v (chars s) ∧ Below w.heap.size w w' := by
  go_enter Tryd.func26, Tryd.ntmps26
  go_wp2
  go_loopw [3, 4] (fun l f w' => ∃ (p fr : Nat) (L : List ByteArray), f = .int .i64 fr ∧ CW w s l L p w' ∧ p ≤ s.size ∧ Hid (L ++ from_ s fr = chars s) ∧ L.length ≤ fr ∧ ((p = 0 ∧ fr = 0) ∨ (fr < s.size ∧ p = fr + (Utf8.decode s fr).2))) (fun _ _ w' => s.size - w'.iterPos w.heap.size)
  case atStart => exact ⟨0, 0, [], rfl, CW.begin w s, Nat.zero_le _, rfl, Nat.le_refl _, .inl ⟨rfl, rfl⟩⟩
  case round =>
    obtain ⟨p, fr, L, rfl, hC, hp, hL, hlen, hcase⟩ := hrel
    have hpos := hC.pos
    by_cases hlt : p < s.size
    · obtain ⟨u1, hnx, hC1⟩ := hC.next hlt
      have hd := dec_in s p hlt
      rcases hcase with ⟨h0, h1⟩ | ⟨h0, h1⟩
      · subst h0; subst h1
        have HC : Hid _ := hC1
        clear hC hC1
        go_wp2
        go_roundw
        case rel => exact ⟨_, 0, L, rfl, HC.out, by omega, hL, hlen, .inr ⟨hlt, rfl⟩⟩
        case measure =>
          have := HC.out.pos
          rw [hpos, this]
          omega
      · have hd0 := dec_in s fr h0
        have hfp : fr < p := by omega
        obtain ⟨v2, u2, R, hC2⟩ := hC1.app (s.extract fr p) (by omega)
        have HR : Hid _ := R
        have HC : Hid _ := hC2
        have HL2 : Hid ((L ++ [s.extract fr p]) ++ from_ s p = chars s) := by
          show _ = _
          rw [← hL.out, from_step s fr h0, ← h1]
          simp
        have hfp' : (fr : Int) < (p : Int) := by omega
        have SL : ∀ W : World, (Instr.slice 9 (.string s) (some (.int .i64 fr)) (some (.int .i64 p)) none).run Tryd.prog W = .ok (.string (s.extract fr p)) W := fun W => by
          have := run_slice_string (P := Tryd.prog) (w := W) 9 s .i64 .i64 fr p Tryd.underlying9 (by omega) (by omega) (by omega)
          simpa using this
        have hps' : (p : Int) ≤ (s.size : Int) := by omega
        have HI : Hid (p = fr + (Utf8.decode s fr).2) := h1
        clear hC hC1 hC2 R h1
        go_wp2_with (at_builtin; refine wpList_append_run rfl _ _ 36 rfl _ _ _ _ rfl rfl HR.out ?_)
        go_roundw
        case rel => exact ⟨_, p, _, rfl, HC.out, by omega, HL2, by simp; omega, .inr ⟨hlt, rfl⟩⟩
        case measure =>
          have := HC.out.pos
          rw [hpos, this]
          omega
    · have hnx : ∀ ty, (Instr.next (.pointer (some ⟨w.heap.size, 0, none⟩)) true ty).run Tryd.prog wr = .ok (.tuple #[.bool false]) wr := fun ty => run_next_done hC.it ty hlt
      rcases hcase with ⟨h0, h1⟩ | ⟨h0, h1⟩
      · subst h0; subst h1
        have hz : s.size = 0 := by omega
        have hn : (s.toList == []) = true := by simp [nil_iff, hz]
        have HE : Hid (L = chars s) := by
          show _ = _
          have := hL.out
          rw [from_end s 0 (by omega)] at this
          simpa using this
        have HC : Hid _ := hC
        clear hC
        go_wp2
        go_ret
        exact ⟨_, rfl, by rw [← HE.out]; exact HC.out.own.sts, HC.out.bel⟩
      · have hd0 := dec_in s fr h0
        have hn : (s.toList == []) = false := by
          rw [beq_eq_false_iff_ne, ne_eq, nil_iff]; omega
        obtain ⟨v2, u2, R, hC2⟩ := hC.app (s.extract fr s.size) (by omega)
        have HR : Hid _ := R
        have HC : Hid _ := hC2
        have HE : Hid (L ++ [s.extract fr s.size] = chars s) := by
          show _ = _
          rw [← hL.out, from_step s fr h0, ← h1, from_end s p hlt, show p = s.size by omega]
        have hfs : (fr : Int) ≤ (s.size : Int) := by omega
        clear hC hC2 R h1
        go_wp2_with (at_builtin; refine wpList_append_run rfl _ _ 36 rfl _ _ _ _ rfl rfl HR.out ?_)
        go_ret
        exact ⟨_, rfl, by rw [← HE.out]; exact HC.out.own.sts, HC.out.bel⟩
theorem chars_tail (s : ByteArray) (n : Nat) : chars (s.extract n s.size) = from_ s n := by
  have key : ∀ f pos, chF (s.extract n s.size) f pos = chF s f (n + pos) := by
    intro f
    induction f with
    | zero => intro pos; rfl
    | succ f ih =>
      intro pos
      unfold chF
      rw [Lib.tail_decode, ih, Lib.tail_size]
      by_cases h : n + pos < s.size
      · rw [if_pos h, if_pos (by omega), Nat.add_assoc]
        congr 1
        have hd := dec_in s (n + pos) h
        apply ByteArray.ext
        simp only [ByteArray.data_extract, Array.extract_extract]
        congr 1
        omega
      · rw [if_neg h, if_neg (by omega)]
  unfold chars from_
  rw [key, Nat.add_zero]
  exact chF_fuel s _ _ _ (by rw [Lib.tail_size]; omega) (by omega)
theorem ext_ext (s : ByteArray) (p d : Nat) : (s.extract p s.size).extract d (s.extract p s.size).size = s.extract (p + d) s.size := by
  apply ByteArray.ext
  simp only [ByteArray.data_extract, Array.extract_extract, Lib.tail_size]
  by_cases h : p ≤ s.size
  · congr 1
    omega
  · have e1 : min (p + (s.size - p)) s.size = s.size := by omega
    rw [e1]
end Go.Proofs.YtelpllilepkjmaaDoor
