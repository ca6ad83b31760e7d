/- The walk of the reference's Chars, and of Texts. -/
import Derived.Test.YtelpllilepkjmaaDoorVCharsP
import Derived.Deep.QuietTactic
import Derived.BigQuiet
namespace Go.Proofs.YtelpllilepkjmaaDoor
open Go.RowKit
set_option maxRecDepth 100000
set_option linter.unusedVariables false
set_option linter.unusedSimpArgs false
def strLen : Value → Nat
  | .string x => x.size
  | _ => 0
theorem strLen_string (x : ByteArray) : strLen (.string x) = x.size := rfl
theorem head_ext (s : ByteArray) (p d : Nat) (h : p + d ≤ s.size) : (s.extract p s.size).extract 0 d = s.extract p (p + d) := by
  apply ByteArray.ext
  simp only [ByteArray.data_extract, Array.extract_extract]
  congr 1
  omega
set_option maxHeartbeats 4000000 in
theorem rchars_any (s : ByteArray) (hs : s.size ≤ 8796093022000) (w : World) : Calls Tryd.prog 27 #[.string s] w fun e w' => ∃ v, e = .returned v ∧ Sts w' v (chars s) ∧ Below w.heap.size w w' := by
  go_enter Tryd.func27, Tryd.ntmps27
  go_wp2
  go_loopw [0, 3] (fun t l w' => ∃ (p : Nat) (T : ByteArray) (L : List ByteArray), t = .string T ∧ Hid (T = s.extract p s.size) ∧ p ≤ s.size ∧ OwnS w.heap.size w' l L ∧ Below w.heap.size w w' ∧ Hid (L ++ from_ s p = chars s) ∧ L.length ≤ p) (fun t _ _ => strLen t)
  case atStart => exact ⟨0, s, [], rfl, by show _ = _; exact (ByteArray.extract_zero_size).symm, Nat.zero_le _, OwnS.nil _ _, Below.refl _ _, rfl, Nat.le_refl _⟩
  case round =>
    obtain ⟨p, T, L, rfl, hT, hp, ho, hb, hL, hlen⟩ := hrel
    have hTs : T.size = s.size - p := by rw [hT.out, Lib.tail_size]
    by_cases hlt : p < s.size
    · have hd := dec_in s p hlt
      have hn : (T.toList == []) = false := by
        rw [beq_eq_false_iff_ne, ne_eq, nil_iff]; omega
      have hde : (Utf8.decode T 0).2 = (Utf8.decode s p).2 := by rw [hT.out, Lib.tail_decode]; rfl
      have WA := fun u => width_any T (by omega) (by omega) u
      rw [hde] at WA
      have HE1 : Hid (T.extract 0 (Utf8.decode s p).2 = s.extract p (p + (Utf8.decode s p).2)) := by
        show _ = _
        rw [hT.out]; exact head_ext s p _ hd.2
      have HE2 : Hid (T.extract (Utf8.decode s p).2 T.size = s.extract (p + (Utf8.decode s p).2) s.size) := by
        show _ = _
        rw [hT.out]; exact ext_ext s p _
      have HL2 : Hid ((L ++ [s.extract p (p + (Utf8.decode s p).2)]) ++ from_ s (p + (Utf8.decode s p).2) = chars s) := by
        show _ = _
        rw [← hL.out, from_step s p hlt]; simp
      generalize (Utf8.decode s p).2 = d at *
      obtain ⟨v2, u2, R, o2, b2⟩ := own_strs ho hb.size (T.extract 0 d) (by omega)
      have HR : Hid _ := R
      have HO : Hid (OwnS w.heap.size u2 v2 (L ++ [s.extract p (p + d)])) := by rw [← HE1.out]; exact o2
      have HB : Hid (Below w.heap.size w u2) := hb.trans b2
      have HS : Hid (T.size = s.size - p ∧ (T.extract d T.size).size = T.size - d) := ⟨hTs, Lib.tail_size T d⟩
      have hd' : (d : Int) ≤ (T.size : Int) := by omega
      clear R o2 b2 ho hb hde hT hTs
      go_wp2_with (first | (go_at_call 54; refine (WA _).mono ?_; rintro e w' ⟨rfl, hw⟩; obtain rfl := hw.symm; clear hw) | (at_builtin; refine wpList_append_run rfl _ _ 36 rfl _ _ _ _ rfl rfl HR.out ?_))
      go_roundw
      case rel => exact ⟨p + d, _, _, rfl, HE2, hd.2, HO.out, HB.out, HL2, by simp; omega⟩
      case measure =>
        have := HS.out
        simp only [strLen_string]
        rw [this.2]
        omega
    · have hn : (T.toList == []) = true := by rw [beq_iff_eq, nil_iff]; omega
      have HE : Hid (L = chars s) := by
        show _ = _
        have := hL.out
        rw [from_end s p hlt] at this
        simpa using this
      have HO : Hid _ := ho
      have HB : Hid _ := hb
      clear ho hb hT hTs
      go_wp2
      go_ret
      exact ⟨_, rfl, by rw [← HE.out]; exact OwnS.sts HO.out, HB.out⟩

set_option maxHeartbeats 4000000 in
theorem texts_any {w : World} {x y : Value} {l : List ByteArray} (hx : Sts w x l) (hy : Sts w y l) (hl : l.length ≤ 9000000000000000) : Calls Tryd.prog 25 #[x, y] w fun e w' => e = .returned (.bool true) ∧ Below w.heap.size w w' := by
  have HX : Hid (Sts w x l) := hx
  have HY : Hid (Sts w y l) := hy
  obtain ⟨a, c, rfl⟩ := hx.slice
  obtain ⟨a2, c2, rfl⟩ := hy.slice
  clear hx hy
  go_enter Tryd.func25, Tryd.ntmps25
  go_wp2_with fail
  go_loopw [13] (fun u13 wr => ∃ k : Nat, u13 = .int .i64 k ∧ k ≤ l.length ∧ wr.heap = w.heap ∧ Hid (Below w.heap.size w wr)) (fun u13 _ => l.length - (intOf u13).toNat)
  case atStart => exact ⟨0, rfl, by omega, rfl, Below.refl _ _⟩
  case round =>
    obtain ⟨k, rfl, hk, hh, HB⟩ := hrel
    by_cases hlt : k < l.length
    · have cx : Hid (∃ a', a = some a' ∧ wr.cell? (a'.add k) = some (.string l[k])) := by
        rcases HX.out with ⟨h1, rfl⟩ | ⟨a', cap, h1, _, _, h4⟩
        · simp at hlt
        · cases h1
          exact ⟨a', rfl, (World.cell?_of_block (by rw [hh])).trans (h4 k _ (List.getElem?_eq_getElem hlt))⟩
      have cy : Hid (∃ a', a2 = some a' ∧ wr.cell? (a'.add k) = some (.string l[k])) := by
        rcases HY.out with ⟨h1, rfl⟩ | ⟨a', cap, h1, _, _, h4⟩
        · simp at hlt
        · cases h1
          exact ⟨a', rfl, (World.cell?_of_block (by rw [hh])).trans (h4 k _ (List.getElem?_eq_getElem hlt))⟩
      obtain ⟨a', rfl, cx⟩ := cx.out
      obtain ⟨b', rfl, cy⟩ := cy.out
      have HH : Hid (wr.heap = w.heap) := hh
      clear hh
      generalize l[k] = z at *
      go_wp2
      go_region
      go_wp2
      go_roundw
      case rel => exact ⟨k + 1, by go_num, by omega, HH.out, HB.out.drew⟩
      case measure => simp [intOf]; omega
    · go_wp2
      go_ret
      exact ⟨rfl, HB.out⟩
end Go.Proofs.YtelpllilepkjmaaDoor
