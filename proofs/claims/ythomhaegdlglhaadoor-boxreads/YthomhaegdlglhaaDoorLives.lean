/- The contracts of same (of the same chunks) and lives. -/
import Derived.Test.YthomhaegdlglhaaDoorLaw
import Derived.Test.YthomhaegdlglhaaDoorRead
import Derived.Test.YthomhaegdlglhaaDoorWrite
namespace Go.Proofs.YthomhaegdlglhaaDoor
open Go.RowKit
set_option maxRecDepth 100000

theorem str_self (s : ByteArray) : (s.toList == s.toList) = true := by simp

set_option maxHeartbeats 4000000 in
theorem same_chunks {w : World} {x y : Value} {L : List Chk} (hx : Chs w x L) (hy : Chs w y L) (hl : L.length ≤ 131072) :
    Calls Tryd.prog 20 #[x, y] w fun e w' => e = .returned (.bool true) ∧ Below w.heap.size w w' := by
  have HX : Hid (Chs w x L) := hx
  have HY : Hid (Chs w y L) := hy
  obtain ⟨xa, xc, rfl, x1, x2⟩ := hx.slice
  obtain ⟨ya, yc, rfl, y1, y2⟩ := hy.slice
  clear hx hy
  go_enter Tryd.func20, Tryd.ntmps20
  go_wp2
  go_loopw [13] (fun i u => ∃ k : Nat, i = .int .i64 k ∧ k ≤ L.length ∧ Below w.heap.size w u) (fun i _ => L.length - (intOf i).toNat)
  case atStart => exact ⟨0, rfl, by omega, Below.refl _ _⟩
  case round =>
    obtain ⟨k, rfl, hk, hb⟩ := hrel
    have hsz := hb.size
    by_cases hlt : k < L.length
    · obtain ⟨a', rfl, hs, da, dc, hd1, hd2, hcs⟩ := chs_at HX.out hlt
      obtain ⟨b', rfl, _, ea, ec, he1, he2, hes⟩ := chs_at HY.out hlt
      obtain ⟨c1, c2, hd⟩ := hcs wr hb
      obtain ⟨f1, f2, he⟩ := hes wr hb
      have SY : Hid (∀ u : World, u.heap = wr.heap → Calls Tryd.prog 13 #[.slice da L[k].2.length dc, .slice ea L[k].2.length ec] u fun e w' => e = .returned (.bool true) ∧ w' = u) :=
        fun u hu => same_yes (hd.kept fun i _ => by rw [hu]) (he.kept fun i _ => by rw [hu])
      clear hcs hes hd he
      have kk : (k : Int) < (L.length : Int) := by omega
      have kk0 : (0 : Int) ≤ (k : Int) := by omega
      have ss := str_self L[k].1
      generalize L[k].2.length = n at *
      generalize L[k].1 = tag at *
      go_wp2_with fail
      go_quiet ((go_at_call 13; exact Calls.quiet_of_same (SY.out _ rfl)))
      go_wp2
      go_roundw
      case rel => exact ⟨k + 1, by go_num, by omega, ⟨hb.os, hb.tape, hb.output, hb.size, hb.block⟩⟩
      case measure => simp [intOf]; omega
    · go_wp2
      go_ret
      exact ⟨rfl, hb⟩

theorem wrong_nil : wrongB [] = 0 := by decide
theorem write_nil : writeB [] = (boxB [], 0) := by unfold writeB; rw [if_pos wrong_nil]
theorem box_nil : (boxB []).length = 20 := by rw [box_length]; simp [totalD, dirB]
theorem read_nil : readB (boxB []) = some [] := read_box wrong_nil
theorem read_short {b : List UInt8} (h : b.length < 20) : readB b = none := by
  cases e : readB b with
  | none => rfl
  | some L =>
    have := (of_read e).2
    rw [← this, box_length] at h
    omega
theorem wrong_ab : wrongB [(⟨#[65, 66]⟩, [])] = 8 := by
  unfold wrongB
  rw [if_pos (by decide)]
theorem write_ab : writeB [(⟨#[65, 66]⟩, [])] = ([], 8) := by unfold writeB; rw [wrong_ab]; rfl
theorem good_book : goodT ⟨#[66, 79, 79, 75]⟩ = true := by decide
theorem chs_ab (w : World) : Chs (w.alloc (.cells #[.string ⟨#[65, 66]⟩, .slice none 0 0] 49)) (.slice (some ⟨w.heap.size, 0, none⟩) 1 1) [(⟨#[65, 66]⟩, [])] := by
  refine .inr ⟨⟨w.heap.size, 0, none⟩, 1, rfl, by simp, by decide, fun j c hj => ?_⟩
  have hj0 : j = 0 := by
    rcases Nat.lt_or_ge j 1 with h | h
    · omega
    · rw [List.getElem?_eq_none (by simpa using h)] at hj; cases hj
  subst hj0
  simp at hj
  subst hj
  refine ⟨by show (2 : Nat) ≤ maxLen; decide, .slice none 0 0, ?_, ?_, .inl ⟨rfl, rfl⟩⟩
  · rw [Nat.zero_mul, add_zero_addr, cell_of_row _ _ _ _ _ _ (heap_alloc_new w _)]; rfl
  · rw [Nat.zero_mul, add_zero_addr, cell_of_row _ _ _ _ _ _ (heap_alloc_new w _)]; rfl

set_option maxHeartbeats 4000000 in
theorem lives_any {w : World} (T : Tab w) : Calls Tryd.prog 7 #[] w fun e w' => e = .returned (.bool true) ∧ Below w.heap.size w w' := by
  have HT : Hid (∀ u : World, Below w.heap.size w u → Tab u) := fun u hb => T.below (Nat.le_refl _) hb
  have C1 := write_any (w := w) (.inl ⟨rfl, rfl⟩) T (L := []) (by simp)
  rw [write_nil] at C1
  clear T
  go_enter Tryd.func7, Tryd.ntmps7
  go_wp2_with fail
  refine C1.mono ?_
  rintro e w1 ⟨v1, rfl, o1, b1⟩
  have O1 : Hid (Own w.heap.size w1 v1 (boxB [])) := o1
  have B1 : Hid (Below w.heap.size w w1) := b1
  have C2 : Hid (∃ a c, v1 = .slice (some a) 20 c ∧ 20 ≤ c ∧ c ≤ maxLen ∧ Bts w1 (.slice (some a) 19 c) ((boxB []).take 19)) := by
    rcases o1.bts with ⟨_, h⟩ | ⟨a, c, rfl, h1, h2, h3⟩
    · have := box_nil; rw [h] at this; simp at this
    · rw [box_nil] at h1 ⊢
      exact ⟨a, c, rfl, h1, h2, Bts.part (by rw [box_nil]; omega) (by omega) h2 h3⟩
  obtain ⟨a, c, rfl, hc1, hc2, hp⟩ := C2.out
  have hc3 : c ≤ 9223372036854775807 := hc2
  have C3 := read_any hp (HT.out w1 b1)
  have hc4 : (19 : Int) ≤ (c : Int) := by omega
  have hc5 : 19 ≤ c := by omega
  clear C1 o1 b1 C2 hp
  go_wp2_with fail
  refine C3.mono ?_
  rintro e w2 (⟨_, rfl, b2⟩ | ⟨L, lv, hr, _⟩)
  rotate_left
  · rw [read_short (by simp; omega)] at hr; cases hr
  have B2 : Hid (Below w.heap.size w w2) := B1.out.trans (b2.mono B1.out.size)
  have K2 : Hid (Below w1.heap.size w1 w2) := b2
  have C4 := write_any (chs_ab w2) ((HT.out w2 B2.out).alloc _) (by simp)
  rw [write_ab] at C4
  clear b2 C3
  go_wp2_with fail
  refine C4.mono ?_
  rintro e w3 ⟨v3, rfl, _, b3⟩
  have sz2 := B2.out.size
  have B3 : Hid (Below w.heap.size w w3) := (B2.out.alloc sz2 _).trans (b3.mono (by simp; omega))
  have K3 : Hid (Bts w3 (.slice (some a) 20 c) (boxB [])) := by
    have h1 : Bts w2 (.slice (some a) 20 c) (boxB []) := O1.out.bts.below K2.out
    exact (h1.alloc _).below b3
  have C5 := read_any K3.out (HT.out w3 B3.out)
  rw [read_nil] at C5
  clear b3 C4
  go_wp2_with fail
  refine C5.mono ?_
  rintro e w4 (⟨h, _⟩ | ⟨L, lv, hr, rfl, hch, b4⟩)
  · cases h
  obtain rfl := (Option.some.inj hr).symm
  obtain ⟨la, lc, rfl, _, _⟩ := hch.slice
  have B4 : Hid (Below w.heap.size w w4) := B3.out.trans (b4.mono B3.out.size)
  have C6 := good_any ⟨#[66, 79, 79, 75]⟩ w4 (by show (4 : Nat) ≤ maxLen; decide)
  rw [good_book] at C6
  clear C5 hch b4 hr
  simp only [List.length_nil]
  go_wp2_with fail
  refine C6.mono ?_
  rintro e w' ⟨rfl, hw⟩; obtain rfl := hw.symm; clear hw
  go_wp2_with fail
  go_ret
  exact ⟨rfl, B4.out⟩
end Go.Proofs.YthomhaegdlglhaaDoor
