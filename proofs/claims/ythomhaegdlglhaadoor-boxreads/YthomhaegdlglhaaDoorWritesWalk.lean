/- The walk of BoxWrites. -/
import Derived.Test.YthomhaegdlglhaaDoorRefWrite2
import Derived.Test.YthomhaegdlglhaaDoorFind
namespace Go.Proofs.YthomhaegdlglhaaDoor
open Go.RowKit
set_option maxRecDepth 100000

theorem refWrite_any {w : World} {v : Value} {L : List Chk} (h : Chs w v L) (hl : L.length ≤ 131072) :
    Calls Tryd.prog 9 #[v] w fun e w' => ∃ v', e = .returned (.tuple #[v', .int .i64 (writeB L).2]) ∧ Own w.heap.size w' v' (writeB L).1 ∧ Below w.heap.size w w' := by
  by_cases hg : goodAll L = true
  · by_cases ht : totalD L ≤ 131072
    · exact refWrite_small h hl hg ht
    · have hw : wrongB L ≠ 0 := fun e => by have := (wrong_zero e).2.2.2; omega
      refine (refWrite_great h hl hg (by omega)).mono ?_
      rintro e w' ⟨rfl, hb⟩
      unfold writeB
      rw [if_neg hw]
      exact ⟨_, rfl, Own.nil _ _, hb⟩
  · have hg' : goodAll L = false := by simpa using hg
    have hw : wrongB L = 8 := by unfold wrongB; rw [if_pos hg']
    refine (refWrite_name h hl hg').mono ?_
    rintro e w' ⟨rfl, hb⟩
    unfold writeB
    rw [hw]
    exact ⟨_, rfl, Own.nil _ _, hb⟩

set_option maxHeartbeats 8000000 in
theorem writes_walk {w : World} {x : Value} {L : List Chk} (h : Chs w x L) (hz : Sized L) (hl : L.length ≤ 140737488355328) (T : Tab w) (tag : ByteArray) (htag : tag.size ≤ maxLen) :
    Calls Tryd.prog 3 #[x, .string tag] w fun e w' => e = .returned (.bool true) ∧ Below w.heap.size w w' := by
  have G := great_any h hz hl
  have HT : Hid (∀ u : World, Below w.heap.size w u → Tab u) := fun u hb => T.below (Nat.le_refl _) hb
  have HC : Hid (∀ u : World, Below w.heap.size w u → Chs u x L) := fun u hb => h.below hb
  have HLV : Hid (∀ u : World, Below w.heap.size w u → Calls Tryd.prog 7 #[] u fun e w' => e = .returned (.bool true) ∧ Below w.heap.size w w') := fun u hb => (lives_any (HT.out u hb)).mono fun e w' ⟨h1, h2⟩ => ⟨h1, hb.trans (h2.mono hb.size)⟩
  have HZ : Hid (Sized L) := hz
  obtain ⟨xa, xc, rfl, _, _⟩ := h.slice
  clear T h hz
  go_enter Tryd.func3, Tryd.ntmps3
  go_wp2_with fail
  refine G.mono ?_
  rintro e w1 ⟨g, rfl, b1, hg⟩
  have B1 : Hid (Below w.heap.size w w1) := b1
  clear b1 G
  cases g with
  | true =>
    clear hg
    go_wp2_with fail
    refine (HLV.out w1 B1.out).mono ?_
    rintro e w2 ⟨rfl, b2⟩
    go_wp2_with fail
    go_ret
    exact ⟨rfl, b2⟩
  | false =>
    obtain ⟨hl100, _⟩ := hg rfl
    have C2 := write_any (HC.out w1 B1.out) (HT.out w1 B1.out) hl
    clear hg
    go_wp2_with fail
    refine C2.mono ?_
    rintro e w2 ⟨v2, rfl, o2, b2⟩
    have B2 : Hid (Below w.heap.size w w2) := B1.out.trans (b2.mono B1.out.size)
    have D2 : Hid (Bts w2 v2 (writeB L).1) := o2.bts
    have C3 := plain_any (HC.out w2 B2.out) hl100
    clear o2 b2 C2 B1
    go_wp2_with fail
    refine C3.mono ?_
    rintro e w3 ⟨p3, rfl, oc3, b3⟩
    have B3 : Hid (Below w.heap.size w w3) := B2.out.trans (b3.mono B2.out.size)
    have D3 : Hid (Bts w3 v2 (writeB L).1) := D2.out.below b3
    have C4 := refWrite_any oc3.chs (by omega)
    clear oc3 b3 C3 B2 D2
    go_wp2_with fail
    refine C4.mono ?_
    rintro e w4 ⟨v4, rfl, o4, b4⟩
    have B4 : Hid (Below w.heap.size w w4) := B3.out.trans (b4.mono B3.out.size)
    have D4 : Hid (Bts w4 v2 (writeB L).1 ∧ Bts w4 v4 (writeB L).1) := ⟨D3.out.below b4, o4.bts⟩
    have C5 := find_any (HC.out w4 B4.out) HZ.out (by omega) tag
    clear o4 b4 C4 B3 D3
    go_wp2_with fail
    refine C5.mono ?_
    rintro e w5 ⟨x5, rfl, bt5, b5⟩
    have B5 : Hid (Below w.heap.size w w5) := B4.out.trans (b5.mono B4.out.size)
    have D5 : Hid (Bts w5 v2 (writeB L).1 ∧ Bts w5 v4 (writeB L).1 ∧ Bts w5 x5 ((findB L tag).getD [])) := ⟨D4.out.1.below b5, D4.out.2.below b5, bt5⟩
    have C6 := plain_any (HC.out w5 B5.out) hl100
    clear bt5 b5 C5 B4 D4
    go_wp2_with fail
    refine C6.mono ?_
    rintro e w6 ⟨p6, rfl, oc6, b6⟩
    have B6 : Hid (Below w.heap.size w w6) := B5.out.trans (b6.mono B5.out.size)
    have D6 : Hid (Bts w6 v2 (writeB L).1 ∧ Bts w6 v4 (writeB L).1 ∧ Bts w6 x5 ((findB L tag).getD [])) := ⟨D5.out.1.below b6, D5.out.2.1.below b6, D5.out.2.2.below b6⟩
    have C7 := refFind_any oc6.chs HZ.out (by omega) tag
    clear oc6 b6 C6 B5 D5
    go_wp2_with fail
    refine C7.mono ?_
    rintro e w7 ⟨y7, rfl, bt7, b7⟩
    have B7 : Hid (Below w.heap.size w w7) := B6.out.trans (b7.mono B6.out.size)
    have D7 : Hid (Bts w7 v2 (writeB L).1 ∧ Bts w7 v4 (writeB L).1 ∧ Bts w7 x5 ((findB L tag).getD [])) := ⟨D6.out.1.below b7, D6.out.2.1.below b7, D6.out.2.2.below b7⟩
    have S1 := same_yes D7.out.1 D7.out.2.1
    have S2 := same_yes D7.out.2.2 bt7
    have G1 := good_any tag w7 htag
    have G2 := refGood_any tag w7 htag
    have I1 := id_any D7.out.1 (HT.out w7 B7.out)
    have I2 := refId_any D7.out.2.1
    clear bt7 b7 C7 B6 D6 D7
    generalize (writeB L).2 = code at *
    generalize (findB L tag).isSome = found at *
    generalize goodT tag = gt at *
    generalize sumB (writeB L).1 = sm at *
    go_wp2_with fail
    refine S1.mono ?_
    rintro e w' ⟨rfl, hw⟩; obtain rfl := hw.symm; clear hw
    go_wp2_with fail
    refine S2.mono ?_
    rintro e w' ⟨rfl, hw⟩; obtain rfl := hw.symm; clear hw
    go_wp2_with fail
    refine G1.mono ?_
    rintro e w' ⟨rfl, hw⟩; obtain rfl := hw.symm; clear hw
    go_wp2_with fail
    refine G2.mono ?_
    rintro e w' ⟨rfl, hw⟩; obtain rfl := hw.symm; clear hw
    go_wp2_with fail
    refine I1.mono ?_
    rintro e w' ⟨rfl, hw⟩; obtain rfl := hw.symm; clear hw
    go_wp2_with fail
    refine I2.mono ?_
    rintro e w' ⟨rfl, hw⟩; obtain rfl := hw.symm; clear hw
    go_wp2_with fail
    refine (HLV.out w7 B7.out).mono ?_
    rintro e w8 ⟨rfl, b8⟩
    go_wp2_with fail
    go_ret
    exact ⟨rfl, b8⟩
end Go.Proofs.YthomhaegdlglhaaDoor
