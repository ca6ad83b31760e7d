/- The walk of BoxBack. -/
import Derived.Test.YthomhaegdlglhaaDoorLives
import Derived.Test.YthomhaegdlglhaaDoorTurned
import Derived.Test.YthomhaegdlglhaaDoorStore
namespace Go.Proofs.YthomhaegdlglhaaDoor
open Go.RowKit
set_option maxRecDepth 100000

theorem one_more {w : World} {fv : Value} {F : List UInt8} (h : Bts w fv F) (hF : F.length ≤ 1000000) :
    ∃ v3 w3 v4 w4, (Builtin.append_ #[25, 25] 25 #[.slice (some ⟨w.heap.size, 0, none⟩) 0 0, fv]).run Tryd.prog (w.alloc (.cells #[] 5)) = .ok v3 w3 ∧
      (Builtin.append_ #[25, 25] 25 #[v3, .slice (some ⟨w3.heap.size, 0, none⟩) 1 1]).run Tryd.prog (w3.alloc (.cells #[.int .u8 0] 5)) = .ok v4 w4 ∧ Bts w4 v4 (F ++ [0]) ∧ Below w.heap.size w w4 := by
  have o0 : Own w.heap.size (w.alloc (.cells #[] 5)) (.slice (some ⟨w.heap.size, 0, none⟩) 0 0) [] := World.ownsRow_made w #[] 0 (Nat.le_refl _) (by decide) rfl
  obtain ⟨v3, w3, r3, a3⟩ := own_app 25 o0 (h.alloc _) (by simp; omega) (by simp)
  obtain ⟨v4, w4, r4, a4⟩ := own_app 25 (a3.own.alloc _) (lit_bts w3 [0] (0, 0) (by simp [maxLen])) (by simp; omega) (by have := a3.gr.size; simp at this ⊢; omega)
  have b3 : Below w.heap.size w w3 := ((Below.refl _ w).alloc (Nat.le_refl _) _).trans (a3.below o0 (by simp))
  refine ⟨v3, w3, v4, w4, r3, r4, by simpa using a4.own.bts, b3.trans (a4.of_alloc.below a3.own b3.size)⟩

/-- A read that tells none. -/
theorem read_no {w : World} {v : Value} {b : List UInt8} (h : Bts w v b) (T : Tab w) (hn : readB b = none) :
    Calls Tryd.prog 18 #[v] w fun e w' => e = .returned (.tuple #[.slice none 0 0, .int .i64 12]) ∧ Below w.heap.size w w' := by
  refine (read_any h T).mono ?_
  rintro e w' (⟨_, rfl, hb⟩ | ⟨L, lv, hr, _⟩)
  · exact ⟨rfl, hb⟩
  · rw [hn] at hr; cases hr
theorem read_yes {w : World} {v : Value} {b : List UInt8} {L : List Chk} (h : Bts w v b) (T : Tab w) (hn : readB b = some L) :
    Calls Tryd.prog 18 #[v] w fun e w' => ∃ lv, e = .returned (.tuple #[lv, .int .i64 0]) ∧ Chs w' lv L ∧ Below w.heap.size w w' := by
  refine (read_any h T).mono ?_
  rintro e w' (⟨hr, _⟩ | ⟨L', lv, hr, rfl, hc, hb⟩)
  · rw [hn] at hr; cases hr
  · rw [hn] at hr; cases hr; exact ⟨lv, rfl, hc, hb⟩

theorem box_bound {L : List Chk} (h : wrongB L = 0) : ∃ M, (boxB L).length = M + 4 ∧ 16 ≤ M ∧ M ≤ 200000 := by
  obtain ⟨g1, _, n1, t1⟩ := wrong_zero h
  have l1 := box_length L
  have d1 := dir_length g1
  exact ⟨(boxB L).length - 4, by omega, by omega, by omega⟩

set_option maxHeartbeats 8000000 in
theorem back_walk {w : World} {x : Value} {L : List Chk} (h : Chs w x L) (hz : Sized L) (hl : L.length ≤ 140737488355328) (T : Tab w) (bit cut : Nat) (hbit : bit < 18446744073709551616) :
    Calls Tryd.prog 5 #[x, .int .u64 bit, .int .u64 cut] w fun e w' => e = .returned (.bool true) ∧ Below w.heap.size w w' := by
  have G := great_any h hz hl
  have HT : Hid (∀ u : World, Below w.heap.size w u → Tab u) := fun u hb => T.below (Nat.le_refl _) hb
  have HC : Hid (∀ u : World, Below w.heap.size w u → Chs u x L) := fun u hb => h.below hb
  have HLV : Hid (∀ u : World, Below w.heap.size w u → Calls Tryd.prog 7 #[] u fun e w' => e = .returned (.bool true) ∧ Below w.heap.size w w') := fun u hb => (lives_any (HT.out u hb)).mono fun e w' ⟨h1, h2⟩ => ⟨h1, hb.trans (h2.mono hb.size)⟩
  obtain ⟨xa, xc, rfl, _, _⟩ := h.slice
  clear T h hz
  go_enter Tryd.func5, Tryd.ntmps5
  go_wp2_with fail
  refine G.mono ?_
  rintro e w1 ⟨g, rfl, b1, hg⟩
  have B1 : Hid (Below w.heap.size w w1) := b1
  clear b1 G
  cases g with
  | true =>
    clear hg
    go_wp2_with fail
    refine (HLV.out w1 B1.out).mono ?_
    rintro e w2 ⟨rfl, b2⟩
    go_wp2_with fail
    go_ret
    exact ⟨rfl, b2⟩
  | false =>
    obtain ⟨hl100, _⟩ := hg rfl
    have C2 := write_any (HC.out w1 B1.out) (HT.out w1 B1.out) hl
    by_cases hw : wrongB L = 0
    · have hwb : writeB L = (boxB L, 0) := by unfold writeB; rw [if_pos hw]
      rw [hwb] at C2
      have HW : Hid (wrongB L = 0) := hw
      clear hw hwb hg
      go_wp2_with fail
      refine C2.mono ?_
      rintro e w2 ⟨v2, rfl, o2, b2⟩
      have B2 : Hid (Below w.heap.size w w2) := B1.out.trans (b2.mono B1.out.size)
      have O2 : Hid (Own w.heap.size w2 v2 (boxB L)) := o2.mono_base B1.out.size
      obtain ⟨M, hM, hM1, hM2⟩ := box_bound HW.out
      have HM : Hid ((boxB L).length = M + 4) := hM
      have o2' := O2.out
      obtain ⟨g, cap, rfl, hg, hcap1, hcap2⟩ : ∃ g cap, v2 = .slice (some ⟨g, 0, none⟩) (M + 4) cap ∧ w.heap.size ≤ g ∧ M + 4 ≤ cap ∧ cap ≤ 9223372036854775807 := by
        rcases o2'.2 with ⟨_, h2⟩ | ⟨g, cap, cur, h1, h2, h3, h4, h5, h6, h7⟩
        · omega
        · rw [hM] at h1 h4
          exact ⟨g, cap, h1, h2, h4, h5⟩
      have C3 := read_yes O2.out.bts (HT.out w2 B2.out) (read_box HW.out)
      clear o2 b2 C2 hM o2'
      go_wp2_with fail
      refine C3.mono ?_
      rintro e w3 ⟨lv, rfl, hch, b3⟩
      have B3 : Hid (Below w.heap.size w w3) := B2.out.trans (b3.mono B2.out.size)
      have O3 : Hid (Own w.heap.size w3 (.slice (some ⟨g, 0, none⟩) (M + 4) cap) (boxB L)) := O2.out.kept b3.block
      have HCH : Hid (Chs w3 lv L) := hch
      have C4 := plain_any (HC.out w3 B3.out) hl100
      clear hch b3 C3 B2 O2
      go_wp2_with fail
      refine C4.mono ?_
      rintro e w4 ⟨pv, rfl, oc, b4⟩
      have C5 := same_chunks (HCH.out.below b4) oc.chs (by omega)
      have B4 : Hid (Below w.heap.size w w4) := B3.out.trans (b4.mono B3.out.size)
      have O4 : Hid (Own w.heap.size w4 (.slice (some ⟨g, 0, none⟩) (M + 4) cap) (boxB L)) := O3.out.kept b4.block
      clear b4 oc C4 O3 B3 HCH
      go_wp2_with fail
      refine C5.mono ?_
      rintro e w5 ⟨rfl, b5⟩
      have B5 : Hid (Below w.heap.size w w5) := B4.out.trans (b5.mono B4.out.size)
      have O5 : Hid (Own w.heap.size w5 (.slice (some ⟨g, 0, none⟩) (M + 4) cap) (boxB L)) := O4.out.kept b5.block
      obtain ⟨v6, w6, v7, w7, r6, r7, bt7, b7⟩ := one_more O5.out.bts (by rw [HM.out]; omega)
      have R6 : Hid _ := r6
      have R7 : Hid _ := r7
      have B7 : Hid (Below w.heap.size w w7) := B5.out.trans (b7.mono B5.out.size)
      have O7 : Hid (Own w.heap.size w7 (.slice (some ⟨g, 0, none⟩) (M + 4) cap) (boxB L)) := O5.out.kept b7.block
      have C7 := read_no bt7 (HT.out w7 B7.out) (read_more HW.out)
      clear b5 C5 O4 B4 r6 r7 bt7 b7
      go_wp2_with (first
        | (at_builtin; refine wpList_append_run rfl _ _ 25 rfl _ _ _ _ rfl rfl R6.out ?_)
        | (at_builtin; refine wpList_append_run rfl _ _ 25 rfl _ _ _ _ rfl rfl R7.out ?_))
      refine C7.mono ?_
      rintro e w8 ⟨rfl, b8⟩
      have B8 : Hid (Below w.heap.size w w8) := B7.out.trans (b8.mono B7.out.size)
      have O8 : Hid (Own w.heap.size w8 (.slice (some ⟨g, 0, none⟩) (M + 4) cap) (boxB L)) := O7.out.kept b8.block
      have bt0 : Bts w8 (.slice (some ⟨g, 0, none⟩) 0 cap) [] := .inr ⟨⟨g, 0, none⟩, cap, rfl, Nat.zero_le _, hcap2, fun j u hj => by simp [bcells] at hj⟩
      have C8 := read_no bt0 (HT.out w8 B8.out) read_none
      clear b8 C7 O7 B7 R6 R7 O5 B5 bt0
      go_wp2_with fail
      refine C8.mono ?_
      rintro e w9 ⟨rfl, b9⟩
      have B9 : Hid (Below w.heap.size w w9) := B8.out.trans (b9.mono B8.out.size)
      have O9 : Hid (Own w.heap.size w9 (.slice (some ⟨g, 0, none⟩) (M + 4) cap) (boxB L)) := O8.out.kept b9.block
      obtain ⟨k, hk⟩ : ∃ k, k = bit % (8 * M) := ⟨_, rfl⟩
      have hk1 : ((bit : Int) % (8 * (M : Int))) = (k : Int) := by rw [hk]; simp
      have hk2 : k < 8 * M := by rw [hk]; exact Nat.mod_lt _ (by omega)
      have hm0 : ¬ ((8 : Int) * (M : Int) = 0) := by omega
      have hp : k / 8 < (boxB L).length := by rw [HM.out]; omega
      have hp4 : k / 8 + 4 < (boxB L).length := by rw [HM.out]; omega
      have hx := (boxB L)[k / 8].toNat_lt
      obtain ⟨hy1, hy2⟩ := turn_bit (boxB L)[k / 8] (k % 8) (Nat.mod_lt _ (by decide))
      obtain ⟨g', cap', e', _, hc, hf, ho⟩ := own_store O9.out hp (UInt8.ofNat ((boxB L)[k / 8].toNat ^^^ 2 ^ (k % 8)))
      obtain rfl : g = g' := by simp only [Value.slice.injEq, Option.some.injEq, Addr.mk.injEq] at e'; exact e'.1.1
      have hne : (boxB L)[k / 8]? ≠ some (UInt8.ofNat ((boxB L)[k / 8].toNat ^^^ 2 ^ (k % 8))) := by
        rw [List.getElem?_eq_getElem hp]
        exact fun e => hy2 (Option.some.inj e).symm
      have C10 := read_no ho.bts (HT.out _ (B9.out.setCell hg _)) (read_turned HW.out hp4 hne)
      rw [hy1] at C10
      have B10 : Hid (Below w.heap.size w (w9.setCell ⟨g, k / 8, none⟩ (.int .u8 (bits .xor .u8 ((boxB L)[k / 8].toNat : Int) (2 ^ (k % 8) % 256))))) := B9.out.setCell hg _
      generalize (boxB L)[k / 8].toNat = z at *
      clear ho e' hp hp4 hy1 hy2 O9 O8 B8 hk b9 C8 hne
      go_wp2_with fail
      refine C10.mono ?_
      rintro e w11 ⟨rfl, b11⟩
      have B11 : Hid (Below w.heap.size w w11) := B10.out.trans (b11.mono B10.out.size)
      clear b11 C10
      go_wp2_with fail
      refine (HLV.out w11 B11.out).mono ?_
      rintro e w12 ⟨rfl, b12⟩
      go_wp2_with fail
      go_ret
      exact ⟨rfl, b12⟩
    · have hwb : writeB L = ([], wrongB L) := by unfold writeB; rw [if_neg hw]
      rw [hwb] at C2
      generalize wrongB L = y at *
      have hy : ¬ ((y : Int) = 0) := by omega
      clear hwb hg
      go_wp2_with fail
      refine C2.mono ?_
      rintro e w2 ⟨v2, rfl, o2, b2⟩
      obtain ⟨va, vc, rfl⟩ := o2.slice
      have B2 : Hid (Below w.heap.size w w2) := B1.out.trans (b2.mono B1.out.size)
      simp only [List.length_nil]
      clear o2 b2 C2
      go_wp2_with fail
      refine (HLV.out w2 B2.out).mono ?_
      rintro e w3 ⟨rfl, b3⟩
      go_wp2_with fail
      go_ret
      exact ⟨rfl, b3⟩
end Go.Proofs.YthomhaegdlglhaaDoor
