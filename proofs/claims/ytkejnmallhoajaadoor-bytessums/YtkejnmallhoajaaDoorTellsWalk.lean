/- The walk of BytesTells. -/
import Derived.Test.YtkejnmallhoajaaDoorLives
import Derived.Test.YtkejnmallhoajaaDoorCrc
namespace Go.Proofs.YtkejnmallhoajaaDoor
open Go.RowKit
set_option maxRecDepth 100000

set_option maxHeartbeats 1000000 in
theorem tells_long {w : World} {x : Value} {l : List UInt8} (h : Bts w x l) (T : Tab w) (hl : 131072 < l.length) (hmx : l.length ≤ 9223372036854775799) (cut bit : Nat) :
    Calls Tryd.prog 6 #[x, .int .u64 cut, .int .u64 bit] w fun e w' => e = .returned (.bool true) ∧ Below w.heap.size w w' := by
  have F := frame_long h hl
  have L := lives_any w T
  obtain ⟨a, c, rfl, _, _⟩ := h.slice
  clear h T
  by_cases h2 : 150000 < l.length
  · go_enter Tryd.func6, Tryd.ntmps6
    go_wp2_with (first
      | (go_at_call 12; refine F.mono ?_; rintro e w' ⟨rfl, hw⟩; obtain rfl := hw.symm; clear hw)
      | (go_at_call 7; refine L.mono ?_; rintro e w' ⟨rfl, hb⟩))
    go_ret
    exact ⟨rfl, hb⟩
  · have hne : ((0 : Int) != (l.length : Int) + 8) = true := by simp; omega
    go_enter Tryd.func6, Tryd.ntmps6
    go_wp2_with (first
      | (go_at_call 12; refine F.mono ?_; rintro e w' ⟨rfl, hw⟩; obtain rfl := hw.symm; clear hw)
      | (go_at_call 7; refine L.mono ?_; rintro e w' ⟨rfl, hb⟩))
    go_ret
    exact ⟨rfl, hb⟩

theorem two_more {w : World} {fv : Value} {F : List UInt8} (h : Bts w fv F) (hF : F.length ≤ 1000000) :
    ∃ v3 w3 v4 w4, (Builtin.append_ #[22, 22] 22 #[.slice (some ⟨w.heap.size, 0, none⟩) 0 0, fv]).run Tryd.prog (w.alloc (.cells #[] 5)) = .ok v3 w3 ∧
      (Builtin.append_ #[22, 22] 22 #[v3, .slice (some ⟨w3.heap.size, 0, none⟩) 2 2]).run Tryd.prog (w3.alloc (.cells #[.int .u8 1, .int .u8 2] 5)) = .ok v4 w4 ∧ Bts w4 v4 (F ++ [1, 2]) ∧ Below w.heap.size w w4 := by
  have o0 : Own w.heap.size (w.alloc (.cells #[] 5)) (.slice (some ⟨w.heap.size, 0, none⟩) 0 0) [] := World.ownsRow_made w #[] 0 (Nat.le_refl _) (by decide) rfl
  obtain ⟨v3, w3, r3, a3⟩ := own_app 22 o0 (h.alloc _) (by simp; omega) (by simp)
  obtain ⟨v4, w4, r4, a4⟩ := own_app 22 (a3.own.alloc _) (lit_bts w3 [1, 2] (0, 0) (by simp [maxLen])) (by simp; omega) (by have := a3.gr.size; simp at this ⊢; omega)
  have b3 : Below w.heap.size w w3 := ((Below.refl _ w).alloc (Nat.le_refl _) _).trans (a3.below o0 (by simp))
  refine ⟨v3, w3, v4, w4, r3, r4, by simpa using a4.own.bts, b3.trans (a4.of_alloc.below a3.own b3.size)⟩

/-- A bit that is turned. -/
theorem turn_bit (d : UInt8) (r : Nat) (hr : r < 8) : ((UInt8.ofNat (d.toNat ^^^ 2 ^ r)).toNat : Int) = bits .xor .u8 (d.toNat : Int) (2 ^ r % 256) ∧ UInt8.ofNat (d.toNat ^^^ 2 ^ r) ≠ d := by
  have hd := d.toNat_lt
  have hp : 2 ^ r < 256 := Nat.pow_lt_pow_right (a := 2) (n := 8) (by decide) hr
  have hx : d.toNat ^^^ 2 ^ r < 256 := Nat.xor_lt_two_pow (n := 8) hd hp
  have ht : (UInt8.ofNat (d.toNat ^^^ 2 ^ r)).toNat = d.toNat ^^^ 2 ^ r := by rw [UInt8.toNat_ofNat']; exact Nat.mod_eq_of_lt hx
  constructor
  · rw [ht, show ((2 : Int) ^ r % 256) = ((2 ^ r : Nat) : Int) by
      rw [show ((2 : Int) ^ r) = ((2 ^ r : Nat) : Int) by simp]
      generalize 2 ^ r = z at hp
      omega]
    exact (u8_xor_nat _ _ hd hp).symm
  · intro e
    have e2 : d.toNat ^^^ 2 ^ r = d.toNat ^^^ 0 := by rw [← ht, e, Nat.xor_zero]
    have := xor_lc e2
    have : 0 < 2 ^ r := Nat.two_pow_pos r
    omega

/-- One byte of a row of one's own is written over. -/
theorem own_store {base : Nat} {w : World} {v : Value} {l : List UInt8} (h : Own base w v l) {p : Nat} (hp : p < l.length) (y : UInt8) :
    ∃ g cap, v = .slice (some ⟨g, 0, none⟩) l.length cap ∧ base ≤ g ∧ w.cell? ⟨g, p, none⟩ = some (.int .u8 l[p].toNat) ∧ w.frozen? ⟨g, p, none⟩ = false ∧ Own base (w.setCell ⟨g, p, none⟩ (.int .u8 y.toNat)) v (l.set p y) := by
  rcases h.2 with ⟨_, h2⟩ | ⟨g, cap, cur, h1, h2, h3, h4, h5, h6, h7⟩
  · omega
  · have hc := World.ownsRow.cells h (g := g) (by rw [h1]; rfl) p _ (bcells_get hp)
    have hp' : (⟨g, 0, none⟩ : Addr).add p = ⟨g, p, none⟩ := by unfold Addr.add; split <;> simp_all
    rw [hp'] at hc
    refine ⟨g, cap, h1, h2, hc, by simp [World.frozen?, h3], ?_, .inr ⟨g, cap, cur.setIfInBounds p (.int .u8 y.toNat), by rw [h1, List.length_set], h2, ?_, by rw [List.length_set]; exact h4, h5, by rw [Array.size_setIfInBounds]; exact h6, ?_⟩⟩
    · simp [bcells]
    · simp [World.setCell, Array.getElem?_modify, h3]
    · rw [Nat.mul_one] at h7
      rw [List.length_set, Nat.mul_one, Array.toList_setIfInBounds, List.take_set, h7]
      simp [bcells, List.map_set]

set_option maxHeartbeats 2000000 in
theorem tells_short {w : World} {x : Value} {l : List UInt8} (h : Bts w x l) (T : Tab w) (hl : l.length ≤ 131072) (cut bit : Nat) (hcut : cut < 18446744073709551616) (hbit : bit < 18446744073709551616) :
    Calls Tryd.prog 6 #[x, .int .u64 cut, .int .u64 bit] w fun e w' => e = .returned (.bool true) ∧ Below w.heap.size w w' := by
  have H : Hid (Bts w x l) := h
  have HT : Hid (Tab w) := T
  have C1 := frame_any h T hl
  obtain ⟨a, c, rfl, _, _⟩ := h.slice
  clear h T
  go_enter Tryd.func6, Tryd.ntmps6
  go_wp2_with fail
  refine C1.mono ?_
  rintro e w1 ⟨v1, rfl, o1, b1⟩
  have O1 : Hid (Own w.heap.size w1 v1 (frameB l)) := o1
  have B1 : Hid (Below w.heap.size w w1) := b1
  obtain ⟨g, cap, rfl, hg, hcap⟩ : ∃ g cap, v1 = .slice (some ⟨g, 0, none⟩) (l.length + 8) cap ∧ w.heap.size ≤ g ∧ l.length + 8 ≤ cap ∧ cap ≤ 9223372036854775807 := by
    rcases o1.2 with ⟨_, h2⟩ | ⟨g, cap, cur, h1, h2, h3, h4, h5, h6, h7⟩
    · rw [frameB_length] at h2; omega
    · rw [frameB_length] at h1 h4
      exact ⟨g, cap, h1, h2, h4, h5⟩
  have W1 : Hid (∀ j u, (bcells (frameB l))[j]? = some u → w1.cell? ((⟨g, 0, none⟩ : Addr).add j) = some u) := World.ownsRow.cells o1 (g := g) rfl
  obtain ⟨k, hk⟩ : ∃ k, k = cut % (l.length + 8) := ⟨_, rfl⟩
  have hk1 : ((cut : Int) % ((l.length : Int) + 8)) = (k : Int) := by rw [hk]; simp
  have hk2 : k < l.length + 8 := by rw [hk]; exact Nat.mod_lt _ (by omega)
  have hk3 : (k : Int) ≤ (cap : Int) := by omega
  clear hk o1 b1 C1
  have C2 := unframe_any (w := w1) (v := .slice (some ⟨g, 0, none⟩) k cap) (Bts.part (by rw [frameB_length]; omega) (by omega) hcap.2 W1.out) (HT.out.below (Nat.le_refl _) B1.out)
  rw [unframe_cut hl hk2] at C2
  go_wp2_with fail
  refine C2.mono ?_
  rintro e w2 ⟨c2, rfl, -, b2⟩
  have O2 : Hid (Own w.heap.size w2 (.slice (some ⟨g, 0, none⟩) (l.length + 8) cap) (frameB l)) := O1.out.kept b2.block
  have B2 : Hid (Below w.heap.size w w2) := B1.out.trans (b2.mono B1.out.size)
  obtain ⟨v3, w3, v4, w4, r3, r4, bt4, b4⟩ := two_more O2.out.bts (by rw [frameB_length]; omega)
  have R3 : Hid _ := r3
  have R4 : Hid _ := r4
  have B4 : Hid (Below w.heap.size w w4) := B2.out.trans (b4.mono B2.out.size)
  have O4 : Hid (Own w.heap.size w4 (.slice (some ⟨g, 0, none⟩) (l.length + 8) cap) (frameB l)) := O2.out.kept b4.block
  have C4 := unframe_any bt4 (HT.out.below (Nat.le_refl _) B4.out)
  rw [unframe_frame hl] at C4
  clear C2 b2 O1 B1 r3 r4 bt4 b4 O2 B2 W1 hk1 hk2 hk3
  go_wp2_with (first
    | (at_builtin; refine wpList_append_run rfl _ _ 22 rfl _ _ _ _ rfl rfl R3.out ?_)
    | (at_builtin; refine wpList_append_run rfl _ _ 22 rfl _ _ _ _ rfl rfl R4.out ?_))
  refine C4.mono ?_
  rintro e w5 ⟨c5, rfl, o5, b5⟩
  have B5 : Hid (Below w.heap.size w w5) := B4.out.trans (b5.mono B4.out.size)
  have O5 : Hid (Own w.heap.size w5 (.slice (some ⟨g, 0, none⟩) (l.length + 8) cap) (frameB l)) := O4.out.kept b5.block
  have C5 := same_yes o5.bts (H.out.below B5.out)
  clear C4 o5 b5 O4 B4 R3 R4
  by_cases h0 : l.length = 0
  · have L := lives_any w5 (HT.out.below (Nat.le_refl _) B5.out)
    obtain rfl := List.eq_nil_of_length_eq_zero h0
    clear h0
    go_wp2_with (first
      | (go_at_call 11; refine C5.mono ?_; rintro e w' ⟨rfl, hw⟩; obtain rfl := hw.symm; clear hw)
      | (go_at_call 7; refine L.mono ?_; rintro e w' ⟨rfl, hb⟩))
    go_ret
    exact ⟨rfl, B5.out.trans (hb.mono B5.out.size)⟩
  · obtain ⟨k, hk⟩ : ∃ k, k = bit % (8 * l.length) := ⟨_, rfl⟩
    have hk1 : ((bit : Int) % (8 * (l.length : Int))) = (k : Int) := by rw [hk]; simp
    have hk2 : k < 8 * l.length := by rw [hk]; exact Nat.mod_lt _ (by omega)
    clear hk
    have h0' : ((l.length : Int) == 0) = false := by simp; exact fun e => h0 (by rw [e]; rfl)
    have h0'' : ¬ ((8 : Int) * (l.length : Int) = 0) := by omega
    have hp : 4 + k / 8 < (frameB l).length := by rw [frameB_length]; omega
    have hp2 : k / 8 < l.length := by omega
    have hFx : (frameB l)[4 + k / 8] = l[k / 8] := by
      have := frame_at hp2
      rw [List.getElem?_eq_getElem hp] at this
      exact Option.some.inj this
    have hx := l[k / 8].toNat_lt
    obtain ⟨hy1, hy2⟩ := turn_bit l[k / 8] (k % 8) (Nat.mod_lt _ (by decide))
    obtain ⟨g', cap', e', _, hc, hf, ho⟩ := own_store O5.out hp (UInt8.ofNat (l[k / 8].toNat ^^^ 2 ^ (k % 8)))
    obtain rfl : g = g' := by simp only [Value.slice.injEq, Option.some.injEq, Addr.mk.injEq] at e'; exact e'.1.1
    rw [hFx] at hc
    have C6 := unframe_any ho.bts (HT.out.below (Nat.le_refl _) (B5.out.setCell hg _))
    rw [unframe_turned hl hp2 hy2, hy1] at C6
    have B6 : Hid (Below w.heap.size w (w5.setCell ⟨g, 4 + k / 8, none⟩ (.int .u8 (bits .xor .u8 (l[k / 8].toNat : Int) (2 ^ (k % 8) % 256))))) := B5.out.setCell hg _
    have L := fun w6 (hb : Below w.heap.size w w6) => lives_any w6 (HT.out.below (Nat.le_refl _) hb)
    generalize l[k / 8].toNat = x at *
    clear ho e' hFx hp hp2 hy1 hy2 O5 h0
    go_wp2_with (first
      | (go_at_call 11; refine C5.mono ?_; rintro e w' ⟨rfl, hw⟩; obtain rfl := hw.symm; clear hw)
      | (go_at_call 15; refine C6.mono ?_; rintro e w6 ⟨c6, rfl, -, b6⟩; have B7 : Hid (Below w.heap.size w w6) := B6.out.trans (b6.mono B6.out.size); clear b6)
      | (go_at_call 7; refine (L _ B7.out).mono ?_; rintro e w' ⟨rfl, hb⟩))
    go_ret
    exact ⟨rfl, B7.out.trans (hb.mono B7.out.size)⟩

theorem tells_walk {w : World} {x : Value} {l : List UInt8} (h : Bts w x l) (T : Tab w) (hmx : l.length ≤ 140737488355328) (cut bit : Nat) (hcut : cut < 18446744073709551616) (hbit : bit < 18446744073709551616) :
    Calls Tryd.prog 6 #[x, .int .u64 cut, .int .u64 bit] w fun e w' => e = .returned (.bool true) ∧ Below w.heap.size w w' := by
  by_cases hl : l.length ≤ 131072
  · exact tells_short h T hl cut bit hcut hbit
  · exact tells_long h T (by omega) (by omega) cut bit
end Go.Proofs.YtkejnmallhoajaaDoor
