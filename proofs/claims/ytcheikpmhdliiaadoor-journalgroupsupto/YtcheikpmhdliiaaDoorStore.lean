/- One byte of a row of one's own is written over; a bit that is turned; bytes with two behind them. No walk. -/
import Derived.Test.YtcheikpmhdliiaaDoorCrc
namespace Go.Proofs.YtcheikpmhdliiaaDoor
open Go.RowKit

theorem two_more {w : World} {fv : Value} {F : List UInt8} (h : Bts w fv F) (hF : F.length ≤ 1000000) :
    ∃ v3 w3 v4 w4, (Builtin.append_ #[24, 24] 24 #[.slice (some ⟨w.heap.size, 0, none⟩) 0 0, fv]).run Tryd.prog (w.alloc (.cells #[] 5)) = .ok v3 w3 ∧
      (Builtin.append_ #[24, 24] 24 #[v3, .slice (some ⟨w3.heap.size, 0, none⟩) 2 2]).run Tryd.prog (w3.alloc (.cells #[.int .u8 1, .int .u8 2] 5)) = .ok v4 w4 ∧ Bts w4 v4 (F ++ [1, 2]) ∧ Below w.heap.size w w4 := by
  have o0 : Own w.heap.size (w.alloc (.cells #[] 5)) (.slice (some ⟨w.heap.size, 0, none⟩) 0 0) [] := World.ownsRow_made w #[] 0 (Nat.le_refl _) (by decide) rfl
  obtain ⟨v3, w3, r3, a3⟩ := own_app 24 o0 (h.alloc _) (by simp; omega) (by simp)
  obtain ⟨v4, w4, r4, a4⟩ := own_app 24 (a3.own.alloc _) (lit_bts w3 [1, 2] (0, 0) (by simp [maxLen])) (by simp; omega) (by have := a3.gr.size; simp at this ⊢; omega)
  have b3 : Below w.heap.size w w3 := ((Below.refl _ w).alloc (Nat.le_refl _) _).trans (a3.below o0 (by simp))
  refine ⟨v3, w3, v4, w4, r3, r4, by simpa using a4.own.bts, b3.trans (a4.of_alloc.below a3.own b3.size)⟩

/-- A bit that is turned. -/
theorem turn_bit (d : UInt8) (r : Nat) (hr : r < 8) : ((UInt8.ofNat (d.toNat ^^^ 2 ^ r)).toNat : Int) = bits .xor .u8 (d.toNat : Int) (2 ^ r % 256) ∧ UInt8.ofNat (d.toNat ^^^ 2 ^ r) ≠ d := by
  have hd := d.toNat_lt
  have hp : 2 ^ r < 256 := Nat.pow_lt_pow_right (a := 2) (n := 8) (by decide) hr
  have hx : d.toNat ^^^ 2 ^ r < 256 := Nat.xor_lt_two_pow (n := 8) hd hp
  have ht : (UInt8.ofNat (d.toNat ^^^ 2 ^ r)).toNat = d.toNat ^^^ 2 ^ r := by rw [UInt8.toNat_ofNat']; exact Nat.mod_eq_of_lt hx
  constructor
  · rw [ht, show ((2 : Int) ^ r % 256) = ((2 ^ r : Nat) : Int) by
      rw [show ((2 : Int) ^ r) = ((2 ^ r : Nat) : Int) by simp]
      generalize 2 ^ r = z at hp
      omega]
    exact (u8_xor_nat _ _ hd hp).symm
  · intro e
    have e2 : d.toNat ^^^ 2 ^ r = d.toNat ^^^ 0 := by rw [← ht, e, Nat.xor_zero]
    have := xor_lc e2
    have : 0 < 2 ^ r := Nat.two_pow_pos r
    omega

/-- One byte of a row of one's own is written over. -/
theorem own_store {base : Nat} {w : World} {v : Value} {l : List UInt8} (h : Own base w v l) {p : Nat} (hp : p < l.length) (y : UInt8) :
    ∃ g cap, v = .slice (some ⟨g, 0, none⟩) l.length cap ∧ base ≤ g ∧ w.cell? ⟨g, p, none⟩ = some (.int .u8 l[p].toNat) ∧ w.frozen? ⟨g, p, none⟩ = false ∧ Own base (w.setCell ⟨g, p, none⟩ (.int .u8 y.toNat)) v (l.set p y) := by
  rcases h.2 with ⟨_, h2⟩ | ⟨g, cap, cur, h1, h2, h3, h4, h5, h6, h7⟩
  · omega
  · have hc := World.ownsRow.cells h (g := g) (by rw [h1]; rfl) p _ (bcells_get hp)
    have hp' : (⟨g, 0, none⟩ : Addr).add p = ⟨g, p, none⟩ := by unfold Addr.add; split <;> simp_all
    rw [hp'] at hc
    refine ⟨g, cap, h1, h2, hc, by simp [World.frozen?, h3], ?_, .inr ⟨g, cap, cur.setIfInBounds p (.int .u8 y.toNat), by rw [h1, List.length_set], h2, ?_, by rw [List.length_set]; exact h4, h5, by rw [Array.size_setIfInBounds]; exact h6, ?_⟩⟩
    · simp [bcells]
    · simp [World.setCell, Array.getElem?_modify, h3]
    · rw [Nat.mul_one] at h7
      rw [List.length_set, Nat.mul_one, Array.toList_setIfInBounds, List.take_set, h7]
      simp [bcells, List.map_set]

end Go.Proofs.YtcheikpmhdliiaaDoor
