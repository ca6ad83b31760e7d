/- The document's Order, of any number that is not above 4096. -/
import Derived.Test.YtbbcnjagndfmbaaDOrd3
namespace Go.Proofs.Ytbbcnjagndfmbaa
open Go.RowKit Go.Dp
set_option maxRecDepth 100000
set_option linter.unusedVariables false
set_option linter.unusedSimpArgs false
theorem order_zero (E : List (Nat × Nat)) : orderB 0 E = [] := List.eq_nil_of_length_eq_zero order_length
set_option maxHeartbeats 8000000 in
theorem rorder_neg {w : World} {av : Value} {n0 : Int} {L : List (Int × Int)} (h : Pr w av L) (hl : L.length ≤ 1099511627776) (hn : n0 < 0) :
    Calls Try.prog 8 #[.int .i64 n0, av] w fun e w' => OAns w.heap.size w' e 0 (kept 0 L) ∧ Below w.heap.size w w' := by
  have HA : Hid (Pr w av L) := h
  obtain ⟨a0, c0, rfl⟩ := h.slice
  have HQ : Hid (∀ (B : Nat) (w' : World) (rv : Value), w'.ownsRow B 4 1 rv 0 [] → OAns B w' (.returned (.tuple #[.slice none 0 0, rv])) 0 (kept 0 L)) := fun B w' rv hr => by
    refine ⟨_, _, rfl, ?_, hr⟩
    rw [order_zero]
    exact World.ownsRow_nil ..
  clear h
  go_enter Try.func8, Try.ntmps8
  go_wp2
  go_loopw [6, 22] (fun v6 v22 wr => v6 = .slice none 0 0 ∧ ∃ k : Nat, v22 = .int .i64 (k : Nat) ∧ k ≤ L.length ∧ Hid (Below w.heap.size w wr)) (fun _ v22 _ => L.length - (intOf v22).toNat)
  case atStart => exact ⟨rfl, 0, rfl, Nat.zero_le _, Below.refl _ _⟩
  case round =>
    obtain ⟨rfl, k, rfl, hk, HB⟩ := hrel
    by_cases hkl : k < L.length
    · have hki : (k : Int) < L.length := by omega
      obtain ⟨a', c', e', RL⟩ := Pr.load (L := L) (Rd.below HA.out HB.out) hkl
      cases e'
      have RLh : Hid _ := RL
      generalize L[k] = y at *
      have RSt : Hid _ := pbox wr y
      obtain ⟨c1, c2⟩ := p_cells (heap_alloc_new wr (pO y))
      have HB1 : Hid (Below w.heap.size w (wr.alloc (pO y))) := bel_alloc HB.out _
      obtain ⟨x, z⟩ := y
      dsimp only at *
      clear RL HB
      by_cases q1 : 0 ≤ x
      · have q2 : ¬ x < 0 := by omega
        go_wp2_with (first
          | (refine nl_load rfl 33 _ rfl _ _ rfl RLh.out ?_; clear RLh)
          | (refine nl_store rfl 33 _ _ rfl _ _ _ rfl rfl RSt.out ?_; clear RSt))
        go_roundw
        case rel => exact ⟨by first | rfl | trivial, k + 1, by go_num, by omega, HB1.out⟩
        case measure => simp [intOf]; omega
      · go_wp2_with (first
          | (refine nl_load rfl 33 _ rfl _ _ rfl RLh.out ?_; clear RLh)
          | (refine nl_store rfl 33 _ _ rfl _ _ _ rfl rfl RSt.out ?_; clear RSt))
        go_roundw
        case rel => exact ⟨by first | rfl | trivial, k + 1, by go_num, by omega, HB1.out⟩
        case measure => simp [intOf]; omega
    · have hki : ¬ (k : Int) < L.length := by omega
      generalize wr = W1 at *
      obtain ⟨A, w2, RM, hR2, hB2⟩ := ro_make W1 25 4 (.bool false) 1 Try.underlying25 (by kernel_rfl) rfl 0 (by omega) (by omega)
      obtain ⟨D, w3, RD, hD3, hB3⟩ := ro_make w2 25 4 (.bool false) 1 Try.underlying25 (by kernel_rfl) rfl 0 (by omega) (by omega)
      have HR : Hid (w3.ownsRow w.heap.size 4 1 (.slice (some A) 0 0) 0 []) := World.ownsRow.mono (hR2.below hB3).own HB.out.size
      have HB3 : Hid (Below w.heap.size w w3) := (HB.out.trans (hB2.mono HB.out.size)).trans (hB3.mono (Nat.le_trans HB.out.size hB2.size))
      clear hR2 hB2 hD3 hB3 HB
      go_wp2_with (first
        | (refine nl_make rfl 25 _ _ rfl _ _ _ _ rfl rfl RM.out ?_; clear RM))
      go_loopw [9, 11] (fun v9 v11 wr => v11 = .int .i64 0 ∧ wr = w2) (fun _ v11 _ => 0)
      case atStart => exact ⟨rfl, rfl⟩
      case round =>
        obtain ⟨rfl, rfl⟩ := hrel
        go_wp2_with (first
          | (refine nl_make rfl 25 _ _ rfl _ _ _ _ rfl rfl RD.out ?_; clear RD))
        go_loopw [13] (fun v13 wr => v13 = .slice none 0 0 ∧ wr = w3) (fun _ _ => 0)
        case atStart => exact ⟨rfl, rfl⟩
        case round =>
          obtain ⟨rfl, rfl⟩ := hrel
          go_wp2
          go_ret2
          exact ⟨HQ.out _ _ _ HR.out, HB3.out⟩
theorem rorder_any {w : World} {av : Value} {n0 : Int} {L : List (Int × Int)} (h : Pr w av L) (hl : L.length ≤ 1099511627776) (hn : n0 ≤ 4096) :
    Calls Try.prog 8 #[.int .i64 n0, av] w fun e w' => OAns w.heap.size w' e n0.toNat (kept n0.toNat L) ∧ Below w.heap.size w w' := by
  by_cases hz : n0 < 0
  · have := rorder_neg h hl hz
    rw [show n0.toNat = 0 by omega]
    exact this
  · obtain ⟨n, rfl⟩ := Int.eq_ofNat_of_zero_le (a := n0) (by omega)
    have := rorder_nat (n := n) h hl (by omega)
    rw [show ((n : Nat) : Int).toNat = n by simp]
    exact this
end Go.Proofs.Ytbbcnjagndfmbaa
