/- The walk of BytesOps. -/
import Derived.Test.YtcheikpmhdliiaaDoorPutOps
import Derived.Test.YtcheikpmhdliiaaDoorWholeO
import Derived.Test.YtcheikpmhdliiaaDoorRefOps
namespace Go.Proofs.YtcheikpmhdliiaaDoor
open Go.RowKit
set_option maxRecDepth 100000

set_option maxHeartbeats 1000000 in
theorem bytesOps_walk {w : World} {x : Value} {L : List OpT} (h : Opl 0 w.heap.size w x L) (ok : ∀ o ∈ L, o.Ok) (T : Tab w) (hl : (opsB L).length ≤ 10485760) :
    Calls Tryd.prog 3 #[x] w fun e w' => e = .returned (.bool true) ∧ Below w.heap.size w w' := by
  obtain ⟨a, c, rfl, _, _⟩ := h.slice
  have hlen : L.length ≤ 10485760 := by
    have := flatMap_ge opB_pos L
    simp only [opsB, lstB, List.length_append] at hl
    omega
  by_cases hbig : 200 < L.length
  · have C := lives_any w T
    clear h ok T
    go_enter Tryd.func3, Tryd.ntmps3
    go_wp2_with (go_at_call 9; refine C.mono ?_; rintro e w' ⟨rfl, hb⟩)
    go_ret
    exact ⟨rfl, hb⟩
  · have C1 := ops_any h (Nat.le_refl _) ok (by omega)
    have H : Hid (Opl 0 w.heap.size w (.slice a L.length c) L) := h
    have HT : Hid (Tab w) := T
    have HOK : Hid _ := ok
    clear h T ok
    go_enter Tryd.func3, Tryd.ntmps3
    go_wp2_with fail
    refine C1.mono ?_
    rintro e w1 ⟨v1, rfl, o1, b1⟩
    have C2 := refOps_any (H.out.below (Nat.le_refl _) b1) b1.size HOK.out (by omega)
    have O1 : Hid (Bts w1 v1 (opsB L)) := o1.bts
    have B1 : Hid (Below w.heap.size w w1) := b1
    clear C1 o1 b1
    go_wp2_with fail
    refine C2.mono ?_
    rintro e w2 ⟨v2, rfl, o2, b2⟩
    have B2 : Hid (Below w.heap.size w w2) := B1.out.trans (b2.mono B1.out.size)
    have O2 : Hid (Bts w2 v1 (opsB L)) := O1.out.below b2
    have C3 := same_yes O2.out o2.bts
    have C4 := readOps_some O2.out (by omega) (readO_B HOK.out (by omega))
    clear C2 o2 b2 O1 B1
    go_wp2_with (first
      | (go_at_call 11; refine C3.mono ?_; rintro e w' ⟨rfl, hw⟩; obtain rfl := hw.symm; clear hw)
      | (go_at_call 13; refine C4.mono ?_; rintro e w3 ⟨x3, rfl, o3, b3⟩))
    have C5 := refOps_any o3.opl (Nat.le_refl _) HOK.out (by omega)
    have O3 : Hid (Bts w3 v1 (opsB L)) := O2.out.below b3
    have B3 : Hid (Below w.heap.size w w3) := B2.out.trans (b3.mono B2.out.size)
    clear C3 C4 o3 b3 O2 B2
    go_wp2_with fail
    refine C5.mono ?_
    rintro e w4 ⟨v4, rfl, o4, b4⟩
    have B4 : Hid (Below w.heap.size w w4) := B3.out.trans (b4.mono B3.out.size)
    have C6 := same_yes o4.bts (O3.out.below b4)
    have C7 := lives_any w4 (HT.out.below (Nat.le_refl _) B4.out)
    clear C5 o4 b4 O3 B3
    go_wp2_with (first
      | (go_at_call 11; refine C6.mono ?_; rintro e w' ⟨rfl, hw⟩; obtain rfl := hw.symm; clear hw)
      | (go_at_call 9; refine C7.mono ?_; rintro e w5 ⟨rfl, hb5⟩))
    go_ret
    exact ⟨rfl, B4.out.trans (hb5.mono B4.out.size)⟩
end Go.Proofs.YtcheikpmhdliiaaDoor
