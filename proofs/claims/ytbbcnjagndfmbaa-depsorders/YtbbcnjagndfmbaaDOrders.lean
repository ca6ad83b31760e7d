/- The walk of DepsOrders. -/
import Derived.Test.YtbbcnjagndfmbaaDLives
namespace Go.Proofs.Ytbbcnjagndfmbaa
open Go.RowKit Go.Dp
set_option maxRecDepth 100000
set_option linter.unusedVariables false
set_option linter.unusedSimpArgs false
set_option maxHeartbeats 8000000 in
theorem orders_walk (HC : OrdC) {w : World} {av : Value} {n0 : Int} {L : List (Int × Int)} (h : Pr w av L) (hl : L.length ≤ 8796093022208) :
    Calls Try.prog 3 #[.int .i64 n0, av] w fun e w' => e = .returned (.bool true) ∧ Below w.heap.size w w' := by
  have HH : Hid OrdC := HC
  have HLv : Hid (∀ u, Calls Try.prog 6 #[] u fun e w' => e = .returned (.bool true) ∧ Below u.heap.size u w') := lives_any HC
  have HA : Hid (Pr w av L) := h
  obtain ⟨a0, c0, rfl⟩ := h.slice
  clear h HC
  by_cases h1 : 60 < n0
  · go_enter Try.func3, Try.ntmps3
    go_wp2_with (go_at_call 6; refine Calls.mono (HLv.out _) ?_; clear HLv; rintro e w1 ⟨rfl, hb⟩)
    go_ret
    exact ⟨rfl, hb⟩
  by_cases h2 : 400 < L.length
  · have h2i : (400 : Int) < L.length := by omega
    go_enter Try.func3, Try.ntmps3
    go_wp2_with (go_at_call 6; refine Calls.mono (HLv.out _) ?_; clear HLv; rintro e w1 ⟨rfl, hb⟩)
    go_ret
    exact ⟨rfl, hb⟩
  have h2i : ¬ (400 : Int) < L.length := by omega
  have HN : Hid (L.length ≤ 1000) := by show _ ≤ _; omega
  have HN0 : Hid (n0 ≤ 60) := by show _ ≤ _; omega
  have C1 := HH.out w _ n0 L HA.out HN.out HN0.out
  go_enter Try.func3, Try.ntmps3
  go_wp2_with fail
  refine Calls.mono C1 ?_
  clear C1
  rintro e w1 ⟨⟨ov, rv, rfl, ho, hr⟩, hb⟩
  have HB1 : Hid (Below w.heap.size w w1) := hb
  have HO1 : Hid _ := own_rd ho
  have HR1 : Hid _ := own_rd hr
  obtain ⟨oa, oc, rfl⟩ := own_slice ho
  obtain ⟨ra, rc, rfl⟩ := own_slice hr
  clear ho hr hb
  go_wp2_with fail
  have C2 := rorder_any (n0 := n0) (HA.out.below HB1.out) (by have := HN.out; omega) (by have := HN0.out; omega)
  refine Calls.mono C2 ?_
  clear C2
  rintro e w2 ⟨⟨ov2, rv2, rfl, ho, hr⟩, hb⟩
  have HB2 : Hid (Below w1.heap.size w1 w2) := hb
  have HO2 : Hid _ := own_rd ho
  have HR2 : Hid _ := own_rd hr
  obtain ⟨oa2, oc2, rfl⟩ := own_slice ho
  obtain ⟨ra2, rc2, rfl⟩ := own_slice hr
  clear ho hr hb HA
  have HLo : Hid ((orderB n0.toNat (kept n0.toNat L)).length ≤ 4096) := by rw [order_length]; have := HN0.out; show _ ≤ _; omega
  have HLr : Hid ((ringB n0.toNat (kept n0.toNat L)).length = n0.toNat) := by show _ = _; simp [ringB]
  have HLb : Hid ((ringB n0.toNat (kept n0.toNat L)).length ≤ 4096) := by have := HN0.out; show _ ≤ _; simp [ringB]; omega
  generalize orderB n0.toNat (kept n0.toNat L) = O at *
  generalize ringB n0.toNat (kept n0.toNat L) = R at *
  generalize n0.toNat = n at *
  have HLr2 := HLr.out
  subst HLr2
  go_wp2_with fail
  have C3 := ints_same (L := O) (Rd.below HO1.out HB2.out) HO2.out (by have := HLo.out; omega)
  refine Calls.mono C3 ?_
  clear C3
  rintro e w3 ⟨rfl, hb⟩
  have HB3 : Hid (Below w2.heap.size w2 w3) := hb
  clear hb
  go_wp2_with fail
  have C4 := bools_same (L := R) (Rd.below (Rd.below HR1.out HB2.out) HB3.out) (Rd.below HR2.out HB3.out) (by have := HLb.out; omega)
  refine Calls.mono C4 ?_
  clear C4
  rintro e w4 ⟨rfl, hb⟩
  have HB4 : Hid (Below w.heap.size w w4) := bel_step (bel_step (bel_step HB1.out HB2.out) HB3.out) hb
  clear hb HB1 HB2 HB3
  go_wp2_with (go_at_call 6; refine Calls.mono (HLv.out _) ?_; clear HLv; rintro e w5 ⟨rfl, hb⟩)
  go_ret
  exact ⟨rfl, bel_step HB4.out hb⟩
end Go.Proofs.Ytbbcnjagndfmbaa
