/- The walk of DepsMore. -/
import Derived.Test.YtbbcnjagndfmbaaDMore
namespace Go.Proofs.Ytbbcnjagndfmbaa
open Go.RowKit Go.Dp
set_option maxRecDepth 100000
set_option linter.unusedVariables false
set_option linter.unusedSimpArgs false
theorem kept_sub {n : Nat} {L : List (Int × Int)} {x : Int × Int} : ∀ e ∈ kept n L, e ∈ kept n (L ++ [x]) := by
  intro e h
  unfold kept at *
  rw [List.filterMap_append]
  exact List.mem_append.2 (.inl h)
theorem ring_more {n : Nat} {L : List (Int × Int)} {x : Int × Int} {i : Nat} (h : farB n (kept n L) i i = true) : farB n (kept n (L ++ [x])) i i = true :=
  farB_iff.2 ((farB_iff.1 h).mono kept_sub)
set_option maxHeartbeats 8000000 in
theorem more_walk (HC : OrdC) {w : World} {av : Value} {n : Int} (hn0 : 0 ≤ n) {L : List (Int × Int)} (h : Pr w av L) (hl : L.length ≤ 8796093022208) (x : Int × Int) :
    Calls Try.prog 5 #[.int .u64 n, av, pV x] w fun e w' => e = .returned (.bool true) ∧ Below w.heap.size w w' := by
  have HH : Hid OrdC := HC
  have HLv : Hid (∀ u, Calls Try.prog 6 #[] u fun e w' => e = .returned (.bool true) ∧ Below u.heap.size u w') := lives_any HC
  have HB0 : Hid (Below w.heap.size w (w.alloc (pO x))) := bel_alloc (Below.refl _ _) _
  have HBx : Hid ((w.alloc (pO x)).heap[w.heap.size]? = some (pO x)) := heap_alloc_new w _
  have HA : Hid (Pr (w.alloc (pO x)) av L) := Rd.below h HB0.out
  obtain ⟨a0, c0, rfl⟩ := h.slice
  clear h HC
  by_cases h2 : 400 < L.length
  · have h2i : (400 : Int) < L.length := by omega
    go_enter Try.func5, Try.ntmps5
    go_wp2_with (go_at_call 6; refine Calls.mono (HLv.out _) ?_; clear HLv; rintro e w1 ⟨rfl, hb⟩)
    go_ret
    exact ⟨rfl, bel_step HB0.out hb⟩
  have h2i : ¬ (400 : Int) < L.length := by omega
  have HN : Hid (L.length ≤ 400) := by show _ ≤ _; omega
  go_enter Try.func5, Try.ntmps5
  go_wp2_with fail
  obtain ⟨k, hk⟩ : ∃ k : Nat, n % 40 = (k : Int) := ⟨(n % 40).toNat, by omega⟩
  have hk40 : k < 40 := by omega
  rw [hk]
  clear hk
  have C1 := HH.out (w.alloc (pO x)) _ (k : Nat) L HA.out (by have := HN.out; omega) (by omega)
  rw [show ((k : Nat) : Int).toNat = k by simp] at C1
  refine Calls.mono C1 ?_
  clear C1
  rintro e w1 ⟨⟨ov, rv, rfl, ho, hr⟩, hb⟩
  have HB1 : Hid (Below w.heap.size w w1) := bel_step HB0.out hb
  have HA1 : Hid (Pr w1 (.slice a0 L.length c0) L) := Rd.below HA.out hb
  have HBx1 : Hid (w1.heap[w.heap.size]? = some (pO x)) := (hb.block _ (by simp)).trans HBx.out
  have HRf : bV (ringB k (kept k L)) = bl k (fun i => farB k (kept k L) i i) := by unfold bV ringB bl; rw [List.map_map]; rfl
  rw [HRf] at hr
  have HR : Hid (Rd w1 rv k (bl k (fun i => farB k (kept k L) i i))) := own_rd hr
  obtain ⟨oa, oc, rfl⟩ := own_slice ho
  obtain ⟨ra, rc, rfl⟩ := own_slice hr
  rw [order_length] at ho
  clear HRf ho hr hb HA HBx HB0
  generalize (orderB k (kept k L)).length = ol at *
  go_wp2_with fail
  refine wp_region_d (fun u => u.heap[w.heap.size]? = some (pO x)) (fun j => decide (j = 5)) (by kernel_rfl) ?_
  have HB1 : Hid (Below w.heap.size w w1.drew) := HB1.out.drew
  have HA1 : Hid (Pr w1.drew (.slice a0 L.length c0) L) := HA1.out
  have HBx1 : Hid (w1.drew.heap[w.heap.size]? = some (pO x)) := HBx1.out
  have HR : Hid (Rd w1.drew (.slice ra k rc) k (bl k (fun i => farB k (kept k L) i i))) := HR.out
  generalize w1.drew = w1 at *
  refine wpAnyD_pured (i := 0) (v := .int .i64 (k : Int)) rfl rfl (by kernel_rfl) (by kernel_rfl) (by kernel_rfl) (fun _ _ _ h => h) (by go_simp) (by intro u; go_simp) ?_
  try simp only [Act.put, List.setIfInBounds_toArray, List.set_cons_zero, List.set_cons_succ]
  refine wpAnyD_pured (i := 2) (v := .slice a0 L.length c0) rfl rfl (by kernel_rfl) (by kernel_rfl) (by kernel_rfl) (fun _ _ _ h => h) (by go_simp) (by intro u; go_simp) ?_
  try simp only [Act.put, List.setIfInBounds_toArray, List.set_cons_zero, List.set_cons_succ]
  refine wpAnyD_loadd (i := 4) (v := pV x) rfl rfl (by kernel_rfl) (by kernel_rfl) (by kernel_rfl) (by kernel_rfl) (fun _ _ _ h => h) (by go_simp) (fun u hSu => exec_load rfl rfl (pload hSu)) HBx1.out ?_
  try simp only [Act.put, List.setIfInBounds_toArray, List.set_cons_zero, List.set_cons_succ]
  have HLt : Hid (w.heap.size < w1.heap.size) := (Array.getElem?_eq_some_iff.1 HBx1.out).1
  obtain ⟨va, wa, va2, wa2, A1, A2, HPa, HBa1, HBa⟩ := more_a HA1.out (by have := HN.out; omega) x
  obtain ⟨vb, wb, vb2, wb2, B1, B2, HPb, HBb1, HBb⟩ := more_b HA1.out (by have := HN.out; omega) x
  obtain ⟨vc, wc, vc2, wc2, C1, C2, HPc, HBc1, HBc⟩ := more_c HA1.out (by have := HN.out; omega) x
  refine wpAnyD_two (i := 1) (j := 5) (by kernel_rfl) rfl rfl ?g1 ?g2
  case' g1 =>
    intro K' hK'
    rw [if_pos (by rfl)]
    refine op_bslice (xs := #[]) (ps := #[]) rfl (by simp) (pslice_zero w1) ?_
    refine hK' _ _ (.inr fun h => (Below.heap_alloc w1 _ _ HLt.out).trans h) ?_
    clear hK'
    try simp only [Act.put, List.setIfInBounds_toArray, List.set_cons_zero, List.set_cons_succ]
    refine wpAnyD_two (i := 3) (j := 5) (by kernel_rfl) rfl rfl ?g3 ?g4
  case' g3 =>
    intro K' hK'
    rw [if_pos (by rfl)]
    refine op_append rfl rfl rfl A1.out ?_
    refine hK' _ _ (.inr fun _ => (HBa1.out.block _ HLt.out).trans HBx1.out) ?_
    clear hK'
    try simp only [Act.put, List.setIfInBounds_toArray, List.set_cons_zero, List.set_cons_succ]
    refine wpAnyD_one (i := 5) (by kernel_rfl) rfl ?_
    intro K' hK'
    rw [if_pos (by rfl)]
    refine op_bslice rfl (by go_simp) (pslice_one wa x) ?_
    refine hK' _ _ (.inl rfl) ?_
    clear hK'
    try simp only [Act.put, List.setIfInBounds_toArray, List.set_cons_zero, List.set_cons_succ]
    refine wpAnyD_one (i := 6) (by kernel_rfl) rfl ?_
    intro K' hK'
    rw [if_pos (by rfl)]
    refine op_append rfl rfl rfl A2.out ?_
    refine hK' _ _ (.inr fun _ => (HBa.out.block _ HLt.out).trans HBx1.out) ?_
    clear hK'
    try simp only [Act.put, List.setIfInBounds_toArray, List.set_cons_zero, List.set_cons_succ]
    have HP : Hid (Pr wa2 va2 (L ++ [x])) := HPa
    have HB : Hid (Below w1.heap.size w1 wa2) := HBa
  case' g4 =>
    intro K' hK'
    rw [if_pos (by rfl)]
    refine op_bslice rfl (by go_simp) (pslice_one (w1.alloc (.cells #[] 33)) x) ?_
    refine hK' _ _ (.inl rfl) ?_
    clear hK'
    try simp only [Act.put, List.setIfInBounds_toArray, List.set_cons_zero, List.set_cons_succ]
    refine wpAnyD_one (i := 3) (by kernel_rfl) rfl ?_
    intro K' hK'
    rw [if_pos (by rfl)]
    refine op_append rfl rfl rfl B1.out ?_
    refine hK' _ _ (.inr fun _ => (HBb1.out.block _ HLt.out).trans HBx1.out) ?_
    clear hK'
    try simp only [Act.put, List.setIfInBounds_toArray, List.set_cons_zero, List.set_cons_succ]
    refine wpAnyD_one (i := 6) (by kernel_rfl) rfl ?_
    intro K' hK'
    rw [if_pos (by rfl)]
    refine op_append rfl rfl rfl B2.out ?_
    refine hK' _ _ (.inr fun _ => (HBb.out.block _ HLt.out).trans HBx1.out) ?_
    clear hK'
    try simp only [Act.put, List.setIfInBounds_toArray, List.set_cons_zero, List.set_cons_succ]
    have HP : Hid (Pr wb2 vb2 (L ++ [x])) := HPb
    have HB : Hid (Below w1.heap.size w1 wb2) := HBb
  case' g2 =>
    intro K' hK'
    rw [if_pos (by rfl)]
    refine op_bslice rfl (by go_simp) (pslice_one w1 x) ?_
    refine hK' _ _ (.inl rfl) ?_
    clear hK'
    try simp only [Act.put, List.setIfInBounds_toArray, List.set_cons_zero, List.set_cons_succ]
    refine wpAnyD_one (i := 1) (by kernel_rfl) rfl ?_
    intro K' hK'
    rw [if_pos (by rfl)]
    refine op_bslice (xs := #[]) (ps := #[]) rfl (by simp) (pslice_zero (w1.alloc (pO x))) ?_
    refine hK' _ _ (.inr fun h => (Below.heap_alloc (w1.alloc (pO x)) _ _ (by have := HLt.out; simp; omega)).trans h) ?_
    clear hK'
    try simp only [Act.put, List.setIfInBounds_toArray, List.set_cons_zero, List.set_cons_succ]
    refine wpAnyD_one (i := 3) (by kernel_rfl) rfl ?_
    intro K' hK'
    rw [if_pos (by rfl)]
    refine op_append rfl rfl rfl C1.out ?_
    refine hK' _ _ (.inr fun _ => (HBc1.out.block _ HLt.out).trans HBx1.out) ?_
    clear hK'
    try simp only [Act.put, List.setIfInBounds_toArray, List.set_cons_zero, List.set_cons_succ]
    refine wpAnyD_one (i := 6) (by kernel_rfl) rfl ?_
    intro K' hK'
    rw [if_pos (by rfl)]
    refine op_append rfl rfl rfl C2.out ?_
    refine hK' _ _ (.inr fun _ => (HBc.out.block _ HLt.out).trans HBx1.out) ?_
    clear hK'
    try simp only [Act.put, List.setIfInBounds_toArray, List.set_cons_zero, List.set_cons_succ]
    have HP : Hid (Pr wc2 vc2 (L ++ [x])) := HPc
    have HB : Hid (Below w1.heap.size w1 wc2) := HBc
  all_goals
    clear A1 A2 HPa HBa1 HBa B1 B2 HPb HBb1 HBb C1 C2 HPc HBc1 HBc HLt
    refine wpAnyD_one (i := 7) (by kernel_rfl) rfl ?_
    intro K' hK'
    go_simp
    have C7 := HH.out _ _ (k : Nat) (L ++ [x]) HP.out (by have := HN.out; simp; omega) (by omega)
    rw [show ((k : Nat) : Int).toNat = k by simp] at C7
    refine Calls.mono C7 ?_
    clear C7
    rintro e w4 ⟨⟨ov2, rv2, rfl, ho2, hr2⟩, hb⟩
    have HRf2 : bV (ringB k (kept k (L ++ [x]))) = bl k (fun i => farB k (kept k (L ++ [x])) i i) := by unfold bV ringB bl; rw [List.map_map]; rfl
    rw [HRf2] at hr2
    have HR2 : Hid (Rd w4 rv2 k (bl k (fun i => farB k (kept k (L ++ [x])) i i))) := own_rd hr2
    have HB4 : Hid (Below w1.heap.size w1 w4) := bel_step HB.out hb
    obtain ⟨oa2, oc2, rfl⟩ := own_slice ho2
    obtain ⟨ra2, rc2, rfl⟩ := own_slice hr2
    have hol2 := order_length (n := k) (E := kept k (L ++ [x]))
    rw [hol2] at ho2 ⊢
    clear HRf2 ho2 hr2 hol2 HB
    refine hK' _ _ (.inr fun _ => (HB4.out.block _ (Array.getElem?_eq_some_iff.1 HBx1.out).1).trans HBx1.out) ?_
    clear hK' hb HP
    try simp only [Act.put, List.setIfInBounds_toArray, List.set_cons_zero, List.set_cons_succ]
    refine wpAnyD_pured (i := 8) (v := .tuple #[.slice oa2 k oc2, .slice ra2 k rc2]) rfl rfl (by kernel_rfl) (by kernel_rfl) (by kernel_rfl) (fun _ _ _ h => h) (by go_simp) (by intro u; go_simp) ?_
    try simp only [Act.put, List.setIfInBounds_toArray, List.set_cons_zero, List.set_cons_succ]
    refine wpAnyD_pured (i := 9) (v := .slice oa2 k oc2) rfl rfl (by kernel_rfl) (by kernel_rfl) (by kernel_rfl) (fun _ _ _ h => h) (by go_simp) (by intro u; go_simp) ?_
    try simp only [Act.put, List.setIfInBounds_toArray, List.set_cons_zero, List.set_cons_succ]
    refine wpAnyD_pured (i := 10) (v := .slice ra2 k rc2) rfl rfl (by kernel_rfl) (by kernel_rfl) (by kernel_rfl) (fun _ _ _ h => h) (by go_simp) (by intro u; go_simp) ?_
    try simp only [Act.put, List.setIfInBounds_toArray, List.set_cons_zero, List.set_cons_succ]
    refine wpAnyD_pured (i := 11) (v := .slice oa2 k oc2) rfl rfl (by kernel_rfl) (by kernel_rfl) (by kernel_rfl) (fun _ _ _ h => h) (by go_simp) (by intro u; go_simp) ?_
    try simp only [Act.put, List.setIfInBounds_toArray, List.set_cons_zero, List.set_cons_succ]
    refine wpAnyD_pured (i := 12) (v := .slice ra2 k rc2) rfl rfl (by kernel_rfl) (by kernel_rfl) (by kernel_rfl) (fun _ _ _ h => h) (by go_simp) (by intro u; go_simp) ?_
    try simp only [Act.put, List.setIfInBounds_toArray, List.set_cons_zero, List.set_cons_succ]
    refine wpAnyD_done (by kernel_rfl) ?_ _
    have HRm : Hid (∀ i, farB k (kept k L) i i = true → farB k (kept k (L ++ [x])) i i = true) := fun i h => ring_more h
    have HBz : Hid (Below w.heap.size w w4) := bel_step HB1.out HB4.out
    have HRz : Hid (Rd w4 (.slice ra k rc) k (bl k (fun i => farB k (kept k L) i i))) := Rd.below HR.out HB4.out
    clear HB1 HB4 HR HA1 HBx1 HH
    go_wp2
    go_loopw [55] (fun v55 wr => wr = w4 ∧ ∃ i : Nat, v55 = .int .i64 (i : Nat) ∧ i ≤ k) (fun v55 _ => k - (intOf v55).toNat)
    case atStart => exact ⟨rfl, 0, rfl, Nat.zero_le _⟩
    case round =>
      obtain ⟨rfl, i, rfl, hi⟩ := hrel
      by_cases hik : i < k
      · have hii : (i : Int) < k := by omega
        obtain ⟨P1, p1, e1, q1⟩ := HRz.out.bl hik
        obtain ⟨P2, p2, e2, q2⟩ := HR2.out.bl hik
        cases e1; cases e2
        have HRi := HRm.out i
        have hsp : farB k (kept k L) i i = false ∨ (farB k (kept k L) i i = true ∧ farB k (kept k (L ++ [x])) i i = true) := by
          cases h : farB k (kept k L) i i
          · exact .inl rfl
          · exact .inr ⟨rfl, HRi h⟩
        clear HRi
        generalize farB k (kept k L) i i = y1 at *
        generalize farB k (kept k (L ++ [x])) i i = y2 at *
        rcases hsp with rfl | ⟨rfl, rfl⟩
        all_goals
          go_wp2
          go_roundw
          case rel => exact ⟨by first | rfl | trivial, i + 1, by go_num, by omega⟩
          case measure => simp [intOf]; omega
      · have hii : ¬ (i : Int) < k := by omega
        go_wp2_with (go_at_call 6; refine Calls.mono (HLv.out _) ?_; clear HLv; rintro e w9 ⟨rfl, hb⟩)
        go_ret
        exact ⟨rfl, bel_step HBz.out hb⟩
end Go.Proofs.Ytbbcnjagndfmbaa
