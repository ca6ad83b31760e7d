/- The walk of BytesReads, where the bytes are a book. -/
import Derived.Test.YtohndhmhgdelmaaDoorBkSt
import Derived.Test.YtohndhmhgdelmaaDoorBkDraw
namespace Go.Proofs.YtohndhmhgdelmaaDoor
open Go.RowKit
set_option maxRecDepth 100000
set_option linter.unusedVariables false
set_option linter.unusedSimpArgs false

theorem exec_load26 {ev : Operand → Value} {o : Oper} {x : Operand} (ho : o.op = .load 26 x) {g : Nat} {cs : Array Value} (hx : ev x = .pointer (some ⟨g, 0, none⟩)) {u : World} (h : u.heap[g]? = some (.cells cs 26 (0, 0))) (hc : cs.size = 3) : (execOp ev o).run Tryd.prog u = .ok (.value (.agg cs)) u := by
  unfold execOp
  simp only [ho, hx, Sem.run_bind, Sem.run_pure, load26 h hc, Result.andThen_ok]

set_option maxHeartbeats 8000000 in
theorem reads_0 {w : World} {a : Option Addr} {c : Nat} {l : List UInt8} (h : Bts w (.slice a l.length c) l) (hlen : l.length ≤ 20000) (T : Tab w) {X : BookT} (hkc : KC l X 0) {L : List OpT} (hoa : OC l L 0 ∨ OC l L 12) {ns : List Int} (hia : IC l ns 0 ∨ IC l ns 12) :
    Calls Tryd.prog 4 #[.slice a l.length c] w fun e w' => e = .returned (.bool true) ∧ Below w.heap.size w w' := by
  have HBT : Hid (Bts w (.slice a l.length c) l) := h
  have HT : Hid (Tab w) := T
  have HOA : Hid (OC l L 0 ∨ OC l L 12) := hoa
  have HIA : Hid (IC l ns 0 ∨ IC l ns 12) := hia
  clear h T hoa hia
  go_enter Tryd.func4, Tryd.ntmps4
  have HKC : Hid (KC l X 0) := hkc
  clear hkc
  go_wp2_with fail
  refine (st_bk1 HBT.out hlen HKC.out (Below.refl _ _)).mono ?_
  rintro e w1 ⟨sa, sn, sc, na, nn, nc, la, ln, lc, W1, rfl, R1, HA1⟩
  go_wp2_with (refine wpList_store_run rfl 26 _ _ rfl _ _ _ rfl rfl R1.out ?_)
  refine (st_bk2 HBT.out hlen HKC.out HA1.out).mono ?_
  rintro e w2 ⟨ta, tn, tc, ma, mn, mc, ka, kn, kc, W2, rfl, R2, HA2⟩
  clear R1 HA1
  go_wp2_with (refine wpList_store_run rfl 26 _ _ rfl _ _ _ rfl rfl R2.out ?_)
  clear R2
  have HKS : Hid (W2.heap[w1.heap.size]? = some (.cells #[.slice sa sn sc, .slice na nn nc, .slice la ln lc] 26 (0, 0)) ∧ W2.heap[w2.heap.size]? = some (.cells #[.slice ta tn tc, .slice ma mn mc, .slice ka kn kc] 26 (0, 0))) := ⟨HA2.out.1.blk, HA2.out.2.blk⟩
  have HR1 := st_ref hlen HKC.out HA2.out.1.drew
  refine wp_region_d (fun u => u.heap[w1.heap.size]? = some (.cells #[.slice sa sn sc, .slice na nn nc, .slice la ln lc] 26 (0, 0)) ∧ u.heap[w2.heap.size]? = some (.cells #[.slice ta tn tc, .slice ma mn mc, .slice ka kn kc] 26 (0, 0))) (fun _ => false) (by kernel_rfl) ?_
  refine wpAnyD_pure (i := 0) (v := .int .i64 0) rfl (by kernel_rfl) (by kernel_rfl) (by kernel_rfl) (fun _ _ _ h => h) (by rfl) (by intro u; go_simp) ?_
  try simp only [Act.put, List.setIfInBounds_toArray, List.set_cons_zero, List.set_cons_succ]
  refine wpAnyD_pure (i := 1) (v := .int .i64 0) rfl (by kernel_rfl) (by kernel_rfl) (by kernel_rfl) (fun _ _ _ h => h) (by rfl) (by intro u; go_simp) ?_
  try simp only [Act.put, List.setIfInBounds_toArray, List.set_cons_zero, List.set_cons_succ]
  refine wpAnyD_pure (i := 2) (v := .bool false) rfl (by kernel_rfl) (by kernel_rfl) (by kernel_rfl) (fun _ _ _ h => h) (by rfl) (by intro u; go_simp) ?_
  try simp only [Act.put, List.setIfInBounds_toArray, List.set_cons_zero, List.set_cons_succ]
  refine wpAnyD_pure (i := 3) (v := .bool false) rfl (by kernel_rfl) (by kernel_rfl) (by kernel_rfl) (fun _ _ _ h => h) (by rfl) (by intro u; go_simp) ?_
  try simp only [Act.put, List.setIfInBounds_toArray, List.set_cons_zero, List.set_cons_succ]
  refine wpAnyD_load (i := 4) (v := .agg #[.slice sa sn sc, .slice na nn nc, .slice la ln lc]) rfl (by kernel_rfl) (by kernel_rfl) (by kernel_rfl) (by kernel_rfl) (fun _ _ _ h => h) (by rfl) (fun u hSu => exec_load26 rfl rfl hSu.1 rfl) (HKS.out) ?_
  try simp only [Act.put, List.setIfInBounds_toArray, List.set_cons_zero, List.set_cons_succ]
  refine wpAnyD_load (i := 6) (v := .agg #[.slice ta tn tc, .slice ma mn mc, .slice ka kn kc]) rfl (by kernel_rfl) (by kernel_rfl) (by kernel_rfl) (by kernel_rfl) (fun _ _ _ h => h) (by rfl) (fun u hSu => exec_load26 rfl rfl hSu.2 rfl) (HKS.out) ?_
  try simp only [Act.put, List.setIfInBounds_toArray, List.set_cons_zero, List.set_cons_succ]
  refine wpAnyD_one (i := 5) (by kernel_rfl) rfl ?_
  intro K hK
  go_simp
  refine (HR1).mono ?_
  rintro e w3 ⟨v3, rfl, t3, b3⟩
  have HA3 : Hid (StA w X w1.heap.size (.slice sa sn sc) (.slice na nn nc) (.slice la ln lc) w3 ∧ StA w X w2.heap.size (.slice ta tn tc) (.slice ma mn mc) (.slice ka kn kc) w3 ∧ Bts w3 v3 (bookB X)) := ⟨HA2.out.1.drew.grow b3, HA2.out.2.drew.grow b3, t3⟩
  have HKS3 : Hid _ := And.intro HA3.out.1.blk HA3.out.2.1.blk
  have HR2 := st_ref hlen HKC.out HA3.out.2.1
  clear t3 b3
  refine hK _ _ (.inr fun _ => HKS3.out) ?_
  clear hK
  try simp only [Act.put, List.setIfInBounds_toArray, List.set_cons_zero, List.set_cons_succ]
  refine wpAnyD_one (i := 7) (by kernel_rfl) rfl ?_
  intro K hK
  go_simp
  refine (HR2).mono ?_
  rintro e w4 ⟨v4, rfl, t4, b4⟩
  have HA4 : Hid (Bts w4 v3 (bookB X) ∧ Bts w4 v4 (bookB X) ∧ StA w X w1.heap.size (.slice sa sn sc) (.slice na nn nc) (.slice la ln lc) w4 ∧ StA w X w2.heap.size (.slice ta tn tc) (.slice ma mn mc) (.slice ka kn kc) w4) := ⟨HA3.out.2.2.below b4, t4, HA3.out.1.grow b4, HA3.out.2.1.grow b4⟩
  have HKS4 : Hid _ := And.intro HA4.out.2.2.1.blk HA4.out.2.2.2.blk
  have HR3 := same_yes HA4.out.1 HA4.out.2.1
  clear t4 b4 HR2
  refine hK _ _ (.inr fun _ => HKS4.out) ?_
  clear hK
  try simp only [Act.put, List.setIfInBounds_toArray, List.set_cons_zero, List.set_cons_succ]
  refine wpAnyD_one (i := 8) (by kernel_rfl) rfl ?_
  intro K hK
  go_simp
  refine (HR3).mono ?_
  rintro e w' ⟨rfl, hw⟩
  obtain rfl := hw.symm
  clear hw HR3
  refine hK _ _ (.inr fun _ => HKS4.out) ?_
  clear hK
  try simp only [Act.put, List.setIfInBounds_toArray, List.set_cons_zero, List.set_cons_succ]
  refine wpAnyD_pure (i := 9) (v := .bool false) rfl (by kernel_rfl) (by kernel_rfl) (by kernel_rfl) (fun _ _ _ h => h) (by rfl) (by intro u; go_simp) ?_
  try simp only [Act.put, List.setIfInBounds_toArray, List.set_cons_zero, List.set_cons_succ]
  refine wpAnyD_pure (i := 10) (v := .bool false) rfl (by kernel_rfl) (by kernel_rfl) (by kernel_rfl) (fun _ _ _ h => h) (by rfl) (by intro u; go_simp) ?_
  try simp only [Act.put, List.setIfInBounds_toArray, List.set_cons_zero, List.set_cons_succ]
  refine wpAnyD_pure (i := 11) (v := .bool false) rfl (by kernel_rfl) (by kernel_rfl) (by kernel_rfl) (fun _ _ _ h => h) (by rfl) (by intro u; go_simp) ?_
  try simp only [Act.put, List.setIfInBounds_toArray, List.set_cons_zero, List.set_cons_succ]
  refine wpAnyD_pure (i := 12) (v := .int .i64 0) rfl (by kernel_rfl) (by kernel_rfl) (by kernel_rfl) (fun _ _ _ h => h) (by rfl) (by intro u; go_simp) ?_
  try simp only [Act.put, List.setIfInBounds_toArray, List.set_cons_zero, List.set_cons_succ]
  refine wpAnyD_pure (i := 13) (v := .bool true) rfl (by kernel_rfl) (by kernel_rfl) (by kernel_rfl) (fun _ _ _ h => h) (by rfl) (by intro u; go_simp) ?_
  try simp only [Act.put, List.setIfInBounds_toArray, List.set_cons_zero, List.set_cons_succ]
  refine wpAnyD_pure (i := 14) (v := .bool true) rfl (by kernel_rfl) (by kernel_rfl) (by kernel_rfl) (fun _ _ _ h => h) (by rfl) (by intro u; go_simp) ?_
  try simp only [Act.put, List.setIfInBounds_toArray, List.set_cons_zero, List.set_cons_succ]
  refine wpAnyD_load (i := 15) (v := .agg #[.slice sa sn sc, .slice na nn nc, .slice la ln lc]) rfl (by kernel_rfl) (by kernel_rfl) (by kernel_rfl) (by kernel_rfl) (fun _ _ _ h => h) (by rfl) (fun u hSu => exec_load26 rfl rfl hSu.1 rfl) (HKS4.out) ?_
  try simp only [Act.put, List.setIfInBounds_toArray, List.set_cons_zero, List.set_cons_succ]
  refine wpAnyD_pure (i := 17) (v := .slice a l.length c) rfl (by kernel_rfl) (by kernel_rfl) (by kernel_rfl) (fun _ _ _ h => h) (by rfl) (by intro u; go_simp) ?_
  try simp only [Act.put, List.setIfInBounds_toArray, List.set_cons_zero, List.set_cons_succ]
  have HR4 := st_own hlen HKC.out HA4.out.2.2.1
  refine wpAnyD_one (i := 16) (by kernel_rfl) rfl ?_
  intro K hK
  go_simp
  refine (HR4).mono ?_
  rintro e w5 ⟨v5, rfl, t5, b5⟩
  have EQ : Hid (bookB X = l) := by
    rcases HKC.out with ⟨_, h⟩ | ⟨h, _⟩
    · exact (readK_inv h).1.symm
    · cases h
  rw [EQ.out] at t5
  have HA5 : Hid (Bts w5 v5 l ∧ Below w.heap.size w w5) := ⟨t5, (HA4.out.2.2.1.grow b5).bel⟩
  have HKS5 : Hid _ := And.intro (HA4.out.2.2.1.grow b5).blk (HA4.out.2.2.2.grow b5).blk
  have HR5 := same_yes HA5.out.1 (HBT.out.low HA5.out.2)
  clear t5 b5 EQ HR4
  refine hK _ _ (.inr fun _ => HKS5.out) ?_
  clear hK
  try simp only [Act.put, List.setIfInBounds_toArray, List.set_cons_zero, List.set_cons_succ]
  refine wpAnyD_one (i := 18) (by kernel_rfl) rfl ?_
  intro K hK
  go_simp
  refine (HR5).mono ?_
  rintro e w' ⟨rfl, hw⟩
  obtain rfl := hw.symm
  clear hw HR5
  refine hK _ _ (.inr fun _ => HKS5.out) ?_
  clear hK
  try simp only [Act.put, List.setIfInBounds_toArray, List.set_cons_zero, List.set_cons_succ]
  refine wpAnyD_pure (i := 19) (v := .bool false) rfl (by kernel_rfl) (by kernel_rfl) (by kernel_rfl) (fun _ _ _ h => h) (by rfl) (by intro u; go_simp) ?_
  try simp only [Act.put, List.setIfInBounds_toArray, List.set_cons_zero, List.set_cons_succ]
  refine wpAnyD_pure (i := 20) (v := .bool false) rfl (by kernel_rfl) (by kernel_rfl) (by kernel_rfl) (fun _ _ _ h => h) (by rfl) (by intro u; go_simp) ?_
  try simp only [Act.put, List.setIfInBounds_toArray, List.set_cons_zero, List.set_cons_succ]
  refine wpAnyD_pure (i := 21) (v := .bool false) rfl (by kernel_rfl) (by kernel_rfl) (by kernel_rfl) (fun _ _ _ h => h) (by rfl) (by intro u; go_simp) ?_
  try simp only [Act.put, List.setIfInBounds_toArray, List.set_cons_zero, List.set_cons_succ]
  refine wpAnyD_done (by kernel_rfl) ?_ _

  have BD : Hid (Below w.heap.size w w5) := HA5.out.2
  clear HA5 HKS5 HKS4 HA4 HKS3 HA3 HKS HA2 HR1
  rcases HOA.out with hoc | hoc
  · have HOC : Hid (OC l L 0) := hoc
    clear hoc
    go_wp2_with fail
    refine (st_o1 HBT.out hlen HOC.out BD.out).mono ?_
    rintro e w5 ⟨q0, q1, q2, rfl, HO1⟩
    clear BD
    go_wp2_with fail
    refine (st_o2 HBT.out hlen HOC.out HO1.out).mono ?_
    rintro e w6 ⟨r0, r1, r2, rfl, HO2⟩
    clear HO1
    have C1 := st_oref hlen HOC.out HO2.out.1
    go_wp2_with fail
    refine C1.mono ?_
    rintro e w7 ⟨v7, rfl, t7, b7⟩
    have HO3 : Hid (StO w L (.slice q0 q1 q2) w7 ∧ StO w L (.slice r0 r1 r2) w7 ∧ Bts w7 v7 (opsB L)) := ⟨HO2.out.1.grow b7, HO2.out.2.grow b7, t7⟩
    have C2 := st_oref hlen HOC.out HO3.out.2.1
    clear C1 HO2 t7 b7
    go_wp2_with fail
    refine C2.mono ?_
    rintro e w8 ⟨v8, rfl, t8, b8⟩
    have HO4 : Hid (StO w L (.slice q0 q1 q2) w8) := HO3.out.1.grow b8
    have C3 := same_yes (HO3.out.2.2.below b8) t8
    clear C2 HO3 t8 b8
    have C4 := st_oown hlen HOC.out HO4.out
    have EQ : Hid (opsB L = l) := by
      rcases HOC.out with ⟨_, h⟩ | ⟨h, _⟩
      · exact (readO_inv h).1.symm
      · cases h
    go_wp2_with (go_at_call 8; refine C3.mono ?_; rintro e w' ⟨rfl, hw⟩; obtain rfl := hw.symm; clear hw)
    refine C4.mono ?_
    rintro e w9 ⟨v9, rfl, t9, b9⟩
    rw [EQ.out] at t9
    have HO5 : Hid (Below w.heap.size w w9) := (HO4.out.grow b9).2
    have C5 := same_yes t9 (HBT.out.low HO5.out)
    clear C3 C4 HO4 t9 b9 EQ
    go_wp2_with (go_at_call 8; refine C5.mono ?_; rintro e w' ⟨rfl, hw⟩; obtain rfl := hw.symm; clear hw)
    have BE : Hid (Below w.heap.size w w9) := HO5
    clear C5 HO5
    rcases HIA.out with hic | hic
    · have HIC : Hid (IC l ns 0) := hic
      clear hic
      go_wp2_with fail
      refine (st_i1 HBT.out hlen HIC.out BE.out).mono ?_
      rintro e w10 ⟨k0, k1, k2, rfl, HI1⟩
      clear BE
      go_wp2_with fail
      refine (st_i2 HBT.out hlen HIC.out HI1.out).mono ?_
      rintro e w11 ⟨p0, p1, p2, rfl, HI2⟩
      clear HI1
      have C3 := st_i3 HI2.out
      clear HI2
      go_wp2_with (go_at_call 18; refine C3.mono ?_; rintro e w12 ⟨rfl, HI3⟩)
      have C4 := lives_any w12 (HT.out.below (Nat.le_refl _) HI3.out)
      go_wp2_with (go_at_call 6; refine C4.mono ?_; rintro e w13 ⟨rfl, hb13⟩)
      go_ret
      exact ⟨rfl, HI3.out.trans (hb13.mono HI3.out.size)⟩

    · have HIC : Hid (IC l ns 12) := hic
      clear hic
      go_wp2_with fail
      refine (st_i1 HBT.out hlen HIC.out BE.out).mono ?_
      rintro e w10 ⟨k0, k1, k2, rfl, HI1⟩
      clear BE
      go_wp2_with fail
      refine (st_i2 HBT.out hlen HIC.out HI1.out).mono ?_
      rintro e w11 ⟨p0, p1, p2, rfl, HI2⟩
      clear HI1
      have C3 := st_i3 HI2.out
      clear HI2
      go_wp2_with (go_at_call 18; refine C3.mono ?_; rintro e w12 ⟨rfl, HI3⟩)
      have C4 := lives_any w12 (HT.out.below (Nat.le_refl _) HI3.out)
      go_wp2_with (go_at_call 6; refine C4.mono ?_; rintro e w13 ⟨rfl, hb13⟩)
      go_ret
      exact ⟨rfl, HI3.out.trans (hb13.mono HI3.out.size)⟩


  · have HOC : Hid (OC l L 12) := hoc
    clear hoc
    go_wp2_with fail
    refine (st_o1 HBT.out hlen HOC.out BD.out).mono ?_
    rintro e w5 ⟨q0, q1, q2, rfl, HO1⟩
    clear BD
    go_wp2_with fail
    refine (st_o2 HBT.out hlen HOC.out HO1.out).mono ?_
    rintro e w6 ⟨r0, r1, r2, rfl, HO2⟩
    clear HO1
    have C1 := st_oref hlen HOC.out HO2.out.1
    go_wp2_with fail
    refine C1.mono ?_
    rintro e w7 ⟨v7, rfl, t7, b7⟩
    have HO3 : Hid (StO w L (.slice q0 q1 q2) w7 ∧ StO w L (.slice r0 r1 r2) w7 ∧ Bts w7 v7 (opsB L)) := ⟨HO2.out.1.grow b7, HO2.out.2.grow b7, t7⟩
    have C2 := st_oref hlen HOC.out HO3.out.2.1
    clear C1 HO2 t7 b7
    go_wp2_with fail
    refine C2.mono ?_
    rintro e w8 ⟨v8, rfl, t8, b8⟩
    have HO4 : Hid (StO w L (.slice q0 q1 q2) w8) := HO3.out.1.grow b8
    have C3 := same_yes (HO3.out.2.2.below b8) t8
    clear C2 HO3 t8 b8
    have BE : Hid (Below w.heap.size w w8) := HO4.out.2
    go_wp2_with (go_at_call 8; refine C3.mono ?_; rintro e w' ⟨rfl, hw⟩; obtain rfl := hw.symm; clear hw)
    clear C3 HO4
    rcases HIA.out with hic | hic
    · have HIC : Hid (IC l ns 0) := hic
      clear hic
      go_wp2_with fail
      refine (st_i1 HBT.out hlen HIC.out BE.out).mono ?_
      rintro e w10 ⟨k0, k1, k2, rfl, HI1⟩
      clear BE
      go_wp2_with fail
      refine (st_i2 HBT.out hlen HIC.out HI1.out).mono ?_
      rintro e w11 ⟨p0, p1, p2, rfl, HI2⟩
      clear HI1
      have C3 := st_i3 HI2.out
      clear HI2
      go_wp2_with (go_at_call 18; refine C3.mono ?_; rintro e w12 ⟨rfl, HI3⟩)
      have C4 := lives_any w12 (HT.out.below (Nat.le_refl _) HI3.out)
      go_wp2_with (go_at_call 6; refine C4.mono ?_; rintro e w13 ⟨rfl, hb13⟩)
      go_ret
      exact ⟨rfl, HI3.out.trans (hb13.mono HI3.out.size)⟩

    · have HIC : Hid (IC l ns 12) := hic
      clear hic
      go_wp2_with fail
      refine (st_i1 HBT.out hlen HIC.out BE.out).mono ?_
      rintro e w10 ⟨k0, k1, k2, rfl, HI1⟩
      clear BE
      go_wp2_with fail
      refine (st_i2 HBT.out hlen HIC.out HI1.out).mono ?_
      rintro e w11 ⟨p0, p1, p2, rfl, HI2⟩
      clear HI1
      have C3 := st_i3 HI2.out
      clear HI2
      go_wp2_with (go_at_call 18; refine C3.mono ?_; rintro e w12 ⟨rfl, HI3⟩)
      have C4 := lives_any w12 (HT.out.below (Nat.le_refl _) HI3.out)
      go_wp2_with (go_at_call 6; refine C4.mono ?_; rintro e w13 ⟨rfl, hb13⟩)
      go_ret
      exact ⟨rfl, HI3.out.trans (hb13.mono HI3.out.size)⟩



end Go.Proofs.YtohndhmhgdelmaaDoor
