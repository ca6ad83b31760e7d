/- The program's Order: what is read, the groups, the queue, who lies on a ring. -/
import Derived.Test.YtbbcnjagndfmbaaXQueue
import Derived.Test.YtbbcnjagndfmbaaXGrp
import Derived.Test.YtbbcnjagndfmbaaDLives
namespace Go.Proofs.Ytbbcnjagndfmbaa
open Go.RowKit Go.Dp
set_option maxRecDepth 100000
set_option linter.unusedVariables false
set_option linter.unusedSimpArgs false
set_option maxHeartbeats 4000000 in
theorem order_ok : OrdC := by
  intro w av n0 L h hl hn
  have hm : min (max n0 0) 4096 = ((n0.toNat : Nat) : Int) := by omega
  have hn2 : n0.toNat ≤ 60 := by omega
  have HC1 : Hid _ := readings_any (n := n0.toNat) h (by omega) (by omega)
  have HE : Hid (∀ e ∈ kept n0.toNat L, e.1 < n0.toNat ∧ e.2 < n0.toNat) := kept_lt
  have HEl : Hid ((kept n0.toNat L).length ≤ 1000) := Nat.le_trans (kept_len ..) hl
  obtain ⟨a, c, rfl⟩ := h.slice
  have HM : Hid _ := hm
  clear h hm hn
  revert HM HC1 HE HEl hn2
  generalize n0.toNat = m
  intro hn2 HE HEl HC1 HM
  go_enter Try.func7, Try.ntmps7
  go_wp2_with fail
  rw [HM.out]
  refine Calls.mono HC1.out ?_
  clear HC1
  rintro e w1 ⟨A, rfl, hR, hB⟩
  have HR1 : Hid (RdR w1 (.slice (some A) m m) m (reads (kept m L))) := hR
  have HB1 : Hid _ := hB
  have HC2 : Hid _ := groups_any hR HE.out (by omega) (by have := HEl.out; omega)
  clear hR hB
  go_wp2_with fail
  refine Calls.mono HC2.out ?_
  clear HC2
  rintro e w2 ⟨⟨G, gr, rfl, hG, hGR⟩, hB⟩
  have HR2 : Hid (RdR w2 (.slice (some A) m m) m (reads (kept m L))) := RdR.below HR1.out hB
  have HB2 : Hid _ := bel_step HB1.out hB
  have HG2 : Hid (GrC w2 G m gr) := hG
  have HGR : Hid (GR m (kept m L) gr) := hGR
  have HC3 : Hid _ := queue_any (gc := m) HR2.out hG hGR (by omega) (by have := HEl.out; omega)
  clear HR1 HB1 hB hG hGR
  go_wp2_with fail
  refine Calls.mono HC3.out ?_
  clear HC3
  rintro e w3 ⟨⟨ov, rfl, hO⟩, hB⟩
  have HO : Hid (w3.ownsRow w.heap.size 3 1 ov m (nV (orderB m (kept m L)))) := World.ownsRow.mono hO HB2.out.size
  have HC4 : Hid _ := onring_any (gc := m) HGR.out (RdR.below HR2.out hB) (GrC.below HG2.out hB) (by omega) (by have := HEl.out; omega)
  have HB3 : Hid _ := bel_step HB2.out hB
  obtain ⟨oa, oc, rfl⟩ := own_slice hO
  clear HB2 hB HR2 HG2 HGR hO
  go_wp2_with fail
  refine Calls.mono HC4.out ?_
  clear HC4
  rintro e w4 ⟨⟨rv, rfl, hr⟩, hB⟩
  have HO4 : Hid (w4.ownsRow w.heap.size 3 1 (.slice oa m oc) m (nV (orderB m (kept m L)))) := own_below HO.out hB
  have HR4 : Hid (w4.ownsRow w.heap.size 4 1 rv m (bV (ringB m (kept m L)))) := World.ownsRow.mono hr HB3.out.size
  have HB4 : Hid (Below w.heap.size w w4) := bel_step HB3.out hB
  obtain ⟨ra, rc, rfl⟩ := own_slice hr
  clear hB hr HB3 HO
  go_wp2
  go_ret2
  refine ⟨⟨.slice oa m oc, .slice ra m rc, rfl, ?_, HR4.out⟩, HB4.out⟩
  rw [order_length]
  exact HO4.out
end Go.Proofs.Ytbbcnjagndfmbaa
