/- The walk of BytesUnframes. -/
import Derived.Test.YtkejnmallhoajaaDoorRefUnframe
import Derived.Test.YtkejnmallhoajaaDoorTellsWalk
namespace Go.Proofs.YtkejnmallhoajaaDoor
open Go.RowKit
set_option maxRecDepth 100000

set_option maxHeartbeats 2000000 in
theorem unframes_walk {w : World} {x : Value} {l : List UInt8} (h : Bts w x l) (T : Tab w) (hl : l.length ≤ 140737488355328) :
    Calls Tryd.prog 4 #[x] w fun e w' => e = .returned (.bool true) ∧ Below w.heap.size w w' := by
  by_cases hbig : 150000 < l.length
  · have L := lives_any w T
    obtain ⟨a, c, rfl, _, _⟩ := h.slice
    clear h T
    go_enter Tryd.func4, Tryd.ntmps4
    go_wp2_with (go_at_call 7; refine L.mono ?_; rintro e w' ⟨rfl, hb⟩)
    go_ret
    exact ⟨rfl, hb⟩
  · have C1 := unframe_any h T
    have C2 : Hid (∀ w1, Below w.heap.size w w1 → _) := fun w1 (hb : Below w.heap.size w w1) => refUn_any (h.below hb)
    have HT : Hid (Tab w) := T
    obtain ⟨a, c, rfl, _, _⟩ := h.slice
    clear h T
    generalize (unframeB l).2.1 = n1 at C1 C2
    generalize (unframeB l).2.2 = e1 at C1 C2
    generalize (unframeB l).1 = D at C1 C2
    go_enter Tryd.func4, Tryd.ntmps4
    go_wp2_with fail
    refine C1.mono ?_
    rintro e w1 ⟨v1, rfl, o1, b1⟩
    have O1 : Hid (Own w.heap.size w1 v1 D) := o1
    have B1 : Hid (Below w.heap.size w w1) := b1
    have C3 := C2.out w1 b1
    clear C1 C2 o1 b1
    go_wp2_with fail
    refine C3.mono ?_
    rintro e w2 ⟨v2, rfl, o2, b2⟩
    have O2 : Hid (Own w.heap.size w2 v1 D) := O1.out.kept b2.block
    have B2 : Hid (Below w.heap.size w w2) := B1.out.trans (b2.mono B1.out.size)
    have C4 := same_yes (O1.out.bts.below b2) o2.bts
    obtain ⟨a1, c1, rfl, hc1, hc2⟩ := O1.out.bts.slice
    have hN : D.length ≤ 9223372036854775807 := Nat.le_trans hc1 hc2
    clear C3 o2 b2 O1 B1 hc1 hc2
    go_wp2_with (go_at_call 11; refine C4.mono ?_; rintro e w' ⟨rfl, hw⟩; obtain rfl := hw.symm; clear hw)
    go_loopw [42] (fun u42 wr => ∃ k : Nat, u42 = .int .i64 k ∧ k ≤ D.length ∧ Hid (∃ D', D'.length = D.length ∧ Own w.heap.size wr (.slice a1 D.length c1) D' ∧ Below w.heap.size w wr)) (fun u42 _ => D.length - (intOf u42).toNat)
    case atStart => exact ⟨0, rfl, by omega, D, rfl, O2.out, B2.out⟩
    case round =>
      obtain ⟨k, rfl, hk, HD⟩ := hrel
      clear C4 O2 B2
      by_cases hlt : k < D.length
      · obtain ⟨D', hD', oD, bD⟩ := HD.out
        obtain ⟨g, cap, e', hg, hc, hf, ho⟩ := own_store oD (p := k) (by omega) 7
        simp only [Value.slice.injEq] at e'
        obtain ⟨rfl, -, -⟩ := e'
        have HE : Hid (∃ D'', D''.length = D.length ∧ Own w.heap.size (wr.setCell ⟨g, k, none⟩ (.int .u8 7)) (.slice (some ⟨g, 0, none⟩) D.length c1) D'' ∧ Below w.heap.size w (wr.setCell ⟨g, k, none⟩ (.int .u8 7))) :=
          ⟨D'.set k 7, by rw [List.length_set]; exact hD', ho, bD.setCell hg _⟩
        generalize D'[k].toNat = z at hc
        clear HD oD bD ho hD'
        go_wp2
        go_roundw
        case rel => exact ⟨k + 1, by go_num, by omega, HE⟩
        case measure => simp [intOf]; omega
      · obtain ⟨D', hD', oD, bD⟩ := HD.out
        have L := lives_any wr (HT.out.below (Nat.le_refl _) bD)
        have BD : Hid (Below w.heap.size w wr) := bD
        clear HD oD bD hD'
        go_wp2_with (go_at_call 7; refine L.mono ?_; rintro e w' ⟨rfl, hb⟩)
        go_ret
        exact ⟨rfl, BD.out.trans (hb.mono BD.out.size)⟩
end Go.Proofs.YtkejnmallhoajaaDoor
