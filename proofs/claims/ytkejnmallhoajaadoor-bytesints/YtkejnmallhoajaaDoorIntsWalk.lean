/- The walk of BytesInts. -/
import Derived.Test.YtkejnmallhoajaaDoorRefInts
import Derived.Test.YtkejnmallhoajaaDoorBack
namespace Go.Proofs.YtkejnmallhoajaaDoor
open Go.RowKit
set_option maxRecDepth 100000

set_option maxHeartbeats 1000000 in
theorem ints_walk {w : World} {x : Value} {ns : List Int} (h : Its w x ns) (hI : ∀ n ∈ ns, In64 n) (T : Tab w) (hl : ns.length ≤ 140737488355328) :
    Calls Tryd.prog 5 #[x] w fun e w' => e = .returned (.bool true) ∧ Below w.heap.size w w' := by
  obtain ⟨a, c, rfl⟩ : ∃ a c, x = .slice a ns.length c := by
    rcases h with ⟨rfl, rfl⟩ | ⟨a, cap, rfl, _⟩
    · exact ⟨none, 0, rfl⟩
    · exact ⟨_, _, rfl⟩
  by_cases hbig : 10000 < ns.length
  · have L := lives_any w T
    clear h hI T
    go_enter Tryd.func5, Tryd.ntmps5
    go_wp2_with (go_at_call 7; refine L.mono ?_; rintro e w' ⟨rfl, hb⟩)
    go_ret
    exact ⟨rfl, hb⟩
  · have H : Hid (Its w (.slice a ns.length c) ns) := h
    have HI : Hid (∀ n ∈ ns, In64 n) := hI
    have HT : Hid (Tab w) := T
    have C1 := ints_any h hI (by omega)
    clear h hI T
    go_enter Tryd.func5, Tryd.ntmps5
    go_wp2_with fail
    refine C1.mono ?_
    rintro e w1 ⟨v1, rfl, o1, b1⟩
    have hlen : (listB ns).length ≤ 1099511627776 := by
      have h1 := flat_length ns HI.out
      have h2 := numB_length (n := ns.length) (by constructor <;> omega)
      simp only [listB, List.length_append]
      omega
    have C2 := readInts_some o1.bts hlen (read_list ns HI.out (by omega))
    have O1 : Hid (Bts w1 v1 (listB ns)) := o1.bts
    have B1 : Hid (Below w.heap.size w w1) := b1
    clear C1 o1 b1 hlen
    go_wp2_with fail
    refine C2.mono ?_
    rintro e w2 ⟨x2, rfl, i2, -, b2⟩
    have B2 : Hid (Below w.heap.size w w2) := B1.out.trans (b2.mono B1.out.size)
    have O2 : Hid (Bts w2 v1 (listB ns)) := O1.out.below b2
    have I2 : Hid (Its w2 x2 ns) := i2
    have C3 := refInts_any (H.out.kept B2.out.block) HI.out (by omega)
    clear C2 i2 b2 B1 O1
    go_wp2_with fail
    refine C3.mono ?_
    rintro e w3 ⟨v3, rfl, o3, b3⟩
    have B3 : Hid (Below w.heap.size w w3) := B2.out.trans (b3.mono B2.out.size)
    have C4 := same_yes (O2.out.below b3) o3.bts
    have C5 := intsSame_any (I2.out.kept b3.block) (H.out.kept B3.out.block) (by omega)
    have L := fun w4 (hb : Below w3.heap.size w3 w4) => lives_any w4 ((HT.out.below (Nat.le_refl _) B3.out).below (Nat.le_refl _) hb)
    clear C3 o3 b3 B2 O2 I2
    go_wp2_with (first
      | (go_at_call 11; refine C4.mono ?_; rintro e w' ⟨rfl, hw⟩; obtain rfl := hw.symm; clear hw)
      | (go_at_call 20; refine C5.mono ?_; rintro e w4 ⟨rfl, hb4⟩)
      | (go_at_call 7; refine (L _ hb4).mono ?_; rintro e w5 ⟨rfl, hb5⟩))
    go_ret
    exact ⟨rfl, (B3.out.trans (hb4.mono B3.out.size)).trans (hb5.mono (Nat.le_trans B3.out.size hb4.size))⟩
end Go.Proofs.YtkejnmallhoajaaDoor
