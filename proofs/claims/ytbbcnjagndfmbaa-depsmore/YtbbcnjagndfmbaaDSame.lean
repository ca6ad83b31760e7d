/- The very same numbers, the very same truths. -/
import Derived.Test.YtbbcnjagndfmbaaDReady
import Derived.Lib.Zigzag
namespace Go.Proofs.Ytbbcnjagndfmbaa
open Go.RowKit
set_option maxRecDepth 100000
set_option linter.unusedVariables false
set_option linter.unusedSimpArgs false
set_option maxHeartbeats 4000000 in
theorem ints_same {w : World} {x y : Value} {L : List Nat} (hx : Rd w x L.length (L.map fun z => Value.int .i64 (z : Nat))) (hy : Rd w y L.length (L.map fun z => Value.int .i64 (z : Nat))) (hl : L.length ≤ 1099511627776) :
    Calls Try.prog 9 #[x, y] w fun e w' => e = .returned (.bool true) ∧ Below w.heap.size w w' := by
  have HX : Hid (Rd w x L.length (L.map fun z => Value.int .i64 (z : Nat))) := hx
  have HY : Hid (Rd w y L.length (L.map fun z => Value.int .i64 (z : Nat))) := hy
  obtain ⟨a, c, rfl⟩ := hx.slice
  obtain ⟨a2, c2, rfl⟩ := hy.slice
  clear hx hy
  go_enter Try.func9, Try.ntmps9
  go_wp2_with fail
  go_loopw [5, 13] (fun _ u13 wr => ∃ k : Nat, u13 = .int .i64 k ∧ k ≤ L.length ∧ Hid (Below w.heap.size w wr)) (fun _ u13 _ => L.length - (intOf u13).toNat)
  case atStart => exact ⟨0, rfl, by omega, Below.refl _ _⟩
  case round =>
    obtain ⟨k, rfl, hk, HB⟩ := hrel
    by_cases hlt : k < L.length
    · obtain ⟨a', c', e1, cx⟩ := (HX.out.below HB.out).at (j := k) (by simpa using hlt)
      obtain ⟨b', d', e2, cy⟩ := (HY.out.below HB.out).at (j := k) (by simpa using hlt)
      cases e1; cases e2
      rw [List.getElem_map] at cx cy
      generalize L[k] = z at *
      go_wp2
      go_region
      go_wp2
      go_roundw
      case rel => exact ⟨k + 1, by go_num, by omega, HB.out.drew⟩
      case measure => simp [intOf]; omega
    · go_wp2
      go_ret
      exact ⟨rfl, HB.out⟩
set_option maxHeartbeats 4000000 in
theorem bools_same {w : World} {x y : Value} {L : List Bool} (hx : Rd w x L.length (L.map fun z => Value.bool z)) (hy : Rd w y L.length (L.map fun z => Value.bool z)) (hl : L.length ≤ 1099511627776) :
    Calls Try.prog 10 #[x, y] w fun e w' => e = .returned (.bool true) ∧ Below w.heap.size w w' := by
  have HX : Hid (Rd w x L.length (L.map fun z => Value.bool z)) := hx
  have HY : Hid (Rd w y L.length (L.map fun z => Value.bool z)) := hy
  obtain ⟨a, c, rfl⟩ := hx.slice
  obtain ⟨a2, c2, rfl⟩ := hy.slice
  clear hx hy
  go_enter Try.func10, Try.ntmps10
  go_wp2_with fail
  go_loopw [5, 13] (fun _ u13 wr => ∃ k : Nat, u13 = .int .i64 k ∧ k ≤ L.length ∧ Hid (Below w.heap.size w wr)) (fun _ u13 _ => L.length - (intOf u13).toNat)
  case atStart => exact ⟨0, rfl, by omega, Below.refl _ _⟩
  case round =>
    obtain ⟨k, rfl, hk, HB⟩ := hrel
    by_cases hlt : k < L.length
    · obtain ⟨a', c', e1, cx⟩ := (HX.out.below HB.out).at (j := k) (by simpa using hlt)
      obtain ⟨b', d', e2, cy⟩ := (HY.out.below HB.out).at (j := k) (by simpa using hlt)
      cases e1; cases e2
      rw [List.getElem_map] at cx cy
      generalize L[k] = z at *
      go_wp2
      go_region
      go_wp2
      go_roundw
      case rel => exact ⟨k + 1, by go_num, by omega, HB.out.drew⟩
      case measure => simp [intOf]; omega
    · go_wp2
      go_ret
      exact ⟨rfl, HB.out⟩
end Go.Proofs.Ytbbcnjagndfmbaa
