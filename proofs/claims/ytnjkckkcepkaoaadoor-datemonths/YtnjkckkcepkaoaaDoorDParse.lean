/- The contracts of Parse, of both. -/
import Derived.Test.YtnjkckkcepkaoaaDoorDDig
import Derived.Deep.RegionHeldLaw
namespace Go.Proofs.YtnjkckkcepkaoaaDoor
open Go.RowKit
set_option linter.unusedVariables false
set_option maxRecDepth 100000

def formB (l : List UInt8) : Bool := decide (l.length = 10) && (l[4]? == some 45) && (l[7]? == some 45)
def parseF (l : List UInt8) : Int × Bool := if formB l = true then dayF (numT (l.take 4)) (numT ((l.drop 5).take 2)) (numT (l.drop 8)) else (0, false)
theorem ext_list (s : ByteArray) (a b : Nat) : (s.extract a b).data.toList = (s.data.toList.drop a).take (b - a) := by
  rw [ByteArray.data_extract]
  simp
set_option maxHeartbeats 2000000 in
theorem parse_yes {s : ByteArray} (h10 : s.size = 10) (h4 : s[4].toNat = 45) (h7 : s[7].toNat = 45) (w : World) :
    Calls Tryd.prog 21 #[.string s] w fun e w' => e = .returned (two (dayF (numT (s.extract 0 4).data.toList) (numT (s.extract 5 7).data.toList) (numT (s.extract 8 10).data.toList))) ∧ Below w.heap.size w w' := by
  have D1 := fun u => digits_any (s.extract 0 4) (by simp [h10]) u
  have D2 := fun u => digits_any (s.extract 5 7) (by simp [h10]) u
  have D3 := fun u => digits_any (s.extract 8 10) (by simp [h10]) u
  have DA := fun u => day_any (numT (s.extract 0 4).data.toList) (numT (s.extract 5 7).data.toList) (numT (s.extract 8 10).data.toList) u
  unfold two at *
  generalize dayF (numT (s.extract 0 4).data.toList) (numT (s.extract 5 7).data.toList) (numT (s.extract 8 10).data.toList) = r at *
  generalize numT (s.extract 0 4).data.toList = Y at *
  generalize numT (s.extract 5 7).data.toList = M at *
  generalize numT (s.extract 8 10).data.toList = D at *
  have HU : Hid (Below w.heap.size w w.drew) := (Below.refl _ _).drew
  go_enter Tryd.func21, Tryd.ntmps21
  go_wp2
  go_region_held_law (fun _ => True) (trivial) (first
    | (go_at_call_of 36 (s.extract 0 4); refine (D1 _).mono ?_; rintro e w1 ⟨rfl, hb⟩; replace HU : Hid (Below w.heap.size w w1) := HU.out.trans (hb.mono HU.out.size); clear hb)
    | (go_at_call_of 36 (s.extract 5 7); refine (D2 _).mono ?_; rintro e w1 ⟨rfl, hb⟩; replace HU : Hid (Below w.heap.size w w1) := HU.out.trans (hb.mono HU.out.size); clear hb)
    | (go_at_call_of 36 (s.extract 8 10); refine (D3 _).mono ?_; rintro e w1 ⟨rfl, hb⟩; replace HU : Hid (Below w.heap.size w w1) := HU.out.trans (hb.mono HU.out.size); clear hb)
    | (go_at_call 8; refine (DA _).mono ?_; rintro e w' ⟨rfl, hw⟩; obtain rfl := hw.symm; clear hw))
  go_wp2
  go_ret2
  exact ⟨rfl, HU.out⟩
theorem dayF_neg {y m d : Int} (h : y < 0 ∨ m < 0 ∨ d < 0) : dayF y m d = (0, false) := by
  refine dayF_no fun g => ?_
  obtain ⟨g1, g2, g3, g4⟩ := (isB_iff y m d).1 g
  have := isB_month g3 g4
  omega
set_option maxHeartbeats 2000000 in
theorem rparse_yes {s : ByteArray} (h10 : s.size = 10) (h4 : s[4].toNat = 45) (h7 : s[7].toNat = 45) (w : World) :
    Calls Tryd.prog 22 #[.string s] w fun e w' => e = .returned (two (dayF (numT (s.extract 0 4).data.toList) (numT (s.extract 5 7).data.toList) (numT (s.extract 8 10).data.toList))) ∧ Below w.heap.size w w' := by
  have D1 := fun u => number_any (s.extract 0 4) (by simp [h10]) u
  have D2 := fun u => number_any (s.extract 5 7) (by simp [h10]) u
  have D3 := fun u => number_any (s.extract 8 10) (by simp [h10]) u
  have DA := fun u => rday_any (numT (s.extract 0 4).data.toList) (numT (s.extract 5 7).data.toList) (numT (s.extract 8 10).data.toList) u
  have DN : Hid (∀ y m d : Int, y < 0 ∨ m < 0 ∨ d < 0 → dayF y m d = (0, false)) := fun y m d h => dayF_neg h
  replace DN := DN.out (numT (s.extract 0 4).data.toList) (numT (s.extract 5 7).data.toList) (numT (s.extract 8 10).data.toList)
  generalize dayF (numT (s.extract 0 4).data.toList) (numT (s.extract 5 7).data.toList) (numT (s.extract 8 10).data.toList) = r at *
  generalize numT (s.extract 0 4).data.toList = Y at *
  generalize numT (s.extract 5 7).data.toList = M at *
  generalize numT (s.extract 8 10).data.toList = D at *
  have HU : Hid (Below w.heap.size w w.drew) := (Below.refl _ _).drew
  unfold two at *
  by_cases hY : Y < 0
  · obtain rfl : r = (0, false) := DN (.inl hY)
    clear DN DA
    go_enter Tryd.func22, Tryd.ntmps22
    go_wp2
    go_region_held_law (fun _ => True) (trivial) (first
        | (go_at_call_of 37 (s.extract 0 4); refine (D1 _).mono ?_; rintro e w1 ⟨rfl, hb⟩; obtain rfl := hb.symm; clear hb)
        | (go_at_call_of 37 (s.extract 5 7); refine (D2 _).mono ?_; rintro e w1 ⟨rfl, hb⟩; obtain rfl := hb.symm; clear hb)
        | (go_at_call_of 37 (s.extract 8 10); refine (D3 _).mono ?_; rintro e w1 ⟨rfl, hb⟩; obtain rfl := hb.symm; clear hb))
    go_wp2
    go_ret2
    exact ⟨rfl, HU.out⟩
  · by_cases hM : M < 0
    · obtain rfl : r = (0, false) := DN (.inr (.inl hM))
      clear DN DA
      go_enter Tryd.func22, Tryd.ntmps22
      go_wp2
      go_region_held_law (fun _ => True) (trivial) (first
          | (go_at_call_of 37 (s.extract 0 4); refine (D1 _).mono ?_; rintro e w1 ⟨rfl, hb⟩; obtain rfl := hb.symm; clear hb)
          | (go_at_call_of 37 (s.extract 5 7); refine (D2 _).mono ?_; rintro e w1 ⟨rfl, hb⟩; obtain rfl := hb.symm; clear hb)
          | (go_at_call_of 37 (s.extract 8 10); refine (D3 _).mono ?_; rintro e w1 ⟨rfl, hb⟩; obtain rfl := hb.symm; clear hb))
      go_wp2
      go_ret2
      exact ⟨rfl, HU.out⟩
    · by_cases hD : D < 0
      · obtain rfl : r = (0, false) := DN (.inr (.inr hD))
        clear DN DA
        go_enter Tryd.func22, Tryd.ntmps22
        go_wp2
        go_region_held_law (fun _ => True) (trivial) (first
            | (go_at_call_of 37 (s.extract 0 4); refine (D1 _).mono ?_; rintro e w1 ⟨rfl, hb⟩; obtain rfl := hb.symm; clear hb)
            | (go_at_call_of 37 (s.extract 5 7); refine (D2 _).mono ?_; rintro e w1 ⟨rfl, hb⟩; obtain rfl := hb.symm; clear hb)
            | (go_at_call_of 37 (s.extract 8 10); refine (D3 _).mono ?_; rintro e w1 ⟨rfl, hb⟩; obtain rfl := hb.symm; clear hb))
        go_wp2
        go_ret2
        exact ⟨rfl, HU.out⟩
      · clear DN
        go_enter Tryd.func22, Tryd.ntmps22
        go_wp2
        go_region_held_law (fun _ => True) (trivial) (first
            | (go_at_call_of 37 (s.extract 0 4); refine (D1 _).mono ?_; rintro e w1 ⟨rfl, hb⟩; obtain rfl := hb.symm; clear hb)
            | (go_at_call_of 37 (s.extract 5 7); refine (D2 _).mono ?_; rintro e w1 ⟨rfl, hb⟩; obtain rfl := hb.symm; clear hb)
            | (go_at_call_of 37 (s.extract 8 10); refine (D3 _).mono ?_; rintro e w1 ⟨rfl, hb⟩; obtain rfl := hb.symm; clear hb))
        go_wp2_with (go_at_call 9; refine (DA _).mono ?_; rintro e w' ⟨rfl, hw⟩; obtain rfl := hw.symm; clear hw)
        go_ret2
        exact ⟨rfl, HU.out⟩
end Go.Proofs.YtnjkckkcepkaoaaDoor
