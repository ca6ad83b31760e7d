/- The walk of FilesApart where the name is bad or there is too much. -/
import Derived.Test.YtjncibejdplamaaApartWalk
namespace Go.Proofs.Ytjncibejdplamaa
open Go.RowKit Go.Maps
set_option maxRecDepth 100000
set_option linter.unusedVariables false
set_option linter.unusedSimpArgs false
set_option maxHeartbeats 4000000 in
theorem apart_bad {w : World} {a0 : Option Addr} {n0 c0 : Nat} (nm : ByteArray) (hs : nm.size ≤ maxLen) (hg : goodB nm = false) {da : Option Addr} {dn dc : Nat} :
    Calls Try.prog 8 #[.slice a0 n0 c0, .string nm, .slice da dn dc] w fun e w' => e = .returned (.bool true) ∧ Below w.heap.size w w' := by
  have N := new_any (K := K0) w (fun _ h => h.elim)
  have G : Hid (∀ w, Calls Try.prog 13 #[.string nm] w fun e w' => e = .returned (.bool false) ∧ w' = w) := fun w => by have := good_any nm w hs; rw [hg] at this; exact this
  have HG : Hid (nm.size ≤ maxLen ∧ goodB nm = false) := ⟨hs, hg⟩
  clear hs hg
  go_enter Try.func8, Try.ntmps8
  go_wp2_with fail
  refine N.mono ?_
  rintro e w1 ⟨b, bm, rfl, s1, b1⟩
  have C1 := create_bad s1 (by have := b1.size; omega) rfl nm HG.out.1 HG.out.2
  have B1 : Hid (Below w.heap.size w w1) := b1.below
  clear s1 b1 N
  go_wp2_with fail
  refine (G.out _).mono ?_
  rintro e w' ⟨rfl, hw⟩
  obtain rfl := hw.symm
  clear hw
  go_wp2_with fail
  refine C1.mono ?_
  rintro e w3 ⟨rfl, -, b3⟩
  go_wp2_with fail
  go_ret
  exact ⟨rfl, B1.out.trans b3.below⟩
set_option maxHeartbeats 4000000 in
theorem apart_much {w : World} {a0 : Option Addr} {n0 c0 : Nat} (nm : ByteArray) (hs : nm.size ≤ maxLen) (hg : goodB nm = true) {da : Option Addr} {dn dc : Nat} (hx : 1000 < dn ∨ (dn ≤ 1000 ∧ 1000 < n0)) :
    Calls Try.prog 8 #[.slice a0 n0 c0, .string nm, .slice da dn dc] w fun e w' => e = .returned (.bool true) ∧ Below w.heap.size w w' := by
  have N := new_any (K := K0) w (fun _ h => h.elim)
  have G : Hid (∀ w, Calls Try.prog 13 #[.string nm] w fun e w' => e = .returned (.bool true) ∧ w' = w) := fun w => by have := good_any nm w hs; rw [hg] at this; exact this
  have HG : Hid (nm.size ≤ maxLen ∧ goodB nm = true) := ⟨hs, hg⟩
  clear hs hg
  rcases hx with hx | ⟨hx1, hx⟩
  all_goals
    go_enter Try.func8, Try.ntmps8
    go_wp2_with fail
    refine N.mono ?_
    rintro e w1 ⟨b, bm, rfl, s1, b1⟩
    have C1 := create_ok s1 (by have := b1.size; omega) rfl nm HG.out.1 HG.out.2 (.inr (by decide)) (by decide) (by decide) (by decide)
    have B1 : Hid (Below w.heap.size w w1) := b1.below
    clear s1 b1 N
    go_wp2_with fail
    refine (G.out _).mono ?_
    rintro e w' ⟨rfl, hw⟩
    obtain rfl := hw.symm
    clear hw
    go_wp2_with fail
    refine C1.mono ?_
    rintro e w3 ⟨rfl, -, b3⟩
    have LV := lives_any w3
    have B3 : Hid (Below w.heap.size w w3) := B1.out.trans b3.below
    clear b3
    go_wp2_with (go_at_call 12; refine LV.mono ?_; rintro e w6 ⟨rfl, b6⟩)
    go_ret
    exact ⟨rfl, B3.out.trans (b6.mono (by have := B3.out.size; omega))⟩
/-- FilesApart, whatever the input. -/
theorem apart_walk {w : World} {a0 : Option Addr} {c0 : Nat} {L : List ActT} (hA : ActsIn w.heap.size w (.slice a0 L.length c0) L) (nm : ByteArray) (hs : nm.size ≤ maxLen)
    {da : Option Addr} {dc : Nat} {dat : List UInt8} (hd : DB w.heap.size w (.slice da dat.length dc) dat) :
    Calls Try.prog 8 #[.slice a0 L.length c0, .string nm, .slice da dat.length dc] w fun e w' => e = .returned (.bool true) ∧ Below w.heap.size w w' := by
  cases hg : goodB nm
  · exact apart_bad nm hs hg
  · by_cases h1 : dat.length ≤ 1000
    · by_cases h2 : L.length ≤ 1000
      · exact apart_small hA nm hs hg h2 hd h1
      · exact apart_much nm hs hg (.inr ⟨h1, by omega⟩)
    · exact apart_much nm hs hg (.inl (by omega))
end Go.Proofs.Ytjncibejdplamaa
