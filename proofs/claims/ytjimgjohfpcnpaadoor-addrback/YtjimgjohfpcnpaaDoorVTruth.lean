/- Which truth a text is, of the program and of the reference. -/
import Derived.Test.YtjimgjohfpcnpaaDoorVRUp
namespace Go.Proofs.YtjimgjohfpcnpaaDoor
open Go.RowKit
set_option maxRecDepth 100000
set_option linter.unusedVariables false
set_option linter.unusedSimpArgs false
def truL (X : List UInt8) : Bool × Bool := if X = [84, 82, 85, 69] then (true, true) else if X = [70, 65, 76, 83, 69] then (false, true) else (false, false)
def truN (X : List UInt8) : Int := if X = [84, 82, 85, 69] then 1 else if X = [70, 65, 76, 83, 69] then 0 else -1
/-- The truth of a text, and whether there is one. -/
def truF (s : ByteArray) : Bool × Bool := truL (szF 97 65 s.data.toList)
theorem tru_cases (X : List UInt8) : (X = [84, 82, 85, 69] ∧ truL X = (true, true) ∧ truN X = 1) ∨ (X = [70, 65, 76, 83, 69] ∧ truL X = (false, true) ∧ truN X = 0) ∨ ((X == [84, 82, 85, 69]) = false ∧ (X == [70, 65, 76, 83, 69]) = false ∧ truL X = (false, false) ∧ truN X = -1) := by
  by_cases h : X = [84, 82, 85, 69]
  · subst h; left; exact ⟨rfl, rfl, rfl⟩
  · by_cases g : X = [70, 65, 76, 83, 69]
    · subst g; right; left; exact ⟨rfl, rfl, rfl⟩
    · right; right; simp [truL, truN, h, g]
set_option maxHeartbeats 1000000 in
theorem ptruth_any (s : ByteArray) (hs : s.size ≤ 9223372036854775807) (w : World) : Calls Tryd.prog 72 #[.string s] w fun e w' => e = .returned (.tuple #[.bool (truF s).1, .bool (truF s).2]) ∧ Below w.heap.size w w' := by
  have R := fun u => up_any s hs u
  unfold truF
  generalize szF 97 65 s.data.toList = X at *
  rcases tru_cases X with ⟨rfl, h, _⟩ | ⟨rfl, h, _⟩ | ⟨h1, h2, h, _⟩
  all_goals
    rw [h]
    go_enter Tryd.func72, Tryd.ntmps72
    go_wp2_with (go_at_call 30; refine (R _).mono ?_; rintro e w1 ⟨rfl, hb⟩; have HB : Hid _ := hb; clear hb)
    go_ret2
    exact ⟨rfl, HB.out⟩
set_option maxHeartbeats 1000000 in
theorem rtruth_any (s : ByteArray) (hs : s.size ≤ 9223372036854775807) (w : World) : Calls Tryd.prog 43 #[.string s] w fun e w' => e = .returned (.int .i64 (truN (szF 97 65 s.data.toList))) ∧ Below w.heap.size w w' := by
  have R := fun u => rup_any s hs u
  generalize szF 97 65 s.data.toList = X at *
  rcases tru_cases X with ⟨rfl, _, h⟩ | ⟨rfl, _, h⟩ | ⟨h1, h2, _, h⟩
  all_goals
    rw [h]
    go_enter Tryd.func43, Tryd.ntmps43
    go_wp2_with (go_at_call 34; refine (R _).mono ?_; rintro e w1 ⟨rfl, hb⟩; have HB : Hid _ := hb; clear hb)
    go_ret
    exact ⟨rfl, HB.out⟩
end Go.Proofs.YtjimgjohfpcnpaaDoor
