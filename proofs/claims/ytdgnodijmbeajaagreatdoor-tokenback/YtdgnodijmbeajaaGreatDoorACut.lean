/- strings.Cut and strings.CutPrefix at one byte. -/
import Derived.Test.YtdgnodijmbeajaaGreatDoorAMem
import Derived.Test.YtdgnodijmbeajaaGreatDoorNLives
namespace Go.Proofs.YtdgnodijmbeajaaGreatDoor
open Go.RowKit Go.Shelf
set_option maxRecDepth 100000
set_option linter.unusedVariables false
set_option linter.unusedSimpArgs false
def cutF (c : UInt8) (l : List UInt8) : List UInt8 × List UInt8 × Bool := match Ad.at_ c l with
  | none => (l, [], false)
  | some p => (p.1, p.2, true)
theorem at_index (c : UInt8) : ∀ l : List UInt8, (Lib.indexByte l c = -1 → Ad.at_ c l = none) ∧ (∀ i : Nat, Lib.indexByte l c = i → Ad.at_ c l = some (l.take i, l.drop (i + 1)))
  | [] => ⟨fun _ => rfl, fun i h => by simp [Lib.indexByte] at h⟩
  | b :: l => by
    have ih := at_index c l
    have hge := Lib.indexByte_ge l c
    unfold Lib.indexByte Ad.at_
    by_cases hb : b = c
    · subst hb
      refine ⟨fun h => by simp at h, fun i h => ?_⟩
      simp at h
      obtain rfl : i = 0 := by omega
      rw [if_pos rfl]
      rfl
    · have e1 : (b == c) = false := by simpa using hb
      rw [e1, if_neg hb]
      simp only [Bool.false_eq_true, if_false]
      by_cases hn : Lib.indexByte l c = -1
      · rw [hn]
        refine ⟨fun _ => ?_, fun i h => by simp at h⟩
        rw [ih.1 hn]
        rfl
      · have e3 : (Lib.indexByte l c == -1) = false := by simpa using hn
        rw [e3]
        refine ⟨fun h => by simp at h; omega, fun i h => ?_⟩
        simp at h
        obtain ⟨k, rfl⟩ : ∃ k, i = k + 1 := ⟨i - 1, by omega⟩
        rw [ih.2 k (by omega)]
        rfl
theorem cutc (c : UInt8) (l : List UInt8) : Lib.cut l [c] = cutF c l := by
  have hi := Lib.index_one l c
  have hge := Lib.indexByte_ge l c
  unfold Lib.cut cutF
  rw [hi]
  split
  · rw [(at_index c l).2 (Lib.indexByte l c).toNat (by omega)]
    rfl
  · rw [(at_index c l).1 (by omega)]
theorem cutF_none {c : UInt8} {l : List UInt8} (h : Ad.at_ c l = none) : cutF c l = (l, [], false) := by unfold cutF; rw [h]
theorem cutF_some {c : UInt8} {l a b : List UInt8} (h : Ad.at_ c l = some (a, b)) : cutF c l = (a, b, true) := by unfold cutF; rw [h]
set_option maxHeartbeats 2000000 in
theorem scut_any (c : UInt8) (s : ByteArray) (w : World) (hs : s.size ≤ 9223372036854775807) :
    Calls Tryz.prog 114 #[.string s, .string ⟨#[c]⟩] w fun e w' => e = .returned (.tuple #[.string ⟨(cutF c s.data.toList).1.toArray⟩, .string ⟨(cutF c s.data.toList).2.1.toArray⟩, .bool (cutF c s.data.toList).2.2]) ∧ ∃ n, w' = w.drewN n := by
  have hcut := cutc c s.data.toList
  have IX := fun u => Tryz.stringslite_Index_one s c u
  have hone := Lib.index_one s.data.toList c
  obtain ⟨sp, hsp⟩ : ∃ sp : ByteArray, sp = ⟨#[c]⟩ := ⟨_, rfl⟩
  have hp : sp.size = 1 := by rw [hsp]; rfl
  have hl : sp.data.toList = [c] := by rw [hsp]
  rcases Lib.indexB_cases s sp with hix | ⟨i, hix, hroom⟩
  · obtain ⟨e1, e2, e3⟩ := Lib.cutB_miss s sp hix
    rw [hl, hcut] at e1 e2 e3
    rw [e1, e2, e3]
    replace hix : Lib.index s.data.toList [c] = -1 := by rw [← hl]; exact hix
    rw [show Lib.indexByte s.data.toList c = -1 from hone.symm.trans hix] at IX
    rw [← hsp] at IX ⊢
    clear hix hone hcut e1 e2 e3 hl hsp
    go_enter Tryz.func114, Tryz.ntmps114
    go_wp2_with (go_at_call 131; refine (IX _).mono ?_; rintro e w' ⟨rfl, hw⟩; obtain rfl := hw.symm; clear hw)
    go_ret3
    exact ⟨rfl, 0, rfl⟩
  · obtain ⟨e1, e2, e3⟩ := Lib.cutB_hit s sp i hix
    rw [hl, hcut] at e1 e2 e3
    rw [e1, e2, e3]
    replace hix : Lib.index s.data.toList [c] = i := by rw [← hl]; exact hix
    rw [show Lib.indexByte s.data.toList c = i from hone.symm.trans hix] at IX
    have hroom' : i + 1 ≤ s.size := by rw [hp] at hroom; exact hroom
    rw [hp]
    have c1 : (0 : Int) ≤ ↑i := by omega
    have c2 : (↑i : Int) ≤ ↑s.size := by omega
    have c3 : (0 : Int) ≤ ↑i + 1 := by omega
    have c4 : (↑i + 1 : Int) ≤ ↑s.size := by omega
    rw [← hsp] at IX ⊢
    clear hix hone hcut e1 e2 e3 hroom hl hsp
    go_enter Tryz.func114, Tryz.ntmps114
    go_wp2_with (go_at_call 131; refine (IX _).mono ?_; rintro e w' ⟨rfl, hw⟩; obtain rfl := hw.symm; clear hw)
    go_region
    go_wp2
    go_ret3
    exact ⟨rfl, 1, rfl⟩
set_option maxHeartbeats 2000000 in
theorem cutc_any (c : UInt8) (l : List UInt8) (w : World) (hl : l.length ≤ 9223372036854775807) :
    Calls Tryz.prog 82 #[.string ⟨l.toArray⟩, .string ⟨#[c]⟩] w fun e w' => e = .returned (.tuple #[.string ⟨(cutF c l).1.toArray⟩, .string ⟨(cutF c l).2.1.toArray⟩, .bool (cutF c l).2.2]) ∧ Below w.heap.size w w' := by
  have C := fun u => scut_any c ⟨l.toArray⟩ u (by rw [size_mk]; exact hl)
  simp only [List.toList_toArray] at C
  generalize (⟨l.toArray⟩ : ByteArray) = A at *
  generalize (⟨#[c]⟩ : ByteArray) = B at *
  generalize cutF c l = R at *
  go_enter Tryz.func82, Tryz.ntmps82
  go_wp2_with (go_at_call 114; refine (C _).mono ?_; rintro e w' ⟨rfl, n, rfl⟩)
  go_ret3
  exact ⟨rfl, drewN_below w _⟩
theorem strip_lib (c : UInt8) (l : List UInt8) : Lib.trimPrefix l [c] = (Ad.strip c l).2 ∧ Lib.hasPrefix l [c] = (Ad.strip c l).1 := by
  unfold Lib.trimPrefix Lib.hasPrefix
  cases l with
  | nil => exact ⟨rfl, rfl⟩
  | cons b l =>
    rw [Ad.strip_cons]
    by_cases h : b = c
    · subst h
      simp [List.isPrefixOf]
    · have h2 : ¬ c = b := fun e => h e.symm
      simp [List.isPrefixOf, h, h2]
theorem strip_any (c : UInt8) (l : List UInt8) (w : World) :
    Calls Tryz.prog 81 #[.string ⟨l.toArray⟩, .string ⟨#[c]⟩] w fun e w' => e = .returned (.tuple #[.string ⟨(Ad.strip c l).2.toArray⟩, .bool (Ad.strip c l).1]) ∧ w' = w := by
  have h := Tryz.strings_CutPrefix ⟨l.toArray⟩ ⟨#[c]⟩ w
  obtain ⟨h1, h2⟩ := strip_lib c l
  rw [show (⟨#[c]⟩ : ByteArray).data.toList = [c] from rfl, show (⟨l.toArray⟩ : ByteArray).data.toList = l from rfl, h1, h2] at h
  exact h
end Go.Proofs.YtdgnodijmbeajaaGreatDoor
