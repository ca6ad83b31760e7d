/- The contract of open. -/
import Derived.Test.YthomhaegdlglhaaDoorOwnC
import Derived.Test.YthomhaegdlglhaaDoorBWord
import Derived.Test.YthomhaegdlglhaaDoorUnframe
import Derived.Deep.QuietTactic
import Derived.BigQuiet
namespace Go.Proofs.YthomhaegdlglhaaDoor
open Go.RowKit
set_option maxRecDepth 100000

theorem str_eq (l m : List UInt8) : ((⟨l.toArray⟩ : ByteArray).toList == m) = decide (l = m) := by
  rw [ByteArray.toList_eq, Bool.eq_iff_iff]
  simp

set_option maxHeartbeats 1000000 in
theorem open_short {w : World} {v : Value} {b : List UInt8} (h : Bts w v b) (hl : b.length < 12) :
    Calls Tryd.prog 30 #[v] w fun e w' => e = .returned (.tuple #[.slice none 0 0, .slice none 0 0, .bool false]) ∧ w' = w := by
  obtain ⟨a, c, rfl, _, _⟩ := h.slice
  clear h
  have h8 : (b.length : Int) - 4 < 8 := by omega
  have h8' : decide ((b.length : Int) - 4 < 8) = true := by simpa using h8
  go_enter Tryd.func30, Tryd.ntmps30
  go_wp2
  go_ret3
  exact ⟨rfl, rfl⟩

set_option maxHeartbeats 1000000 in
theorem open_other {w : World} {v : Value} {b : List UInt8} (h : Bts w v b) (hl : 12 ≤ b.length) (hm : b.take 8 ≠ markB) :
    Calls Tryd.prog 30 #[v] w fun e w' => e = .returned (.tuple #[.slice none 0 0, .slice none 0 0, .bool false]) ∧ w' = w := by
  rcases h with ⟨rfl, rfl⟩ | ⟨a, cap, rfl, h1, h2, h3⟩
  · simp at hl
  have h2' : cap ≤ 9223372036854775807 := h2
  have CV := conv_bts (Bts.part (n := 8) (by omega) (by omega) h2 h3)
  have hs : ((⟨(b.take 8).toArray⟩ : ByteArray).toList == [79, 67, 84, 65, 86, 79, 49, 10]) = false := by rw [str_eq]; simpa [markB] using hm
  generalize (⟨(b.take 8).toArray⟩ : ByteArray) = s at *
  have h8 : ¬ ((b.length : Int) - 4 < 8) := by omega
  have h8' : decide ((b.length : Int) - 4 < 8) = false := by simpa using h8
  have hc8 : 8 ≤ cap := by omega
  have hc8' : (8 : Int) ≤ (cap : Int) := by omega
  clear h3 hm
  go_enter Tryd.func30, Tryd.ntmps30
  go_wp2
  go_ret3
  exact ⟨rfl, rfl⟩

set_option maxHeartbeats 1000000 in
theorem open_count {w : World} {v : Value} {b : List UInt8} (h : Bts w v b) (hl : 12 ≤ b.length) (hm : b.take 8 = markB) (hc : b.length < wordOf b (b.length - 4) + 12) :
    Calls Tryd.prog 30 #[v] w fun e w' => e = .returned (.tuple #[.slice none 0 0, .slice none 0 0, .bool false]) ∧ w' = w.drew := by
  have W0 := bword_any h (b.length - 4) (by omega)
  have hwl := wordOf_lt b (b.length - 4)
  rcases h with ⟨rfl, rfl⟩ | ⟨a, cap, rfl, h1, h2, h3⟩
  · simp at hl
  have h2' : cap ≤ 9223372036854775807 := h2
  have CV := conv_bts (Bts.part (n := 8) (by omega) (by omega) h2 h3)
  have hs : ((⟨(b.take 8).toArray⟩ : ByteArray).toList == [79, 67, 84, 65, 86, 79, 49, 10]) = true := by rw [str_eq]; simpa [markB] using hm
  generalize (⟨(b.take 8).toArray⟩ : ByteArray) = s at *
  have h8 : ¬ ((b.length : Int) - 4 < 8) := by omega
  have h8' : decide ((b.length : Int) - 4 < 8) = false := by simpa using h8
  have hc8 : 8 ≤ cap := by omega
  have hc8' : (8 : Int) ≤ (cap : Int) := by omega
  generalize wordOf b (b.length - 4) = x at *
  have e4 : Hid ((b.length : Int) - 4 = ((b.length - 4 : Nat) : Int)) := by show _ = _; omega
  have hx8 : (b.length : Int) - 4 - (x : Int) < 8 := by omega
  clear h3 hm
  go_enter Tryd.func30, Tryd.ntmps30
  go_wp2_with fail
  rw [e4.out]
  refine W0.mono ?_
  rintro e w' ⟨rfl, hw⟩; obtain rfl := hw.symm; clear hw
  rw [← e4.out]
  go_wp2_with fail
  go_ret3
  exact ⟨rfl, rfl⟩

theorem unframe_codes (l : List UInt8) : (unframeB l).2.2 = 0 ∨ (unframeB l).2.2 = 9 ∨ (unframeB l).2.2 = 12 ∨ (unframeB l).2.2 = 16 := by
  unfold unframeB
  split
  · simp
  split
  · simp
  split
  · simp
  split <;> simp

set_option maxHeartbeats 2000000 in
theorem open_full {w : World} {v : Value} {b : List UInt8} (h : Bts w v b) (T : Tab w) (hl : 12 ≤ b.length) (hm : b.take 8 = markB) (hc : wordOf b (b.length - 4) + 12 ≤ b.length) :
    Calls Tryd.prog 30 #[v] w fun e w' => ∃ c dv, e = .returned (.tuple #[c, dv, .bool (decide ((unframeB ((b.drop (b.length - 4 - wordOf b (b.length - 4))).take (wordOf b (b.length - 4)))).2.2 = 0 ∧ (unframeB ((b.drop (b.length - 4 - wordOf b (b.length - 4))).take (wordOf b (b.length - 4)))).2.1 = wordOf b (b.length - 4)))]) ∧
      Own w.heap.size w' c (unframeB ((b.drop (b.length - 4 - wordOf b (b.length - 4))).take (wordOf b (b.length - 4)))).1 ∧ Bts w' dv ((b.drop 8).take (b.length - 12 - wordOf b (b.length - 4))) ∧ Below w.heap.size w w' ∧ ∃ a n c, dv = .slice (some a) n c := by
  have W0 := bword_any h (b.length - 4) (by omega)
  have hwl := wordOf_lt b (b.length - 4)
  rcases h with ⟨rfl, rfl⟩ | ⟨a, cap, rfl, h1, h2, h3⟩
  · simp at hl
  have h2' : cap ≤ 9223372036854775807 := h2
  have CV := conv_bts (Bts.part (n := 8) (by omega) (by omega) h2 h3)
  have hs : ((⟨(b.take 8).toArray⟩ : ByteArray).toList == [79, 67, 84, 65, 86, 79, 49, 10]) = true := by rw [str_eq]; simpa [markB] using hm
  generalize (⟨(b.take 8).toArray⟩ : ByteArray) = s at *
  generalize wordOf b (b.length - 4) = x at *
  obtain ⟨G, hG⟩ : ∃ G, b.length - 4 - x = G := ⟨_, rfl⟩
  have hG8 : 8 ≤ G := by omega
  have hlen : b.length = G + x + 4 := by omega
  have B1 := Bts.later (m := G) (n := x) (by omega) (by omega) (by omega) h2 h3
  have B2 := Bts.later (m := 8) (n := b.length - 12 - x) (by decide) (by omega) (by omega) h2 h3
  have U := unframe_any (B1.drew) (T.drew)
  have D2 : Hid (∀ u, Below w.heap.size w u → Bts u (.slice (some (a.add 8)) (b.length - 12 - x) (cap - 8)) ((b.drop 8).take (b.length - 12 - x))) := fun u hu => B2.below hu
  rw [hG]
  generalize (b.drop 8).take (b.length - 12 - x) = D at *
  have HU := unframe_codes ((b.drop G).take x)
  generalize unframeB ((b.drop G).take x) = un at *
  obtain ⟨uc, un1, un2⟩ := un
  simp only at *
  have HU : Hid _ := HU
  have h8 : ¬ ((b.length : Int) - 4 < 8) := by omega
  have h8' : decide ((b.length : Int) - 4 < 8) = false := by simpa using h8
  have hc8 : 8 ≤ cap := by omega
  have hc8' : (8 : Int) ≤ (cap : Int) := by omega
  have e4 : Hid ((b.length : Int) - 4 = ((b.length - 4 : Nat) : Int)) := by show _ = _; omega
  have e5 : Hid ((b.length : Int) - 4 - (x : Int) = (G : Int)) := by show _ = _; omega
  have HL : Hid (b.length = G + x + 4) := hlen
  have g1 : Hid (b.length - 4 - x = G) := hG
  have g2 : Hid (b.length - 4 - G = x) := by show _ = _; omega
  have g3 : Hid (((b.length - 4 : Nat) : Int) - (x : Int) = (G : Int)) := by show _ = _; omega
  have g4 : Hid (b.length - 12 - x = G - 8) := by show _ = _; omega
  have gc : G ≤ cap := by omega
  have gc' : (G : Int) ≤ (cap : Int) := by omega
  have g8' : (8 : Int) ≤ (G : Int) := by omega
  have g8n : ¬ ((G : Int) < 8) := by omega
  have gx : x ≤ cap - G := by omega
  clear h3 hm B1 B2 T hlen hG
  go_enter Tryd.func30, Tryd.ntmps30
  go_wp2_with fail
  rw [e4.out]
  refine W0.mono ?_
  rintro e w' ⟨rfl, hw⟩; obtain rfl := hw.symm; clear hw
  go_wp2_with fail
  simp only [g1.out, g2.out, g3.out]
  refine U.mono ?_
  rintro e w1 ⟨c, rfl, oc, bc⟩
  have E1 : Hid (Own w.heap.size w1 c uc ∧ Below w.heap.size w w1) := ⟨oc, (Below.refl _ w).drew.trans bc⟩
  have D1 : Hid (Bts w1.drew (.slice (some (a.add 8)) (G - 8) (cap - 8)) D) := by
    have := D2.out w1.drew E1.out.2.drew
    rwa [g4.out] at this
  clear oc bc D2 U W0 CV
  by_cases k2 : un2 = 0
  · subst k2
    by_cases k1 : un1 = x
    · subst k1
      go_wp2_with fail
      go_region_held_law (fun _ => True) (trivial) (fail)
      go_wp2_with fail
      go_ret3
      exact ⟨c, .slice (some ⟨a.block, a.off + 8, none⟩) (G - 8) (cap - 8), by simp, E1.out.1, D1.out, E1.out.2.drew, _, _, _, rfl⟩
    · have k1' : ¬ ((un1 : Int) = (x : Int)) := by omega
      go_wp2_with fail
      go_region_held_law (fun _ => True) (trivial) (fail)
      go_wp2_with fail
      go_ret3
      exact ⟨c, .slice (some ⟨a.block, a.off + 8, none⟩) (G - 8) (cap - 8), by simp; exact k1', E1.out.1, D1.out, E1.out.2.drew, _, _, _, rfl⟩
  · rcases HU.out with rfl | rfl | rfl | rfl
    · exact absurd rfl k2
    all_goals
      go_wp2_with fail
      go_quiet ((fail))
      go_wp2_with fail
      go_ret3
      exact ⟨c, .slice (some ⟨a.block, a.off + 8, none⟩) (G - 8) (cap - 8), by simp, E1.out.1, D1.out, ⟨E1.out.2.os, E1.out.2.tape, E1.out.2.output, E1.out.2.size, E1.out.2.block⟩, _, _, _, rfl⟩

theorem open_any {w : World} {v : Value} {b : List UInt8} (h : Bts w v b) (T : Tab w) :
    Calls Tryd.prog 30 #[v] w fun e w' => (openB b = none ∧ (∃ x y, e = .returned (.tuple #[x, y, .bool false])) ∧ Below w.heap.size w w') ∨
      ∃ en da c dv, openB b = some (en, da) ∧ e = .returned (.tuple #[c, dv, .bool true]) ∧ Own w.heap.size w' c en ∧ Bts w' dv da ∧ Below w.heap.size w w' ∧ ∃ a n c, dv = .slice (some a) n c := by
  by_cases h1 : b.length < 12
  · refine (open_short h h1).mono ?_
    rintro e w' ⟨rfl, rfl⟩
    exact .inl ⟨by unfold openB; rw [if_pos h1], ⟨_, _, rfl⟩, Below.refl _ _⟩
  by_cases h2 : b.take 8 ≠ markB
  · refine (open_other h (by omega) h2).mono ?_
    rintro e w' ⟨rfl, rfl⟩
    exact .inl ⟨by unfold openB; rw [if_neg h1, if_pos h2], ⟨_, _, rfl⟩, Below.refl _ _⟩
  have h2' : b.take 8 = markB := by simpa using h2
  by_cases h3 : b.length < wordOf b (b.length - 4) + 12
  · refine (open_count h (by omega) h2' h3).mono ?_
    rintro e w' ⟨rfl, rfl⟩
    exact .inl ⟨by unfold openB; rw [if_neg h1, if_neg h2, if_pos h3], ⟨_, _, rfl⟩, (Below.refl _ _).drew⟩
  refine (open_full h T (by omega) h2' (by omega)).mono ?_
  rintro e w' ⟨c, dv, rfl, o, d, hb, hx⟩
  unfold openB
  rw [if_neg h1, if_neg h2, if_neg h3]
  simp only
  split
  · rename_i hu
    exact .inr ⟨_, _, c, dv, rfl, by simp [hu], o, d, hb, hx⟩
  · rename_i hu
    exact .inl ⟨rfl, ⟨c, dv, by simp only [hu, decide_false]⟩, hb⟩
end Go.Proofs.YthomhaegdlglhaaDoor
