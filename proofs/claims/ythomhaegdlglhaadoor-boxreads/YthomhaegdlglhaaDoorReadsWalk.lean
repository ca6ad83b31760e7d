/- The walk of BoxReads. -/
import Derived.Test.YthomhaegdlglhaaDoorRefRead
import Derived.Test.YthomhaegdlglhaaDoorLives
namespace Go.Proofs.YthomhaegdlglhaaDoor
open Go.RowKit
set_option maxRecDepth 100000

def readCode (b : List UInt8) : Nat := if (readB b).isSome then 0 else 12
theorem code_none {b : List UInt8} (h : readB b = none) : readCode b = 12 := by unfold readCode; rw [h]; rfl
theorem code_some {b : List UInt8} {L : List Chk} (h : readB b = some L) : readCode b = 0 := by unfold readCode; rw [h]; rfl

theorem refRead_any {w : World} {v : Value} {b : List UInt8} (h : Bts w v b) (hlen : b.length ≤ 20000) :
    Calls Tryd.prog 19 #[v] w fun e w' => ∃ lv L, e = .returned (.tuple #[lv, .int .i64 (readCode b)]) ∧ Chs w' lv L ∧ L = (readB b).getD [] ∧ Below w.heap.size w w' := by
  have none_case : ∀ (w' : World) (e : Ending), readB b = none → e = .returned (.tuple #[.slice none 0 0, .int .i64 12]) → Below w.heap.size w w' →
      ∃ lv L, e = .returned (.tuple #[lv, .int .i64 (readCode b)]) ∧ Chs w' lv L ∧ L = (readB b).getD [] ∧ Below w.heap.size w w' := by
    intro w' e hr he hb
    exact ⟨_, [], by rw [he, code_none hr]; rfl, .inl ⟨rfl, rfl⟩, by rw [hr]; rfl, hb⟩
  by_cases h1 : b.length < 20
  · refine (refRead_short h h1).mono ?_
    rintro e w' ⟨he, rfl⟩
    exact none_case _ _ (read_short h1) he (Below.refl _ _)
  by_cases h2 : b.take 8 = markB
  · obtain ⟨E, hE⟩ : ∃ E, b.length = E + 4 := ⟨b.length - 4, by omega⟩
    by_cases h3 : E < wordOf b E + 8
    · refine (refRead_count h E hE (by omega) h2 h3).mono ?_
      rintro e w' ⟨he, rfl⟩
      refine none_case _ _ (read_of_open ?_) he (Below.refl _ _).drew
      unfold openB
      have e1 : b.length - 4 = E := by omega
      rw [if_neg (by omega), if_neg (by simp [h2]), e1, if_pos (by omega)]
    · refine (refRead_full h hlen E (E - wordOf b E) hE h2 (by omega) (by omega)).mono ?_
      rintro e w' (⟨hr, he, hb⟩ | ⟨L, lv, hr, he, hc, hb⟩)
      · exact none_case _ _ hr he hb
      · exact ⟨lv, L, by rw [he, code_some hr]; rfl, hc, by rw [hr]; rfl, hb⟩
  · refine (refRead_other h (by omega) h2).mono ?_
    rintro e w' ⟨he, rfl⟩
    refine none_case _ _ (read_of_open ?_) he (Below.refl _ _)
    unfold openB
    rw [if_neg (by omega), if_pos h2]

theorem readP_any {w : World} {v : Value} {b : List UInt8} (h : Bts w v b) (T : Tab w) :
    Calls Tryd.prog 18 #[v] w fun e w' => ∃ lv L, e = .returned (.tuple #[lv, .int .i64 (readCode b)]) ∧ Chs w' lv L ∧ L = (readB b).getD [] ∧ Below w.heap.size w w' := by
  refine (read_any h T).mono ?_
  rintro e w' (⟨hr, rfl, hb⟩ | ⟨L, lv, hr, rfl, hc, hb⟩)
  · exact ⟨_, [], by rw [code_none hr]; rfl, .inl ⟨rfl, rfl⟩, by rw [hr]; rfl, hb⟩
  · exact ⟨lv, L, by rw [code_some hr]; rfl, hc, by rw [hr]; rfl, hb⟩

theorem read_len (b : List UInt8) : ((readB b).getD []).length ≤ 131072 := by
  cases e : readB b with
  | none => simp
  | some L =>
    have := (wrong_zero (of_read e).1).2.2.1
    simp; omega

set_option maxHeartbeats 4000000 in
theorem reads_walk {w : World} {x : Value} {b : List UInt8} (h : Bts w x b) (T : Tab w) (hmx : b.length ≤ 140737488355328) :
    Calls Tryd.prog 4 #[x] w fun e w' => e = .returned (.bool true) ∧ Below w.heap.size w w' := by
  have HT : Hid (∀ u : World, Below w.heap.size w u → Tab u) := fun u hb => T.below (Nat.le_refl _) hb
  have HV : Hid (∀ u : World, Below w.heap.size w u → Bts u x b) := fun u hb => h.below hb
  have HLV : Hid (∀ u : World, Below w.heap.size w u → Calls Tryd.prog 7 #[] u fun e w' => e = .returned (.bool true) ∧ Below w.heap.size w w') := fun u hb => (lives_any (HT.out u hb)).mono fun e w' ⟨h1, h2⟩ => ⟨h1, hb.trans (h2.mono hb.size)⟩
  have C1 := readP_any h T
  obtain ⟨code, hcode⟩ : ∃ c, c = readCode b := ⟨_, rfl⟩
  have HCo : Hid (code = readCode b) := hcode
  rw [← hcode] at C1
  clear hcode
  obtain ⟨xa, xc, rfl, _, _⟩ := h.slice
  clear T h
  by_cases hl : 20000 < b.length
  · have hl' : (20000 : Int) < (b.length : Int) := by omega
    clear C1
    go_enter Tryd.func4, Tryd.ntmps4
    go_wp2_with fail
    refine (HLV.out w (Below.refl _ _)).mono ?_
    rintro e w2 ⟨rfl, b2⟩
    go_wp2_with fail
    go_ret
    exact ⟨rfl, b2⟩
  · have hl' : ¬ ((20000 : Int) < (b.length : Int)) := by omega
    go_enter Tryd.func4, Tryd.ntmps4
    go_wp2_with fail
    refine C1.mono ?_
    rintro e w1 ⟨lv, L, rfl, hc1, hL, b1⟩
    have B1 : Hid (Below w.heap.size w w1) := b1
    have H1 : Hid (Chs w1 lv L ∧ L = (readB b).getD []) := ⟨hc1, hL⟩
    have C2 := refRead_any (HV.out w1 b1) (by omega)
    rw [← HCo.out] at C2
    clear hc1 hL b1 C1
    go_wp2_with fail
    refine C2.mono ?_
    rintro e w2 ⟨mv, M, rfl, hc2, hM, b2⟩
    have B2 : Hid (Below w.heap.size w w2) := B1.out.trans (b2.mono B1.out.size)
    have hLM : M = L := by rw [hM, H1.out.2]
    rw [hLM] at hc2
    have C3 := same_chunks (H1.out.1.below b2) hc2 (by rw [H1.out.2]; exact read_len b)
    clear hc2 hM b2 C2 hLM B1
    go_wp2_with fail
    refine C3.mono ?_
    rintro e w3 ⟨rfl, b3⟩
    have B3 : Hid (Below w.heap.size w w3) := B2.out.trans (b3.mono B2.out.size)
    have I1 := id_any (HV.out w3 B3.out) (HT.out w3 B3.out)
    have I2 := refId_any (HV.out w3 B3.out)
    clear b3 C3 B2 H1
    generalize sumB b = sm at *
    go_wp2_with fail
    refine I1.mono ?_
    rintro e w' ⟨rfl, hw⟩; obtain rfl := hw.symm; clear hw
    go_wp2_with fail
    refine I2.mono ?_
    rintro e w' ⟨rfl, hw⟩; obtain rfl := hw.symm; clear hw
    go_wp2_with fail
    refine (HLV.out w3 B3.out).mono ?_
    rintro e w4 ⟨rfl, b4⟩
    go_wp2_with fail
    go_ret
    exact ⟨rfl, b4⟩
end Go.Proofs.YthomhaegdlglhaaDoor
