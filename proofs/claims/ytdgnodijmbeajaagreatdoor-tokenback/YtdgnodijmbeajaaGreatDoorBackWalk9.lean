/- The walk of the law TokenBack. -/
import Derived.Test.YtdgnodijmbeajaaGreatDoorTLives
import Derived.Test.YtdgnodijmbeajaaGreatDoorTSame
namespace Go.Proofs.YtdgnodijmbeajaaGreatDoor
open Go.RowKit
set_option maxRecDepth 100000
set_option linter.unusedVariables false
set_option linter.unusedSimpArgs false
set_option maxHeartbeats 4000000 in
theorem back_no {w : World} {S : ByteArray} {n : Int} (T : Tab9 w) (hn : (n != 0) = true)
    (A : Calls Tryz.prog 6 #[.string S] w fun e w' => e = .returned (.tuple #[.slice none 0 0, .int .i64 n]) ∧ Below w.heap.size w w') :
    Calls Tryz.prog 5 #[.string S] w fun e w' => e = .returned (.bool true) ∧ Below w.heap.size w w' := by
  have HT : Hid (Tab9 w) := T
  clear T
  go_enter Tryz.func5, Tryz.ntmps5
  go_wp2_with (first
    | (go_at_call 6; refine A.mono ?_; rintro e w1 ⟨rfl, hb⟩; have HB1 : Hid (Below w.heap.size w w1) := hb; clear hb A)
    | (go_at_call 9; refine (lives_any _ (HT.out.below HB1.out)).mono ?_; rintro e w4 ⟨rfl, hb⟩; have HB4 : Hid (Below w.heap.size w w4) := bel_step HB1.out hb; clear hb))
  go_ret
  exact ⟨rfl, HB4.out⟩
section
variable {w : World} {S X : ByteArray} {z : Nat} {L : List TT}
set_option maxHeartbeats 4000000 in
theorem back_long (T : Tab9 w) (hz : X.size = z) (hlong : 255 < z)
    (A : Calls Tryz.prog 6 #[.string S] w fun e w' => ∃ v, e = .returned (.tuple #[v, .int .i64 0]) ∧ OwnT 35 w.heap.size w' v L ∧ Below w.heap.size w w')
    (P : ∀ (u : World) (v : Value) (b : Nat), Tab9 u → OwnT 35 b u v L → Calls Tryz.prog 10 #[v] u fun e w' => e = .returned (.string X) ∧ Below u.heap.size u w') :
    Calls Tryz.prog 5 #[.string S] w fun e w' => e = .returned (.bool true) ∧ Below w.heap.size w w' := by
  have HT : Hid (Tab9 w) := T
  have hl : (255 : Int) < z := by omega
  clear T
  go_enter Tryz.func5, Tryz.ntmps5
  go_wp2_with (first
    | (go_at_call 6; refine A.mono ?_; rintro e w1 ⟨v1, rfl, h1, hb⟩; have HO1 : Hid (OwnT 35 w.heap.size w1 v1 L) := h1; have HB1 : Hid (Below w.heap.size w w1) := hb; clear h1 hb A)
    | (go_at_call 10; refine (P _ _ _ (HT.out.below HB1.out) HO1.out).mono ?_; rintro e w2 ⟨rfl, hb⟩; have HB2 : Hid (Below w.heap.size w w2) := bel_step HB1.out hb; clear hb)
    | (go_at_call 9; refine (lives_any _ (HT.out.below HB2.out)).mono ?_; rintro e w4 ⟨rfl, hb⟩; have HB4 : Hid (Below w.heap.size w w4) := bel_step HB2.out hb; clear hb))
  go_ret
  exact ⟨rfl, HB4.out⟩
set_option maxHeartbeats 4000000 in
theorem back_yes (T : Tab9 w) (hL : L.length ≤ 255) (hz : X.size = z) (hshort : z ≤ 255)
    (A : Calls Tryz.prog 6 #[.string S] w fun e w' => ∃ v, e = .returned (.tuple #[v, .int .i64 0]) ∧ OwnT 35 w.heap.size w' v L ∧ Below w.heap.size w w')
    (P : ∀ (u : World) (v : Value) (b : Nat), Tab9 u → OwnT 35 b u v L → Calls Tryz.prog 10 #[v] u fun e w' => e = .returned (.string X) ∧ Below u.heap.size u w')
    (B : ∀ u, Tab9 u → Calls Tryz.prog 6 #[.string X] u fun e w' => ∃ v, e = .returned (.tuple #[v, .int .i64 0]) ∧ OwnT 35 u.heap.size w' v L ∧ Below u.heap.size u w') :
    Calls Tryz.prog 5 #[.string S] w fun e w' => e = .returned (.bool true) ∧ Below w.heap.size w w' := by
  have HT : Hid (Tab9 w) := T
  have hl : ¬ (255 : Int) < z := by omega
  clear T
  go_enter Tryz.func5, Tryz.ntmps5
  go_wp2_with (first
    | (go_at_call 6; refine A.mono ?_; rintro e w1 ⟨v1, rfl, h1, hb⟩; have HO1 : Hid (OwnT 35 w.heap.size w1 v1 L) := h1; have HB1 : Hid (Below w.heap.size w w1) := hb; clear h1 hb A)
    | (go_at_call 10; refine (P _ _ _ (HT.out.below HB1.out) HO1.out).mono ?_; rintro e w2 ⟨rfl, hb⟩; have HO2 : Hid (OwnT 35 w.heap.size w2 v1 L) := HO1.out.below hb; have HB2 : Hid (Below w.heap.size w w2) := bel_step HB1.out hb; clear hb HO1)
    | (go_at_call 6; refine (B _ (HT.out.below HB2.out)).mono ?_; rintro e w3 ⟨v3, rfl, h3, hb⟩; have HO3 : Hid (OwnT 35 w2.heap.size w3 v3 L) := h3; have HO4 : Hid (OwnT 35 w.heap.size w3 v1 L) := HO2.out.below hb; have HB3 : Hid (Below w.heap.size w w3) := bel_step HB2.out hb; clear h3 hb B HO2)
    | (go_at_call 12; refine (plain_any HO4.out hL).mono ?_; rintro e w5 ⟨v5, rfl, h5, hb⟩; have HO5 : Hid (OwnT 46 w3.heap.size w5 v5 L) := h5; have HO6 : Hid (OwnT 35 w2.heap.size w5 v3 L) := HO3.out.below hb; have HB5 : Hid (Below w.heap.size w w5) := bel_step HB3.out hb; clear h5 hb HO4 HO3)
    | (go_at_call 8; refine (same_yes HO6.out HO5.out hL).mono ?_; rintro e w6 ⟨rfl, hb⟩; have HO7 : Hid (OwnT 35 w2.heap.size w6 v3 L) := HO6.out.below hb; have HB6 : Hid (Below w.heap.size w w6) := bel_step HB5.out hb; clear hb HO6)
    | (go_at_call 10; refine (P _ _ _ (HT.out.below HB6.out) HO7.out).mono ?_; rintro e w7 ⟨rfl, hb⟩; have HB7 : Hid (Below w.heap.size w w7) := bel_step HB6.out hb; clear hb HO7)
    | (go_at_call 9; refine (lives_any _ (HT.out.below HB7.out)).mono ?_; rintro e w8 ⟨rfl, hb⟩; have HB8 : Hid (Below w.heap.size w w8) := bel_step HB7.out hb; clear hb))
  go_ret
  exact ⟨rfl, HB8.out⟩
end
theorem back_walk (s : ByteArray) (w : World) (T : Tab9 w) : Calls Tryz.prog 5 #[.string s] w fun e w' => e = .returned (.bool true) ∧ Below w.heap.size w w' := by
  obtain ⟨l, rfl⟩ : ∃ l, s = ba l := ⟨s.data.toList, (mk_list s).symm⟩
  have A := lex_any l w T
  unfold LexA at A
  by_cases h : 255 < l.length
  · simp only [if_pos h] at A
    exact back_no (n := 3) T rfl (A.mono fun e w' ⟨h1, h2⟩ => ⟨h1, by rw [h2]; exact Below.refl _ _⟩)
  · simp only [if_neg h] at A
    cases hl : lexF l with
    | none =>
      rw [hl] at A
      exact back_no (n := 10) T rfl (A.mono fun e w' ⟨h1, h2⟩ => ⟨h2, h1⟩)
    | some L =>
      rw [hl] at A
      have hok := lex_ok hl
      have hsm := lex_sm (by omega) hl
      by_cases hL : L.length ≤ 255
      · have A' := A.mono (fun e w' (h : LexS w (some L) e w') => (show ∃ v, e = .returned (.tuple #[v, .int .i64 0]) ∧ OwnT 35 w.heap.size w' v (L.map tk) ∧ Below w.heap.size w w' from by
          obtain ⟨h1, v, h2, h3, _⟩ := h; exact ⟨v, h2, h3, h1⟩))
        have P : ∀ (u : World) (v : Value) (b : Nat), Tab9 u → OwnT 35 b u v (L.map tk) → Calls Tryz.prog 10 #[v] u fun e w' => e = .returned (.string (ba (prT none L))) ∧ Below u.heap.size u w' := fun u v b Tu ho => print_toks Tu ho hL hok hsm
        by_cases hp : 255 < (prT none L).length
        · exact back_long T (size_mk _) hp A' P
        · have B : ∀ u, Tab9 u → Calls Tryz.prog 6 #[.string (ba (prT none L))] u fun e w' => ∃ v, e = .returned (.tuple #[v, .int .i64 0]) ∧ OwnT 35 u.heap.size w' v (L.map tk) ∧ Below u.heap.size u w' := fun u Tu => by
            have := lex_short (prT none L) u Tu (by omega)
            rw [lex_print L none hok] at this
            exact this.mono fun e w' ⟨h1, v, h2, h3, _⟩ => ⟨v, h2, h3, h1⟩
          exact back_yes T (by rw [List.length_map]; exact hL) (size_mk _) (by omega) A' P B
      · exact back_no (n := 10) T rfl (A.mono fun e w' ⟨h1, v, h2, h3, h4⟩ => absurd h4 hL)
end Go.Proofs.YtdgnodijmbeajaaGreatDoor
