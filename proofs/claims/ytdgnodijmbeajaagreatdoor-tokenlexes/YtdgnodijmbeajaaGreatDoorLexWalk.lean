/- The walk of the law TokenLexes. -/
import Derived.Test.YtdgnodijmbeajaaGreatDoorTLives
import Derived.Test.YtdgnodijmbeajaaGreatDoorTSame
import Derived.Test.YtdgnodijmbeajaaGreatDoorRLex
namespace Go.Proofs.YtdgnodijmbeajaaGreatDoor
open Go.RowKit
set_option maxRecDepth 100000
set_option linter.unusedVariables false
set_option linter.unusedSimpArgs false
set_option maxHeartbeats 4000000 in
theorem lexes_core {w : World} {S : ByteArray} {n : Int} {L : List TT} (T : Tab9 w) (hL : L.length ≤ 255)
    (A : Calls Tryz.prog 6 #[.string S] w fun e w' => ∃ v, e = .returned (.tuple #[v, .int .i64 n]) ∧ OwnT 35 w.heap.size w' v L ∧ Below w.heap.size w w')
    (B : ∀ u, Calls Tryz.prog 7 #[.string S] u fun e w' => ∃ v, e = .returned (.tuple #[v, .int .i64 n]) ∧ OwnT 46 u.heap.size w' v L ∧ Below u.heap.size u w') :
    Calls Tryz.prog 3 #[.string S] w fun e w' => e = .returned (.bool true) ∧ Below w.heap.size w w' := by
  have HT : Hid (Tab9 w) := T
  clear T
  go_enter Tryz.func3, Tryz.ntmps3
  go_wp2_with (first
    | (go_at_call 6; refine A.mono ?_; rintro e w1 ⟨v1, rfl, h1, hb⟩; have HO1 : Hid (OwnT 35 w.heap.size w1 v1 L) := h1; have HB1 : Hid (Below w.heap.size w w1) := hb; clear h1 hb A)
    | (go_at_call 7; refine (B _).mono ?_; rintro e w2 ⟨v2, rfl, h2, hb⟩; have HO2 : Hid (OwnT 46 w1.heap.size w2 v2 L) := h2; have HO3 : Hid (OwnT 35 w.heap.size w2 v1 L) := HO1.out.below hb; have HB2 : Hid (Below w.heap.size w w2) := bel_step HB1.out hb; clear h2 hb B)
    | (go_at_call 8; refine (same_yes HO3.out HO2.out hL).mono ?_; rintro e w3 ⟨rfl, hb⟩; have HB3 : Hid (Below w.heap.size w w3) := bel_step HB2.out hb; clear hb)
    | (go_at_call 9; refine (lives_any _ (HT.out.below HB3.out)).mono ?_; rintro e w4 ⟨rfl, hb⟩; have HB4 : Hid (Below w.heap.size w w4) := bel_step HB3.out hb; clear hb))
  go_ret
  exact ⟨rfl, HB4.out⟩
theorem lexes_walk (s : ByteArray) (w : World) (T : Tab9 w) : Calls Tryz.prog 3 #[.string s] w fun e w' => e = .returned (.bool true) ∧ Below w.heap.size w w' := by
  obtain ⟨l, rfl⟩ : ∃ l, s = ba l := ⟨s.data.toList, (mk_list s).symm⟩
  have A := lex_any l w T
  have B := fun u => rlex_any l u
  unfold LexA at A
  unfold LexB at B
  by_cases h : 255 < l.length
  · simp only [if_pos h] at A B
    exact lexes_core (n := 3) (L := []) T (by simp) (A.mono fun e w' ⟨h1, h2⟩ => ⟨_, h1, OwnT.nil _ _ _, by rw [h2]; exact Below.refl _ _⟩) (fun u => (B u).mono fun e w' ⟨h1, h2⟩ => ⟨_, h1, OwnT.nil _ _ _, by rw [h2]; exact Below.refl _ _⟩)
  · simp only [if_neg h] at A B
    cases hl : lexF l with
    | none =>
      rw [hl] at A B
      exact lexes_core (n := 10) (L := []) T (by simp) (A.mono fun e w' ⟨h1, h2⟩ => ⟨_, h2, OwnT.nil _ _ _, h1⟩) (fun u => (B u).mono fun e w' ⟨h1, h2⟩ => ⟨_, h2, OwnT.nil _ _ _, h1⟩)
    | some L =>
      rw [hl] at A B
      by_cases hL : L.length ≤ 255
      · exact lexes_core (n := 0) (L := L.map tk) T (by rw [List.length_map]; exact hL) (A.mono fun e w' ⟨h1, v, h2, h3, _⟩ => ⟨v, h2, h3, h1⟩) (fun u => (B u).mono fun e w' ⟨h1, v, h2, h3, _⟩ => ⟨v, h2, h3, h1⟩)
      · exact lexes_core (n := 0) (L := []) T (by simp) (A.mono fun e w' ⟨h1, v, h2, h3, h4⟩ => absurd h4 hL) (fun u => (B u).mono fun e w' ⟨h1, v, h2, h3, h4⟩ => absurd h4 hL)
end Go.Proofs.YtdgnodijmbeajaaGreatDoor
