/- The reference's Create, plainly. -/
import Derived.Test.YtmeecjedikechaaROps
namespace Go.Proofs.Ytmeecjedikechaa
open Go.RowKit Go.Maps
set_option maxRecDepth 100000
set_option linter.unusedVariables false
set_option linter.unusedSimpArgs false
def createP (nm : ByteArray) (s : RS) (P : List PF) : Int × RS × List PF :=
  if s.off = true then (13, s, P) else if goodB nm = false then (8, s, P) else if findP nm P 0 < 0 ∧ 16 ≤ P.length then (9, s, P) else opP s P (putP ⟨nm, [], 0⟩ false)
set_option maxHeartbeats 2000000 in
theorem rcreateP {K : Nat → Prop} {w : World} {rb : Nat} {s : RS} {P : List PF} (h : RefP K w rb s P) (hl : P.length ≤ 100000) (h0 : 0 ≤ s.cut) (hmx : s.cut ≤ 9223372036854775807) (k0 : 0 ≤ s.keep) (kmx : s.keep ≤ 9223372036854775807) (nm : ByteArray) (hn : nm.size ≤ maxLen) :
    Calls Try.prog 30 #[ptrOf rb, .string nm] w (Ends K w rb (createP nm s P)) := by
  have G := refGood_any nm w hn
  have Fd := rfindP h hl nm
  have hR : Hid (RefP K w rb s P) := h
  obtain ⟨L, hW, hA⟩ := h
  obtain ⟨fa, fc, hB, -, -⟩ := hW.slice
  obtain ⟨⟨-, c1, -⟩, -⟩ := rbS_cells hB
  have HX : Hid (0 ≤ s.cut ∧ s.cut ≤ 9223372036854775807 ∧ 0 ≤ s.keep ∧ s.keep ≤ 9223372036854775807 ∧ P.length ≤ 100000) := ⟨h0, hmx, k0, kmx, hl⟩
  have HC : Hid (∀ w2, Below w.heap.size w w2 → w2.cell? ⟨rb, 0, none⟩ = some (.slice fa P.length fc)) := fun w2 hb => by
    have h2 := hb.block rb (Array.getElem?_eq_some_iff.1 hB).1
    rw [hB] at h2
    rw [← hA.len]
    exact (rbS_cells h2).1.1
  clear hA hW hB hn h0 hmx k0 kmx hl
  cases ho : s.off with
  | true =>
    have HE : Hid (Ends K w rb (createP nm s P) (.returned (.int .i64 13)) w) := by
      refine ⟨by simp [createP, ho], ?_, gr_below (Below.refl _ _)⟩
      simp only [createP, ho, if_true]
      exact hR.out.old
    rw [ho] at c1
    clear ho
    go_enter Try.func30, Try.ntmps30
    go_wp2
    go_ret
    exact HE.out
  | false =>
    rw [ho] at c1
    cases hg : goodB nm with
    | false =>
      rw [hg] at G
      have HE : Hid (Ends K w rb (createP nm s P) (.returned (.int .i64 8)) w) := by
        refine ⟨by simp [createP, ho, hg], ?_, gr_below (Below.refl _ _)⟩
        simp only [createP, ho, hg, if_true, Bool.false_eq_true, if_false]
        exact hR.out.old
      clear ho hg
      go_enter Try.func30, Try.ntmps30
      go_wp2_with (go_at_call 14; refine G.mono ?_; rintro e w' ⟨rfl, rfl⟩)
      go_ret
      exact HE.out
    | true =>
      rw [hg] at G
      by_cases hf : findP nm P 0 < 0 ∧ 16 ≤ P.length
      · have HE : ∀ w', Below w.heap.size w w' → Hid (Ends K w rb (createP nm s P) (.returned (.int .i64 9)) w') := by
          intro w' hb
          refine ⟨by simp [createP, ho, hg, hf], ?_, gr_below hb⟩
          simp only [createP, ho, hg, hf, if_true, Bool.true_eq_false, Bool.false_eq_true, if_false]
          exact (hR.out.below hb).old
        obtain ⟨hf1, hf2⟩ := hf
        clear ho hg
        generalize findP nm P 0 = fi at *
        go_enter Try.func30, Try.ntmps30
        go_wp2_with (first
          | (go_at_call 14; refine G.mono ?_; rintro e w' ⟨rfl, rfl⟩)
          | (go_at_call 56; refine Fd.mono ?_; rintro e w2 ⟨rfl, hb2⟩; have hc0 := HC.out _ hb2))
        go_ret
        exact (HE _ hb2).out
      · have HP : Hid (createP nm s P = opP s P (putP ⟨nm, [], 0⟩ false)) := by
          show _ = _
          simp only [createP, ho, hg, hf, if_true, Bool.true_eq_false, Bool.false_eq_true, if_false]
        clear ho hg
        generalize findP nm P 0 = fi at *
        rcases (show ¬ fi < 0 ∨ (fi < 0 ∧ ¬ 16 ≤ P.length) by omega) with hf1 | ⟨hf1, hf2⟩
        all_goals clear hf
        · skip
          by_cases hc : s.cut = 1
          · have hcd : decide (s.cut = 1) = true := by simpa using hc
            go_enter Try.func30, Try.ntmps30
            go_wp2_with (first
              | (go_at_call 14; refine G.mono ?_; rintro e w' ⟨rfl, rfl⟩)
              | (go_at_call 56; refine Fd.mono ?_; rintro e w2 ⟨rfl, hb2⟩; have hc0 := HC.out _ hb2; have HB2 : Hid _ := hb2; clear hb2)
              | (go_at_call 57; refine (rcut_any (hR.out.below HB2.out) HX.out.1 HX.out.2.1).mono ?_; rintro e w3 ⟨rfl, r3, g3⟩; have HR3 : Hid _ := r3; have HG3 : Hid _ := g3; clear r3 g3; rw [hcd])
              | (go_at_call 58; refine (rfail_any HR3.out HX.out.2.2.2.2 HX.out.2.2.1 HX.out.2.2.2.1).mono ?_; rintro e w4 ⟨rfl, r4, g4⟩; have HR4 : Hid _ := r4; have HG4 : Hid _ := g4; clear r4 g4))
            go_ret
            unfold Ends
            rw [HP.out, opP, if_pos hc]
            exact ⟨rfl, RefP.new HR4.out (Nat.le_trans HB2.out.size HG3.out.size), gr_trans (gr_trans (gr_below HB2.out) HG3.out) HG4.out⟩
          · have hcd : decide (s.cut = 1) = false := by simpa using hc
            go_enter Try.func30, Try.ntmps30
            go_wp2_with (first
              | (go_at_call 14; refine G.mono ?_; rintro e w' ⟨rfl, rfl⟩)
              | (go_at_call 56; refine Fd.mono ?_; rintro e w2 ⟨rfl, hb2⟩; have hc0 := HC.out _ hb2; have HB2 : Hid _ := hb2; clear hb2)
              | (go_at_call 57; refine (rcut_any (hR.out.below HB2.out) HX.out.1 HX.out.2.1).mono ?_; rintro e w3 ⟨rfl, r3, g3⟩; have HR3 : Hid _ := r3; have HG3 : Hid _ := g3; clear r3 g3; rw [hcd])
              | (go_at_call 59; refine (rputP (p := ⟨nm, [], 0⟩) HR3.out HX.out.2.2.2.2 ⟨rfl, .inl ⟨rfl, rfl⟩, rfl, rfl, Nat.le_refl _, Nat.zero_le _, fun a ha => by cases ha⟩).mono ?_; rintro e w4 ⟨rfl, r4, g4⟩; have HR4 : Hid _ := r4; have HG4 : Hid _ := g4; clear r4 g4))
            go_ret
            unfold Ends
            rw [HP.out, opP, if_neg hc]
            exact ⟨rfl, RefP.since HR4.out (Nat.le_trans HB2.out.size HG3.out.size), gr_trans (gr_trans (gr_below HB2.out) HG3.out) HG4.out⟩
        · skip
          by_cases hc : s.cut = 1
          · have hcd : decide (s.cut = 1) = true := by simpa using hc
            go_enter Try.func30, Try.ntmps30
            go_wp2_with (first
              | (go_at_call 14; refine G.mono ?_; rintro e w' ⟨rfl, rfl⟩)
              | (go_at_call 56; refine Fd.mono ?_; rintro e w2 ⟨rfl, hb2⟩; have hc0 := HC.out _ hb2; have HB2 : Hid _ := hb2; clear hb2)
              | (go_at_call 57; refine (rcut_any (hR.out.below HB2.out) HX.out.1 HX.out.2.1).mono ?_; rintro e w3 ⟨rfl, r3, g3⟩; have HR3 : Hid _ := r3; have HG3 : Hid _ := g3; clear r3 g3; rw [hcd])
              | (go_at_call 58; refine (rfail_any HR3.out HX.out.2.2.2.2 HX.out.2.2.1 HX.out.2.2.2.1).mono ?_; rintro e w4 ⟨rfl, r4, g4⟩; have HR4 : Hid _ := r4; have HG4 : Hid _ := g4; clear r4 g4))
            go_ret
            unfold Ends
            rw [HP.out, opP, if_pos hc]
            exact ⟨rfl, RefP.new HR4.out (Nat.le_trans HB2.out.size HG3.out.size), gr_trans (gr_trans (gr_below HB2.out) HG3.out) HG4.out⟩
          · have hcd : decide (s.cut = 1) = false := by simpa using hc
            go_enter Try.func30, Try.ntmps30
            go_wp2_with (first
              | (go_at_call 14; refine G.mono ?_; rintro e w' ⟨rfl, rfl⟩)
              | (go_at_call 56; refine Fd.mono ?_; rintro e w2 ⟨rfl, hb2⟩; have hc0 := HC.out _ hb2; have HB2 : Hid _ := hb2; clear hb2)
              | (go_at_call 57; refine (rcut_any (hR.out.below HB2.out) HX.out.1 HX.out.2.1).mono ?_; rintro e w3 ⟨rfl, r3, g3⟩; have HR3 : Hid _ := r3; have HG3 : Hid _ := g3; clear r3 g3; rw [hcd])
              | (go_at_call 59; refine (rputP (p := ⟨nm, [], 0⟩) HR3.out HX.out.2.2.2.2 ⟨rfl, .inl ⟨rfl, rfl⟩, rfl, rfl, Nat.le_refl _, Nat.zero_le _, fun a ha => by cases ha⟩).mono ?_; rintro e w4 ⟨rfl, r4, g4⟩; have HR4 : Hid _ := r4; have HG4 : Hid _ := g4; clear r4 g4))
            go_ret
            unfold Ends
            rw [HP.out, opP, if_neg hc]
            exact ⟨rfl, RefP.since HR4.out (Nat.le_trans HB2.out.size HG3.out.size), gr_trans (gr_trans (gr_below HB2.out) HG3.out) HG4.out⟩
end Go.Proofs.Ytmeecjedikechaa
