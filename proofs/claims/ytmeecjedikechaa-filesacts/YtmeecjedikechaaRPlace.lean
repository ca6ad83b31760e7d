/- The reference's Place, plainly. -/
import Derived.Test.YtmeecjedikechaaRAppend
namespace Go.Proofs.Ytmeecjedikechaa
open Go.RowKit Go.Maps
set_option maxRecDepth 100000
set_option linter.unusedVariables false
set_option linter.unusedSimpArgs false
def placeP (nm : ByteArray) (l : List UInt8) (s : RS) (P : List PF) : Int × RS × List PF :=
  if goodB nm = false then (8, s, P) else if (findP nm P 0 < 0 ∧ 16 ≤ P.length) ∨ 1048576 < l.length then (9, s, P) else (0, s, putP ⟨nm, l, l.length⟩ false P)
theorem place_put {K : Nat → Prop} {w w2 : World} {rb : Nat} {s : RS} {P : List PF} (h : RefP K w rb s P) (hl : P.length ≤ 1000) (b2 : Below w.heap.size w w2) {nm : ByteArray} {bv : Value} {l : List UInt8} (hb : Byt.Bts w bv l) (hll : l.length ≤ 1048576) :
    ∃ va vc w3, (Builtin.append_ #[29, 29] 29 #[.slice (some ⟨w2.heap.size, 0, none⟩) 0 0, bv]).run Try.prog (w2.alloc (.cells #[] 5)) = .ok (.slice va l.length vc) w3 ∧
    Calls Try.prog 59 #[ptrOf rb, .agg #[.string nm, .slice va l.length vc, .int .i64 l.length]] w3 fun e w6 => e = .returned (.tuple #[]) ∧ RefP (Nw K w w6) w6 rb s (putP ⟨nm, l, l.length⟩ false P) ∧ w.grownBy w6 (some rb) := by
  obtain ⟨va, vc, w3, run3, b3, t3, l3, ow3⟩ := rcopyB w2 (hb.below b2) (Nat.le_trans hll (by decide))
  have b5 : Below w.heap.size w w3 := b2.trans (b3.mono b2.size)
  refine ⟨va, vc, w3, run3, ?_⟩
  have ho : Hold (Nw K w w3) w3 ⟨nm, va, l.length, vc, (l.length : Int)⟩ ⟨nm, l, l.length⟩ := by
    constructor
    · rfl
    · exact t3
    · rfl
    · rfl
    · exact Nat.le.refl
    · exact hll
    · intro a ha hne
      obtain ⟨x, hx, hlt⟩ := Bts.inside t3 hne
      have e : some a = some x := (show va = some a from ha).symm.trans hx
      cases e
      exact .inr ⟨Nat.le_trans b2.size (l3 a ha hne), hlt⟩
  have Q := rputP (RefP.old (w := w) (h.below b5)) (by omega) ho
  refine Calls.mono Q ?_
  rintro e w6 ⟨he, h1, h2⟩
  exact ⟨he, RefP.later h1 b5.size h2.size, gr_trans (gr_below b5) h2⟩
set_option maxHeartbeats 1000000 in
theorem rplaceP {K : Nat → Prop} {w : World} {rb : Nat} {s : RS} {P : List PF} (h : RefP K w rb s P) (hl : P.length ≤ 1000) (nm : ByteArray) (hn : nm.size ≤ maxLen) {ba : Option Addr} {bc : Nat} {l : List UInt8} (hb : Byt.Bts w (.slice ba l.length bc) l) (hll : l.length ≤ maxLen) :
    Calls Try.prog 33 #[ptrOf rb, .string nm, .slice ba l.length bc] w (Ends K w rb (placeP nm l s P)) := by
  have G : Hid (∀ w2, _) := fun w2 => refGood_any nm w2 hn
  have Fd := rfindP h (by omega) nm
  have HD : Hid (Byt.Bts w (.slice ba l.length bc) l) := hb
  have hll' : (l.length : Int) ≤ 9223372036854775807 := by unfold maxLen at hll; omega
  clear hb hll
  have hR : Hid (RefP K w rb s P) := h
  obtain ⟨L, hW, hA⟩ := h
  obtain ⟨fa, fc, hB, -, -⟩ := hW.slice
  have HC : Hid (∀ w2, Below w.heap.size w w2 → w2.cell? ⟨rb, 0, none⟩ = some (.slice fa P.length fc)) := fun w2 hb => by
    have h2 := hb.block rb (Array.getElem?_eq_some_iff.1 hB).1
    rw [hB] at h2
    rw [← hA.len]
    exact (rbS_cells h2).1.1
  clear hW hB hA hn
  cases hg : goodB nm with
  | false =>
    rw [hg] at G
    have HE : Hid (Ends K w rb (placeP nm l s P) (.returned (.int .i64 8)) w) := by
      refine ⟨by simp [placeP, hg], ?_, gr_below (Below.refl _ _)⟩
      simp only [placeP, hg, if_true]
      exact hR.out.old
    clear hg
    go_enter Try.func33, Try.ntmps33
    go_wp2_with (go_at_call 14; refine (G.out _).mono ?_; rintro e w' ⟨rfl, rfl⟩)
    go_ret
    exact HE.out
  | true =>
    rw [hg] at G
    by_cases hf : findP nm P 0 < 0 ∧ 16 ≤ P.length
    · have HE : Hid (∀ w', Below w.heap.size w w' → Ends K w rb (placeP nm l s P) (.returned (.int .i64 9)) w') := by
        intro w' hb
        refine ⟨by simp [placeP, hg, hf], ?_, gr_below hb⟩
        simp only [placeP, hg, hf, and_self, true_or, if_true, Bool.true_eq_false, if_false]
        exact (hR.out.below hb).old
      obtain ⟨hf1, hf2⟩ := hf
      clear hg
      generalize findP nm P 0 = fi at *
      go_enter Try.func33, Try.ntmps33
      go_wp2_with (first
        | (go_at_call 14; refine (G.out _).mono ?_; rintro e w' ⟨rfl, rfl⟩)
        | (go_at_call 56; refine Fd.mono ?_; rintro e w2 ⟨rfl, hb2⟩; have hc0 := HC.out _ hb2))
      go_ret
      exact HE.out _ hb2
    · by_cases hbig : (1048576 : Int) < (l.length : Int)
      · have HE : Hid (∀ w', Below w.heap.size w w' → Ends K w rb (placeP nm l s P) (.returned (.int .i64 9)) w') := by
          intro w' hb
          have hbig' : 1048576 < l.length := by omega
          refine ⟨by simp [placeP, hg, hbig'], ?_, gr_below hb⟩
          simp only [placeP, hg, hbig', or_true, if_true, Bool.true_eq_false, if_false]
          exact (hR.out.below hb).old
        clear hg
        generalize findP nm P 0 = fi at *
        rcases (show ¬ fi < 0 ∨ (fi < 0 ∧ ¬ 16 ≤ P.length) by omega) with hf1 | ⟨hf1, hf2⟩
        all_goals
          clear hf
          go_enter Try.func33, Try.ntmps33
          go_wp2_with (first
            | (go_at_call 14; refine (G.out _).mono ?_; rintro e w' ⟨rfl, rfl⟩)
            | (go_at_call 56; refine Fd.mono ?_; rintro e w2 ⟨rfl, hb2⟩; have hc0 := HC.out _ hb2))
          go_ret
          exact HE.out _ hb2
      · have HP : Hid (placeP nm l s P = (0, s, putP ⟨nm, l, l.length⟩ false P)) := by
          have hbig' : ¬ 1048576 < l.length := by omega
          show _ = _
          simp only [placeP, hg, hf, hbig', or_self, Bool.true_eq_false, if_false]
        have HLL : Hid (l.length ≤ 1048576) := by show _ ≤ _; omega
        have HX : Hid (P.length ≤ 1000) := hl
        clear hg
        generalize findP nm P 0 = fi at *
        rcases (show ¬ fi < 0 ∨ (fi < 0 ∧ ¬ 16 ≤ P.length) by omega) with hf1 | ⟨hf1, hf2⟩
        all_goals
          clear hf
          go_enter Try.func33, Try.ntmps33
          go_wp2_with (first
            | (go_at_call 14; refine (G.out _).mono ?_; rintro e w' ⟨rfl, rfl⟩)
            | (go_at_call 56; refine Fd.mono ?_; rintro e w2 ⟨rfl, hb2⟩; have hc0 := HC.out _ hb2; obtain ⟨va, vc, w3, run3, put3⟩ := place_put (nm := nm) hR.out HX.out hb2 HD.out HLL.out; have HR3 : Hid _ := run3; have Pt : Hid _ := put3; clear run3 put3 hb2)
            | (at_builtin; refine wpList_appR rfl _ _ 29 rfl _ _ _ _ rfl rfl HR3.out ?_; clear HR3)
            | (go_at_call 59; refine Calls.mono Pt.out ?_; rintro e w6 ⟨rfl, r6, g6⟩; have HR6 : Hid _ := r6; have HG6 : Hid _ := g6; clear r6 g6 Pt))
          go_ret
          unfold Ends
          rw [HP.out]
          exact ⟨rfl, HR6.out, HG6.out⟩
end Go.Proofs.Ytmeecjedikechaa
