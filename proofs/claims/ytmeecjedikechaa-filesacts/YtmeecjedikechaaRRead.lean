/- The reference's Read, plainly. -/
import Derived.Test.YtmeecjedikechaaRSynced
namespace Go.Proofs.Ytmeecjedikechaa
open Go.RowKit Go.Maps
set_option maxRecDepth 100000
set_option linter.unusedVariables false
set_option linter.unusedSimpArgs false
def readP (nm : ByteArray) (s : RS) (P : List PF) : List UInt8 × Int :=
  if s.off = true then ([], 13) else if goodB nm = false then ([], 8) else match lookP nm P with
    | none => ([], 6)
    | some p => (p.data, 0)
/-- The end of a call of the reference's that hands bytes out, and changes nothing. -/
def EndsB (K : Nat → Prop) (w : World) (rb : Nat) (s : RS) (P : List PF) (r : List UInt8 × Int) (e : Ending) (w' : World) : Prop :=
  ∃ v, e = .returned (.tuple #[v, .int .i64 r.2]) ∧ Byt.Own w.heap.size w' v r.1 ∧ Below w.heap.size w w'
set_option maxHeartbeats 1000000 in
theorem rreadP {K : Nat → Prop} {w : World} {rb : Nat} {s : RS} {P : List PF} (h : RefP K w rb s P) (hl : P.length ≤ 100000) (h0 : 0 ≤ s.cut) (hmx : s.cut ≤ 9223372036854775807) (k0 : 0 ≤ s.keep) (kmx : s.keep ≤ 9223372036854775807) (nm : ByteArray) (hn : nm.size ≤ maxLen) :
    Calls Try.prog 39 #[ptrOf rb, .string nm] w (EndsB K w rb s P (readP nm s P)) := by
  have G : Hid (∀ w2, _) := fun w2 => refGood_any nm w2 hn
  have Fd := rfindP h hl nm
  have hR : Hid (RefP K w rb s P) := h
  obtain ⟨L, hW, hA⟩ := h
  obtain ⟨fa, fc, hB, -, -⟩ := hW.slice
  have HC : Hid (∀ w2, Below w.heap.size w w2 → w2.cell? ⟨rb, 1, none⟩ = some (.bool s.off)) := fun w2 hb => by
    have h2 := hb.block rb (Array.getElem?_eq_some_iff.1 hB).1
    rw [hB] at h2
    exact (rbS_cells h2).1.2.1
  have HX : Hid (0 ≤ s.cut ∧ s.cut ≤ 9223372036854775807 ∧ 0 ≤ s.keep ∧ s.keep ≤ 9223372036854775807 ∧ P.length ≤ 100000) := ⟨h0, hmx, k0, kmx, hl⟩
  clear hW hB hA hn h0 hmx k0 kmx hl
  cases ho : s.off with
  | true =>
    have HE : Hid (∀ w', Below w.heap.size w w' → EndsB K w rb s P (readP nm s P) (.returned (.tuple #[.slice none 0 0, .int .i64 13])) w') := by
      intro w' hb
      refine ⟨.slice none 0 0, by simp [readP, ho], by simp only [readP, ho, if_true, Bool.true_eq_false, Bool.false_eq_true, if_false]; exact Byt.Own.nil _ _, hb⟩
    rw [ho] at HC
    clear ho
    go_enter Try.func39, Try.ntmps39
    go_wp2_with (go_at_call 56; refine Fd.mono ?_; rintro e w2 ⟨rfl, hb2⟩; have hc1 := HC.out _ hb2)
    go_ret2
    exact HE.out _ hb2
  | false =>
    rw [ho] at HC
    cases hg : goodB nm with
    | false =>
      rw [hg] at G
      have HE : Hid (∀ w', Below w.heap.size w w' → EndsB K w rb s P (readP nm s P) (.returned (.tuple #[.slice none 0 0, .int .i64 8])) w') := by
        intro w' hb
        refine ⟨.slice none 0 0, by simp [readP, ho, hg], by simp only [readP, ho, hg, if_true, Bool.true_eq_false, Bool.false_eq_true, if_false]; exact Byt.Own.nil _ _, hb⟩
      clear ho hg
      go_enter Try.func39, Try.ntmps39
      go_wp2_with (first
        | (go_at_call 56; refine Fd.mono ?_; rintro e w2 ⟨rfl, hb2⟩; have hc1 := HC.out _ hb2)
        | (go_at_call 14; refine (G.out _).mono ?_; rintro e w' ⟨rfl, rfl⟩))
      go_ret2
      exact HE.out _ hb2
    | true =>
      rw [hg] at G
      by_cases hf : findP nm P 0 < 0
      · have HE : Hid (∀ w', Below w.heap.size w w' → EndsB K w rb s P (readP nm s P) (.returned (.tuple #[.slice none 0 0, .int .i64 6])) w') := by
          intro w' hb
          have := find_no hf
          refine ⟨.slice none 0 0, by simp [readP, ho, hg, this], by simp only [readP, ho, hg, this, if_true, Bool.true_eq_false, Bool.false_eq_true, if_false]; exact Byt.Own.nil _ _, hb⟩
        clear ho hg
        generalize findP nm P 0 = fi at *
        go_enter Try.func39, Try.ntmps39
        go_wp2_with (first
          | (go_at_call 56; refine Fd.mono ?_; rintro e w2 ⟨rfl, hb2⟩; have hc1 := HC.out _ hb2)
          | (go_at_call 14; refine (G.out _).mono ?_; rintro e w' ⟨rfl, rfl⟩))
        go_ret2
        exact HE.out _ hb2
      · obtain ⟨k, p, hfk, hkp, hlk, hpn⟩ := find_at hf
        have HP : Hid (readP nm s P = (p.data, (0 : Int))) := by
          show _ = _
          simp only [readP, ho, hg, hlk, if_true, Bool.true_eq_false, Bool.false_eq_true, if_false]
        have hkl : k < P.length := (List.getElem?_eq_some_iff.1 hkp).1
        have HK : Hid (P[k]? = some p) := hkp
        rw [hfk] at Fd
        clear ho hg hf hfk hlk hpn hkp
        go_enter Try.func39, Try.ntmps39
        have hlP : P.length ≤ 100000 := HX.out.2.2.2.2
        go_wp2_with (first
          | (go_at_call 14; refine (G.out _).mono ?_; rintro e w' ⟨rfl, rfl⟩)
          | (go_at_call 56; refine Fd.mono ?_; rintro e w2 ⟨rfl, hb2⟩; have hc1 := HC.out _ hb2; obtain ⟨a', fc', ta, tc, c3, c4, c5, ld3, ho3⟩ := RefP.file2 (RefP.below hR.out hb2) HK.out; obtain ⟨va, vc, w3, run3, b3, -, -, t3⟩ := rcopyB w2 ho3.bts (Nat.le_trans ho3.mx (by decide)); have c3' := (cell_alloc c3 (.cells #[] 5)); have c4' := (cell_alloc c4 (.cells #[] 5)); have HR3 : Hid _ := run3; have HB3 : Hid _ := b3; have HT3 : Hid _ := t3; have HB2 : Hid _ := hb2; clear hb2 ho3 ld3 c5 run3 b3 t3)
          | (at_builtin; refine wpList_appR rfl _ _ 29 rfl _ _ _ _ rfl rfl HR3.out ?_))
        go_ret2
        unfold EndsB
        rw [HP.out]
        have hb3 := HB2.out.trans (Below.mono HB3.out HB2.out.size)
        exact ⟨_, rfl, own_low HT3.out HB2.out.size, hb3⟩
end Go.Proofs.Ytmeecjedikechaa
