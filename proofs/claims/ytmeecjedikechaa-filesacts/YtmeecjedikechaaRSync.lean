import Derived.Test.YtmeecjedikechaaROps
/- The reference's Sync, plainly. -/
namespace Go.Proofs.Ytmeecjedikechaa
open Go.RowKit Go.Maps
set_option maxRecDepth 100000
set_option linter.unusedVariables false
set_option linter.unusedSimpArgs false
def lookP (nm : ByteArray) (P : List PF) : Option PF := P.find? fun t => decide (t.nm = nm)
theorem find_look (nm : ByteArray) : ∀ (P : List PF) (i : Int), (findP nm P i = -1 ∧ lookP nm P = none) ∨ ∃ (k : Nat) (p : PF), findP nm P i = i + k ∧ P[k]? = some p ∧ lookP nm P = some p ∧ p.nm = nm
  | [], i => .inl ⟨rfl, rfl⟩
  | t :: P, i => by
    by_cases h : t.nm = nm
    · exact .inr ⟨0, t, by simp [findP, h], rfl, by simp [lookP, h], h⟩
    · rcases find_look nm P (i + 1) with ⟨h1, h2⟩ | ⟨k, p, h1, h2, h3, h4⟩
      · exact .inl ⟨by simp [findP, h, h1], by simpa [lookP, h] using h2⟩
      · exact .inr ⟨k + 1, p, by simp [findP, h, h1]; omega, by simpa using h2, by simpa [lookP, h] using h3, h4⟩
theorem find_at {nm : ByteArray} {P : List PF} (h : ¬ findP nm P 0 < 0) : ∃ (k : Nat) (p : PF), findP nm P 0 = k ∧ P[k]? = some p ∧ lookP nm P = some p ∧ p.nm = nm := by
  rcases find_look nm P 0 with ⟨h1, h2⟩ | ⟨k, p, h1, h2⟩
  · omega
  · exact ⟨k, p, by omega, h2⟩
theorem find_no {nm : ByteArray} {P : List PF} (h : findP nm P 0 < 0) : lookP nm P = none := by
  rcases find_look nm P 0 with ⟨h1, h2⟩ | ⟨k, p, h1, h2⟩
  · exact h2
  · omega
/-- A file of the reference's, as it lies. -/
theorem RefP.file {K : Nat → Prop} {w : World} {rb : Nat} {s : RS} {P : List PF} (h : RefP K w rb s P) {k : Nat} {p : PF} (hk : P[k]? = some p) :
    ∃ a' fc ta tc, w.cell? ⟨rb, 0, none⟩ = some (.slice (some a') P.length fc) ∧ (∀ wr, Below w.heap.size w wr → (Instr.loadAt 70 (.pointer (some (a'.add (k * 3))))).run Try.prog wr = .ok (.agg #[.string p.nm, .slice ta p.data.length tc, .int .i64 p.sy]) wr) ∧ Hold K w ⟨p.nm, ta, p.data.length, tc, p.sy⟩ p := by
  obtain ⟨L, hW, hA⟩ := h
  obtain ⟨fa, fc, hB, hF, -⟩ := hW.slice
  have hl := hA.len
  obtain ⟨hkP, hp⟩ := List.getElem?_eq_some_iff.1 hk
  have hkL : k < L.length := by omega
  obtain ⟨_, hH⟩ := hA.get k hkL
  obtain ⟨a', rfl, -⟩ := hF.load (Below.refl _ _) hkL
  rw [hp] at hH
  obtain ⟨⟨c0, -⟩, -⟩ := rbS_cells hB
  rw [hl] at c0
  have e : L[k] = ⟨p.nm, L[k].ba, p.data.length, L[k].bc, p.sy⟩ := by
    have h1 := hH.nm; have h2 := hH.bn; have h3 := hH.sy
    cases hx : L[k] with
    | mk a b c d f => rw [hx] at h1 h2 h3; simp only at h1 h2 h3; simp [h1, h2, h3]
  refine ⟨a', fc, L[k].ba, L[k].bc, c0, fun wr hb => ?_, e ▸ hH⟩
  obtain ⟨a2, e2, hr⟩ := hF.load hb hkL
  cases e2
  rw [hr, hH.nm, hH.bn, hH.sy]
end Go.Proofs.Ytmeecjedikechaa

/- The reference's Sync, plainly. -/
namespace Go.Proofs.Ytmeecjedikechaa
open Go.RowKit Go.Maps
set_option maxRecDepth 100000
set_option linter.unusedVariables false
set_option linter.unusedSimpArgs false
theorem put_on {K : Nat → Prop} {w : World} {rb : Nat} {s : RS} {P : List PF} (h : RefP K w rb s P) (hl : P.length ≤ 100000) {fn : ByteArray} {fa : Option Addr} {fb fc : Nat} {fs : Int} {p : PF} (ht : Hold K w ⟨fn, fa, fb, fc, fs⟩ p) (o : Obj) :
    Calls Try.prog 59 #[ptrOf rb, .agg #[.string fn, .slice fa fb fc, .int .i64 fs]] (w.alloc o) fun e w' => e = .returned (.tuple #[]) ∧ RefP (Nw K w w') w' rb s (putP p false P) ∧ w.grownBy w' (some rb) := by
  have hb : Below w.heap.size w (w.alloc o) := (Below.refl _ _).alloc (Nat.le_refl _) _
  have hk : RefP K (w.alloc o) rb s P := h.below hb
  have hm : Hold K (w.alloc o) ⟨fn, fa, fb, fc, fs⟩ p := ht.below hb
  have hs := hb.size
  have hg : w.grownBy (w.alloc o) (some rb) := gr_below hb
  generalize w.alloc o = w1 at *
  have Q := rputP hk hl hm
  clear hk hm h ht hb
  refine Calls.mono Q ?_
  rintro e w' ⟨he, h1, h2⟩
  refine ⟨he, ?_, gr_trans hg h2⟩
  exact RefP.since h1 hs
theorem sync_put {K : Nat → Prop} {w : World} {rb : Nat} {s : RS} {P : List PF} (h : RefP K w rb s P) (hl : P.length ≤ 100000) {ta : Option Addr} {tc : Nat} {p : PF} (ho : Hold K w ⟨p.nm, ta, p.data.length, tc, p.sy⟩ p) :
    Calls Try.prog 59 #[ptrOf rb, .agg #[.string p.nm, .slice ta p.data.length tc, .int .i64 p.data.length]] (w.alloc (.cells #[.string p.nm, .slice ta p.data.length tc, .int .i64 p.data.length] 70)) fun e w' => e = .returned (.tuple #[]) ∧ RefP (Nw K w w') w' rb s (putP ⟨p.nm, p.data, p.data.length⟩ false P) ∧ w.grownBy w' (some rb) := by
  have hm : Hold K w ⟨p.nm, ta, p.data.length, tc, (p.data.length : Int)⟩ ⟨p.nm, p.data, p.data.length⟩ := by
    obtain ⟨h1, h2, h3, h4, h5, h6, h7⟩ := ho
    constructor
    · rfl
    · exact h2
    · rfl
    · rfl
    · exact Nat.le.refl
    · exact h6
    · exact h7
  exact put_on h hl hm _
def syncP (nm : ByteArray) (s : RS) (P : List PF) : Int × RS × List PF :=
  if s.off = true then (13, s, P) else if goodB nm = false then (8, s, P) else match lookP nm P with
    | none => (6, s, P)
    | some p => opP s P (putP ⟨p.nm, p.data, p.data.length⟩ false)
set_option maxHeartbeats 1000000 in
theorem rsyncP {K : Nat → Prop} {w : World} {rb : Nat} {s : RS} {P : List PF} (h : RefP K w rb s P) (hl : P.length ≤ 100000) (h0 : 0 ≤ s.cut) (hmx : s.cut ≤ 9223372036854775807) (k0 : 0 ≤ s.keep) (kmx : s.keep ≤ 9223372036854775807) (nm : ByteArray) (hn : nm.size ≤ maxLen) :
    Calls Try.prog 35 #[ptrOf rb, .string nm] w (Ends K w rb (syncP nm s P)) := by
  have G : Hid (∀ w2, _) := fun w2 => refGood_any nm w2 hn
  have Fd := rfindP h hl nm
  have hR : Hid (RefP K w rb s P) := h
  obtain ⟨L, hW, hA⟩ := h
  obtain ⟨fa, fc, hB, -, -⟩ := hW.slice
  have HC : Hid (∀ w2, Below w.heap.size w w2 → w2.cell? ⟨rb, 1, none⟩ = some (.bool s.off)) := fun w2 hb => by
    have h2 := hb.block rb (Array.getElem?_eq_some_iff.1 hB).1
    rw [hB] at h2
    exact (rbS_cells h2).1.2.1
  have HX : Hid (0 ≤ s.cut ∧ s.cut ≤ 9223372036854775807 ∧ 0 ≤ s.keep ∧ s.keep ≤ 9223372036854775807 ∧ P.length ≤ 100000) := ⟨h0, hmx, k0, kmx, hl⟩
  clear hW hB hA hn h0 hmx k0 kmx hl
  cases ho : s.off with
  | true =>
    have HE : Hid (∀ w', Below w.heap.size w w' → Ends K w rb (syncP nm s P) (.returned (.int .i64 13)) w') := by
      intro w' hb
      refine ⟨by simp [syncP, ho], ?_, gr_below hb⟩
      simp only [syncP, ho, if_true]
      exact (hR.out.below hb).old
    rw [ho] at HC
    clear ho
    go_enter Try.func35, Try.ntmps35
    go_wp2_with (go_at_call 56; refine Fd.mono ?_; rintro e w2 ⟨rfl, hb2⟩; have hc1 := HC.out _ hb2)
    go_ret
    exact HE.out _ hb2
  | false =>
    rw [ho] at HC
    cases hg : goodB nm with
    | false =>
      rw [hg] at G
      have HE : Hid (∀ w', Below w.heap.size w w' → Ends K w rb (syncP nm s P) (.returned (.int .i64 8)) w') := by
        intro w' hb
        refine ⟨by simp [syncP, ho, hg], ?_, gr_below hb⟩
        simp only [syncP, ho, hg, if_true, Bool.false_eq_true, if_false]
        exact (hR.out.below hb).old
      clear ho hg
      go_enter Try.func35, Try.ntmps35
      go_wp2_with (first
        | (go_at_call 56; refine Fd.mono ?_; rintro e w2 ⟨rfl, hb2⟩; have hc1 := HC.out _ hb2)
        | (go_at_call 14; refine (G.out _).mono ?_; rintro e w' ⟨rfl, rfl⟩))
      go_ret
      exact HE.out _ hb2
    | true =>
      rw [hg] at G
      by_cases hf : findP nm P 0 < 0
      · have HE : Hid (∀ w', Below w.heap.size w w' → Ends K w rb (syncP nm s P) (.returned (.int .i64 6)) w') := by
          intro w' hb
          have := find_no hf
          refine ⟨by simp [syncP, ho, hg, this], ?_, gr_below hb⟩
          simp only [syncP, ho, hg, this, if_true, Bool.true_eq_false, Bool.false_eq_true, if_false]
          exact (hR.out.below hb).old
        clear ho hg
        generalize findP nm P 0 = fi at *
        go_enter Try.func35, Try.ntmps35
        go_wp2_with (first
          | (go_at_call 56; refine Fd.mono ?_; rintro e w2 ⟨rfl, hb2⟩; have hc1 := HC.out _ hb2)
          | (go_at_call 14; refine (G.out _).mono ?_; rintro e w' ⟨rfl, rfl⟩))
        go_ret
        exact HE.out _ hb2
      · obtain ⟨k, p, hfk, hkp, hlk, hpn⟩ := find_at hf
        have HP : Hid (syncP nm s P = opP s P (putP ⟨p.nm, p.data, p.data.length⟩ false)) := by
          show _ = _
          simp only [syncP, ho, hg, hlk, if_true, Bool.true_eq_false, Bool.false_eq_true, if_false]
        have hkl : k < P.length := (List.getElem?_eq_some_iff.1 hkp).1
        have HK : Hid (P[k]? = some p) := hkp
        rw [hfk] at Fd
        clear ho hg hf hfk hlk hpn hkp
        by_cases hc : s.cut = 1
        · have hcd : decide (s.cut = 1) = true := by simpa using hc
          go_enter Try.func35, Try.ntmps35
          go_wp2_with (first
            | (go_at_call 14; refine (G.out _).mono ?_; rintro e w' ⟨rfl, rfl⟩)
            | (go_at_call 56; refine Fd.mono ?_; rintro e w2 ⟨rfl, hb2⟩; have hc1 := HC.out _ hb2; have HB2 : Hid _ := hb2; clear hb2)
            | (go_at_call 57; refine (rcut_any (hR.out.below HB2.out) HX.out.1 HX.out.2.1).mono ?_; rintro e w3 ⟨rfl, r3, g3⟩; have HR3 : Hid _ := r3; have HG3 : Hid _ := g3; clear r3 g3; rw [hcd])
            | (go_at_call 58; refine (rfail_any HR3.out HX.out.2.2.2.2 HX.out.2.2.1 HX.out.2.2.2.1).mono ?_; rintro e w4 ⟨rfl, r4, g4⟩; have HR4 : Hid _ := r4; have HG4 : Hid _ := g4; clear r4 g4))
          go_ret
          unfold Ends
          rw [HP.out, opP, if_pos hc]
          exact ⟨rfl, RefP.new HR4.out (Nat.le_trans HB2.out.size HG3.out.size), gr_trans (gr_trans (gr_below HB2.out) HG3.out) HG4.out⟩
        · have hcd : decide (s.cut = 1) = false := by simpa using hc
          have hlP : P.length ≤ 100000 := HX.out.2.2.2.2
          go_enter Try.func35, Try.ntmps35
          go_wp2_with (first
            | (go_at_call 14; refine (G.out _).mono ?_; rintro e w' ⟨rfl, rfl⟩)
            | (go_at_call 56; refine Fd.mono ?_; rintro e w2 ⟨rfl, hb2⟩; have hc1 := HC.out _ hb2; have HB2 : Hid _ := hb2; clear hb2)
            | (go_at_call 57; refine (rcut_any (hR.out.below HB2.out) HX.out.1 HX.out.2.1).mono ?_; rintro e w3 ⟨rfl, r3, g3⟩; obtain ⟨a', fc', ta, tc, c3, ld3, ho3⟩ := RefP.file r3 HK.out; have HR3 : Hid _ := r3; have HG3 : Hid _ := g3; have HL3 : Hid _ := ld3 w3 (Below.refl _ _); have Pt : Hid _ := sync_put HR3.out HX.out.2.2.2.2 ho3; clear r3 g3 ld3 ho3; rw [hcd])
            | (refine wpList_loadR rfl 70 _ rfl _ _ rfl HL3.out ?_)
            | (go_at_call 59; refine Calls.mono Pt.out ?_; rintro e w4 ⟨rfl, r4, g4⟩; have HR4 : Hid _ := r4; have HG4 : Hid _ := g4; clear r4 g4))
          go_ret
          unfold Ends
          rw [HP.out, opP, if_neg hc]
          exact ⟨rfl, RefP.since HR4.out (Nat.le_trans HB2.out.size HG3.out.size), gr_trans (gr_trans (gr_below HB2.out) HG3.out) HG4.out⟩
end Go.Proofs.Ytmeecjedikechaa
