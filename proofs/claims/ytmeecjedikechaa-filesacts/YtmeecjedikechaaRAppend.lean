/- The reference's Append, plainly. -/
import Derived.Test.YtmeecjedikechaaRAppA
namespace Go.Proofs.Ytmeecjedikechaa
open Go.RowKit Go.Maps
set_option maxRecDepth 100000
set_option linter.unusedVariables false
set_option linter.unusedSimpArgs false
theorem putP_len (f : PF) : ∀ (P : List PF) (d : Bool), (putP f d P).length ≤ P.length + 1
  | [], d => by unfold putP; split <;> simp
  | x :: P, d => by
    have h1 := putP_len f P (d || gePB x f)
    have h2 : ∀ (P : List PF), (putP f true P).length ≤ P.length := by
      intro P
      induction P with
      | nil => simp [putP]
      | cons y P ih => simp only [putP, Bool.true_or, Bool.true_eq_false, false_and, if_false, List.nil_append, List.length_append, List.length_cons]; split <;> simp <;> omega
    unfold putP
    by_cases hd : d = false ∧ gePB x f = true
    · have := h2 P
      rw [if_pos hd]
      rw [show (d || gePB x f) = true by simp [hd]] at *
      simp only [List.length_append, List.length_cons, List.length_nil]
      split <;> simp <;> omega
    · rw [if_neg hd]
      simp only [List.length_append, List.length_cons, List.length_nil]
      split <;> simp <;> omega
theorem wr_set {K : Nat → Prop} {w : World} {rb : Nat} {s : RS} {P : List PF} (h : RefP K w rb s P) (n : Int) : RefP K (w.setCell ⟨rb, 5, none⟩ (.int .i64 n)) rb { s with written := n } P ∧ w.grownBy (w.setCell ⟨rb, 5, none⟩ (.int .i64 n)) (some rb) :=
  have g : w.grownBy (w.setCell ⟨rb, 5, none⟩ (.int .i64 n)) (some rb) := gr_set (gr_below (Below.refl _ _))
  ⟨h.setf (fun fv hb => rb_set5 hb) g, g⟩
theorem app_put {K : Nat → Prop} {w w4 : World} {rb : Nat} {s : RS} {P : List PF} (h : RefP K w rb s P) (hl : P.length ≤ 1000) (b4 : Below w.heap.size w w4) {xa : Option Addr} {xn xc : Nat} {t : ByteArray} {sy : Int} {p : PF}
    (ho : Hold (Nw K w w4) (w4.setCell ⟨w.heap.size, 1, none⟩ (.slice xa xn xc)) ⟨t, xa, xn, xc, sy⟩ p) :
    Calls Try.prog 59 #[ptrOf rb, .agg #[.string t, .slice xa xn xc, .int .i64 sy]] (w4.setCell ⟨w.heap.size, 1, none⟩ (.slice xa xn xc)) fun e w6 => e = .returned (.tuple #[]) ∧ RefP (Nw K w w6) w6 rb s (putP p false P) ∧ w.grownBy w6 (some rb) ∧
      w6.cell? ⟨rb, 5, none⟩ = some (.int .i64 s.written) ∧ w6.frozen? ⟨rb, 5, none⟩ = false := by
  have b5 : Below w.heap.size w (w4.setCell ⟨w.heap.size, 1, none⟩ (.slice xa xn xc)) := b4.setCell (Nat.le_refl _) _
  have hs : (w4.setCell ⟨w.heap.size, 1, none⟩ (.slice xa xn xc)).heap.size = w4.heap.size := by simp [World.setCell]
  generalize w4.setCell ⟨w.heap.size, 1, none⟩ (.slice xa xn xc) = w5 at *
  have ho' : Hold (Nw K w w5) w5 ⟨t, xa, xn, xc, sy⟩ p := ho.mono fun i hi _ => hi.imp id fun e => ⟨e.1, by omega⟩
  have Q := rputP (RefP.old (w := w) (h.below b5)) (by omega) ho'
  refine Calls.mono Q ?_
  rintro e w6 ⟨he, h1, h2⟩
  have h1' : RefP (Nw K w w6) w6 rb s (putP p false P) := RefP.later h1 b5.size h2.size
  obtain ⟨L, hW, -⟩ := h1
  obtain ⟨fa, fc, hB, -, -⟩ := hW.slice
  obtain ⟨⟨-, -, -, -, -, c5⟩, cf⟩ := rbS_cells hB
  exact ⟨he, h1', gr_trans (gr_below b5) h2, c5, cf 5⟩
def appendP (nm : ByteArray) (l : List UInt8) (s : RS) (P : List PF) : Int × RS × List PF :=
  if s.off = true then (13, s, P) else if goodB nm = false then (8, s, P) else match lookP nm P with
    | none => (6, s, P)
    | some p => if 1048576 - (p.data.length : Int) < l.length then (9, s, P) else opP { s with written := wrap64 (s.written + l.length) } (putP ⟨p.nm, p.data ++ l, p.sy⟩ false P) id
set_option maxHeartbeats 1000000 in
theorem rappendP {K : Nat → Prop} {w : World} {rb : Nat} {s : RS} {P : List PF} (h : RefP K w rb s P) (hl : P.length ≤ 1000) (h0 : 0 ≤ s.cut) (hmx : s.cut ≤ 9223372036854775807) (k0 : 0 ≤ s.keep) (kmx : s.keep ≤ 9223372036854775807) (nm : ByteArray) (hn : nm.size ≤ maxLen) {ba : Option Addr} {bc : Nat} {l : List UInt8} (hb : Byt.Bts w (.slice ba l.length bc) l) (hll : l.length ≤ maxLen) :
    Calls Try.prog 32 #[ptrOf rb, .string nm, .slice ba l.length bc] w (Ends K w rb (appendP nm l s P)) := by
  have G : Hid (∀ w2, _) := fun w2 => refGood_any nm w2 hn
  have Fd := rfindP h (by omega) nm
  have HD : Hid (Byt.Bts w (.slice ba l.length bc) l) := hb
  have hll' : (l.length : Int) ≤ 9223372036854775807 := by unfold maxLen at hll; omega
  clear hb hll
  have hR : Hid (RefP K w rb s P) := h
  obtain ⟨L, hW, hA⟩ := h
  obtain ⟨fa, fc, hB, -, -⟩ := hW.slice
  have HC : Hid (∀ w2, Below w.heap.size w w2 → w2.cell? ⟨rb, 1, none⟩ = some (.bool s.off)) := fun w2 hb => by
    have h2 := hb.block rb (Array.getElem?_eq_some_iff.1 hB).1
    rw [hB] at h2
    exact (rbS_cells h2).1.2.1
  have HX : Hid (0 ≤ s.cut ∧ s.cut ≤ 9223372036854775807 ∧ 0 ≤ s.keep ∧ s.keep ≤ 9223372036854775807 ∧ P.length ≤ 1000) := ⟨h0, hmx, k0, kmx, hl⟩
  clear hW hB hA hn h0 hmx k0 kmx hl
  cases ho : s.off with
  | true =>
    have HE : Hid (∀ w', Below w.heap.size w w' → Ends K w rb (appendP nm l s P) (.returned (.int .i64 13)) w') := by
      intro w' hb
      refine ⟨by simp [appendP, ho], ?_, gr_below hb⟩
      simp only [appendP, ho, if_true]
      exact (hR.out.below hb).old
    rw [ho] at HC
    clear ho
    go_enter Try.func32, Try.ntmps32
    go_wp2_with (go_at_call 56; refine Fd.mono ?_; rintro e w2 ⟨rfl, hb2⟩; have hc1 := HC.out _ hb2)
    go_ret
    exact HE.out _ hb2
  | false =>
    rw [ho] at HC
    cases hg : goodB nm with
    | false =>
      rw [hg] at G
      have HE : Hid (∀ w', Below w.heap.size w w' → Ends K w rb (appendP nm l s P) (.returned (.int .i64 8)) w') := by
        intro w' hb
        refine ⟨by simp [appendP, ho, hg], ?_, gr_below hb⟩
        simp only [appendP, ho, hg, if_true, Bool.false_eq_true, if_false]
        exact (hR.out.below hb).old
      clear ho hg
      go_enter Try.func32, Try.ntmps32
      go_wp2_with (first
        | (go_at_call 56; refine Fd.mono ?_; rintro e w2 ⟨rfl, hb2⟩; have hc1 := HC.out _ hb2)
        | (go_at_call 14; refine (G.out _).mono ?_; rintro e w' ⟨rfl, rfl⟩))
      go_ret
      exact HE.out _ hb2
    | true =>
      rw [hg] at G
      by_cases hf : findP nm P 0 < 0
      · have HE : Hid (∀ w', Below w.heap.size w w' → Ends K w rb (appendP nm l s P) (.returned (.int .i64 6)) w') := by
          intro w' hb
          have := find_no hf
          refine ⟨by simp [appendP, ho, hg, this], ?_, gr_below hb⟩
          simp only [appendP, ho, hg, this, if_true, Bool.true_eq_false, Bool.false_eq_true, if_false]
          exact (hR.out.below hb).old
        clear ho hg
        generalize findP nm P 0 = fi at *
        go_enter Try.func32, Try.ntmps32
        go_wp2_with (first
          | (go_at_call 56; refine Fd.mono ?_; rintro e w2 ⟨rfl, hb2⟩; have hc1 := HC.out _ hb2)
          | (go_at_call 14; refine (G.out _).mono ?_; rintro e w' ⟨rfl, rfl⟩))
        go_ret
        exact HE.out _ hb2
      · obtain ⟨k, p, hfk, hkp, hlk, hpn⟩ := find_at hf
        have hkl : k < P.length := (List.getElem?_eq_some_iff.1 hkp).1
        have HK : Hid (P[k]? = some p) := hkp
        have hlP : P.length ≤ 1000 := HX.out.2.2.2.2
        have hpm : p.data.length ≤ 1048576 := by
          obtain ⟨_, _, _, _, _, _, hh⟩ := RefP.file hR.out hkp
          exact hh.mx
        rw [hfk] at Fd
        by_cases hbig : 1048576 - (p.data.length : Int) < l.length
        · have HE : Hid (∀ w', Below w.heap.size w w' → Ends K w rb (appendP nm l s P) (.returned (.int .i64 9)) w') := by
            intro w' hb
            refine ⟨by simp [appendP, ho, hg, hlk, hbig], ?_, gr_below hb⟩
            simp only [appendP, ho, hg, hlk, hbig, if_true, Bool.true_eq_false, Bool.false_eq_true, if_false]
            exact (hR.out.below hb).old
          clear ho hg hf hfk hlk hpn hkp
          go_enter Try.func32, Try.ntmps32
          go_wp2_with (first
            | (go_at_call 14; refine (G.out _).mono ?_; rintro e w' ⟨rfl, rfl⟩)
            | (go_at_call 56; refine Fd.mono ?_; rintro e w2 ⟨rfl, hb2⟩; have hc1 := HC.out _ hb2; obtain ⟨a', fc', ta, tc, c3, c4, c5, ld3, ho3⟩ := RefP.file2 (RefP.below hR.out hb2) HK.out; clear c5 ld3 ho3))
          go_ret
          exact HE.out _ hb2
        · have HP : Hid (appendP nm l s P = opP { s with written := wrap64 (s.written + l.length) } (putP ⟨p.nm, p.data ++ l, p.sy⟩ false P) id) := by
            show _ = _
            simp only [appendP, ho, hg, hlk, hbig, if_true, Bool.true_eq_false, Bool.false_eq_true, if_false]
          clear ho hg hf hfk hlk hpn hkp
          have HLn : Hid (p.data.length + l.length ≤ 1048576) := by show _ ≤ _; omega
          have HPl : Hid ((putP ⟨p.nm, p.data ++ l, p.sy⟩ false P).length ≤ 100000) := by have := putP_len ⟨p.nm, p.data ++ l, p.sy⟩ P false; show _ ≤ _; omega
          by_cases hc : s.cut = 1
          · have hcd : decide (s.cut = 1) = true := by simpa using hc
            go_enter Try.func32, Try.ntmps32
            go_wp2_with (first
              | (go_at_call 14; refine (G.out _).mono ?_; rintro e w' ⟨rfl, rfl⟩)
              | (go_at_call 56; refine Fd.mono ?_; rintro e w2 ⟨rfl, hb2⟩; have hc1 := HC.out _ hb2; obtain ⟨a', fc', ta, tc, c3, c4, c5, ld3, ho3⟩ := RefP.file2 (RefP.below hR.out hb2) HK.out; obtain ⟨va, vc, w3, xa, xc, w4, run3, run4, hv4, b4, ho4⟩ := app_parts ho3 (HD.out.below hb2) HLn.out; obtain ⟨v0, v1, v2, vf⟩ := var_cells hv4; have vf1 := vf 1; have HL2 : Hid _ := ld3 w2 (Below.refl _ _); have HL5 : Hid _ := var_load (var_set1 (y' := .slice xa (p.data.length + l.length) xc) hv4); have HR3 : Hid _ := run3; have HR4 : Hid _ := run4; have HB2 : Hid _ := hb2; have HB4 : Hid _ := b4; have Pt : Hid _ := app_put (RefP.below hR.out hb2) HX.out.2.2.2.2 b4 ho4; clear c5 ld3 ho3 run3 run4 hv4 b4 ho4 vf hb2)
              | (refine wpList_loadR rfl 70 _ rfl _ _ rfl HL2.out ?_; clear HL2)
              | (refine wpList_loadR rfl 70 _ rfl _ _ rfl HL5.out ?_)
              | (at_builtin; refine wpList_appR rfl _ _ 29 rfl _ _ _ _ rfl rfl HR3.out ?_; clear HR3)
              | (at_builtin; refine wpList_appR rfl _ _ 29 rfl _ _ _ _ rfl rfl HR4.out ?_; clear HR4)
              | (go_at_call 59; refine Calls.mono Pt.out ?_; rintro e w6 ⟨rfl, r6, g6, c65, f65⟩; have Ct : Hid _ := rcut_any (wr_set r6 (wrap64 (s.written + l.length))).1 HX.out.1 HX.out.2.1; have HG7 : Hid _ := gr_trans (gr_trans (gr_below HB2.out) g6) (wr_set r6 (wrap64 (s.written + l.length))).2; have HG6 : Hid _ := g6; clear r6 g6 Pt)
              | (go_at_call 57; refine Calls.mono Ct.out ?_; rintro e w8 ⟨rfl, r8, g8⟩; have HR8 : Hid _ := r8; have HG8 : Hid _ := g8; clear r8 g8 Ct; rw [hcd])
              | (go_at_call 58; refine Calls.mono (rfail_any HR8.out HPl.out HX.out.2.2.1 HX.out.2.2.2.1) ?_; rintro e w9 ⟨rfl, r9, g9⟩; have HR9 : Hid _ := r9; have HG9 : Hid _ := g9; clear r9 g9))
            go_ret
            unfold Ends
            rw [HP.out, opP, if_pos (show s.cut = 1 from hc)]
            exact ⟨rfl, RefP.new HR9.out (Nat.le_trans HG7.out.size HG8.out.size), gr_trans (gr_trans HG7.out HG8.out) HG9.out⟩
          · have hcd : decide (s.cut = 1) = false := by simpa using hc
            go_enter Try.func32, Try.ntmps32
            go_wp2_with (first
              | (go_at_call 14; refine (G.out _).mono ?_; rintro e w' ⟨rfl, rfl⟩)
              | (go_at_call 56; refine Fd.mono ?_; rintro e w2 ⟨rfl, hb2⟩; have hc1 := HC.out _ hb2; obtain ⟨a', fc', ta, tc, c3, c4, c5, ld3, ho3⟩ := RefP.file2 (RefP.below hR.out hb2) HK.out; obtain ⟨va, vc, w3, xa, xc, w4, run3, run4, hv4, b4, ho4⟩ := app_parts ho3 (HD.out.below hb2) HLn.out; obtain ⟨v0, v1, v2, vf⟩ := var_cells hv4; have vf1 := vf 1; have HL2 : Hid _ := ld3 w2 (Below.refl _ _); have HL5 : Hid _ := var_load (var_set1 (y' := .slice xa (p.data.length + l.length) xc) hv4); have HR3 : Hid _ := run3; have HR4 : Hid _ := run4; have HB2 : Hid _ := hb2; have HB4 : Hid _ := b4; have Pt : Hid _ := app_put (RefP.below hR.out hb2) HX.out.2.2.2.2 b4 ho4; clear c5 ld3 ho3 run3 run4 hv4 b4 ho4 vf hb2)
              | (refine wpList_loadR rfl 70 _ rfl _ _ rfl HL2.out ?_; clear HL2)
              | (refine wpList_loadR rfl 70 _ rfl _ _ rfl HL5.out ?_)
              | (at_builtin; refine wpList_appR rfl _ _ 29 rfl _ _ _ _ rfl rfl HR3.out ?_; clear HR3)
              | (at_builtin; refine wpList_appR rfl _ _ 29 rfl _ _ _ _ rfl rfl HR4.out ?_; clear HR4)
              | (go_at_call 59; refine Calls.mono Pt.out ?_; rintro e w6 ⟨rfl, r6, g6, c65, f65⟩; have Ct : Hid _ := rcut_any (wr_set r6 (wrap64 (s.written + l.length))).1 HX.out.1 HX.out.2.1; have HG7 : Hid _ := gr_trans (gr_trans (gr_below HB2.out) g6) (wr_set r6 (wrap64 (s.written + l.length))).2; have HG6 : Hid _ := g6; clear r6 g6 Pt)
              | (go_at_call 57; refine Calls.mono Ct.out ?_; rintro e w8 ⟨rfl, r8, g8⟩; have HR8 : Hid _ := r8; have HG8 : Hid _ := g8; clear r8 g8 Ct; rw [hcd]))
            go_ret
            unfold Ends
            rw [HP.out, opP, if_neg (show ¬ s.cut = 1 from hc)]
            refine ⟨rfl, RefP.mono HR8.out fun i hi hlt => ?_, gr_trans HG7.out HG8.out⟩
            exact hi.imp id fun e => ⟨Nat.le_trans HB2.out.size e.1, hlt⟩
end Go.Proofs.Ytmeecjedikechaa
