/- The reference's Rename, plainly. -/
import Derived.Test.YtmeecjedikechaaRPlace
namespace Go.Proofs.Ytmeecjedikechaa
open Go.RowKit Go.Maps
set_option maxRecDepth 100000
set_option linter.unusedVariables false
set_option linter.unusedSimpArgs false
def renameP (nm to : ByteArray) (s : RS) (P : List PF) : Int × RS × List PF :=
  if s.off = true then (13, s, P) else if goodB nm = false ∨ goodB to = false then (8, s, P) else match lookP nm P with
    | none => (6, s, P)
    | some p => opP s P fun P => putP ⟨to, p.data, p.sy⟩ false (P.filter fun t => decide (t.nm ≠ nm))
theorem ren_put {K : Nat → Prop} {w : World} {rb : Nat} {s : RS} {P : List PF} (h : RefP K w rb s P) (hl : P.length ≤ 1000) (hK : K rb) (hkb : ∀ i, K i → i < w.heap.size) {a b : ByteArray} {p : PF} {ta : Option Addr} {tc : Nat} (ho : Hold K w ⟨p.nm, ta, p.data.length, tc, p.sy⟩ p) :
    Calls Try.prog 60 #[ptrOf rb, .string a] (w.alloc (.cells #[.string p.nm, .slice ta p.data.length tc, .int .i64 p.sy] 70)) fun e w4 => e = .returned (.tuple #[]) ∧ w4.heap[w.heap.size]? = some (.cells #[.string p.nm, .slice ta p.data.length tc, .int .i64 p.sy] 70) ∧
      Calls Try.prog 59 #[ptrOf rb, .agg #[.string b, .slice ta p.data.length tc, .int .i64 p.sy]] (w4.setCell ⟨w.heap.size, 0, none⟩ (.string b)) fun e w6 => e = .returned (.tuple #[]) ∧ RefP (Nw K w w6) w6 rb s (putP ⟨b, p.data, p.sy⟩ false (P.filter fun t => decide (t.nm ≠ a))) ∧ w.grownBy w6 (some rb) := by
  have hb : Below w.heap.size w (w.alloc (.cells #[.string p.nm, .slice ta p.data.length tc, .int .i64 p.sy] 70)) := (Below.refl _ _).alloc (Nat.le_refl _) _
  have hrb := h.lt
  have hv := heap_alloc_new w (.cells #[.string p.nm, .slice ta p.data.length tc, .int .i64 p.sy] 70)
  have hs : (w.alloc (.cells #[.string p.nm, .slice ta p.data.length tc, .int .i64 p.sy] 70)).heap.size = w.heap.size + 1 := by simp
  have hk : RefP K (w.alloc (.cells #[.string p.nm, .slice ta p.data.length tc, .int .i64 p.sy] 70)) rb s P := h.below hb
  have hm : Hold K (w.alloc (.cells #[.string p.nm, .slice ta p.data.length tc, .int .i64 p.sy] 70)) ⟨p.nm, ta, p.data.length, tc, p.sy⟩ p := ho.below hb
  generalize w.alloc (.cells #[.string p.nm, .slice ta p.data.length tc, .int .i64 p.sy] 70) = w1 at *
  refine Calls.mono (rdropP hk (by omega) a) ?_
  rintro e w4 ⟨he, h1, h2⟩
  have hv4 : w4.heap[w.heap.size]? = some (.cells #[.string p.nm, .slice ta p.data.length tc, .int .i64 p.sy] 70) := (h2.block _ (by omega) (by simp; omega)).trans hv
  refine ⟨he, hv4, ?_⟩
  have hm4 : Hold K w4 ⟨p.nm, ta, p.data.length, tc, p.sy⟩ p := by
    obtain ⟨L, hW, -⟩ := hk
    obtain ⟨fa, fc, hB, -, -⟩ := hW.slice
    exact { hm with bts := bts_gr hm.bts hB h2 }
  have s4 := h2.size
  have hne : ∀ i, Nw K w1 w4 i → (w4.setCell ⟨w.heap.size, 0, none⟩ (.string b)).heap[i]? = w4.heap[i]? := fun i hi => set_other (by
    rcases hi with hi | hi
    · have := hkb i hi; omega
    · omega)
  have r5 : RefP (Nw K w1 w4) (w4.setCell ⟨w.heap.size, 0, none⟩ (.string b)) rb s (P.filter fun t => decide (t.nm ≠ a)) := RefP.keep h1 (.inl hK) hne
  have m5 : Hold (Nw K w1 w4) (w4.setCell ⟨w.heap.size, 0, none⟩ (.string b)) ⟨b, ta, p.data.length, tc, p.sy⟩ ⟨b, p.data, p.sy⟩ := by
    obtain ⟨q1, q2, q3, q4, q5, q6, q7⟩ := hm4
    constructor
    · rfl
    · rcases q2 with h | ⟨x, cap, e1, e2, e3, e4⟩
      · exact .inl h
      · refine .inr ⟨x, cap, e1, e2, e3, fun j u hj => ?_⟩
        have := e4 j u hj
        rw [← this]
        refine World.cell?_of_block (hne _ ?_)
        rw [Byt.addr_block]
        simp only [Value.slice.injEq] at e1
        exact .inl (q7 x e1.1 (by rintro h0; rw [h0] at hj; simp [Byt.bcells] at hj))
    · rfl
    · rfl
    · exact q5
    · exact q6
    · exact fun x hx hn => .inl (q7 x hx hn)
  have g5 : w.grownBy (w4.setCell ⟨w.heap.size, 0, none⟩ (.string b)) (some rb) := by
    have := gr_trans (gr_below hb) h2
    refine ⟨this.os, this.tape, this.output, by simpa [World.setCell] using this.size, fun i hi hn => ?_⟩
    rw [set_other (by omega)]
    exact this.block i hi hn
  have s5 : (w4.setCell ⟨w.heap.size, 0, none⟩ (.string b)).heap.size = w4.heap.size := by simp [World.setCell]
  generalize w4.setCell ⟨w.heap.size, 0, none⟩ (.string b) = w5 at *
  have hfl : (P.filter fun t => decide (t.nm ≠ a)).length ≤ 100000 := Nat.le_trans (List.length_filter_le _ _) (by omega)
  refine Calls.mono (rputP r5 hfl m5) ?_
  rintro e w6 ⟨he6, k1, k2⟩
  have s6 := k2.size
  refine ⟨he6, k1.mono fun i hi hlt => ?_, gr_trans g5 k2⟩
  rcases hi with (hi | hi) | hi
  · exact .inl hi
  · exact .inr ⟨by omega, hlt⟩
  · exact .inr ⟨by omega, hlt⟩
set_option maxHeartbeats 1000000 in
theorem rrenameP {K : Nat → Prop} {w : World} {rb : Nat} {s : RS} {P : List PF} (h : RefP K w rb s P) (hl : P.length ≤ 1000) (h0 : 0 ≤ s.cut) (hmx : s.cut ≤ 9223372036854775807) (k0 : 0 ≤ s.keep) (kmx : s.keep ≤ 9223372036854775807) (hK : K rb) (hkb : ∀ i, K i → i < w.heap.size) (nm to : ByteArray) (hn : nm.size ≤ maxLen) (ht : to.size ≤ maxLen) :
    Calls Try.prog 36 #[ptrOf rb, .string nm, .string to] w (Ends K w rb (renameP nm to s P)) := by
  have G : Hid (∀ w2, _) := fun w2 => refGood_any nm w2 hn
  have G2 : Hid (∀ w2, _) := fun w2 => refGood_any to w2 ht
  have HKK : Hid (K rb ∧ ∀ i, K i → i < w.heap.size) := ⟨hK, hkb⟩
  have Fd := rfindP h (by omega) nm
  clear hK hkb ht
  have hR : Hid (RefP K w rb s P) := h
  obtain ⟨L, hW, hA⟩ := h
  obtain ⟨fa, fc, hB, -, -⟩ := hW.slice
  have HC : Hid (∀ w2, Below w.heap.size w w2 → w2.cell? ⟨rb, 1, none⟩ = some (.bool s.off)) := fun w2 hb => by
    have h2 := hb.block rb (Array.getElem?_eq_some_iff.1 hB).1
    rw [hB] at h2
    exact (rbS_cells h2).1.2.1
  have HX : Hid (0 ≤ s.cut ∧ s.cut ≤ 9223372036854775807 ∧ 0 ≤ s.keep ∧ s.keep ≤ 9223372036854775807 ∧ P.length ≤ 1000) := ⟨h0, hmx, k0, kmx, hl⟩
  clear hW hB hA hn h0 hmx k0 kmx hl
  cases ho : s.off with
  | true =>
    have HE : Hid (∀ w', Below w.heap.size w w' → Ends K w rb (renameP nm to s P) (.returned (.int .i64 13)) w') := by
      intro w' hb
      refine ⟨by simp [renameP, ho], ?_, gr_below hb⟩
      simp only [renameP, ho, if_true]
      exact (hR.out.below hb).old
    rw [ho] at HC
    clear ho
    go_enter Try.func36, Try.ntmps36
    go_wp2_with (go_at_call 56; refine Fd.mono ?_; rintro e w2 ⟨rfl, hb2⟩; have hc1 := HC.out _ hb2)
    go_ret
    exact HE.out _ hb2
  | false =>
    rw [ho] at HC
    cases hg : goodB nm with
    | false =>
      rw [hg] at G
      have HE : Hid (∀ w', Below w.heap.size w w' → Ends K w rb (renameP nm to s P) (.returned (.int .i64 8)) w') := by
        intro w' hb
        refine ⟨by simp [renameP, ho, hg], ?_, gr_below hb⟩
        simp only [renameP, ho, hg, true_or, if_true, Bool.false_eq_true, if_false]
        exact (hR.out.below hb).old
      clear ho hg
      go_enter Try.func36, Try.ntmps36
      go_wp2_with (first
        | (go_at_call 56; refine Fd.mono ?_; rintro e w2 ⟨rfl, hb2⟩; have hc1 := HC.out _ hb2)
        | (go_at_call 14; refine (G.out _).mono ?_; rintro e w' ⟨rfl, rfl⟩))
      go_ret
      exact HE.out _ hb2
    | true =>
      rw [hg] at G
      cases hg2 : goodB to with
      | false =>
        rw [hg2] at G2
        have HE : Hid (∀ w', Below w.heap.size w w' → Ends K w rb (renameP nm to s P) (.returned (.int .i64 8)) w') := by
          intro w' hb
          refine ⟨by simp [renameP, ho, hg, hg2], ?_, gr_below hb⟩
          simp only [renameP, ho, hg, hg2, or_true, if_true, Bool.true_eq_false, Bool.false_eq_true, if_false]
          exact (hR.out.below hb).old
        clear ho hg hg2
        go_enter Try.func36, Try.ntmps36
        go_wp2_with (first
          | (go_at_call 56; refine Fd.mono ?_; rintro e w2 ⟨rfl, hb2⟩; have hc1 := HC.out _ hb2)
          | (go_at_call 14; refine (G.out _).mono ?_; rintro e w' ⟨rfl, rfl⟩; clear G)
          | (go_at_call 14; refine (G2.out _).mono ?_; rintro e w' ⟨rfl, rfl⟩))
        go_ret
        exact HE.out _ hb2
      | true =>
        rw [hg2] at G2
        by_cases hf : findP nm P 0 < 0
        · have HE : Hid (∀ w', Below w.heap.size w w' → Ends K w rb (renameP nm to s P) (.returned (.int .i64 6)) w') := by
            intro w' hb
            have := find_no hf
            refine ⟨by simp [renameP, ho, hg, hg2, this], ?_, gr_below hb⟩
            simp only [renameP, ho, hg, hg2, this, or_self, if_true, Bool.true_eq_false, Bool.false_eq_true, if_false]
            exact (hR.out.below hb).old
          clear ho hg hg2
          generalize findP nm P 0 = fi at *
          go_enter Try.func36, Try.ntmps36
          go_wp2_with (first
            | (go_at_call 56; refine Fd.mono ?_; rintro e w2 ⟨rfl, hb2⟩; have hc1 := HC.out _ hb2)
            | (go_at_call 14; refine (G.out _).mono ?_; rintro e w' ⟨rfl, rfl⟩; clear G)
              | (go_at_call 14; refine (G2.out _).mono ?_; rintro e w' ⟨rfl, rfl⟩))
          go_ret
          exact HE.out _ hb2
        · obtain ⟨k, p, hfk, hkp, hlk, hpn⟩ := find_at hf
          have HP : Hid (renameP nm to s P = opP s P fun P => putP ⟨to, p.data, p.sy⟩ false (P.filter fun t => decide (t.nm ≠ nm))) := by
            show _ = _
            simp only [renameP, ho, hg, hg2, hlk, or_self, if_true, Bool.true_eq_false, Bool.false_eq_true, if_false]
          have hkl : k < P.length := (List.getElem?_eq_some_iff.1 hkp).1
          have HK : Hid (P[k]? = some p) := hkp
          rw [hfk] at Fd
          clear ho hg hg2 hf hfk hlk hpn hkp
          by_cases hc : s.cut = 1
          · have hcd : decide (s.cut = 1) = true := by simpa using hc
            go_enter Try.func36, Try.ntmps36
            go_wp2_with (first
              | (go_at_call 14; refine (G.out _).mono ?_; rintro e w' ⟨rfl, rfl⟩; clear G)
              | (go_at_call 14; refine (G2.out _).mono ?_; rintro e w' ⟨rfl, rfl⟩)
              | (go_at_call 56; refine Fd.mono ?_; rintro e w2 ⟨rfl, hb2⟩; have hc1 := HC.out _ hb2; have HB2 : Hid _ := hb2; clear hb2)
              | (go_at_call 57; refine (rcut_any (hR.out.below HB2.out) HX.out.1 HX.out.2.1).mono ?_; rintro e w3 ⟨rfl, r3, g3⟩; have HR3 : Hid _ := r3; have HG3 : Hid _ := g3; clear r3 g3; rw [hcd])
              | (go_at_call 58; refine (rfail_any HR3.out (Nat.le_trans HX.out.2.2.2.2 (by decide)) HX.out.2.2.1 HX.out.2.2.2.1).mono ?_; rintro e w4 ⟨rfl, r4, g4⟩; have HR4 : Hid _ := r4; have HG4 : Hid _ := g4; clear r4 g4))
            go_ret
            unfold Ends
            rw [HP.out, opP, if_pos hc]
            exact ⟨rfl, RefP.new HR4.out (Nat.le_trans HB2.out.size HG3.out.size), gr_trans (gr_trans (gr_below HB2.out) HG3.out) HG4.out⟩
          · have hcd : decide (s.cut = 1) = false := by simpa using hc
            have hlP : P.length ≤ 1000 := HX.out.2.2.2.2
            go_enter Try.func36, Try.ntmps36
            go_wp2_with (first
              | (go_at_call 14; refine (G.out _).mono ?_; rintro e w' ⟨rfl, rfl⟩; clear G)
              | (go_at_call 14; refine (G2.out _).mono ?_; rintro e w' ⟨rfl, rfl⟩)
              | (go_at_call 56; refine Fd.mono ?_; rintro e w2 ⟨rfl, hb2⟩; have hc1 := HC.out _ hb2; have HB2 : Hid _ := hb2; clear hb2)
              | (go_at_call 57; refine (rcut_any (hR.out.below HB2.out) HX.out.1 HX.out.2.1).mono ?_; rintro e w3 ⟨rfl, r3, g3⟩; obtain ⟨a', fc', ta, tc, c3, ld3, ho3⟩ := RefP.file r3 HK.out; have HR3 : Hid _ := r3; have HG3 : Hid _ := g3; have HL3 : Hid _ := ld3 w3 (Below.refl _ _); have Dr : Hid _ := ren_put (a := nm) (b := to) r3 HX.out.2.2.2.2 HKK.out.1 (fun i hi => Nat.lt_of_lt_of_le (HKK.out.2 i hi) (Nat.le_trans HB2.out.size g3.size)) ho3; clear r3 g3 ld3 ho3; rw [hcd])
              | (refine wpList_loadR rfl 70 _ rfl _ _ rfl HL3.out ?_; clear HL3)
              | (go_at_call 60; refine Calls.mono Dr.out ?_; rintro e w5 ⟨rfl, hv5, put5⟩; obtain ⟨v0, v1, v2, vf⟩ := var_cells hv5; have vf0 := vf 0; have HL5 : Hid _ := var_load (var_set0 (x' := .string to) hv5); have Pt : Hid _ := put5; clear put5 vf hv5 Dr)
              | (refine wpList_loadR rfl 70 _ rfl _ _ rfl HL5.out ?_)
              | (go_at_call 59; refine Calls.mono Pt.out ?_; rintro e w4 ⟨rfl, r4, g4⟩; have HR4 : Hid _ := r4; have HG4 : Hid _ := g4; clear r4 g4))
            go_ret
            unfold Ends
            rw [HP.out, opP, if_neg hc]
            exact ⟨rfl, RefP.since HR4.out (Nat.le_trans HB2.out.size HG3.out.size), gr_trans (gr_trans (gr_below HB2.out) HG3.out) HG4.out⟩
end Go.Proofs.Ytmeecjedikechaa
