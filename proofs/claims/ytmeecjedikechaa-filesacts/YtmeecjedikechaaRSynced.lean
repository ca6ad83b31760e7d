/- The reference's Synced, plainly. -/
import Derived.Test.YtmeecjedikechaaRPlan
namespace Go.Proofs.Ytmeecjedikechaa
open Go.RowKit Go.Maps
set_option maxRecDepth 100000
set_option linter.unusedVariables false
set_option linter.unusedSimpArgs false
theorem addr_plus (x : Addr) (j : Nat) (hj : j ≠ 0) : x.add j = ⟨x.block, x.off + j, none⟩ := by unfold Addr.add; split <;> simp_all
/-- A file of the reference's, as its parts lie. -/
theorem RefP.file2 {K : Nat → Prop} {w : World} {rb : Nat} {s : RS} {P : List PF} (h : RefP K w rb s P) {k : Nat} {p : PF} (hk : P[k]? = some p) :
    ∃ a' fc ta tc, w.cell? ⟨rb, 0, none⟩ = some (.slice (some a') P.length fc) ∧ w.cell? ⟨(a'.add (k * 3)).block, (a'.add (k * 3)).off + 1, none⟩ = some (.slice ta p.data.length tc) ∧ w.cell? ⟨(a'.add (k * 3)).block, (a'.add (k * 3)).off + 2, none⟩ = some (.int .i64 p.sy) ∧
      (∀ wr, Below w.heap.size w wr → (Instr.loadAt 70 (.pointer (some (a'.add (k * 3))))).run Try.prog wr = .ok (.agg #[.string p.nm, .slice ta p.data.length tc, .int .i64 p.sy]) wr) ∧ Hold K w ⟨p.nm, ta, p.data.length, tc, p.sy⟩ p := by
  obtain ⟨L, hW, hA⟩ := h
  obtain ⟨fa, fc, hB, hF, -⟩ := hW.slice
  have hl := hA.len
  obtain ⟨hkP, hp⟩ := List.getElem?_eq_some_iff.1 hk
  have hkL : k < L.length := by omega
  obtain ⟨_, hH⟩ := hA.get k hkL
  obtain ⟨a', rfl, -⟩ := hF.load (Below.refl _ _) hkL
  rw [hp] at hH
  obtain ⟨⟨c0, -⟩, -⟩ := rbS_cells hB
  rw [hl] at c0
  have e : L[k] = ⟨p.nm, L[k].ba, p.data.length, L[k].bc, p.sy⟩ := by
    have h1 := hH.nm; have h2 := hH.bn; have h3 := hH.sy
    cases hx : L[k] with
    | mk a b c d f => rw [hx] at h1 h2 h3; simp only at h1 h2 h3; simp [h1, h2, h3]
  have hc : ∀ j u, (reC L[k])[j]? = some u → w.cell? ((a'.add (k * 3)).add j) = some u := by
    rcases hF with ⟨h1, _⟩ | ⟨x, cap, h1, h2, h3, h4⟩
    · cases h1
    · simp only [Value.slice.injEq, Option.some.injEq] at h1
      obtain ⟨rfl, -⟩ := h1
      exact fun j u hj => h4 k L[k] (by simp [hkL]) j u hj
  refine ⟨a', fc, L[k].ba, L[k].bc, c0, ?_, ?_, fun wr hb => ?_, e ▸ hH⟩
  · rw [← addr_plus _ 1 (by decide)]; exact hc 1 _ (by rw [e]; rfl)
  · rw [← addr_plus _ 2 (by decide)]; exact hc 2 _ (by rw [e]; rfl)
  · obtain ⟨a2, e2, hr⟩ := hF.load hb hkL
    cases e2
    rw [hr, hH.nm, hH.bn, hH.sy]
def syncedP (nm : ByteArray) (s : RS) (P : List PF) : Int × Int :=
  if s.off = true then (0, 13) else if goodB nm = false then (0, 8) else match lookP nm P with
    | none => (0, 6)
    | some p => (p.sy, 0)
/-- The end of a call of the reference's that tells a number, and changes nothing. -/
def EndsN (K : Nat → Prop) (w : World) (rb : Nat) (s : RS) (P : List PF) (r : Int × Int) (e : Ending) (w' : World) : Prop :=
  e = .returned (.tuple #[.int .i64 r.1, .int .i64 r.2]) ∧ Below w.heap.size w w'
set_option maxHeartbeats 1000000 in
theorem rsyncedP {K : Nat → Prop} {w : World} {rb : Nat} {s : RS} {P : List PF} (h : RefP K w rb s P) (hl : P.length ≤ 100000) (h0 : 0 ≤ s.cut) (hmx : s.cut ≤ 9223372036854775807) (k0 : 0 ≤ s.keep) (kmx : s.keep ≤ 9223372036854775807) (nm : ByteArray) (hn : nm.size ≤ maxLen) :
    Calls Try.prog 40 #[ptrOf rb, .string nm] w (EndsN K w rb s P (syncedP nm s P)) := by
  have G : Hid (∀ w2, _) := fun w2 => refGood_any nm w2 hn
  have Fd := rfindP h hl nm
  have hR : Hid (RefP K w rb s P) := h
  obtain ⟨L, hW, hA⟩ := h
  obtain ⟨fa, fc, hB, -, -⟩ := hW.slice
  have HC : Hid (∀ w2, Below w.heap.size w w2 → w2.cell? ⟨rb, 1, none⟩ = some (.bool s.off)) := fun w2 hb => by
    have h2 := hb.block rb (Array.getElem?_eq_some_iff.1 hB).1
    rw [hB] at h2
    exact (rbS_cells h2).1.2.1
  have HX : Hid (0 ≤ s.cut ∧ s.cut ≤ 9223372036854775807 ∧ 0 ≤ s.keep ∧ s.keep ≤ 9223372036854775807 ∧ P.length ≤ 100000) := ⟨h0, hmx, k0, kmx, hl⟩
  clear hW hB hA hn h0 hmx k0 kmx hl
  cases ho : s.off with
  | true =>
    have HE : Hid (∀ w', Below w.heap.size w w' → EndsN K w rb s P (syncedP nm s P) (.returned (.tuple #[.int .i64 0, .int .i64 13])) w') := by
      intro w' hb
      refine ⟨by simp [syncedP, ho], hb⟩
    rw [ho] at HC
    clear ho
    go_enter Try.func40, Try.ntmps40
    go_wp2_with (go_at_call 56; refine Fd.mono ?_; rintro e w2 ⟨rfl, hb2⟩; have hc1 := HC.out _ hb2)
    go_ret2
    exact HE.out _ hb2
  | false =>
    rw [ho] at HC
    cases hg : goodB nm with
    | false =>
      rw [hg] at G
      have HE : Hid (∀ w', Below w.heap.size w w' → EndsN K w rb s P (syncedP nm s P) (.returned (.tuple #[.int .i64 0, .int .i64 8])) w') := by
        intro w' hb
        refine ⟨by simp [syncedP, ho, hg], hb⟩
      clear ho hg
      go_enter Try.func40, Try.ntmps40
      go_wp2_with (first
        | (go_at_call 56; refine Fd.mono ?_; rintro e w2 ⟨rfl, hb2⟩; have hc1 := HC.out _ hb2)
        | (go_at_call 14; refine (G.out _).mono ?_; rintro e w' ⟨rfl, rfl⟩))
      go_ret2
      exact HE.out _ hb2
    | true =>
      rw [hg] at G
      by_cases hf : findP nm P 0 < 0
      · have HE : Hid (∀ w', Below w.heap.size w w' → EndsN K w rb s P (syncedP nm s P) (.returned (.tuple #[.int .i64 0, .int .i64 6])) w') := by
          intro w' hb
          have := find_no hf
          refine ⟨by simp [syncedP, ho, hg, this], hb⟩
        clear ho hg
        generalize findP nm P 0 = fi at *
        go_enter Try.func40, Try.ntmps40
        go_wp2_with (first
          | (go_at_call 56; refine Fd.mono ?_; rintro e w2 ⟨rfl, hb2⟩; have hc1 := HC.out _ hb2)
          | (go_at_call 14; refine (G.out _).mono ?_; rintro e w' ⟨rfl, rfl⟩))
        go_ret2
        exact HE.out _ hb2
      · obtain ⟨k, p, hfk, hkp, hlk, hpn⟩ := find_at hf
        have HP : Hid (syncedP nm s P = ((p.sy : Int), (0 : Int))) := by
          show _ = _
          simp only [syncedP, ho, hg, hlk, if_true, Bool.true_eq_false, Bool.false_eq_true, if_false]
        have hkl : k < P.length := (List.getElem?_eq_some_iff.1 hkp).1
        have HK : Hid (P[k]? = some p) := hkp
        rw [hfk] at Fd
        clear ho hg hf hfk hlk hpn hkp
        go_enter Try.func40, Try.ntmps40
        have hlP : P.length ≤ 100000 := HX.out.2.2.2.2
        go_wp2_with (first
          | (go_at_call 14; refine (G.out _).mono ?_; rintro e w' ⟨rfl, rfl⟩)
          | (go_at_call 56; refine Fd.mono ?_; rintro e w2 ⟨rfl, hb2⟩; have hc1 := HC.out _ hb2; obtain ⟨a', fc', ta, tc, c3, c4, c5, ld3, ho3⟩ := RefP.file2 (RefP.below hR.out hb2) HK.out; have HB2 : Hid _ := hb2; clear hb2 ho3 ld3))
        go_ret2
        unfold EndsN
        rw [HP.out]
        exact ⟨rfl, HB2.out⟩
end Go.Proofs.Ytmeecjedikechaa
