import Derived.Test.YtmeecjedikechaaJnt
import Derived.Test.YtmeecjedikechaaRCreate
/- Sync, Remove and Create of the program: what the reference says, plainly. -/
namespace Go.Proofs.Ytmeecjedikechaa
open Go.RowKit Go.Maps Go.Sort
set_option linter.unusedVariables false
set_option linter.unusedSimpArgs false
variable {K : Nat → Prop} {base : Nat} {w : World} {b bm : Nat} {s : WS} {D : DataW Value} {F : List UInt8 → Option FileS} {r : RS} {P : List PF} {rb : Nat}
/-- The program ended as the reference's plain answer says. -/
def EndJ (K : Nat → Prop) (base b bm : Nat) (w : World) (t : Int × RS × List PF) (e : Ending) (w' : World) : Prop :=
  e = .returned (.int .i64 t.1) ∧ ∃ s1 D1 F1, S K base w' b bm s1 D1 F1 ∧ Bel K base w w' ∧ Rel s1 F1 t.2.1 t.2.2
/-- A name that find takes. -/
theorem Rel.found (h : Rel s F r P) {nm : ByteArray} (h0 : findE s F nm = 0) : s.off = false ∧ goodB nm = true ∧ ∃ f p, F nm.data.toList = some f ∧ lookP nm P = some p ∧ inF f = inP p ∧ p.nm = nm := by
  unfold findE at h0
  cases ho : s.off with
  | true => simp [ho] at h0
  | false =>
    cases hg : goodB nm with
    | false => simp [ho, hg] at h0
    | true =>
      have hl := h.look nm
      cases hf : F nm.data.toList with
      | none => simp [ho, hg, hf] at h0
      | some f =>
        cases hp : lookP nm P with
        | none => rw [hf, hp] at hl; simp at hl
        | some p =>
          rw [hf, hp] at hl
          have hm := List.find?_some hp
          exact ⟨rfl, rfl, f, p, rfl, rfl, by simpa using hl, by simpa using hm⟩
theorem sync_none (h : Rel s F r P) {nm : ByteArray} (h0 : findE s F nm ≠ 0) : syncP nm r P = (findE s F nm, r, P) := by
  have e := h.find nm
  unfold syncP
  rw [e] at h0 ⊢
  by_cases h1 : r.off = true
  · simp [h1]
  · by_cases h2 : goodB nm = false
    · simp [h1, h2]
    · cases hp : lookP nm P with
      | none => simp [h1, h2]
      | some p => simp [h1, h2, hp] at h0
theorem sync_some (h : Rel s F r P) {nm : ByteArray} (ho : s.off = false) (hg : goodB nm = true) {p : PF} (hp : lookP nm P = some p) : syncP nm r P = opP r P (putP ⟨p.nm, p.data, p.data.length⟩ false) := by
  unfold syncP
  rw [h.off, ho, hg, hp]
  simp
theorem sync_J (hS : S K base w b bm s D F) (hL : Rel s F r P) (hbase : base ≤ w.heap.size) (nm : ByteArray) (hn : nm.size ≤ maxLen) :
    Calls Try.prog 17 #[ptrOf b, .string nm] w (EndJ K base b bm w (syncP nm r P)) := by
  by_cases h0 : findE s F nm = 0
  · obtain ⟨ho, hg, f, p, hf, hp, hi, hpn⟩ := hL.found h0
    rw [sync_some hL ho hg hp]
    simp only [inF, inP, Prod.mk.injEq] at hi
    by_cases h1 : s.left = 1
    · refine Calls.mono (sync_cut hS hbase ho nm hn hg hf h1 hL.l0 hL.lm) ?_
      rintro e w' ⟨rfl, h2, h3⟩
      unfold opP
      rw [if_pos (by rw [hL.cut]; exact h1)]
      exact ⟨rfl, _, _, _, h2, h3, hL.fail h1⟩
    · refine Calls.mono (sync_ok hS hbase ho nm hn hg hf hL.c0 h1 hL.cm) ?_
      rintro e w' ⟨rfl, h2, h3⟩
      unfold opP
      rw [if_neg (by rw [hL.cut]; exact h1)]
      exact ⟨rfl, _, _, _, h2, h3, (hL.step h1).put hpn (by simp [inF, inP, hi.1])⟩
  · rw [sync_none hL h0]
    refine Calls.mono (sync_err hS hbase nm hn h0) ?_
    rintro e w' ⟨rfl, h2, h3⟩
    exact ⟨rfl, _, _, _, h2, h3, hL⟩
end Go.Proofs.Ytmeecjedikechaa

/- Remove, Create, Rename, Plan of the program: what the reference says, plainly. -/
namespace Go.Proofs.Ytmeecjedikechaa
open Go.RowKit Go.Maps Go.Sort
set_option linter.unusedVariables false
set_option linter.unusedSimpArgs false
variable {K : Nat → Prop} {base : Nat} {w : World} {b bm : Nat} {s : WS} {D : DataW Value} {F : List UInt8 → Option FileS} {r : RS} {P : List PF} {rb : Nat}
theorem find_lt (nm : ByteArray) (P : List PF) : findP nm P 0 < 0 ↔ lookP nm P = none := by
  constructor
  · exact find_no
  · intro h
    rcases find_look nm P 0 with ⟨h1, h2⟩ | ⟨k, p, h1, h2, h3, h4⟩
    · omega
    · rw [h] at h3; cases h3
theorem remove_none (h : Rel s F r P) {nm : ByteArray} (h0 : findE s F nm ≠ 0) : removeP nm r P = (findE s F nm, r, P) := by
  have e := h.find nm
  unfold removeP
  rw [e] at h0 ⊢
  by_cases h1 : r.off = true
  · simp [h1]
  · by_cases h2 : goodB nm = false
    · simp [h1, h2]
    · cases hp : lookP nm P with
      | none => simp [h1, h2, (find_lt nm P).2 hp]
      | some p => simp [h1, h2, hp] at h0
theorem remove_J (hS : S K base w b bm s D F) (hL : Rel s F r P) (hbase : base ≤ w.heap.size) (nm : ByteArray) (hn : nm.size ≤ maxLen) :
    Calls Try.prog 26 #[ptrOf b, .string nm] w (EndJ K base b bm w (removeP nm r P)) := by
  by_cases h0 : findE s F nm = 0
  · obtain ⟨ho, hg, f, p, hf, hp, hi, hpn⟩ := hL.found h0
    have e : removeP nm r P = opP r P fun P => P.filter fun t => decide (t.nm ≠ nm) := by
      have : ¬ findP nm P 0 < 0 := fun e => by rw [find_lt, hp] at e; cases e
      unfold removeP
      rw [hL.off, ho, hg, if_neg this]
      simp
    rw [e]
    by_cases h1 : s.left = 1
    · refine Calls.mono (remove_cut hS hbase ho nm hn hg hf h1 hL.l0 hL.lm) ?_
      rintro e w' ⟨rfl, h2, h3⟩
      unfold opP
      rw [if_pos (by rw [hL.cut]; exact h1)]
      exact ⟨rfl, _, _, _, h2, h3, hL.fail h1⟩
    · refine Calls.mono (remove_ok hS hbase ho nm hn hg hf hL.c0 h1 hL.cm) ?_
      rintro e w' ⟨rfl, h2, h3⟩
      unfold opP
      rw [if_neg (by rw [hL.cut]; exact h1)]
      exact ⟨rfl, _, _, _, h2, h3, (hL.step h1).drop nm⟩
  · rw [remove_none hL h0]
    refine Calls.mono (remove_err hS hbase nm hn h0) ?_
    rintro e w' ⟨rfl, h2, h3⟩
    exact ⟨rfl, _, _, _, h2, h3, hL⟩
/-- Is there room for a file of that name? Both say the same. -/
theorem Rel.room (hL : Rel s F r P) (hS : S K base w b bm s D F) (nm : ByteArray) : ((F nm.data.toList).isSome = true ∨ Maps.size D < 16) ↔ ¬ (findP nm P 0 < 0 ∧ 16 ≤ P.length) := by
  rw [hL.isome nm, hL.size hS, find_lt]
  cases hp : lookP nm P <;> simp
theorem create_J (hS : S K base w b bm s D F) (hL : Rel s F r P) (hbase : base ≤ w.heap.size) (nm : ByteArray) (hn : nm.size ≤ maxLen) :
    Calls Try.prog 15 #[ptrOf b, .string nm] w (EndJ K base b bm w (createP nm r P)) := by
  cases ho : s.off with
  | true =>
    have e : createP nm r P = (13, r, P) := by unfold createP; rw [hL.off, ho]; simp
    rw [e]
    refine Calls.mono (create_offS hS hbase ho nm) ?_
    rintro e w' ⟨rfl, h2, h3⟩
    exact ⟨rfl, _, _, _, h2, h3, hL⟩
  | false =>
    cases hg : goodB nm with
    | false =>
      have e : createP nm r P = (8, r, P) := by unfold createP; rw [hL.off, ho, hg]; simp
      rw [e]
      refine Calls.mono (create_bad hS hbase ho nm hn hg) ?_
      rintro e w' ⟨rfl, h2, h3⟩
      exact ⟨rfl, _, _, _, h2, h3, hL⟩
    | true =>
      have hrm := hL.room hS nm
      by_cases hr : findP nm P 0 < 0 ∧ 16 ≤ P.length
      · have e : createP nm r P = (9, r, P) := by unfold createP; rw [hL.off, ho, hg, if_pos hr]; simp
        rw [e]
        refine Calls.mono (create_full hS hbase ho nm hn hg (fun e => hrm.1 e hr)) ?_
        rintro e w' ⟨rfl, h2, h3⟩
        exact ⟨rfl, _, _, _, h2, h3, hL⟩
      · have e : createP nm r P = opP r P (putP ⟨nm, [], 0⟩ false) := by unfold createP; rw [hL.off, ho, hg, if_neg hr]; simp
        rw [e]
        by_cases h1 : s.left = 1
        · refine Calls.mono (create_cut hS hbase ho nm hn hg (hrm.2 hr) h1 hL.l0 hL.lm) ?_
          rintro e w' ⟨rfl, h2, h3⟩
          unfold opP
          rw [if_pos (by rw [hL.cut]; exact h1)]
          exact ⟨rfl, _, _, _, h2, h3, hL.fail h1⟩
        · refine Calls.mono (create_ok hS hbase ho nm hn hg (hrm.2 hr) hL.c0 h1 hL.cm) ?_
          rintro e w' ⟨rfl, ⟨f, f1, f2, h2⟩, h3⟩
          unfold opP
          rw [if_neg (by rw [hL.cut]; exact h1)]
          exact ⟨rfl, _, _, _, h2, h3, (hL.step h1).put (p := ⟨nm, [], 0⟩) rfl (by simp [inF, inP, f1, f2])⟩
theorem plan_J (hS : S K base w b bm s D F) (hL : Rel s F r P) (n k : Int) (hn : n ≤ 9223372036854775807) (hk : k ≤ 9223372036854775807) :
    Calls Try.prog 18 #[ptrOf b, .int .i64 n, .int .i64 k] w (EndJ K base b bm w (planP n k r P)) := by
  cases ho : s.off with
  | true =>
    have e : planP n k r P = (13, r, P) := by unfold planP; rw [hL.off, ho]; simp
    rw [e]
    refine Calls.mono (plan_off hS ho n k) ?_
    rintro e w' ⟨rfl, rfl⟩
    exact ⟨rfl, _, _, _, hS, hS.refl, hL⟩
  | false =>
    by_cases h1 : n < 0
    · have e : planP n k r P = (2, r, P) := by unfold planP; rw [hL.off, ho]; simp [h1]
      rw [e]
      refine Calls.mono (plan_low hS ho n k h1) ?_
      rintro e w' ⟨rfl, rfl⟩
      exact ⟨rfl, _, _, _, hS, hS.refl, hL⟩
    · by_cases h2 : k < 0
      · have e : planP n k r P = (2, r, P) := by unfold planP; rw [hL.off, ho]; simp [h2]
        rw [e]
        refine Calls.mono (cut_neg hS ho n k (by omega) h2) ?_
        rintro e w' ⟨rfl, rfl⟩
        exact ⟨rfl, _, _, _, hS, hS.refl, hL⟩
      · have e : planP n k r P = (0, { r with cut := n, keep := k }, P) := by
          have hb : ¬ (n < 0 ∨ k < 0) := by omega
          have ho' : r.off = false := hL.off.trans ho
          unfold planP
          simp [hb, ho']
        rw [e]
        refine Calls.mono (cut_ok hS ho n k (by omega) (by omega)) ?_
        rintro e w' ⟨rfl, h3, h4⟩
        exact ⟨rfl, _, _, _, h3, h4, hL.off, rfl, fun _ => rfl, hL.ops, hL.written, hL.look, hL.srt, by show 0 ≤ n; omega, hn, by show 0 ≤ k; omega, hk, by show 0 ≤ k; omega, hk⟩
end Go.Proofs.Ytmeecjedikechaa

/- Rename, Append, Place of the program: what the reference says, plainly. -/
namespace Go.Proofs.Ytmeecjedikechaa
open Go.RowKit Go.Maps Go.Sort
set_option linter.unusedVariables false
set_option linter.unusedSimpArgs false
variable {K : Nat → Prop} {base : Nat} {w : World} {b bm : Nat} {s : WS} {D : DataW Value} {F : List UInt8 → Option FileS} {r : RS} {P : List PF} {rb : Nat}
theorem rename_J (hS : S K base w b bm s D F) (hL : Rel s F r P) (hbase : base ≤ w.heap.size) (nm to : ByteArray) (hn : nm.size ≤ maxLen) (ht : to.size ≤ maxLen) :
    Calls Try.prog 23 #[ptrOf b, .string nm, .string to] w (EndJ K base b bm w (renameP nm to r P)) := by
  cases ho : s.off with
  | true =>
    have e : renameP nm to r P = (13, r, P) := by unfold renameP; rw [hL.off, ho]; simp
    rw [e]
    refine Calls.mono (rename_off hS hbase ho nm to) ?_
    rintro e w' ⟨rfl, h2, h3⟩
    exact ⟨rfl, _, _, _, h2, h3, hL⟩
  | false =>
    have ho' : r.off = false := hL.off.trans ho
    by_cases hg : goodB nm = false ∨ goodB to = false
    · have e : renameP nm to r P = (8, r, P) := by unfold renameP; rw [ho']; simp [hg]
      rw [e]
      refine Calls.mono (rename_badS hS hbase ho nm to hn ht hg) ?_
      rintro e w' ⟨rfl, h2, h3⟩
      exact ⟨rfl, _, _, _, h2, h3, hL⟩
    · have hg1 : goodB nm = true := by cases h : goodB nm <;> simp_all
      have hg2 : goodB to = true := by cases h : goodB to <;> simp_all
      by_cases h0 : findE s F nm = 0
      · obtain ⟨-, -, f, p, hf, hp, hi, hpn⟩ := hL.found h0
        have e : renameP nm to r P = opP r P fun P => putP ⟨to, p.data, p.sy⟩ false (P.filter fun t => decide (t.nm ≠ nm)) := by
          unfold renameP; rw [ho', hp]; simp [hg1, hg2]
        rw [e]
        by_cases h1 : s.left = 1
        · refine Calls.mono (rename_cut hS hbase ho nm to hn ht hg1 hg2 hf h1 hL.l0 hL.lm) ?_
          rintro e w' ⟨rfl, h2, h3⟩
          unfold opP
          rw [if_pos (by rw [hL.cut]; exact h1)]
          exact ⟨rfl, _, _, _, h2, h3, hL.fail h1⟩
        · refine Calls.mono (rename_ok hS hbase ho nm to hn ht hg1 hg2 hf hL.c0 h1 hL.cm) ?_
          rintro e w' ⟨rfl, h2, h3⟩
          unfold opP
          rw [if_neg (by rw [hL.cut]; exact h1)]
          exact ⟨rfl, _, _, _, h2, h3, ((hL.step h1).drop nm).put (p := ⟨to, p.data, p.sy⟩) rfl hi⟩
      · have hf : F nm.data.toList = none := by
          cases hf : F nm.data.toList with
          | none => rfl
          | some f => exact absurd (by simp [findE, ho, hg1, hf]) h0
        have hp : lookP nm P = none := by
          have := hL.isome nm
          rw [hf] at this
          cases hp : lookP nm P with
          | none => rfl
          | some p => rw [hp] at this; simp at this
        have e : renameP nm to r P = (6, r, P) := by unfold renameP; rw [ho', hp]; simp [hg1, hg2]
        rw [e]
        refine Calls.mono (rename_noneS hS hbase ho nm to hn ht hg1 hg2 hf) ?_
        rintro e w' ⟨rfl, h2, h3⟩
        exact ⟨rfl, _, _, _, h2, h3, hL⟩
theorem Rel.written' (hL : Rel s F r P) (n : Int) : Rel { s with written := n } F { r with written := n } P :=
  ⟨hL.off, hL.cut, hL.keep, hL.ops, rfl, hL.look, hL.srt, hL.c0, hL.cm, hL.k0, hL.km, hL.l0, hL.lm⟩
theorem append_J (hS : S K base w b bm s D F) (hL : Rel s F r P) (hbase : base ≤ w.heap.size) (nm : ByteArray) (hn : nm.size ≤ maxLen) {ba : Option Addr} {bc : Nat} {l : List UInt8} (hs : SrcB w b (.slice ba l.length bc) l) (hl : l.length ≤ maxLen) :
    Calls Try.prog 16 #[ptrOf b, .string nm, .slice ba l.length bc] w (EndJ K base b bm w (appendP nm l r P)) := by
  by_cases h0 : findE s F nm = 0
  · obtain ⟨ho, hg, f, p, hf, hp, hi, hpn⟩ := hL.found h0
    have ho' : r.off = false := hL.off.trans ho
    simp only [inF, inP, Prod.mk.injEq] at hi
    by_cases hb : f.data.length + l.length ≤ 1048576
    · have e : appendP nm l r P = opP { r with written := wrap64 (r.written + l.length) } (putP ⟨p.nm, p.data ++ l, p.sy⟩ false P) id := by
        have : ¬ (1048576 - (p.data.length : Int) < l.length) := by rw [← hi.1]; omega
        unfold appendP; rw [ho', hg, hp]; simp [this]
      rw [e]
      by_cases h1 : s.left = 1
      · refine Calls.mono (append_cut hS hbase ho nm hn hg hf l _ hs hb h1 hL.l0 hL.lm) ?_
        rintro e w' ⟨rfl, ⟨u, h2⟩, h3⟩
        unfold opP
        rw [if_pos (show r.cut = 1 by rw [hL.cut]; exact h1)]
        have hw : r.written = s.written := hL.written
        have R1 := ((hL.put (f := ⟨f.fb, u, f.data ++ l, f.sy⟩) (p := ⟨p.nm, p.data ++ l, p.sy⟩) hpn (by simp [inF, inP, hi.1, hi.2])).written' (wrap64 (s.written + l.length))).fail h1
        rw [← hw] at R1 h2
        exact ⟨rfl, _, _, _, h2, h3, R1⟩
      · refine Calls.mono (append_ok hS hbase ho nm hn hg hf l _ hs hb hL.c0 h1 hL.cm) ?_
        rintro e w' ⟨rfl, ⟨u, h2⟩, h3⟩
        unfold opP
        rw [if_neg (show ¬ r.cut = 1 by rw [hL.cut]; exact h1)]
        have hw : r.written = s.written := hL.written
        have R1 := ((hL.put (f := ⟨f.fb, u, f.data ++ l, f.sy⟩) (p := ⟨p.nm, p.data ++ l, p.sy⟩) hpn (by simp [inF, inP, hi.1, hi.2])).written' (wrap64 (s.written + l.length))).step h1
        rw [← hw] at R1 h2
        exact ⟨rfl, _, _, _, h2, h3, R1⟩
    · have e : appendP nm l r P = (9, r, P) := by
        have : 1048576 - (p.data.length : Int) < l.length := by rw [← hi.1]; omega
        unfold appendP; rw [ho', hg, hp]; simp [this]
      rw [e]
      refine Calls.mono (append_much hS hbase ho nm hn hg hf l _ hs hb hl) ?_
      rintro e w' ⟨rfl, h2, h3⟩
      exact ⟨rfl, _, _, _, h2, h3, hL⟩
  · have e : appendP nm l r P = (findE s F nm, r, P) := by
      have e := hL.find nm
      unfold appendP
      rw [e] at h0 ⊢
      by_cases h1 : r.off = true
      · simp [h1]
      · by_cases h2 : goodB nm = false
        · simp [h1, h2]
        · cases hp : lookP nm P with
          | none => simp [h1, h2]
          | some p => simp [h1, h2, hp] at h0
    rw [e]
    refine Calls.mono (append_err hS hbase nm hn ba l.length bc h0) ?_
    rintro e w' ⟨rfl, h2, h3⟩
    exact ⟨rfl, _, _, _, h2, h3, hL⟩
theorem place_J (hS : S K base w b bm s D F) (hL : Rel s F r P) (hbase : base ≤ w.heap.size) (nm : ByteArray) (hn : nm.size ≤ maxLen) {ba : Option Addr} {bc : Nat} {l : List UInt8} (hs : SrcB w b (.slice ba l.length bc) l) (hl : l.length ≤ maxLen) :
    Calls Try.prog 27 #[ptrOf b, .string nm, .slice ba l.length bc] w (EndJ K base b bm w (placeP nm l r P)) := by
  cases hg : goodB nm with
  | false =>
    have e : placeP nm l r P = (8, r, P) := by unfold placeP; simp [hg]
    rw [e]
    refine Calls.mono (place_bad hS nm hn _ hg) ?_
    rintro e w' ⟨rfl, rfl⟩
    exact ⟨rfl, _, _, _, hS, hS.refl, hL⟩
  | true =>
    have hrm := hL.room hS nm
    by_cases hr : (findP nm P 0 < 0 ∧ 16 ≤ P.length) ∨ 1048576 < l.length
    · have e : placeP nm l r P = (9, r, P) := by unfold placeP; rw [hg, if_pos hr]; simp
      rw [e]
      refine Calls.mono (place_full hS nm hn hg ba l.length bc hl (hr.imp (fun e h => hrm.1 h e) id)) ?_
      rintro e w' ⟨rfl, rfl⟩
      exact ⟨rfl, _, _, _, hS, hS.refl, hL⟩
    · have e : placeP nm l r P = (0, r, putP ⟨nm, l, l.length⟩ false P) := by unfold placeP; rw [hg, if_neg hr]; simp
      rw [e]
      refine Calls.mono (place_ok hS hbase nm hn hg (hrm.2 fun e => hr (.inl e)) l _ hs (by omega)) ?_
      rintro e w' ⟨rfl, ⟨f, f1, f2, h2⟩, h3⟩
      exact ⟨rfl, _, _, _, h2, h3, hL.put (p := ⟨nm, l, l.length⟩) rfl (by simp [inF, inP, f1, f2])⟩
end Go.Proofs.Ytmeecjedikechaa

/- Read, Synced of the program: what the reference says, plainly. -/
namespace Go.Proofs.Ytmeecjedikechaa
open Go.RowKit Go.Maps Go.Sort
set_option linter.unusedVariables false
set_option linter.unusedSimpArgs false
variable {K : Nat → Prop} {base : Nat} {w : World} {b bm : Nat} {s : WS} {D : DataW Value} {F : List UInt8 → Option FileS} {r : RS} {P : List PF} {rb : Nat}
theorem read_J (hS : S K base w b bm s D F) (hL : Rel s F r P) (hbase : base ≤ w.heap.size) (nm : ByteArray) (hn : nm.size ≤ maxLen) :
    Calls Try.prog 21 #[ptrOf b, .string nm] w fun e w' => ∃ v, e = .returned (.tuple #[v, .int .i64 (readP nm r P).2]) ∧ w'.ownsRow base 5 1 v (readP nm r P).1.length (bcells (readP nm r P).1) ∧ S K base w' b bm s D F ∧ Bel K base w w' ∧ (∀ g, v.ownBlock = some g → w.heap.size ≤ g) := by
  by_cases h0 : findE s F nm = 0
  · obtain ⟨ho, hg, f, p, hf, hp, hi, hpn⟩ := hL.found h0
    have ho' : r.off = false := hL.off.trans ho
    simp only [inF, inP, Prod.mk.injEq] at hi
    have e : readP nm r P = (f.data, 0) := by unfold readP; rw [ho', hg, hp, hi.1]; simp
    rw [e]
    exact read_ok hS hbase ho nm hn hg hf
  · have e : readP nm r P = ([], findE s F nm) := by
      have e := hL.find nm
      unfold readP
      rw [e] at h0 ⊢
      by_cases h1 : r.off = true
      · simp [h1]
      · by_cases h2 : goodB nm = false
        · simp [h1, h2]
        · cases hp : lookP nm P with
          | none => simp [h1, h2]
          | some p => simp [h1, h2, hp] at h0
    rw [e]
    refine Calls.mono (read_err hS hbase nm hn h0) ?_
    rintro e w' ⟨rfl, h2, h3⟩
    exact ⟨_, rfl, World.ownsRow_nil w' base 5 1, h2, h3, fun g hg => by simp [Value.ownBlock] at hg⟩
theorem synced_J (hS : S K base w b bm s D F) (hL : Rel s F r P) (hbase : base ≤ w.heap.size) (nm : ByteArray) (hn : nm.size ≤ maxLen) :
    Calls Try.prog 25 #[ptrOf b, .string nm] w fun e w' => e = .returned (.tuple #[.int .i64 (syncedP nm r P).1, .int .i64 (syncedP nm r P).2]) ∧ S K base w' b bm s D F ∧ Bel K base w w' := by
  by_cases h0 : findE s F nm = 0
  · obtain ⟨ho, hg, f, p, hf, hp, hi, hpn⟩ := hL.found h0
    have ho' : r.off = false := hL.off.trans ho
    simp only [inF, inP, Prod.mk.injEq] at hi
    have e : syncedP nm r P = ((f.sy : Int), 0) := by unfold syncedP; rw [ho', hg, hp, hi.2]; simp
    rw [e]
    exact synced_ok hS hbase ho nm hn hg hf
  · have e : syncedP nm r P = (0, findE s F nm) := by
      have e := hL.find nm
      unfold syncedP
      rw [e] at h0 ⊢
      by_cases h1 : r.off = true
      · simp [h1]
      · by_cases h2 : goodB nm = false
        · simp [h1, h2]
        · cases hp : lookP nm P with
          | none => simp [h1, h2]
          | some p => simp [h1, h2, hp] at h0
    rw [e]
    exact synced_err hS hbase nm hn h0
end Go.Proofs.Ytmeecjedikechaa
