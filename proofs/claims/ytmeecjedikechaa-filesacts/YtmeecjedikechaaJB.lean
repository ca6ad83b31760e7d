/- Both worlds; the blocks that the program keeps, and among them those of the reference. -/
import Derived.Test.YtmeecjedikechaaJAct
import Derived.Test.YtmeecjedikechaaRRead
import Derived.Test.YtmeecjedikechaaRSynced
namespace Go.Proofs.Ytmeecjedikechaa
open Go.RowKit Go.Maps Go.Sort
set_option maxRecDepth 100000
set_option linter.unusedVariables false
set_option linter.unusedSimpArgs false
def JB (K Kr : Nat → Prop) (base b bm rb : Nat) (r : RS) (P : List PF) (w : World) : Prop :=
  ∃ s D F, S K base w b bm s D F ∧ RefP Kr w rb r P ∧ Rel s F r P ∧ (∀ i, Kr i → K i) ∧ Kr rb ∧ base ≤ w.heap.size ∧ base ≤ rb ∧ GoodP P
def JN (K Kr : Nat → Prop) (base b bm rb : Nat) (r : RS) (P : List PF) (t : RS × List PF) (w : World) : Prop :=
  ∃ s D F, S K base w b bm s D F ∧ RefP Kr w rb r P ∧ Rel s F t.1 t.2 ∧ (∀ i, Kr i → K i) ∧ Kr rb ∧ base ≤ w.heap.size ∧ base ≤ rb ∧ P.length ≤ 16 ∧ 0 ≤ r.cut ∧ r.cut ≤ 9223372036854775807 ∧ 0 ≤ r.keep ∧ r.keep ≤ 9223372036854775807 ∧ GoodP t.2
section
variable {K K' Kr : Nat → Prop} {base : Nat} {w w' : World} {b bm rb : Nat} {s : WS} {D : DataW Value} {F : List UInt8 → Option FileS} {r : RS} {P : List PF}
theorem JB.ja (h : JB K Kr base b bm rb r P w) : JA K base b bm rb r P w := by
  obtain ⟨s, D, F, hS, hR, hL, hK, hr, hb, hrb, hG⟩ := h
  exact ⟨s, D, F, hS, hR.mono fun i hi _ => hK i hi, hL, hK _ hr, hb, hrb, hG⟩
theorem JA.jb (h : JA K base b bm rb r P w) : JB K K base b bm rb r P w := by
  obtain ⟨s, D, F, hS, hR, hL, hr, hb, hrb, hG⟩ := h
  exact ⟨s, D, F, hS, hR, hL, fun _ hi => hi, hr, hb, hrb, hG⟩
/-- More blocks are kept: such as are new since an earlier time. -/
theorem S.more (h0 : S K base w b bm s D F) (h : S K base w' b bm s D F) (hK : ∀ i, K' i → i < w'.heap.size ∧ (K i ∨ w.heap.size ≤ i)) : S K' base w' b bm s D F := by
  have lt : ∀ {i : Nat} {o : Obj}, w.heap[i]? = some o → ¬ K i → ¬ K' i := fun {i o} h1 h2 h3 => by
    rcases (hK i h3).2 with e | e
    · exact h2 e
    · have := lt_of_some h1; omega
  refine ⟨fun i hi => (hK i hi).1, ⟨h.hb.1, lt h0.hB h0.hb.2⟩, ⟨h.hbm.1, ?_⟩, h.hB, h.own, h.at_, fun l f hf => ?_, h.apart⟩
  · obtain ⟨es, c, h1, _⟩ := h0.own
    exact lt h1 h0.hbm.2
  · obtain ⟨k1, k2, k3, k4⟩ := h.files l f hf
    obtain ⟨q1, q2, q3, q4⟩ := h0.files l f hf
    refine ⟨⟨⟨k1.1.1, lt q2 q1.1.2⟩, fun g hg => ?_⟩, k2, k3, k4⟩
    obtain ⟨_, cur, hc⟩ := ownsRow_type q3 hg
    exact lt hc (q1.2 g hg)
theorem JB.kb (h : JB K Kr base b bm rb r P w) : ∀ i, K i → i < w.heap.size := by obtain ⟨s, D, F, hS, _⟩ := h; exact hS.kb
theorem JB.kr (h : JB K Kr base b bm rb r P w) : ∀ i, Kr i → K i := by obtain ⟨s, D, F, hS, hR, hL, hK, _⟩ := h; exact hK
theorem JB.bas (h : JB K Kr base b bm rb r P w) : base ≤ w.heap.size := h.ja.bas
theorem JB.brb (h : JB K Kr base b bm rb r P w) : base ≤ rb := h.ja.brb
theorem JB.lt (h : JB K Kr base b bm rb r P w) : rb < w.heap.size := h.ja.lt
theorem JB.krb (h : JB K Kr base b bm rb r P w) : Kr rb := by obtain ⟨s, D, F, hS, hR, hL, hK, hr, _⟩ := h; exact hr
/-- Nothing old has turned: what is new may be kept. -/
theorem JB.up (h : JB K Kr base b bm rb r P w) (hb : Below w.heap.size w w') : JB (Nw K w w') Kr base b bm rb r P w' := by
  have hkb := h.kb
  obtain ⟨s, D, F, hS, hR, hL, hK, hr, hbs, hrb, hG⟩ := h
  refine ⟨s, D, F, hS.reK hb.block fun i hi => ?_, RefP.keep hR hr fun i hi => hb.block i (hkb i (hK i hi)), hL, fun i hi => .inl (hK i hi), hr, Nat.le_trans hbs hb.size, hrb, hG⟩
  rcases hi with hi | hi
  · exact ⟨Nat.lt_of_lt_of_le (hkb i hi) hb.size, .inl hi⟩
  · exact ⟨hi.2, .inr hi.1⟩
theorem JB.same (h : JB K Kr base b bm rb r P w) (hb : Below w.heap.size w w') : JB K Kr base b bm rb r P w' := by
  have hkb := h.kb
  obtain ⟨s, D, F, hS, hR, hL, hK, hr, hbs, hrb, hG⟩ := h
  exact ⟨s, D, F, hS.reK hb.block fun i hi => ⟨Nat.lt_of_lt_of_le (hkb i hi) hb.size, .inl hi⟩, RefP.keep hR hr fun i hi => hb.block i (hkb i (hK i hi)), hL, hK, hr, Nat.le_trans hbs hb.size, hrb, hG⟩
theorem JB.drew (h : JB K Kr base b bm rb r P w) : JB K Kr base b bm rb r P w.drew := h.same (Below.refl _ _).drew
/-- The act's copy, which the reference has nothing to do with. -/
theorem JA.box2 (h : JA K base b bm rb r P w) (o : Obj) : JB (Kg K w.heap.size) K base b bm rb r P (w.alloc o) := by
  obtain ⟨s, D, F, hS, hR, hL, hr, hb, hrb, hG⟩ := h
  refine ⟨s, D, F, hS.reK (fun i hi => Below.heap_alloc w _ i hi) (fun i hi => ?_), RefP.keep hR hr fun i hi => Below.heap_alloc w _ i (hS.kb i hi), hL, fun i hi => .inl hi, hr, by simp; omega, hrb, hG⟩
  rcases hi with hi | rfl
  · exact ⟨by have := hS.kb i hi; simp; omega, .inl hi⟩
  · exact ⟨by simp, .inr (Nat.le_refl _)⟩
theorem JB.prog {f : Nat} {args : Array Value} {t : Int × RS × List PF} (h : JB K Kr base b bm rb r P w) (G : GoodP P → GoodP t.2.2)
    (C : ∀ s D F, S K base w b bm s D F → Rel s F r P → base ≤ w.heap.size → Calls Try.prog f args w (EndJ K base b bm w t)) :
    Calls Try.prog f args w fun e w' => e = .returned (.int .i64 t.1) ∧ JN K Kr base b bm rb r P t.2 w' ∧ Bel K base w w' := by
  have h16 := h.ja.le
  obtain ⟨s, D, F, hS, hR, hL, hK, hr, hb, hrb, hG⟩ := h
  refine Calls.mono (C s D F hS hL hb) ?_
  rintro e w' ⟨rfl, s1, D1, F1, h1, h2, h3⟩
  exact ⟨rfl, ⟨s1, D1, F1, h1, RefP.keep hR hr fun i hi => h2.keep i (hK i hi), h3, hK, hr, Nat.le_trans hb h2.size, hrb, h16, by rw [hL.cut]; exact hL.c0, by rw [hL.cut]; exact hL.cm, hL.k0, hL.km, G hG⟩, h2⟩
theorem JN.ref {f : Nat} {args : Array Value} {t : Int × RS × List PF} (h : JN K Kr base b bm rb r P t.2 w)
    (C : RefP Kr w rb r P → P.length ≤ 16 → 0 ≤ r.cut → r.cut ≤ 9223372036854775807 → 0 ≤ r.keep → r.keep ≤ 9223372036854775807 → Calls Try.prog f args w (Ends Kr w rb t)) :
    Calls Try.prog f args w fun e w' => e = .returned (.int .i64 t.1) ∧ JB (Nw K w w') (Nw Kr w w') base b bm rb t.2.1 t.2.2 w' ∧ w.grownBy w' (some rb) := by
  obtain ⟨s, D, F, hS, hR, hL, hK, hr, hb, hrb, h16, c0, cm, k0, km, hG⟩ := h
  refine Calls.mono (C hR h16 c0 cm k0 km) ?_
  rintro e w' ⟨rfl, h1, h2⟩
  exact ⟨rfl, ⟨s, D, F, hS.refd (hK _ hr) h2, h1, hL, fun i hi => hi.imp (hK i) id, .inl hr, Nat.le_trans hb h2.size, hrb, hG⟩, h2⟩
/-- A cell of a block turns that the reference has nothing to do with. -/
theorem JB.store (h : JB K Kr base b bm rb r P w) {q : Nat} (hq : K q) (hn : ¬ Kr q) (i : Nat) (v : Value) : JB K Kr base b bm rb r P (w.setCell ⟨q, i, none⟩ v) := by
  obtain ⟨s, D, F, hS, hR, hL, hK, hr, hb, hrb, hG⟩ := h
  have e : ∀ j, j ≠ q → (w.setCell ⟨q, i, none⟩ v).heap[j]? = w.heap[j]? := fun j hj => set_other hj
  have es : (w.setCell ⟨q, i, none⟩ v).heap.size = w.heap.size := by simp [World.setCell]
  exact ⟨s, D, F, hS.other hq (fun j _ hj => e j hj) (Nat.le_of_eq es.symm), RefP.keep hR hr fun j hj => e j (fun x => hn (x ▸ hj)), hL, hK, hr, by rw [es]; exact hb, hrb, hG⟩
theorem own_new {base g0 : Nat} {w : World} {v : Value} {l : List UInt8} (h : w.ownsRow base 5 1 v l.length (bcells l)) (hg : ∀ g, v.ownBlock = some g → g0 ≤ g) : Byt.Own g0 w v l := by
  refine ⟨h.1, ?_⟩
  rcases h.2 with hn | ⟨g, cap, cur, rfl, hb, rest⟩
  · exact .inl hn
  · exact .inr ⟨g, cap, cur, rfl, hg g rfl, rest⟩
theorem JB.read (h : JB K Kr base b bm rb r P w) (nm : ByteArray) (hn : nm.size ≤ maxLen) {l : List UInt8} {z : Int} (hq : readP nm r P = (l, z)) :
    Calls Try.prog 21 #[ptrOf b, .string nm] w fun e w' => ∃ v, e = .returned (.tuple #[v, .int .i64 z]) ∧ Byt.Own w.heap.size w' v l ∧ JB (Nw K w w') Kr base b bm rb r P w' ∧ Bel K base w w' := by
  have hkb := h.kb
  obtain ⟨s, D, F, hS, hR, hL, hK, hr, hb, hrb, hG⟩ := h
  have R := read_J hS hL hb nm hn
  rw [hq] at R
  refine Calls.mono R ?_
  rintro e w' ⟨v, rfl, h1, h2, h3, h4⟩
  refine ⟨v, rfl, own_new h1 h4, ⟨s, D, F, hS.more h2 fun i hi => ?_, RefP.keep hR hr fun i hi => h3.keep i (hK i hi), hL, fun i hi => .inl (hK i hi), hr, Nat.le_trans hb h3.size, hrb, hG⟩, h3⟩
  rcases hi with hi | hi
  · exact ⟨Nat.lt_of_lt_of_le (hkb i hi) h3.size, .inl hi⟩
  · exact ⟨hi.2, .inr hi.1⟩
theorem JB.synced (h : JB K Kr base b bm rb r P w) (nm : ByteArray) (hn : nm.size ≤ maxLen) {y z : Int} (hq : syncedP nm r P = (y, z)) :
    Calls Try.prog 25 #[ptrOf b, .string nm] w fun e w' => e = .returned (.tuple #[.int .i64 y, .int .i64 z]) ∧ JB K Kr base b bm rb r P w' ∧ Bel K base w w' := by
  obtain ⟨s, D, F, hS, hR, hL, hK, hr, hb, hrb, hG⟩ := h
  have R := synced_J hS hL hb nm hn
  rw [hq] at R
  refine Calls.mono R ?_
  rintro e w' ⟨rfl, h2, h3⟩
  exact ⟨rfl, ⟨s, D, F, h2, RefP.keep hR hr fun i hi => h3.keep i (hK i hi), hL, hK, hr, Nat.le_trans hb h3.size, hrb, hG⟩, h3⟩
theorem JB.rread (h : JB K Kr base b bm rb r P w) (nm : ByteArray) (hn : nm.size ≤ maxLen) {l : List UInt8} {z : Int} (hq : readP nm r P = (l, z)) :
    Calls Try.prog 39 #[ptrOf rb, .string nm] w fun e w' => ∃ v, e = .returned (.tuple #[v, .int .i64 z]) ∧ Byt.Own w.heap.size w' v l ∧ JB (Nw K w w') Kr base b bm rb r P w' ∧ Below w.heap.size w w' := by
  have h16 := h.ja.le
  have h0 := h
  obtain ⟨s, D, F, hS, hR, hL, hK, hr, hb, hrb, hG⟩ := h
  have R := rreadP hR (by omega) (by rw [hL.cut]; exact hL.c0) (by rw [hL.cut]; exact hL.cm) hL.k0 hL.km nm hn
  rw [hq] at R
  refine Calls.mono R ?_
  rintro e w' ⟨v, rfl, h1, h2⟩
  exact ⟨v, rfl, h1, h0.up h2, h2⟩
theorem JB.rsynced (h : JB K Kr base b bm rb r P w) (nm : ByteArray) (hn : nm.size ≤ maxLen) {y z : Int} (hq : syncedP nm r P = (y, z)) :
    Calls Try.prog 40 #[ptrOf rb, .string nm] w fun e w' => e = .returned (.tuple #[.int .i64 y, .int .i64 z]) ∧ JB K Kr base b bm rb r P w' ∧ Below w.heap.size w w' := by
  have h16 := h.ja.le
  have h0 := h
  obtain ⟨s, D, F, hS, hR, hL, hK, hr, hb, hrb, hG⟩ := h
  have R := rsyncedP hR (by omega) (by rw [hL.cut]; exact hL.c0) (by rw [hL.cut]; exact hL.cm) hL.k0 hL.km nm hn
  rw [hq] at R
  refine Calls.mono R ?_
  rintro e w' ⟨rfl, h2⟩
  exact ⟨rfl, h0.same h2, h2⟩
theorem Rel.power (h : Rel s F r P) : Rel { s with off := false } F { r with off := false } P :=
  ⟨rfl, h.cut, h.keep, h.ops, h.written, h.look, h.srt, h.c0, h.cm, h.k0, h.km, h.l0, h.lm⟩
theorem JA.power (h : JA K base b bm rb r P w) :
    Calls Try.prog 20 #[ptrOf b] w fun e w' => e = .returned (.tuple #[]) ∧ Bel K base w w' ∧ (∃ fv, w'.heap[rb]? = some (rbS fv r)) ∧ JA K base b bm rb { r with off := false } P (w'.setCell ⟨rb, 1, none⟩ (.bool false)) := by
  obtain ⟨s, D, F, hS, hR, hL, hr, hb, hrb, hG⟩ := h
  refine Calls.mono (power_any hS) ?_
  rintro e w' ⟨rfl, h2, h3⟩
  have hR2 := RefP.keep hR hr h3.keep
  have hB : ∃ fv, w'.heap[rb]? = some (rbS fv r) := by
    obtain ⟨L, hW, _⟩ := hR2
    obtain ⟨fa, fc, hB, _⟩ := hW.slice
    exact ⟨_, hB⟩
  have hg : w'.grownBy (w'.setCell ⟨rb, 1, none⟩ (.bool false)) (some rb) := gr_set (gr_below (Below.refl _ _))
  have es : (w'.setCell ⟨rb, 1, none⟩ (.bool false)).heap.size = w'.heap.size := by simp [World.setCell]
  exact ⟨rfl, h3, hB, s.off |> fun _ => ⟨_, D, F, h2.other hr (fun j _ hj => set_other hj) (Nat.le_of_eq es.symm), RefP.setf hR2 (fun fv hf => rb_set1 hf) hg, hL.power, hr, by rw [es]; exact Nat.le_trans hb h3.size, hrb, hG⟩⟩
theorem bts_srcJ {w : World} {v : Value} {l : List UInt8} (h : Byt.Bts w v l) : SrcB w w.heap.size v l := by
  rcases h with h | ⟨a, c, h1, h2, h3, h4⟩
  · exact .inl h
  · refine .inr ⟨a, c, h1, fun hl e => ?_, h4⟩
    obtain ⟨x, r, rfl⟩ := List.exists_cons_of_ne_nil hl
    have := World.block_lt_of_cell? w _ (h4 0 _ rfl)
    rw [Byt.addr_block] at this
    omega
end
end Go.Proofs.Ytmeecjedikechaa
