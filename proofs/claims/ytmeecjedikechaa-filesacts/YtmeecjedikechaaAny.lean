/- What FilesApart needs of one operation, whatever is asked of it: the file nm0 stays, the count goes up by one at most. -/
import Derived.Test.YtmeecjedikechaaRnS
namespace Go.Proofs.Ytmeecjedikechaa
open Go.RowKit Go.Maps
open Go.WideMaps
set_option linter.unusedVariables false
set_option linter.unusedSimpArgs false

def AP (K : Nat → Prop) (base b bm : Nat) (nm0 dat : List UInt8) (n : Int) (w : World) : Prop :=
  ∃ s D F f, S K base w b bm s D F ∧ s.off = false ∧ s.left = 0 ∧ s.ops = n ∧ F nm0 = some f ∧ f.data = dat
def Dn (K : Nat → Prop) (base b bm : Nat) (nm0 dat : List UInt8) (n : Int) (w : World) (e : Ending) (w' : World) : Prop :=
  (∃ z, e = .returned (.int .i64 z)) ∧ (AP K base b bm nm0 dat n w' ∨ AP K base b bm nm0 dat (n + 1) w') ∧ Bel K base w w'

section
variable {K : Nat → Prop} {base : Nat} {w : World} {b bm : Nat} {nm0 dat : List UInt8} {n : Int}
theorem st_left {s : WS} (h : s.left = 0) : (stepped s).left = 0 := by simp [stepped, h]
theorem st_ops {s : WS} (h : s.ops = n) (h0 : 0 ≤ n) (h1 : n ≤ 1000000) : (stepped s).ops = n + 1 := by
  simp only [stepped, h]
  unfold wrap64
  omega

theorem create_ap (h : AP K base b bm nm0 dat n w) (hbase : base ≤ w.heap.size) (h0 : 0 ≤ n) (h1 : n ≤ 1000000) (nm : ByteArray) (hne : nm.data.toList ≠ nm0) (hn : nm.size ≤ maxLen) :
    Calls Try.prog 15 #[ptrOf b, .string nm] w (Dn K base b bm nm0 dat n w) := by
  obtain ⟨s, D, F, f, hS, ho, hl, hops, hf, hd⟩ := h
  cases hg : goodB nm
  · exact (create_bad hS hbase ho nm hn hg).mono (by rintro e w' ⟨rfl, h1, h2⟩; exact ⟨⟨_, rfl⟩, .inl ⟨s, D, F, f, h1, ho, hl, hops, hf, hd⟩, h2⟩)
  · by_cases hr : (F nm.data.toList).isSome = true ∨ Maps.size D < 16
    · exact (create_ok hS hbase ho nm hn hg hr (by omega) (by omega) (by omega)).mono (by rintro e w' ⟨rfl, ⟨g, -, -, k1⟩, k2⟩; exact ⟨⟨_, rfl⟩, .inr ⟨stepped s, _, _, f, k1, ho, st_left hl, st_ops hops h0 h1, (upd_other _ hne.symm _).trans hf, hd⟩, k2⟩)
    · exact (create_full hS hbase ho nm hn hg hr).mono (by rintro e w' ⟨rfl, k1, k2⟩; exact ⟨⟨_, rfl⟩, .inl ⟨s, D, F, f, k1, ho, hl, hops, hf, hd⟩, k2⟩)

theorem sync_ap (h : AP K base b bm nm0 dat n w) (hbase : base ≤ w.heap.size) (h0 : 0 ≤ n) (h1 : n ≤ 1000000) (nm : ByteArray) (hne : nm.data.toList ≠ nm0) (hn : nm.size ≤ maxLen) :
    Calls Try.prog 17 #[ptrOf b, .string nm] w (Dn K base b bm nm0 dat n w) := by
  obtain ⟨s, D, F, f, hS, ho, hl, hops, hf, hd⟩ := h
  have bad : goodB nm = false ∨ (goodB nm = true ∧ F nm.data.toList = none) → Calls Try.prog 17 #[ptrOf b, .string nm] w (Dn K base b bm nm0 dat n w) := fun hg =>
    (sync_bad hS hbase ho nm hn hg).mono (by rintro e w' ⟨rfl | rfl, k1, k2⟩ <;> exact ⟨⟨_, rfl⟩, .inl ⟨s, D, F, f, k1, ho, hl, hops, hf, hd⟩, k2⟩)
  cases hg : goodB nm
  · exact bad (.inl hg)
  · cases hx : F nm.data.toList with
    | none => exact bad (.inr ⟨hg, hx⟩)
    | some g => exact (sync_ok hS hbase ho nm hn hg hx (by omega) (by omega) (by omega)).mono (by rintro e w' ⟨rfl, k1, k2⟩; exact ⟨⟨_, rfl⟩, .inr ⟨stepped s, _, _, f, k1, ho, st_left hl, st_ops hops h0 h1, (upd_other _ hne.symm _).trans hf, hd⟩, k2⟩)

theorem remove_ap (h : AP K base b bm nm0 dat n w) (hbase : base ≤ w.heap.size) (h0 : 0 ≤ n) (h1 : n ≤ 1000000) (nm : ByteArray) (hne : nm.data.toList ≠ nm0) (hn : nm.size ≤ maxLen) :
    Calls Try.prog 26 #[ptrOf b, .string nm] w (Dn K base b bm nm0 dat n w) := by
  obtain ⟨s, D, F, f, hS, ho, hl, hops, hf, hd⟩ := h
  have bad : goodB nm = false ∨ (goodB nm = true ∧ F nm.data.toList = none) → Calls Try.prog 26 #[ptrOf b, .string nm] w (Dn K base b bm nm0 dat n w) := fun hg =>
    (remove_bad hS hbase ho nm hn hg).mono (by rintro e w' ⟨rfl | rfl, k1, k2⟩ <;> exact ⟨⟨_, rfl⟩, .inl ⟨s, D, F, f, k1, ho, hl, hops, hf, hd⟩, k2⟩)
  cases hg : goodB nm
  · exact bad (.inl hg)
  · cases hx : F nm.data.toList with
    | none => exact bad (.inr ⟨hg, hx⟩)
    | some g => exact (remove_ok hS hbase ho nm hn hg hx (by omega) (by omega) (by omega)).mono (by rintro e w' ⟨rfl, k1, k2⟩; exact ⟨⟨_, rfl⟩, .inr ⟨stepped s, _, _, f, k1, ho, st_left hl, st_ops hops h0 h1, (upd_other _ hne.symm _).trans hf, hd⟩, k2⟩)

theorem rename_ap (h : AP K base b bm nm0 dat n w) (hbase : base ≤ w.heap.size) (h0 : 0 ≤ n) (h1 : n ≤ 1000000) (nm to : ByteArray) (hne : nm.data.toList ≠ nm0) (hne2 : to.data.toList ≠ nm0) (hn : nm.size ≤ maxLen) (ht : to.size ≤ maxLen) :
    Calls Try.prog 23 #[ptrOf b, .string nm, .string to] w (Dn K base b bm nm0 dat n w) := by
  obtain ⟨s, D, F, f, hS, ho, hl, hops, hf, hd⟩ := h
  have bad : goodB nm = false ∨ goodB to = false → Calls Try.prog 23 #[ptrOf b, .string nm, .string to] w (Dn K base b bm nm0 dat n w) := fun hg =>
    (rename_badS hS hbase ho nm to hn ht hg).mono (by rintro e w' ⟨rfl, k1, k2⟩; exact ⟨⟨_, rfl⟩, .inl ⟨s, D, F, f, k1, ho, hl, hops, hf, hd⟩, k2⟩)
  cases hg : goodB nm
  · exact bad (.inl hg)
  cases hg2 : goodB to
  · exact bad (.inr hg2)
  cases hx : F nm.data.toList with
  | none => exact (rename_noneS hS hbase ho nm to hn ht hg hg2 hx).mono (by rintro e w' ⟨rfl, k1, k2⟩; exact ⟨⟨_, rfl⟩, .inl ⟨s, D, F, f, k1, ho, hl, hops, hf, hd⟩, k2⟩)
  | some g => exact (rename_ok hS hbase ho nm to hn ht hg hg2 hx (by omega) (by omega) (by omega)).mono (by rintro e w' ⟨rfl, k1, k2⟩; exact ⟨⟨_, rfl⟩, .inr ⟨stepped s, _, _, f, k1, ho, st_left hl, st_ops hops h0 h1, (upd_other _ hne2.symm _).trans ((upd_other _ hne.symm _).trans hf), hd⟩, k2⟩)

theorem append_ap (h : AP K base b bm nm0 dat n w) (hbase : base ≤ w.heap.size) (h0 : 0 ≤ n) (h1 : n ≤ 1000000) (nm : ByteArray) (hne : nm.data.toList ≠ nm0) (hn : nm.size ≤ maxLen) (l : List UInt8) (bv : Value) (hs : SrcB w b bv l) (hl2 : l.length ≤ maxLen) :
    Calls Try.prog 16 #[ptrOf b, .string nm, bv] w (Dn K base b bm nm0 dat n w) := by
  obtain ⟨s, D, F, f, hS, ho, hl, hops, hf, hd⟩ := h
  have hbv : ∃ a n c, bv = .slice a n c := by
    rcases hs with ⟨e, -⟩ | ⟨a, c, e, -⟩
    · exact ⟨_, _, _, e⟩
    · exact ⟨_, _, _, e⟩
  have bad : goodB nm = false ∨ (goodB nm = true ∧ F nm.data.toList = none) → Calls Try.prog 16 #[ptrOf b, .string nm, bv] w (Dn K base b bm nm0 dat n w) := fun hg =>
    (append_bad hS hbase ho nm hn bv hbv hg).mono (by rintro e w' ⟨rfl | rfl, k1, k2⟩ <;> exact ⟨⟨_, rfl⟩, .inl ⟨s, D, F, f, k1, ho, hl, hops, hf, hd⟩, k2⟩)
  cases hg : goodB nm
  · exact bad (.inl hg)
  · cases hx : F nm.data.toList with
    | none => exact bad (.inr ⟨hg, hx⟩)
    | some g =>
      by_cases hm : g.data.length + l.length ≤ 1048576
      · exact (append_ok hS hbase ho nm hn hg hx l bv hs hm (by omega) (by omega) (by omega)).mono (by rintro e w' ⟨rfl, ⟨u, k1⟩, k2⟩; exact ⟨⟨_, rfl⟩, .inr ⟨_, _, _, f, k1, ho, st_left hl, st_ops hops h0 h1, (upd_other _ hne.symm _).trans hf, hd⟩, k2⟩)
      · exact (append_much hS hbase ho nm hn hg hx l bv hs hm hl2).mono (by rintro e w' ⟨rfl, k1, k2⟩; exact ⟨⟨_, rfl⟩, .inl ⟨s, D, F, f, k1, ho, hl, hops, hf, hd⟩, k2⟩)

theorem place_ap (h : AP K base b bm nm0 dat n w) (hbase : base ≤ w.heap.size) (nm : ByteArray) (hne : nm.data.toList ≠ nm0) (hn : nm.size ≤ maxLen) (l : List UInt8) (bv : Value) (hs : SrcB w b bv l) (hl2 : l.length ≤ maxLen) :
    Calls Try.prog 27 #[ptrOf b, .string nm, bv] w (Dn K base b bm nm0 dat n w) := by
  obtain ⟨s, D, F, f, hS, ho, hl, hops, hf, hd⟩ := h
  have hbv : ∃ a c, bv = .slice a l.length c := by
    rcases hs with ⟨e, e2⟩ | ⟨a, c, e, -⟩
    · exact ⟨_, _, by rw [e, e2]; rfl⟩
    · exact ⟨_, _, e⟩
  cases hg : goodB nm
  · exact (place_bad hS nm hn bv hg).mono (by rintro e w' ⟨rfl, rfl⟩; exact ⟨⟨_, rfl⟩, .inl ⟨s, D, F, f, hS, ho, hl, hops, hf, hd⟩, hS.refl⟩)
  · by_cases hr : ((F nm.data.toList).isSome = true ∨ Maps.size D < 16) ∧ l.length ≤ 1048576
    · exact (place_ok hS hbase nm hn hg hr.1 l bv hs hr.2).mono (by rintro e w' ⟨rfl, ⟨g, -, -, k1⟩, k2⟩; exact ⟨⟨_, rfl⟩, .inl ⟨s, _, _, f, k1, ho, hl, hops, (upd_other _ hne.symm _).trans hf, hd⟩, k2⟩)
    · obtain ⟨a, c, rfl⟩ := hbv
      refine (place_full hS nm hn hg a l.length c hl2 ?_).mono (by rintro e w' ⟨rfl, rfl⟩; exact ⟨⟨_, rfl⟩, .inl ⟨s, D, F, f, hS, ho, hl, hops, hf, hd⟩, hS.refl⟩)
      by_cases hc : l.length ≤ 1048576
      · exact .inl fun hh => hr ⟨hh, hc⟩
      · exact .inr (by omega)
end
end Go.Proofs.Ytmeecjedikechaa
