/- What the memory of a files.World holds: its block, its map of names, its files; and how that stays while other blocks turn. No walk. -/
import Derived.Test.YtjncibejdplamaaRows
import Derived.WalkKit
import Derived.Maps.Own
import Derived.Maps.OwnSet
import Derived.Maps.Views
import Derived.Below
namespace Go.Proofs.Ytjncibejdplamaa
open Go.RowKit Go.Maps

structure FileS where
  fb : Nat
  v : Value
  data : List UInt8
  sy : Nat

structure WS where
  off : Bool
  left : Int
  keep : Int
  ops : Int
  written : Int

def bcells (l : List UInt8) : List Value := l.map fun b => Value.int .u8 b.toNat
def RV : Value → Option (DataW Value × List MemPlace) := fun v => some (.held v, [])
abbrev ptrOf (b : Nat) : Value := .pointer (some ⟨b, 0, none⟩)
def blk (bm : Nat) (s : WS) : Obj := .cells #[.map (some bm), .bool s.off, .int .i64 s.left, .int .i64 s.keep, .int .i64 s.ops, .int .i64 s.written] 51 (0, 0)

/-- A block of the world's own: from base on, and none of those that are to be kept. -/
def Ok1 (K : Nat → Prop) (base i : Nat) : Prop := base ≤ i ∧ ¬ K i
def Ok2 (K : Nat → Prop) (base fb : Nat) (v : Value) : Prop := Ok1 K base fb ∧ ∀ g, v.ownBlock = some g → ¬ K g
/-- Below base, and in the blocks K, the world is as it was. -/
structure Bel (K : Nat → Prop) (base : Nat) (w w' : World) : Prop where
  below : Below base w w'
  kb : ∀ i, K i → i < w.heap.size
  keep : ∀ i, K i → w'.heap[i]? = w.heap[i]?
section
variable {K : Nat → Prop} {base : Nat} {a b c w w' : World}
theorem Bel.size (h : Bel K base w w') : w.heap.size ≤ w'.heap.size := h.below.size
theorem Bel.trans (h : Bel K base a b) (k : Bel K base b c) : Bel K base a c := ⟨h.below.trans k.below, h.kb, fun i hi => (k.keep i hi).trans (h.keep i hi)⟩
theorem Bel.drew (h : Bel K base a w) : Bel K base a w.drew := ⟨h.below.drew, h.kb, h.keep⟩
theorem Bel.alloc (h : Bel K base a w) (hB : base ≤ w.heap.size) (o : Obj) : Bel K base a (w.alloc o) :=
  ⟨h.below.alloc hB o, h.kb, fun i hi => (Below.heap_alloc w o i (Nat.lt_of_lt_of_le (h.kb i hi) h.below.size)).trans (h.keep i hi)⟩
theorem Bel.setCell (h : Bel K base a w) {p : Addr} (hp : Ok1 K base p.block) (u : Value) : Bel K base a (w.setCell p u) :=
  ⟨h.below.setCell hp.1 u, h.kb, fun i hi => (Below.heap_setCell w p u i (fun e => hp.2 (e ▸ hi))).trans (h.keep i hi)⟩
theorem Bel.grown {row : Option Nat} (h : Bel K base a w) (hg : w.grownBy w' row) (hB : base ≤ w.heap.size) (hr : ∀ k, row = some k → Ok1 K base k) : Bel K base a w' :=
  ⟨h.below.grown hg hB fun k hk => (hr k hk).1, h.kb, fun i hi => (hg.block i (Nat.lt_of_lt_of_le (h.kb i hi) h.below.size) (fun e => (hr i e.symm).2 hi)).trans (h.keep i hi)⟩
theorem kb_of (h : ∀ i, K i → i < w.heap.size) (hk : ∀ i, K i → w'.heap[i]? = w.heap[i]?) : ∀ i, K i → i < w'.heap.size := fun i hi => by
  have := h i hi
  rcases Nat.lt_or_ge i w'.heap.size with h1 | h1
  · exact h1
  · have e := hk i hi
    rw [Array.getElem?_eq_none h1, Array.getElem?_eq_getElem this] at e
    cases e
end
def FileAt (K : Nat → Prop) (base : Nat) (w : World) (f : FileS) : Prop :=
  Ok2 K base f.fb f.v ∧ w.heap[f.fb]? = some (.cells #[f.v, .int .i64 f.sy] 75 (0, 0)) ∧ w.ownsRow base 5 1 f.v f.data.length (bcells f.data) ∧ f.sy ≤ f.data.length ∧ f.data.length ≤ 1048576

structure S (K : Nat → Prop) (base : Nat) (w : World) (b bm : Nat) (s : WS) (D : DataW Value) (F : List UInt8 → Option FileS) : Prop where
  kb : ∀ i, K i → i < w.heap.size
  hb : Ok1 K base b
  hbm : Ok1 K base bm
  hB : w.heap[b]? = some (blk bm s)
  own : w.ownsMap Try.prog 9 RV bm 16 D
  at_ : ∀ l z, D.atKey (.string l) z = match F l with | none => z | some f => .held (ptrOf f.fb)
  files : ∀ l f, F l = some f → FileAt K base w f
  apart : ∀ l l' f f', F l = some f → F l' = some f' → l ≠ l' → f.fb ≠ f'.fb ∧ (f.v.ownBlock = none ∨ f.v.ownBlock ≠ f'.v.ownBlock)

theorem ownsRow_of_block {w w' : World} {base : Nat} {e : TypeId} {size : Nat} {v : Value} {n : Nat} {xs : List Value} (h : w.ownsRow base e size v n xs)
    (hk : ∀ g, v.ownBlock = some g → w'.heap[g]? = w.heap[g]?) : w'.ownsRow base e size v n xs := by
  refine ⟨h.1, ?_⟩
  rcases h.2 with hn | ⟨g, cap, cur, rfl, hb, hgg, rest⟩
  · exact .inl hn
  · exact .inr ⟨g, cap, cur, rfl, hb, by rw [hk g rfl]; exact hgg, rest⟩

theorem ownsRow_type {w : World} {base : Nat} {e : TypeId} {size : Nat} {v : Value} {n : Nat} {xs : List Value} (h : w.ownsRow base e size v n xs) {g : Nat} (hg : v.ownBlock = some g) : base ≤ g ∧ ∃ cur, w.heap[g]? = some (.cells cur e (0, 0)) := by
  rcases h.2 with ⟨rfl, _⟩ | ⟨g', cap, cur, rfl, hb, hgg, rest⟩
  · simp [Value.ownBlock] at hg
  · simp [Value.ownBlock] at hg; subst hg; exact ⟨hb, cur, hgg⟩

theorem ownsMap_of_block {w w' : World} {b n : Nat} {D : DataW Value} (h : w.ownsMap Try.prog 9 RV b n D) (hk : w'.heap[b]? = w.heap[b]?) : w'.ownsMap Try.prog 9 RV b n D := by
  obtain ⟨es, clock, hb, F, hs, hD⟩ := h
  exact ⟨es, clock, hk.trans hb, F, hs, hD⟩

theorem ownsMap_tight {w : World} {b n m : Nat} {D : DataW Value} (h : w.ownsMap Try.prog 9 RV b n D) (hm : Maps.size D ≤ m) : w.ownsMap Try.prog 9 RV b m D := by
  obtain ⟨es, clock, hb, F, hs, rfl⟩ := h
  refine ⟨es, clock, hb, F, ?_, rfl⟩
  simpa [Maps.size, length_sorted] using hm

theorem lt_of_some {w : World} {b : Nat} {o : Obj} (h : w.heap[b]? = some o) : b < w.heap.size := (Array.getElem?_eq_some_iff.1 h).1

/-- Nothing that was there has turned. -/
theorem S.grown {K : Nat → Prop} {base : Nat} {w w' : World} {b bm : Nat} {s : WS} {D : DataW Value} {F : List UInt8 → Option FileS} (h : S K base w b bm s D F)
    (hk : ∀ i, i < w.heap.size → w'.heap[i]? = w.heap[i]?) : S K base w' b bm s D F := {
  kb := kb_of h.kb fun i hi => hk i (h.kb i hi)
  hb := h.hb
  hbm := h.hbm
  hB := (hk b (lt_of_some h.hB)).trans h.hB
  own := ownsMap_of_block h.own (hk bm h.own.lt)
  at_ := h.at_
  apart := h.apart
  files := fun l f hf => by
    obtain ⟨h1, h2, h3, h4⟩ := h.files l f hf
    refine ⟨h1, (hk _ (lt_of_some h2)).trans h2, ownsRow_of_block h3 fun g hg => ?_, h4⟩
    obtain ⟨_, cur, hc⟩ := ownsRow_type h3 hg
    exact hk g (lt_of_some hc) }

theorem S.refl {K : Nat → Prop} {base : Nat} {w : World} {b bm : Nat} {s : WS} {D : DataW Value} {F : List UInt8 → Option FileS} (h : S K base w b bm s D F) : Bel K base w w := ⟨Below.refl base w, h.kb, fun _ _ => rfl⟩
theorem S.alloc {K : Nat → Prop} {base : Nat} {w : World} {b bm : Nat} {s : WS} {D : DataW Value} {F : List UInt8 → Option FileS} (h : S K base w b bm s D F) (o : Obj) : S K base (w.alloc o) b bm s D F :=
  h.grown fun i hi => Below.heap_alloc w o i hi
theorem S.drew {K : Nat → Prop} {base : Nat} {w : World} {b bm : Nat} {s : WS} {D : DataW Value} {F : List UInt8 → Option FileS} (h : S K base w b bm s D F) : S K base w.drew b bm s D F :=
  h.grown fun _ _ => rfl

/-- The world's own block turns. -/
theorem S.setB {K : Nat → Prop} {base : Nat} {w w' : World} {b bm : Nat} {s s' : WS} {D : DataW Value} {F : List UInt8 → Option FileS} (h : S K base w b bm s D F)
    (hk : ∀ i, i < w.heap.size → i ≠ b → w'.heap[i]? = w.heap[i]?) (hB : w'.heap[b]? = some (blk bm s')) : S K base w' b bm s' D F := {
  kb := kb_of h.kb fun i hi => hk i (h.kb i hi) (fun e => h.hb.2 (e ▸ hi))
  hb := h.hb
  hbm := h.hbm
  hB := hB
  own := ownsMap_of_block h.own (hk bm h.own.lt (by
    rintro rfl
    obtain ⟨es, c, h1, _⟩ := h.own
    rw [h.hB] at h1; simp [blk] at h1))
  at_ := h.at_
  apart := h.apart
  files := fun l f hf => by
    obtain ⟨h1, h2, h3, h4⟩ := h.files l f hf
    refine ⟨h1, (hk _ (lt_of_some h2) ?_).trans h2, ownsRow_of_block h3 fun g hg => ?_, h4⟩
    · rintro hc; rw [hc, h.hB] at h2; simp [blk] at h2
    · obtain ⟨_, cur, hc⟩ := ownsRow_type h3 hg
      refine hk g (lt_of_some hc) ?_
      rintro rfl; rw [h.hB] at hc; simp [blk] at hc }

def upd (F : List UInt8 → Option FileS) (l : List UInt8) (x : Option FileS) : List UInt8 → Option FileS := fun l' => if l' = l then x else F l'
theorem upd_same (F : List UInt8 → Option FileS) (l : List UInt8) (x : Option FileS) : upd F l x l = x := by simp [upd]
theorem upd_other (F : List UInt8 → Option FileS) {l l' : List UInt8} (h : l' ≠ l) (x : Option FileS) : upd F l x l' = F l' := by simp [upd, h]

/-- One file turns: its block, and the row that it owns (or a new one). -/
theorem S.setF {K : Nat → Prop} {base : Nat} {w w' : World} {b bm : Nat} {s : WS} {D : DataW Value} {F : List UInt8 → Option FileS} (h : S K base w b bm s D F) {l : List UInt8} {f f' : FileS} (hl : F l = some f) (hfb : f'.fb = f.fb)
    (hk : ∀ i, i < w.heap.size → i ≠ f.fb → some i ≠ f.v.ownBlock → w'.heap[i]? = w.heap[i]?)
    (hf' : FileAt K base w' f') (hv : ∀ g, f'.v.ownBlock = some g → f.v.ownBlock = some g ∨ w.heap.size ≤ g) : S K base w' b bm s D (upd F l (some f')) := by
  obtain ⟨g1, g2, g3, g4⟩ := h.files l f hl
  have hrow : ∀ g, f.v.ownBlock = some g → ∃ cur, w.heap[g]? = some (.cells cur 5 (0, 0)) := fun g hg => (ownsRow_type g3 hg).2
  have hbb : w'.heap[b]? = w.heap[b]? := by
    refine hk b (lt_of_some h.hB) ?_ ?_
    · rintro e; rw [← e, h.hB] at g2; simp [blk] at g2
    · intro e; obtain ⟨cur, hc⟩ := hrow b e.symm; rw [h.hB] at hc; simp [blk] at hc
  have hbm : w'.heap[bm]? = w.heap[bm]? := by
    obtain ⟨es, c, h1, _⟩ := h.own
    refine hk bm (lt_of_some h1) ?_ ?_
    · rintro e; rw [← e, h1] at g2; simp at g2
    · intro e; obtain ⟨cur, hc⟩ := hrow bm e.symm; rw [h1] at hc; simp at hc
  refine ⟨kb_of h.kb fun i hi => hk i (h.kb i hi) (fun e => g1.1.2 (e ▸ hi)) (fun e => g1.2 i e.symm hi), h.hb, h.hbm, hbb.trans h.hB, ownsMap_of_block h.own hbm, ?_, ?_, ?_⟩
  · intro l' z
    rw [h.at_]
    by_cases e : l' = l
    · subst e; rw [hl, upd_same]; show DataW.held (ptrOf f.fb) = DataW.held (ptrOf f'.fb); rw [hfb]
    · rw [upd_other _ e]
  · intro l' f2 h2
    by_cases e : l' = l
    · subst e; rw [upd_same] at h2; cases h2; exact hf'
    · rw [upd_other _ e] at h2
      obtain ⟨k1, k2, k3, k4⟩ := h.files l' f2 h2
      obtain ⟨a1, a2⟩ := h.apart l l' f f2 hl h2 (Ne.symm e)
      refine ⟨k1, (hk _ (lt_of_some k2) (Ne.symm a1) ?_).trans k2, ownsRow_of_block k3 fun g hg => ?_, k4⟩
      · intro e2; obtain ⟨cur, hc⟩ := hrow _ e2.symm; rw [k2] at hc; simp at hc
      · obtain ⟨_, cur, hc⟩ := ownsRow_type k3 hg
        refine hk g (lt_of_some hc) ?_ ?_
        · rintro e2; rw [e2, g2] at hc; simp at hc
        · intro e2
          rcases a2 with a2 | a2
          · rw [a2] at e2; cases e2
          · exact a2 (e2.symm.trans hg.symm)
  · have key : ∀ l2 f2, F l2 = some f2 → l2 ≠ l → f.fb ≠ f2.fb ∧ (f'.v.ownBlock = none ∨ f'.v.ownBlock ≠ f2.v.ownBlock) := by
      intro l2 f2 h2 hne
      obtain ⟨a1, a2⟩ := h.apart l l2 f f2 hl h2 (Ne.symm hne)
      refine ⟨a1, ?_⟩
      cases hx : f'.v.ownBlock with
      | none => exact .inl rfl
      | some g =>
        right
        intro e2
        obtain ⟨k1, k2, k3, k4⟩ := h.files l2 f2 h2
        rcases hv g hx with h4 | h4
        · rcases a2 with a2 | a2
          · rw [a2] at h4; cases h4
          · exact a2 (h4.trans e2)
        · obtain ⟨_, cur, hc⟩ := ownsRow_type k3 e2.symm
          have := lt_of_some hc; omega
    intro l1 l2 f1 f2 h1 h2 hne
    by_cases e1 : l1 = l
    · subst e1
      rw [upd_same] at h1; cases h1
      rw [upd_other _ (Ne.symm hne)] at h2
      rw [hfb]; exact key l2 f2 h2 (Ne.symm hne)
    · rw [upd_other _ e1] at h1
      by_cases e2 : l2 = l
      · subst e2
        rw [upd_same] at h2; cases h2
        obtain ⟨a1, a2⟩ := key l1 f1 h1 e1
        refine ⟨by rw [hfb]; exact Ne.symm a1, ?_⟩
        cases hx : f1.v.ownBlock with
        | none => exact .inl rfl
        | some g =>
          right; intro e3
          rcases a2 with a2 | a2
          · rw [a2] at e3; cases e3
          · exact a2 (by rw [hx]; exact e3.symm)
      · rw [upd_other _ e2] at h2
        exact h.apart l1 l2 f1 f2 h1 h2 hne

theorem has_of_at {D : DataW Value} {F : List UInt8 → Option FileS} (h : ∀ l z, D.atKey (.string l) z = match F l with | none => z | some f => .held (ptrOf f.fb)) (l : List UInt8) : Maps.has D (.string l) = (F l).isSome := by
  cases e : F l with
  | none => exact Maps.has_false_of_atKey fun z => by rw [h, e]
  | some f => exact Maps.has_true_of_atKey (y := .held (ptrOf f.fb)) fun z => by rw [h, e]

/-- A new file of that name, in the place of what was called so. -/
theorem S.putF {K : Nat → Prop} {base : Nat} {w w' : World} {b bm : Nat} {s : WS} {D : DataW Value} {F : List UInt8 → Option FileS} (h : S K base w b bm s D F) {l : List UInt8} {f' : FileS} {n : Nat}
    (hk : ∀ i, i < w.heap.size → i ≠ bm → w'.heap[i]? = w.heap[i]?) (hroom : (F l).isSome = true ∨ Maps.size D < 16)
    (hown : w'.ownsMap Try.prog 9 RV bm n (D.put (.string l) (.held (ptrOf f'.fb))))
    (hf' : FileAt K base w' f') (hnew : w.heap.size ≤ f'.fb) (hv : ∀ g, f'.v.ownBlock = some g → w.heap.size ≤ g) : S K base w' b bm s (D.put (.string l) (.held (ptrOf f'.fb))) (upd F l (some f')) := by
  have K : Keyed Try.prog 9 := string_keyed Try.underlying9
  have hD : Maps.IsMap D := h.own.isMap
  have hkl : WideAt.IsKeyLit (.string l) := by simp [WideAt.IsKeyLit]
  have hmap : ∃ es c, w.heap[bm]? = some (.map es c) := by obtain ⟨es, c, h1, _⟩ := h.own; exact ⟨es, c, h1⟩
  obtain ⟨es0, c0, hm0⟩ := hmap
  have hbne : b ≠ bm := by rintro rfl; rw [h.hB] at hm0; simp [blk] at hm0
  refine ⟨kb_of h.kb fun i hi => hk i (h.kb i hi) (fun e => h.hbm.2 (e ▸ hi)), h.hb, h.hbm, (hk b (lt_of_some h.hB) hbne).trans h.hB, ownsMap_tight hown ?_, ?_, ?_, ?_⟩
  · rw [Maps.size_put (h.own.tidy K), has_of_at h.at_]
    have := h.own.size_le
    split <;> rename_i hh
    · exact this
    · rcases hroom with hr | hr
      · rw [hr] at hh; exact absurd rfl hh
      · omega
  · intro l' z
    by_cases e : l' = l
    · subst e; rw [upd_same, Maps.atKey_put_same hD hkl]
    · rw [upd_other _ e, Maps.atKey_put_other (by simpa using e), h.at_]
  · intro l' f2 h2
    by_cases e : l' = l
    · subst e; rw [upd_same] at h2; cases h2; exact hf'
    · rw [upd_other _ e] at h2
      obtain ⟨k1, k2, k3, k4⟩ := h.files l' f2 h2
      refine ⟨k1, (hk _ (lt_of_some k2) ?_).trans k2, ownsRow_of_block k3 fun g hg => ?_, k4⟩
      · rintro e2; rw [e2, hm0] at k2; simp at k2
      · obtain ⟨_, cur, hc⟩ := ownsRow_type k3 hg
        refine hk g (lt_of_some hc) ?_
        rintro e2; rw [e2, hm0] at hc; simp at hc
  · have key : ∀ l2 f2, F l2 = some f2 → f'.fb ≠ f2.fb ∧ (f'.v.ownBlock = none ∨ f'.v.ownBlock ≠ f2.v.ownBlock) := by
      intro l2 f2 h2
      obtain ⟨k1, k2, k3, k4⟩ := h.files l2 f2 h2
      refine ⟨by have := lt_of_some k2; omega, ?_⟩
      cases hx : f'.v.ownBlock with
      | none => exact .inl rfl
      | some g =>
        right; intro e2
        obtain ⟨_, cur, hc⟩ := ownsRow_type k3 e2.symm
        have := lt_of_some hc; have := hv g hx; omega
    intro l1 l2 f1 f2 h1 h2 hne
    by_cases e1 : l1 = l
    · subst e1
      rw [upd_same] at h1; cases h1
      rw [upd_other _ (Ne.symm hne)] at h2
      exact key l2 f2 h2
    · rw [upd_other _ e1] at h1
      by_cases e2 : l2 = l
      · subst e2
        rw [upd_same] at h2; cases h2
        obtain ⟨a1, a2⟩ := key l1 f1 h1
        refine ⟨Ne.symm a1, ?_⟩
        cases hx : f1.v.ownBlock with
        | none => exact .inl rfl
        | some g =>
          right; intro e3
          rcases a2 with a2 | a2
          · rw [a2] at e3; cases e3
          · exact a2 (by rw [hx]; exact e3.symm)
      · rw [upd_other _ e2] at h2
        exact h.apart l1 l2 f1 f2 h1 h2 hne
end Go.Proofs.Ytjncibejdplamaa
