import Derived.Test.YtmeecjedikechaaRows
import Derived.WalkKit
import Derived.WalkLawsBesides
import Derived.WalkSpells
import Derived.Maps.Own
import Derived.Maps.OwnSet
import Derived.Maps.Views
import Derived.Below
import Derived.RegionTactic
import Derived.ChangeAlike
import Derived.BigRegion
import Derived.Maps.AppendAt
import Derived.Deep.RegionLaw
import Derived.Maps.RangeWalk
import Derived.Shelf.Abstract
/- The contracts of files.Good and octavoref01.Good: both tell the same Bool of a name, and leave the world as it was. -/
namespace Go.Proofs.Ytmeecjedikechaa
open Go.RowKit

def okByte (c : UInt8) : Bool := decide (33 ≤ (c.toNat : Int)) && decide ((c.toNat : Int) ≤ 126)
def goodB (s : ByteArray) : Bool := decide (1 ≤ s.size) && decide (s.size ≤ 24) && s.data.toList.all okByte

theorem take_snoc (s : ByteArray) (k : Nat) (h : k < s.size) : s.data.toList.take (k + 1) = s.data.toList.take k ++ [s[k]] := by
  rw [List.take_succ_eq_append_getElem (by simpa using h)]; rfl

theorem all_bad (s : ByteArray) (k : Nat) (h : k < s.size) (hb : okByte s[k] = false) : s.data.toList.all okByte = false := by
  rw [List.all_eq_false]
  refine ⟨s[k], ?_, by simp [hb]⟩
  have : s[k] = s.data.toList[k]'(by simpa using h) := by simp [ByteArray.getElem_eq_getElem_data]
  rw [this]; exact List.getElem_mem _

theorem all_snoc (s : ByteArray) (k : Nat) (h : k < s.size) (ha : (s.data.toList.take k).all okByte = true) (hb : okByte s[k] = true) : (s.data.toList.take (k + 1)).all okByte = true := by
  rw [take_snoc s k h, List.all_append, ha]; simp [hb]

theorem ret_bool {a b : Bool} (h : a = b) : Ending.returned (.bool a) = .returned (.bool b) := by rw [h]

theorem goodB_long {s : ByteArray} (h : s.size < 1 ∨ 24 < s.size) : goodB s = false := by
  simp [goodB]; intro h1 h2; omega
theorem goodB_bad {s : ByteArray} (k : Nat) (h : k < s.size) (hb : (s[k].toNat : Int) < 33 ∨ 126 < (s[k].toNat : Int)) : goodB s = false := by
  have := all_bad s k h (by simp [okByte]; omega)
  simp only [goodB, this, Bool.and_false]
theorem goodB_all {s : ByteArray} (h1 : 1 ≤ s.size) (h2 : s.size ≤ 24) (k : Nat) (hk : s.size ≤ k) (ha : (s.data.toList.take k).all okByte = true) : goodB s = true := by
  rw [List.take_of_length_le (by simpa using hk)] at ha
  simp only [goodB, ha, h1, h2, decide_true, Bool.and_true]

set_option maxHeartbeats 400000 in
theorem good_any (s : ByteArray) (w : World) (hs : s.size ≤ maxLen) :
    Calls Try.prog 13 #[.string s] w fun e w' => e = .returned (.bool (goodB s)) ∧ w' = w := by
  unfold maxLen at hs
  by_cases h1 : s.size < 1
  · have HG : Hid (goodB s = false) := goodB_long (Or.inl h1)
    go_enter Try.func13, Try.ntmps13
    go_wp2
    go_ret
    exact ⟨ret_bool HG.out.symm, rfl⟩
  by_cases h2 : 24 < s.size
  · have HG : Hid (goodB s = false) := goodB_long (Or.inr h2)
    go_enter Try.func13, Try.ntmps13
    go_wp2
    go_ret
    exact ⟨ret_bool HG.out.symm, rfl⟩
  have d1 : decide ((s.size : Int) < 1) = false := by simp; omega
  have d2 : decide ((24 : Int) < s.size) = false := by simp; omega
  go_enter Try.func13, Try.ntmps13
  go_wp2
  go_loop [14] (fun i => ∃ k : Nat, k ≤ s.size ∧ i = .int .i64 k ∧ Hid ((s.data.toList.take k).all okByte = true)) (fun i => s.size - (intOf i).toNat)
  case atStart => exact ⟨0, Nat.zero_le _, rfl, by simp [Hid]⟩
  case round =>
    obtain ⟨k, hk, rfl, ha⟩ := hrel
    by_cases hlt : k < s.size
    · by_cases hb1 : (s[k].toNat : Int) < 33
      · have HG : Hid (goodB s = false) := goodB_bad k hlt (Or.inl hb1)
        go_wp2
        go_ret
        exact ⟨ret_bool HG.out.symm, rfl⟩
      · by_cases hb2 : 126 < (s[k].toNat : Int)
        · have HG : Hid (goodB s = false) := goodB_bad k hlt (Or.inr hb2)
          go_wp2
          go_ret
          exact ⟨ret_bool HG.out.symm, rfl⟩
        · have ha' : Hid ((s.data.toList.take (k + 1)).all okByte = true) := all_snoc s k hlt ha.out (by simp [okByte]; omega)
          go_wp2
          go_round
          case rel => exact ⟨k + 1, by omega, by go_num, ha'⟩
          case measure => simp [intOf]; omega
    · have HG : Hid (goodB s = true) := goodB_all (by omega) (by omega) k (by omega) ha.out
      go_wp2
      go_ret
      exact ⟨ret_bool HG.out.symm, rfl⟩

set_option maxHeartbeats 400000 in
theorem refGood_any (s : ByteArray) (w : World) (hs : s.size ≤ maxLen) :
    Calls Try.prog 14 #[.string s] w fun e w' => e = .returned (.bool (goodB s)) ∧ w' = w := by
  unfold maxLen at hs
  go_enter Try.func14, Try.ntmps14
  go_wp2
  go_loop [3] (fun i => ∃ k : Nat, k ≤ s.size ∧ i = .int .i64 k ∧ Hid ((s.data.toList.take k).all okByte = true)) (fun i => s.size - (intOf i).toNat)
  case atStart => exact ⟨0, Nat.zero_le _, rfl, by simp [Hid]⟩
  case round =>
    obtain ⟨k, hk, rfl, ha⟩ := hrel
    by_cases hlt : k < s.size
    · by_cases hb1 : (s[k].toNat : Int) < 33
      · have HG : Hid (goodB s = false) := goodB_bad k hlt (Or.inl hb1)
        go_wp2
        go_ret
        exact ⟨ret_bool HG.out.symm, rfl⟩
      · by_cases hb2 : 126 < (s[k].toNat : Int)
        · have HG : Hid (goodB s = false) := goodB_bad k hlt (Or.inr hb2)
          go_wp2
          go_ret
          exact ⟨ret_bool HG.out.symm, rfl⟩
        · have ha' : Hid ((s.data.toList.take (k + 1)).all okByte = true) := all_snoc s k hlt ha.out (by simp [okByte]; omega)
          go_wp2
          go_round
          case rel => exact ⟨k + 1, by omega, by go_num, ha'⟩
          case measure => simp [intOf]; omega
    · by_cases h1 : s.size < 1
      · have HG : Hid (goodB s = false) := goodB_long (Or.inl h1)
        go_wp2
        go_ret
        exact ⟨ret_bool HG.out.symm, rfl⟩
      · by_cases h2 : 24 < s.size
        · have HG : Hid (goodB s = false) := goodB_long (Or.inr h2)
          go_wp2
          go_ret
          exact ⟨ret_bool (by rw [HG.out]; simp; omega), rfl⟩
        · have HG : Hid (goodB s = true) := goodB_all (by omega) (by omega) k (by omega) ha.out
          go_wp2
          go_ret
          exact ⟨ret_bool (by rw [HG.out]; simp; omega), rfl⟩
end Go.Proofs.Ytmeecjedikechaa

/- What the memory of a files.World holds: its block, its map of names, its files; and how that stays while other blocks turn. No walk. -/
namespace Go.Proofs.Ytmeecjedikechaa
open Go.RowKit Go.Maps

structure FileS where
  fb : Nat
  v : Value
  data : List UInt8
  sy : Nat

structure WS where
  off : Bool
  left : Int
  keep : Int
  ops : Int
  written : Int

def bcells (l : List UInt8) : List Value := l.map fun b => Value.int .u8 b.toNat
def RV : Value → Option (DataW Value × List MemPlace) := fun v => some (.held v, [])
abbrev ptrOf (b : Nat) : Value := .pointer (some ⟨b, 0, none⟩)
def blk (bm : Nat) (s : WS) : Obj := .cells #[.map (some bm), .bool s.off, .int .i64 s.left, .int .i64 s.keep, .int .i64 s.ops, .int .i64 s.written] 51 (0, 0)

/-- A block of the world's own: from base on, and none of those that are to be kept. -/
def Ok1 (K : Nat → Prop) (base i : Nat) : Prop := base ≤ i ∧ ¬ K i
def Ok2 (K : Nat → Prop) (base fb : Nat) (v : Value) : Prop := Ok1 K base fb ∧ ∀ g, v.ownBlock = some g → ¬ K g
/-- Below base, and in the blocks K, the world is as it was. -/
structure Bel (K : Nat → Prop) (base : Nat) (w w' : World) : Prop where
  below : Below base w w'
  kb : ∀ i, K i → i < w.heap.size
  keep : ∀ i, K i → w'.heap[i]? = w.heap[i]?
section
variable {K : Nat → Prop} {base : Nat} {a b c w w' : World}
theorem Bel.size (h : Bel K base w w') : w.heap.size ≤ w'.heap.size := h.below.size
theorem Bel.trans (h : Bel K base a b) (k : Bel K base b c) : Bel K base a c := ⟨h.below.trans k.below, h.kb, fun i hi => (k.keep i hi).trans (h.keep i hi)⟩
theorem Bel.drew (h : Bel K base a w) : Bel K base a w.drew := ⟨h.below.drew, h.kb, h.keep⟩
theorem Bel.alloc (h : Bel K base a w) (hB : base ≤ w.heap.size) (o : Obj) : Bel K base a (w.alloc o) :=
  ⟨h.below.alloc hB o, h.kb, fun i hi => (Below.heap_alloc w o i (Nat.lt_of_lt_of_le (h.kb i hi) h.below.size)).trans (h.keep i hi)⟩
theorem Bel.setCell (h : Bel K base a w) {p : Addr} (hp : Ok1 K base p.block) (u : Value) : Bel K base a (w.setCell p u) :=
  ⟨h.below.setCell hp.1 u, h.kb, fun i hi => (Below.heap_setCell w p u i (fun e => hp.2 (e ▸ hi))).trans (h.keep i hi)⟩
theorem Bel.grown {row : Option Nat} (h : Bel K base a w) (hg : w.grownBy w' row) (hB : base ≤ w.heap.size) (hr : ∀ k, row = some k → Ok1 K base k) : Bel K base a w' :=
  ⟨h.below.grown hg hB fun k hk => (hr k hk).1, h.kb, fun i hi => (hg.block i (Nat.lt_of_lt_of_le (h.kb i hi) h.below.size) (fun e => (hr i e.symm).2 hi)).trans (h.keep i hi)⟩
theorem kb_of (h : ∀ i, K i → i < w.heap.size) (hk : ∀ i, K i → w'.heap[i]? = w.heap[i]?) : ∀ i, K i → i < w'.heap.size := fun i hi => by
  have := h i hi
  rcases Nat.lt_or_ge i w'.heap.size with h1 | h1
  · exact h1
  · have e := hk i hi
    rw [Array.getElem?_eq_none h1, Array.getElem?_eq_getElem this] at e
    cases e
end
def FileAt (K : Nat → Prop) (base : Nat) (w : World) (f : FileS) : Prop :=
  Ok2 K base f.fb f.v ∧ w.heap[f.fb]? = some (.cells #[f.v, .int .i64 f.sy] 75 (0, 0)) ∧ w.ownsRow base 5 1 f.v f.data.length (bcells f.data) ∧ f.sy ≤ f.data.length ∧ f.data.length ≤ 1048576

structure S (K : Nat → Prop) (base : Nat) (w : World) (b bm : Nat) (s : WS) (D : DataW Value) (F : List UInt8 → Option FileS) : Prop where
  kb : ∀ i, K i → i < w.heap.size
  hb : Ok1 K base b
  hbm : Ok1 K base bm
  hB : w.heap[b]? = some (blk bm s)
  own : w.ownsMap Try.prog 9 RV bm 16 D
  at_ : ∀ l z, D.atKey (.string l) z = match F l with | none => z | some f => .held (ptrOf f.fb)
  files : ∀ l f, F l = some f → FileAt K base w f
  apart : ∀ l l' f f', F l = some f → F l' = some f' → l ≠ l' → f.fb ≠ f'.fb ∧ (f.v.ownBlock = none ∨ f.v.ownBlock ≠ f'.v.ownBlock)

theorem ownsRow_of_block {w w' : World} {base : Nat} {e : TypeId} {size : Nat} {v : Value} {n : Nat} {xs : List Value} (h : w.ownsRow base e size v n xs)
    (hk : ∀ g, v.ownBlock = some g → w'.heap[g]? = w.heap[g]?) : w'.ownsRow base e size v n xs := by
  refine ⟨h.1, ?_⟩
  rcases h.2 with hn | ⟨g, cap, cur, rfl, hb, hgg, rest⟩
  · exact .inl hn
  · exact .inr ⟨g, cap, cur, rfl, hb, by rw [hk g rfl]; exact hgg, rest⟩

theorem ownsRow_type {w : World} {base : Nat} {e : TypeId} {size : Nat} {v : Value} {n : Nat} {xs : List Value} (h : w.ownsRow base e size v n xs) {g : Nat} (hg : v.ownBlock = some g) : base ≤ g ∧ ∃ cur, w.heap[g]? = some (.cells cur e (0, 0)) := by
  rcases h.2 with ⟨rfl, _⟩ | ⟨g', cap, cur, rfl, hb, hgg, rest⟩
  · simp [Value.ownBlock] at hg
  · simp [Value.ownBlock] at hg; subst hg; exact ⟨hb, cur, hgg⟩

theorem ownsMap_of_block {w w' : World} {b n : Nat} {D : DataW Value} (h : w.ownsMap Try.prog 9 RV b n D) (hk : w'.heap[b]? = w.heap[b]?) : w'.ownsMap Try.prog 9 RV b n D := by
  obtain ⟨es, clock, hb, F, hs, hD⟩ := h
  exact ⟨es, clock, hk.trans hb, F, hs, hD⟩

theorem ownsMap_tight {w : World} {b n m : Nat} {D : DataW Value} (h : w.ownsMap Try.prog 9 RV b n D) (hm : Maps.size D ≤ m) : w.ownsMap Try.prog 9 RV b m D := by
  obtain ⟨es, clock, hb, F, hs, rfl⟩ := h
  refine ⟨es, clock, hb, F, ?_, rfl⟩
  simpa [Maps.size, length_sorted] using hm

theorem lt_of_some {w : World} {b : Nat} {o : Obj} (h : w.heap[b]? = some o) : b < w.heap.size := (Array.getElem?_eq_some_iff.1 h).1

/-- Nothing that was there has turned. -/
theorem S.grown {K : Nat → Prop} {base : Nat} {w w' : World} {b bm : Nat} {s : WS} {D : DataW Value} {F : List UInt8 → Option FileS} (h : S K base w b bm s D F)
    (hk : ∀ i, i < w.heap.size → w'.heap[i]? = w.heap[i]?) : S K base w' b bm s D F := {
  kb := kb_of h.kb fun i hi => hk i (h.kb i hi)
  hb := h.hb
  hbm := h.hbm
  hB := (hk b (lt_of_some h.hB)).trans h.hB
  own := ownsMap_of_block h.own (hk bm h.own.lt)
  at_ := h.at_
  apart := h.apart
  files := fun l f hf => by
    obtain ⟨h1, h2, h3, h4⟩ := h.files l f hf
    refine ⟨h1, (hk _ (lt_of_some h2)).trans h2, ownsRow_of_block h3 fun g hg => ?_, h4⟩
    obtain ⟨_, cur, hc⟩ := ownsRow_type h3 hg
    exact hk g (lt_of_some hc) }

theorem S.refl {K : Nat → Prop} {base : Nat} {w : World} {b bm : Nat} {s : WS} {D : DataW Value} {F : List UInt8 → Option FileS} (h : S K base w b bm s D F) : Bel K base w w := ⟨Below.refl base w, h.kb, fun _ _ => rfl⟩
theorem S.alloc {K : Nat → Prop} {base : Nat} {w : World} {b bm : Nat} {s : WS} {D : DataW Value} {F : List UInt8 → Option FileS} (h : S K base w b bm s D F) (o : Obj) : S K base (w.alloc o) b bm s D F :=
  h.grown fun i hi => Below.heap_alloc w o i hi
theorem S.drew {K : Nat → Prop} {base : Nat} {w : World} {b bm : Nat} {s : WS} {D : DataW Value} {F : List UInt8 → Option FileS} (h : S K base w b bm s D F) : S K base w.drew b bm s D F :=
  h.grown fun _ _ => rfl

/-- The world's own block turns. -/
theorem S.setB {K : Nat → Prop} {base : Nat} {w w' : World} {b bm : Nat} {s s' : WS} {D : DataW Value} {F : List UInt8 → Option FileS} (h : S K base w b bm s D F)
    (hk : ∀ i, i < w.heap.size → i ≠ b → w'.heap[i]? = w.heap[i]?) (hB : w'.heap[b]? = some (blk bm s')) : S K base w' b bm s' D F := {
  kb := kb_of h.kb fun i hi => hk i (h.kb i hi) (fun e => h.hb.2 (e ▸ hi))
  hb := h.hb
  hbm := h.hbm
  hB := hB
  own := ownsMap_of_block h.own (hk bm h.own.lt (by
    rintro rfl
    obtain ⟨es, c, h1, _⟩ := h.own
    rw [h.hB] at h1; simp [blk] at h1))
  at_ := h.at_
  apart := h.apart
  files := fun l f hf => by
    obtain ⟨h1, h2, h3, h4⟩ := h.files l f hf
    refine ⟨h1, (hk _ (lt_of_some h2) ?_).trans h2, ownsRow_of_block h3 fun g hg => ?_, h4⟩
    · rintro hc; rw [hc, h.hB] at h2; simp [blk] at h2
    · obtain ⟨_, cur, hc⟩ := ownsRow_type h3 hg
      refine hk g (lt_of_some hc) ?_
      rintro rfl; rw [h.hB] at hc; simp [blk] at hc }

def upd (F : List UInt8 → Option FileS) (l : List UInt8) (x : Option FileS) : List UInt8 → Option FileS := fun l' => if l' = l then x else F l'
theorem upd_same (F : List UInt8 → Option FileS) (l : List UInt8) (x : Option FileS) : upd F l x l = x := by simp [upd]
theorem upd_other (F : List UInt8 → Option FileS) {l l' : List UInt8} (h : l' ≠ l) (x : Option FileS) : upd F l x l' = F l' := by simp [upd, h]

/-- One file turns: its block, and the row that it owns (or a new one). -/
theorem S.setF {K : Nat → Prop} {base : Nat} {w w' : World} {b bm : Nat} {s : WS} {D : DataW Value} {F : List UInt8 → Option FileS} (h : S K base w b bm s D F) {l : List UInt8} {f f' : FileS} (hl : F l = some f) (hfb : f'.fb = f.fb)
    (hk : ∀ i, i < w.heap.size → i ≠ f.fb → some i ≠ f.v.ownBlock → w'.heap[i]? = w.heap[i]?)
    (hf' : FileAt K base w' f') (hv : ∀ g, f'.v.ownBlock = some g → f.v.ownBlock = some g ∨ w.heap.size ≤ g) : S K base w' b bm s D (upd F l (some f')) := by
  obtain ⟨g1, g2, g3, g4⟩ := h.files l f hl
  have hrow : ∀ g, f.v.ownBlock = some g → ∃ cur, w.heap[g]? = some (.cells cur 5 (0, 0)) := fun g hg => (ownsRow_type g3 hg).2
  have hbb : w'.heap[b]? = w.heap[b]? := by
    refine hk b (lt_of_some h.hB) ?_ ?_
    · rintro e; rw [← e, h.hB] at g2; simp [blk] at g2
    · intro e; obtain ⟨cur, hc⟩ := hrow b e.symm; rw [h.hB] at hc; simp [blk] at hc
  have hbm : w'.heap[bm]? = w.heap[bm]? := by
    obtain ⟨es, c, h1, _⟩ := h.own
    refine hk bm (lt_of_some h1) ?_ ?_
    · rintro e; rw [← e, h1] at g2; simp at g2
    · intro e; obtain ⟨cur, hc⟩ := hrow bm e.symm; rw [h1] at hc; simp at hc
  refine ⟨kb_of h.kb fun i hi => hk i (h.kb i hi) (fun e => g1.1.2 (e ▸ hi)) (fun e => g1.2 i e.symm hi), h.hb, h.hbm, hbb.trans h.hB, ownsMap_of_block h.own hbm, ?_, ?_, ?_⟩
  · intro l' z
    rw [h.at_]
    by_cases e : l' = l
    · subst e; rw [hl, upd_same]; show DataW.held (ptrOf f.fb) = DataW.held (ptrOf f'.fb); rw [hfb]
    · rw [upd_other _ e]
  · intro l' f2 h2
    by_cases e : l' = l
    · subst e; rw [upd_same] at h2; cases h2; exact hf'
    · rw [upd_other _ e] at h2
      obtain ⟨k1, k2, k3, k4⟩ := h.files l' f2 h2
      obtain ⟨a1, a2⟩ := h.apart l l' f f2 hl h2 (Ne.symm e)
      refine ⟨k1, (hk _ (lt_of_some k2) (Ne.symm a1) ?_).trans k2, ownsRow_of_block k3 fun g hg => ?_, k4⟩
      · intro e2; obtain ⟨cur, hc⟩ := hrow _ e2.symm; rw [k2] at hc; simp at hc
      · obtain ⟨_, cur, hc⟩ := ownsRow_type k3 hg
        refine hk g (lt_of_some hc) ?_ ?_
        · rintro e2; rw [e2, g2] at hc; simp at hc
        · intro e2
          rcases a2 with a2 | a2
          · rw [a2] at e2; cases e2
          · exact a2 (e2.symm.trans hg.symm)
  · have key : ∀ l2 f2, F l2 = some f2 → l2 ≠ l → f.fb ≠ f2.fb ∧ (f'.v.ownBlock = none ∨ f'.v.ownBlock ≠ f2.v.ownBlock) := by
      intro l2 f2 h2 hne
      obtain ⟨a1, a2⟩ := h.apart l l2 f f2 hl h2 (Ne.symm hne)
      refine ⟨a1, ?_⟩
      cases hx : f'.v.ownBlock with
      | none => exact .inl rfl
      | some g =>
        right
        intro e2
        obtain ⟨k1, k2, k3, k4⟩ := h.files l2 f2 h2
        rcases hv g hx with h4 | h4
        · rcases a2 with a2 | a2
          · rw [a2] at h4; cases h4
          · exact a2 (h4.trans e2)
        · obtain ⟨_, cur, hc⟩ := ownsRow_type k3 e2.symm
          have := lt_of_some hc; omega
    intro l1 l2 f1 f2 h1 h2 hne
    by_cases e1 : l1 = l
    · subst e1
      rw [upd_same] at h1; cases h1
      rw [upd_other _ (Ne.symm hne)] at h2
      rw [hfb]; exact key l2 f2 h2 (Ne.symm hne)
    · rw [upd_other _ e1] at h1
      by_cases e2 : l2 = l
      · subst e2
        rw [upd_same] at h2; cases h2
        obtain ⟨a1, a2⟩ := key l1 f1 h1 e1
        refine ⟨by rw [hfb]; exact Ne.symm a1, ?_⟩
        cases hx : f1.v.ownBlock with
        | none => exact .inl rfl
        | some g =>
          right; intro e3
          rcases a2 with a2 | a2
          · rw [a2] at e3; cases e3
          · exact a2 (by rw [hx]; exact e3.symm)
      · rw [upd_other _ e2] at h2
        exact h.apart l1 l2 f1 f2 h1 h2 hne

theorem has_of_at {D : DataW Value} {F : List UInt8 → Option FileS} (h : ∀ l z, D.atKey (.string l) z = match F l with | none => z | some f => .held (ptrOf f.fb)) (l : List UInt8) : Maps.has D (.string l) = (F l).isSome := by
  cases e : F l with
  | none => exact Maps.has_false_of_atKey fun z => by rw [h, e]
  | some f => exact Maps.has_true_of_atKey (y := .held (ptrOf f.fb)) fun z => by rw [h, e]

/-- A new file of that name, in the place of what was called so. -/
theorem S.putF {K : Nat → Prop} {base : Nat} {w w' : World} {b bm : Nat} {s : WS} {D : DataW Value} {F : List UInt8 → Option FileS} (h : S K base w b bm s D F) {l : List UInt8} {f' : FileS} {n : Nat}
    (hk : ∀ i, i < w.heap.size → i ≠ bm → w'.heap[i]? = w.heap[i]?) (hroom : (F l).isSome = true ∨ Maps.size D < 16)
    (hown : w'.ownsMap Try.prog 9 RV bm n (D.put (.string l) (.held (ptrOf f'.fb))))
    (hf' : FileAt K base w' f') (hnew : w.heap.size ≤ f'.fb) (hv : ∀ g, f'.v.ownBlock = some g → w.heap.size ≤ g) : S K base w' b bm s (D.put (.string l) (.held (ptrOf f'.fb))) (upd F l (some f')) := by
  have K : Keyed Try.prog 9 := string_keyed Try.underlying9
  have hD : Maps.IsMap D := h.own.isMap
  have hkl : WideAt.IsKeyLit (.string l) := by simp [WideAt.IsKeyLit]
  have hmap : ∃ es c, w.heap[bm]? = some (.map es c) := by obtain ⟨es, c, h1, _⟩ := h.own; exact ⟨es, c, h1⟩
  obtain ⟨es0, c0, hm0⟩ := hmap
  have hbne : b ≠ bm := by rintro rfl; rw [h.hB] at hm0; simp [blk] at hm0
  refine ⟨kb_of h.kb fun i hi => hk i (h.kb i hi) (fun e => h.hbm.2 (e ▸ hi)), h.hb, h.hbm, (hk b (lt_of_some h.hB) hbne).trans h.hB, ownsMap_tight hown ?_, ?_, ?_, ?_⟩
  · rw [Maps.size_put (h.own.tidy K), has_of_at h.at_]
    have := h.own.size_le
    split <;> rename_i hh
    · exact this
    · rcases hroom with hr | hr
      · rw [hr] at hh; exact absurd rfl hh
      · omega
  · intro l' z
    by_cases e : l' = l
    · subst e; rw [upd_same, Maps.atKey_put_same hD hkl]
    · rw [upd_other _ e, Maps.atKey_put_other (by simpa using e), h.at_]
  · intro l' f2 h2
    by_cases e : l' = l
    · subst e; rw [upd_same] at h2; cases h2; exact hf'
    · rw [upd_other _ e] at h2
      obtain ⟨k1, k2, k3, k4⟩ := h.files l' f2 h2
      refine ⟨k1, (hk _ (lt_of_some k2) ?_).trans k2, ownsRow_of_block k3 fun g hg => ?_, k4⟩
      · rintro e2; rw [e2, hm0] at k2; simp at k2
      · obtain ⟨_, cur, hc⟩ := ownsRow_type k3 hg
        refine hk g (lt_of_some hc) ?_
        rintro e2; rw [e2, hm0] at hc; simp at hc
  · have key : ∀ l2 f2, F l2 = some f2 → f'.fb ≠ f2.fb ∧ (f'.v.ownBlock = none ∨ f'.v.ownBlock ≠ f2.v.ownBlock) := by
      intro l2 f2 h2
      obtain ⟨k1, k2, k3, k4⟩ := h.files l2 f2 h2
      refine ⟨by have := lt_of_some k2; omega, ?_⟩
      cases hx : f'.v.ownBlock with
      | none => exact .inl rfl
      | some g =>
        right; intro e2
        obtain ⟨_, cur, hc⟩ := ownsRow_type k3 e2.symm
        have := lt_of_some hc; have := hv g hx; omega
    intro l1 l2 f1 f2 h1 h2 hne
    by_cases e1 : l1 = l
    · subst e1
      rw [upd_same] at h1; cases h1
      rw [upd_other _ (Ne.symm hne)] at h2
      exact key l2 f2 h2
    · rw [upd_other _ e1] at h1
      by_cases e2 : l2 = l
      · subst e2
        rw [upd_same] at h2; cases h2
        obtain ⟨a1, a2⟩ := key l1 f1 h1
        refine ⟨Ne.symm a1, ?_⟩
        cases hx : f1.v.ownBlock with
        | none => exact .inl rfl
        | some g =>
          right; intro e3
          rcases a2 with a2 | a2
          · rw [a2] at e3; cases e3
          · exact a2 (by rw [hx]; exact e3.symm)
      · rw [upd_other _ e2] at h2
        exact h.apart l1 l2 f1 f2 h1 h2 hne
end Go.Proofs.Ytmeecjedikechaa

/- The contracts of the small methods of files.World: New, made, refusal, find, hasRoom. -/
namespace Go.Proofs.Ytmeecjedikechaa
open Go.RowKit Go.Maps
open Go.WideMaps

theorem blk_cells {w : World} {b bm : Nat} {s : WS} (h : w.heap[b]? = some (blk bm s)) :
    w.cell? ⟨b, 0, none⟩ = some (.map (some bm)) ∧ w.cell? ⟨b, 1, none⟩ = some (.bool s.off) ∧ w.cell? ⟨b, 2, none⟩ = some (.int .i64 s.left) ∧ w.cell? ⟨b, 3, none⟩ = some (.int .i64 s.keep) ∧
    w.cell? ⟨b, 4, none⟩ = some (.int .i64 s.ops) ∧ w.cell? ⟨b, 5, none⟩ = some (.int .i64 s.written) := by
  simp [World.cell?, h, blk]
theorem blk_frozen {w : World} {b bm : Nat} {s : WS} (h : w.heap[b]? = some (blk bm s)) (i : Nat) : w.frozen? ⟨b, i, none⟩ = false := by
  simp [World.frozen?, h, blk]

theorem nil49 : ∀ (w : World) (r : Option Nat), (binOp .neq 49 (.map r) (.map none)).run Try.prog w = .ok (.bool (!r.isNone)) w := fun w r => run_neq_map_nil w 49 9 73 r Try.underlying49

set_option maxHeartbeats 400000 in
theorem made_yes {w : World} {b bm : Nat} {s : WS} (h : w.heap[b]? = some (blk bm s)) :
    Calls Try.prog 50 #[ptrOf b] w fun e w' => e = .returned (.bool true) ∧ w' = w := by
  obtain ⟨c0, -⟩ := blk_cells h
  clear h
  have q := nil49
  go_enter Try.func50, Try.ntmps50
  go_wp2
  go_ret
  exact ⟨rfl, rfl⟩
set_option maxHeartbeats 400000 in
theorem made_nil (w : World) : Calls Try.prog 50 #[.pointer none] w fun e w' => e = .returned (.bool false) ∧ w' = w := by
  go_enter Try.func50, Try.ntmps50
  go_wp2
  go_ret
  exact ⟨rfl, rfl⟩
set_option maxHeartbeats 400000 in
theorem made_zero {w : World} {b : Nat} (c0 : w.cell? ⟨b, 0, none⟩ = some (.map none)) : Calls Try.prog 50 #[ptrOf b] w fun e w' => e = .returned (.bool false) ∧ w' = w := by
  have q := nil49
  go_enter Try.func50, Try.ntmps50
  go_wp2
  go_ret
  exact ⟨rfl, rfl⟩
set_option maxHeartbeats 400000 in
theorem new_any {K : Nat → Prop} (w : World) (hK : ∀ i, K i → i < w.heap.size) :
    Calls Try.prog 9 #[] w fun e w' => ∃ b bm, e = .returned (ptrOf b) ∧ S K w.heap.size w' b bm ⟨false, 0, 0, 0, 0⟩ (.map []) (fun _ => none) ∧ Bel K w.heap.size w w' := by
  have HK : Hid (∀ i, K i → i < w.heap.size) := hK
  clear hK
  have hmm := @run_makeMap Try.prog
  go_enter Try.func9, Try.ntmps9
  go_wp2
  go_ret
  refine ⟨w.heap.size + 1, w.heap.size, rfl, ⟨fun i hi => by have := HK.out i hi; simp; omega, ⟨by omega, fun hi => by have := HK.out _ hi; omega⟩, ⟨by omega, fun hi => by have := HK.out _ hi; omega⟩, ?_, ?_, ?_, ?_, ?_⟩, (Bel.alloc (Bel.alloc ⟨Below.refl _ _, HK.out, fun _ _ => rfl⟩ (Nat.le_refl _) _) (by simp) _)⟩
  · have h := heap_alloc_new (w.alloc (.map #[] 0)) (blk w.heap.size ⟨false, 0, 0, 0, 0⟩)
    rw [show (w.alloc (.map #[] 0)).heap.size = w.heap.size + 1 by simp] at h
    exact h
  · exact ((World.ownsMap_made w Try.prog 9 RV).alloc _).mono (by omega)
  · intro l z; simp [DataW.atKey]
  · intro l f h; cases h
  · intro l l' f f' h; cases h

theorem ret_i64 {a b : Int} (h : a = b) : Ending.returned (.int .i64 a) = .returned (.int .i64 b) := by rw [h]

def refE (off : Bool) (ss : List ByteArray) : Int := if off then 13 else if ss.all goodB then 0 else 8
theorem refE_bad {ss : List ByteArray} (k : Nat) (h : k < ss.length) (hg : goodB (ss.getD k ByteArray.empty) = false) : refE false ss = 8 := by
  have : ss.all goodB = false := by
    rw [List.all_eq_false]
    refine ⟨ss[k], List.getElem_mem _, ?_⟩
    simp [List.getD_eq_getElem?_getD, h] at hg
    simp [hg]
  simp [refE, this]
theorem take_all {ss : List ByteArray} (k : Nat) (h : k < ss.length) (ha : (ss.take k).all goodB = true) (hg : goodB (ss.getD k ByteArray.empty) = true) : (ss.take (k + 1)).all goodB = true := by
  rw [List.take_succ_eq_append_getElem h, List.all_append, ha]
  simp [List.getD_eq_getElem?_getD, h] at hg
  simp [hg]

set_option maxHeartbeats 400000 in
theorem refusal_off {w : World} {b bm : Nat} {s : WS} (h : w.heap[b]? = some (blk bm s)) (ho : s.off = true) (nv : Value) :
    Calls Try.prog 43 #[ptrOf b, nv] w fun e w' => e = .returned (.int .i64 13) ∧ w' = w := by
  obtain ⟨-, c1, -⟩ := blk_cells h
  rw [ho] at c1
  have H : Hid (w.heap[b]? = some (blk bm s)) := h
  clear h ho
  go_enter Try.func43, Try.ntmps43
  go_wp2_with (go_at_call 50; refine (made_yes H.out).mono ?_; rintro e w' ⟨rfl, rfl⟩)
  go_ret
  exact ⟨rfl, rfl⟩
set_option maxHeartbeats 400000 in
theorem refusal_nil {w : World} {b bm : Nat} {s : WS} (h : w.heap[b]? = some (blk bm s)) (ho : s.off = false) :
    Calls Try.prog 43 #[ptrOf b, .slice none 0 0] w fun e w' => e = .returned (.int .i64 0) ∧ w' = w := by
  obtain ⟨-, c1, -⟩ := blk_cells h
  rw [ho] at c1
  have H : Hid (w.heap[b]? = some (blk bm s)) := h
  clear h ho
  go_enter Try.func43, Try.ntmps43
  go_wp2_with (go_at_call 50; refine (made_yes H.out).mono ?_; rintro e w' ⟨rfl, rfl⟩)
  refine wp_loop_rounds 1 ?_; rw [rounds_succ]
  go_wp2
  go_ret
  exact ⟨rfl, rfl⟩
set_option maxHeartbeats 400000 in
theorem refusal_on {w : World} {b bm : Nat} {s : WS} (h : w.heap[b]? = some (blk bm s)) (ho : s.off = false) (nb cap : Nat) (ss : List ByteArray) (hl : ss.length ≤ maxLen)
    (hc : ∀ j, j < ss.length → w.cell? ⟨nb, j, none⟩ = some (.string (ss.getD j ByteArray.empty))) (hs : ∀ j, j < ss.length → (ss.getD j ByteArray.empty).size ≤ maxLen) :
    Calls Try.prog 43 #[ptrOf b, .slice (some ⟨nb, 0, none⟩) ss.length cap] w fun e w' => e = .returned (.int .i64 (refE false ss)) ∧ w' = w := by
  obtain ⟨-, c1, -⟩ := blk_cells h
  rw [ho] at c1
  have H : Hid (w.heap[b]? = some (blk bm s)) := h
  have HC : Hid (∀ j, j < ss.length → w.cell? ⟨nb, j, none⟩ = some (.string (ss.getD j ByteArray.empty))) := hc
  have HS : Hid (∀ j, j < ss.length → (ss.getD j ByteArray.empty).size ≤ maxLen) := hs
  clear h ho hc hs
  unfold maxLen at hl
  go_enter Try.func43, Try.ntmps43
  go_wp2_with (go_at_call 50; refine (made_yes H.out).mono ?_; rintro e w' ⟨rfl, rfl⟩)
  go_loop [16] (fun i => ∃ k : Nat, k ≤ ss.length ∧ i = .int .i64 k ∧ Hid ((ss.take k).all goodB = true)) (fun i => ss.length - (intOf i).toNat)
  case atStart => exact ⟨0, Nat.zero_le _, rfl, by simp [Hid]⟩
  case round =>
    obtain ⟨k, hk, rfl, ha⟩ := hrel
    by_cases hlt : k < ss.length
    · have hck := HC.out k hlt
      have hsk := HS.out k hlt
      have HB : Hid (goodB (ss.getD k ByteArray.empty) = false → refE false ss = 8) := fun hg => refE_bad k hlt hg
      have HA : Hid (goodB (ss.getD k ByteArray.empty) = true → (ss.take (k + 1)).all goodB = true) := fun hg => take_all k hlt ha.out hg
      generalize ss.getD k ByteArray.empty = x at hck hsk HB HA
      cases hg : goodB x with
      | false =>
        have HE := HB.out hg
        have HG : Hid (goodB x = false) := hg
        have HE' : Hid (refE false ss = 8) := HE
        clear HE hg
        go_wp2_with (go_at_call 13; refine (good_any _ _ hsk).mono ?_; rw [HG.out]; rintro e w' ⟨rfl, rfl⟩)
        go_ret
        exact ⟨ret_i64 HE'.out.symm, rfl⟩
      | true =>
        have HE : Hid ((ss.take (k + 1)).all goodB = true) := HA.out hg
        have HG : Hid (goodB x = true) := hg
        clear hg
        go_wp2_with (go_at_call 13; refine (good_any _ _ hsk).mono ?_; rw [HG.out]; rintro e w' ⟨rfl, rfl⟩)
        go_round
        case rel => exact ⟨k + 1, by omega, by go_num, HE⟩
        case measure => simp [intOf]; omega
    · have HE : Hid (refE false ss = 0) := by
        have := ha.out
        rw [List.take_of_length_le (by omega)] at this
        simp [Hid, refE, this]
      go_wp2
      go_ret
      exact ⟨ret_i64 HE.out.symm, rfl⟩

theorem K9 : Keyed Try.prog 9 := string_keyed Try.underlying9
theorem zero73 (w : World) : (zeroValue 73).run Try.prog w = .ok (.pointer none) w := by kernel_rfl

/-- What a look-up of a name tells. -/
theorem S.look {K : Nat → Prop} {base : Nat} {w : World} {b bm : Nat} {s : WS} {D : DataW Value} {F : List UInt8 → Option FileS} (h : S K base w b bm s D F) (nm : ByteArray) (hn : nm.size ≤ maxLen) :
    (Instr.lookup 49 (.map (some bm)) (.string nm) false).run Try.prog w = .ok (match F nm.data.toList with | none => .pointer none | some f => ptrOf f.fb) w := by
  obtain ⟨v, ps, hrun, hv⟩ := h.own.lookup K9 Try.underlying49 (zero73 w) (zd := .held (.pointer none)) (zp := []) rfl (keyOf_string_mk Try.underlying9 hn)
  rw [hrun]
  have := h.at_ nm.data.toList (.held (.pointer none))
  rw [this] at hv
  simp only [RV, Option.some.injEq, Prod.mk.injEq] at hv
  have hv := hv.1
  cases e : F nm.data.toList with
  | none => rw [e] at hv; simp at hv; rw [hv]
  | some f => rw [e] at hv; simp at hv; rw [hv]

theorem S.len {K : Nat → Prop} {base : Nat} {w : World} {b bm : Nat} {s : WS} {D : DataW Value} {F : List UInt8 → Option FileS} (h : S K base w b bm s D F) (ty : TypeId) :
    (Builtin.len_ #[49] ty #[.map (some bm)]).run Try.prog w = .ok (.int .i64 (Maps.size D)) w := h.own.len Try.underlying49 ty

theorem one_cell (w : World) (x : Value) (t : TypeId) : (w.alloc (.cells #[x] t)).cell? ⟨w.heap.size, 0, none⟩ = some x := by
  simp

set_option maxHeartbeats 400000 in
theorem find_off {w : World} {b bm : Nat} {s : WS} (h : w.heap[b]? = some (blk bm s)) (ho : s.off = true) (nm : ByteArray) :
    Calls Try.prog 47 #[ptrOf b, .string nm] w fun e w' => e = .returned (.tuple #[.pointer none, .int .i64 13]) ∧ ∃ o, w' = w.alloc o := by
  have H : Hid ((w.alloc (.cells #[.string nm] 9)).heap[b]? = some (blk bm s)) := (Below.heap_alloc w _ b (lt_of_some h)).trans h
  clear h
  go_enter Try.func47, Try.ntmps47
  go_wp2_with (go_at_call 43; refine (refusal_off H.out ho _).mono ?_; rintro e w' ⟨rfl, rfl⟩)
  go_ret2
  exact ⟨rfl, _, rfl⟩
set_option maxHeartbeats 400000 in
theorem find_bad {w : World} {b bm : Nat} {s : WS} (h : w.heap[b]? = some (blk bm s)) (ho : s.off = false) (nm : ByteArray) (hn : nm.size ≤ maxLen) (hg : goodB nm = false) :
    Calls Try.prog 47 #[ptrOf b, .string nm] w fun e w' => e = .returned (.tuple #[.pointer none, .int .i64 8]) ∧ ∃ o, w' = w.alloc o := by
  have H : Hid ((w.alloc (.cells #[.string nm] 9)).heap[b]? = some (blk bm s)) := (Below.heap_alloc w _ b (lt_of_some h)).trans h
  have R := refusal_on H.out ho w.heap.size 1 [nm] (by simp [maxLen]) (by intro j hj; simp at hj; subst hj; simp) (by intro j hj; simp at hj; subst hj; simpa using hn)
  have e8 : refE false [nm] = 8 := by simp [refE, hg]
  rw [e8] at R
  have HR := R
  clear R h e8 hg ho
  go_enter Try.func47, Try.ntmps47
  go_wp2_with (go_at_call 43; refine HR.mono ?_; rintro e w' ⟨rfl, rfl⟩)
  go_ret2
  exact ⟨rfl, _, rfl⟩

set_option maxHeartbeats 400000 in
theorem find_none {K : Nat → Prop} {base : Nat} {w : World} {b bm : Nat} {s : WS} {D : DataW Value} {F : List UInt8 → Option FileS} (h : S K base w b bm s D F) (ho : s.off = false) (nm : ByteArray) (hn : nm.size ≤ maxLen) (hg : goodB nm = true) (hf : F nm.data.toList = none) :
    Calls Try.prog 47 #[ptrOf b, .string nm] w fun e w' => e = .returned (.tuple #[.pointer none, .int .i64 6]) ∧ ∃ o, w' = w.alloc o := by
  have h1 := h.alloc (.cells #[.string nm] 9)
  have R := refusal_on h1.hB ho w.heap.size 1 [nm] (by simp [maxLen]) (by intro j hj; simp at hj; subst hj; simp) (by intro j hj; simp at hj; subst hj; simpa using hn)
  have e8 : refE false [nm] = 0 := by simp [refE, hg]
  rw [e8] at R
  have L := h1.look nm hn
  rw [hf] at L
  obtain ⟨c0, -⟩ := blk_cells h1.hB
  clear e8 hg ho h1 hf h
  go_enter Try.func47, Try.ntmps47
  go_wp2_with (go_at_call 43; refine R.mono ?_; rintro e w' ⟨rfl, rfl⟩)
  go_ret2
  exact ⟨rfl, _, rfl⟩
set_option maxHeartbeats 400000 in
theorem find_some {K : Nat → Prop} {base : Nat} {w : World} {b bm : Nat} {s : WS} {D : DataW Value} {F : List UInt8 → Option FileS} (h : S K base w b bm s D F) (ho : s.off = false) (nm : ByteArray) (hn : nm.size ≤ maxLen) (hg : goodB nm = true) {f : FileS} (hf : F nm.data.toList = some f) :
    Calls Try.prog 47 #[ptrOf b, .string nm] w fun e w' => e = .returned (.tuple #[ptrOf f.fb, .int .i64 0]) ∧ ∃ o, w' = w.alloc o := by
  have h1 := h.alloc (.cells #[.string nm] 9)
  have R := refusal_on h1.hB ho w.heap.size 1 [nm] (by simp [maxLen]) (by intro j hj; simp at hj; subst hj; simp) (by intro j hj; simp at hj; subst hj; simpa using hn)
  have e8 : refE false [nm] = 0 := by simp [refE, hg]
  rw [e8] at R
  have L := h1.look nm hn
  rw [hf] at L
  obtain ⟨c0, -⟩ := blk_cells h1.hB
  clear e8 hg ho h1 hf h
  go_enter Try.func47, Try.ntmps47
  go_wp2_with (go_at_call 43; refine R.mono ?_; rintro e w' ⟨rfl, rfl⟩)
  go_ret2
  exact ⟨rfl, _, rfl⟩
set_option maxHeartbeats 400000 in
theorem room_any {K : Nat → Prop} {base : Nat} {w : World} {b bm : Nat} {s : WS} {D : DataW Value} {F : List UInt8 → Option FileS} (h : S K base w b bm s D F) (nm : ByteArray) (hn : nm.size ≤ maxLen) :
    Calls Try.prog 44 #[ptrOf b, .string nm] w fun e w' => e = .returned (.bool ((F nm.data.toList).isSome || decide ((Maps.size D : Int) < 16))) ∧ w' = w := by
  have L := h.look nm hn
  have N := fun ty => h.len ty
  obtain ⟨c0, -⟩ := blk_cells h.hB
  clear h
  cases e : F nm.data.toList with
  | none =>
    rw [e] at L
    clear e
    go_enter Try.func44, Try.ntmps44
    go_wp2
    go_ret
    exact ⟨by simp, rfl⟩
  | some f =>
    rw [e] at L
    clear e
    go_enter Try.func44, Try.ntmps44
    go_wp2
    go_ret
    exact ⟨by simp, rfl⟩
end Go.Proofs.Ytmeecjedikechaa

/- The contracts of the closures that the five operations hand to operate. -/
namespace Go.Proofs.Ytmeecjedikechaa
open Go.RowKit Go.Maps
open Go.WideMaps

theorem cell_alloc {w : World} {a : Addr} {v : Value} (h : w.cell? a = some v) (o : Obj) : (w.alloc o).cell? a = some v :=
  (World.cell?_of_block (Below.heap_alloc w o a.block (World.block_lt_of_cell? w a h))).trans h

theorem clo46_end {K : Nat → Prop} {base : Nat} {w w2 : World} {b bm : Nat} {s : WS} {D : DataW Value} {F : List UInt8 → Option FileS} (h : S K base w b bm s D F) (nm : ByteArray) (hroom : (F nm.data.toList).isSome = true ∨ Maps.size D < 16)
    (hbase : base ≤ w.heap.size) (hgrow : ((w.alloc (.cells #[.slice none 0 0, .int .i64 0] 75)).drew).grownBy w2 (some bm))
    (hown : w2.ownsMap Try.prog 9 RV bm (16 + 1) (D.put (.string nm.data.toList) (.held (ptrOf w.heap.size)))) :
    (∃ f, f.data = [] ∧ f.sy = 0 ∧ S K base w2 b bm s (D.put (.string nm.data.toList) (.held (ptrOf f.fb))) (upd F nm.data.toList (some f))) ∧ Bel K base w w2 := by
  have hbm := h.own.lt
  have hlt : w.heap.size < (w.alloc (.cells #[.slice none 0 0, .int .i64 0] 75)).drew.heap.size := by simp
  refine ⟨⟨⟨w.heap.size, .slice none 0 0, [], 0⟩, rfl, rfl, h.putF (f' := ⟨w.heap.size, .slice none 0 0, [], 0⟩) ?_ hroom hown ⟨⟨⟨hbase, fun hi => by have := h.kb _ hi; dsimp only at this; omega⟩, fun g hg => by simp [Value.ownBlock] at hg⟩, ?_, World.ownsRow_nil _ _ _ _, Nat.le_refl _, by simp⟩ (Nat.le_refl _) (by intro g hg; simp [Value.ownBlock] at hg)⟩, ?_⟩
  · intro i hi hne
    rw [hgrow.block i (by omega) (by simpa using hne)]
    exact Below.heap_alloc w _ i hi
  · rw [hgrow.block _ hlt (by simp; omega)]
    exact heap_alloc_new w _
  · exact (h.refl.alloc hbase _).drew.grown hgrow (by simp; omega) (by intro k hk; cases hk; exact h.hbm)

set_option maxHeartbeats 1000000 in
theorem clo46 {K : Nat → Prop} {base : Nat} {w : World} {b bm : Nat} {s : WS} {D : DataW Value} {F : List UInt8 → Option FileS} (h : S K base w b bm s D F) (nm : ByteArray) (hn : nm.size ≤ maxLen) (hroom : (F nm.data.toList).isSome = true ∨ Maps.size D < 16)
    (hbase : base ≤ w.heap.size) (x y : Nat) (cx : w.cell? ⟨x, 0, none⟩ = some (ptrOf b)) (cy : w.cell? ⟨y, 0, none⟩ = some (.string nm)) :
    Calls Try.prog 46 #[ptrOf x, ptrOf y] w fun e w' => e = .returned (.tuple #[]) ∧ (∃ f, f.data = [] ∧ f.sy = 0 ∧ S K base w' b bm s (D.put (.string nm.data.toList) (.held (ptrOf f.fb))) (upd F nm.data.toList (some f))) ∧ Bel K base w w' := by
  have h1 := (h.alloc (.cells #[.slice none 0 0, .int .i64 0] 75)).drew
  obtain ⟨w2, hrun, hown, hgrow⟩ := h1.own.update (val := ptrOf w.heap.size) (d := .held (ptrOf w.heap.size)) (ps := []) K9 Try.underlying49 (by simp [maxLen]) (keyOf_string_mk Try.underlying9 hn) rfl
  obtain ⟨c0, -⟩ := blk_cells h.hB
  have H : Hid (S K base w b bm s D F) := h
  have HR : Hid ((F nm.data.toList).isSome = true ∨ Maps.size D < 16) := hroom
  have HG : Hid (((w.alloc (.cells #[.slice none 0 0, .int .i64 0] 75)).drew).grownBy w2 (some bm)) := hgrow
  have HO : Hid (w2.ownsMap Try.prog 9 RV bm (16 + 1) (D.put (.string nm.data.toList) (.held (ptrOf w.heap.size)))) := hown
  clear h hroom h1 hgrow hown hn
  have cx' := cell_alloc cx (.cells #[.slice none 0 0, .int .i64 0] 75)
  have cy' := cell_alloc cy (.cells #[.slice none 0 0, .int .i64 0] 75)
  have c0' := cell_alloc c0 (.cells #[.slice none 0 0, .int .i64 0] 75)
  go_enter Try.func46, Try.ntmps46
  go_wp2
  go_region
  all_goals (go_end0)
  exact ⟨rfl, clo46_end H.out nm HR.out hbase HG.out HO.out⟩

/-- An append whose run is known, as one step of a region that draws. -/
theorem step_append_run {P : Program} {ops : Array Oper} {o : Oper} {a : Act} {w : World} {K : Act → World → Prop} {Q : Exit → Act → World → Prop} {E : Prop}
    (hg : o.guard = none) (s x : Operand) (t : TypeId) (hop : o.op = Op.call { callee := Callee.builtin Builtin.append, args := #[s, x], argTypes := #[t, t] })
    (v bv v' : Value) (w' : World) (hs : a.eval s = v) (hx : a.eval x = bv) (hrun : (Builtin.append_ #[t, t] o.type #[v, bv]).run P w = .ok v' w')
    (hK : K (a.put o.dst v') w') : if Region.wanted o (yielded ops a.tmps) = true then Oper.wp P o a w K Q else E := by
  have hw : Region.wanted o (yielded ops a.tmps) = true := by simp [Region.wanted, hg]
  rw [if_pos hw]
  unfold Oper.wp
  simp [execOp, hop, resolve, invoke, builtin, hs, hx, hrun, Result.andThen]
  exact hK

/-! ### Append$1 -/
theorem info5 : (Try.prog.info? 5).map (fun i => (i.zero, i.size, i.bytes)) = some (some (.int .u8 0), 1, 1) := by kernel_rfl

/-- What is appended: nothing, or bytes in memory outside the block b. -/
def SrcB (w : World) (b : Nat) (bv : Value) (l : List UInt8) : Prop :=
  (bv = .slice none 0 0 ∧ l = []) ∨ ∃ a cap, bv = .slice (some a) l.length cap ∧ (l ≠ [] → a.block ≠ b) ∧ ∀ j u, (bcells l)[j]? = some u → w.cell? (a.add j) = some u

theorem bcells_length (l : List UInt8) : (bcells l).length = l.length := by simp [bcells]
theorem bcells_append (l m : List UInt8) : bcells (l ++ m) = bcells l ++ bcells m := by simp [bcells]

theorem app_src {base : Nat} {w : World} {v : Value} {xs : List Value} {n b : Nat} (ty : TypeId) (hown : w.ownsRow base 5 1 v n xs) {bv : Value} {l : List UInt8} (hs : SrcB w b bv l) (hn : n + l.length ≤ 1048576) (hbase : base ≤ w.heap.size) :
    ∃ v' w', (Builtin.append_ #[29, 29] ty #[v, bv]).run Try.prog w = .ok v' w' ∧ w'.ownsRow base 5 1 v' (n + l.length) (xs ++ bcells l) ∧ w.grownBy w' v.ownBlock ∧ (v'.ownBlock = v.ownBlock ∨ v'.ownBlock = some w.heap.size) := by
  obtain ⟨i0, hi, hz0, hz1, hz2⟩ := info_parts info5
  rcases hs with ⟨rfl, rfl⟩ | ⟨a, cap, rfl, _, hc⟩
  · refine ⟨v, w, run_append_owned_none w base 29 ty 5 i0 1 Try.underlying29 hi v n xs hown, by simpa [bcells] using hown, ⟨rfl, rfl, rfl, Nat.le_refl _, fun _ _ _ => rfl⟩, .inl rfl⟩
  · obtain ⟨v', w', h1, h2, h3, _, h5⟩ := run_append_own_at w base 29 ty 5 i0 (.int .u8 0) 1 1 Try.underlying29 hi hz0 hz1 hz2 rfl (by decide) v n xs hown a l.length cap (bcells l) (by rw [bcells_length, Nat.mul_one]) hc
      (by intro u hu; simp [bcells] at hu; obtain ⟨x, _, rfl⟩ := hu; rfl) (by simp only [maxLen]; omega) (by omega) hbase
    exact ⟨v', w', h1, h2, h3, h5⟩

theorem addr_block (a : Addr) (n : Nat) : (a.add n).block = a.block := by unfold Addr.add; split <;> rfl
theorem ownsRow_slice {w : World} {base : Nat} {e : TypeId} {size : Nat} {v : Value} {n : Nat} {xs : List Value} (h : w.ownsRow base e size v n xs) : ∃ a c, v = .slice a n c := by
  rcases h.2 with ⟨rfl, rfl⟩ | ⟨g, cap, cur, rfl, _⟩
  · exact ⟨none, 0, rfl⟩
  · exact ⟨_, _, rfl⟩
theorem SrcB.drew {w : World} {b : Nat} {bv : Value} {l : List UInt8} (h : SrcB w b bv l) : SrcB w.drew b bv l := h
theorem SrcB.kept {w w' : World} {b : Nat} {bv : Value} {l : List UInt8} (h : SrcB w b bv l) (hk : ∀ i, i < w.heap.size → i ≠ b → w'.heap[i]? = w.heap[i]?) : SrcB w' b bv l := by
  rcases h with h | ⟨a, cap, h1, h2, h3⟩
  · exact .inl h
  · refine .inr ⟨a, cap, h1, h2, fun j u hj => ?_⟩
    have := h3 j u hj
    rw [← this]
    exact World.cell?_of_block (hk _ (World.block_lt_of_cell? w _ this) (by rw [addr_block]; exact h2 (by rintro rfl; simp [bcells] at hj)))

theorem cell0 {w : World} {x : Nat} {v : Value} {t : TypeId} (h : w.heap[x]? = some (.cells #[v] t (0, 0))) : w.cell? ⟨x, 0, none⟩ = some v := by simp [World.cell?, h]
theorem fcells {w : World} {x : Nat} {v u : Value} {t : TypeId} (h : w.heap[x]? = some (.cells #[v, u] t (0, 0))) : w.cell? ⟨x, 0, none⟩ = some v ∧ w.cell? ⟨x, 1, none⟩ = some u ∧ w.frozen? ⟨x, 0, none⟩ = false ∧ w.frozen? ⟨x, 1, none⟩ = false := by
  simp [World.cell?, World.frozen?, h]

theorem heap_set {w : World} {b i : Nat} {arr : Array Value} {t : TypeId} {z : Nat × Nat} (h : w.heap[b]? = some (.cells arr t z)) (v : Value) : (w.setCell ⟨b, i, none⟩ v).heap[b]? = some (.cells (arr.setIfInBounds i v) t z) := by
  simp [World.setCell, Array.getElem?_modify, h]
theorem heap_set_other (w : World) {b i k : Nat} (v : Value) (h : k ≠ b) : (w.setCell ⟨b, i, none⟩ v).heap[k]? = w.heap[k]? := Below.heap_setCell w _ v k h
theorem size_set (w : World) (a : Addr) (v : Value) : (w.setCell a v).heap.size = w.heap.size := by simp [World.setCell]

theorem S.below_row {K : Nat → Prop} {base : Nat} {w : World} {b bm : Nat} {s : WS} {D : DataW Value} {F : List UInt8 → Option FileS} (h : S K base w b bm s D F) {nm : List UInt8} {f : FileS} (hf : F nm = some f) : ∀ k, f.v.ownBlock = some k → Ok1 K base k :=
  fun _ hk => ⟨(ownsRow_type (h.files nm f hf).2.2.1 hk).1, (h.files nm f hf).1.2 _ hk⟩

theorem clo48_end {K : Nat → Prop} {base : Nat} {w w1 : World} {b bm : Nat} {s : WS} {D : DataW Value} {F : List UInt8 → Option FileS} (h : S K base w b bm s D F) {nm : List UInt8} {f : FileS} (hf : F nm = some f) (l : List UInt8) (hn : f.data.length + l.length ≤ 1048576) (hbase : base ≤ w.heap.size)
    {v' : Value} (n : Int) (hgrow : w.drew.grownBy w1 f.v.ownBlock) (hown : w1.ownsRow base 5 1 v' (f.data.length + l.length) (bcells f.data ++ bcells l)) (hloc : v'.ownBlock = f.v.ownBlock ∨ v'.ownBlock = some w.heap.size) :
    (∃ u, S K base (((w1.setCell ⟨f.fb, 0, none⟩ v').setCell ⟨b, 5, none⟩ (.int .i64 n)).drew) b bm { s with written := n } D (upd F nm (some ⟨f.fb, u, f.data ++ l, f.sy⟩))) ∧ Bel K base w (((w1.setCell ⟨f.fb, 0, none⟩ v').setCell ⟨b, 5, none⟩ (.int .i64 n)).drew) := by
  obtain ⟨g1, g2, g3, g4, g5⟩ := h.files nm f hf
  have hk : ∀ (i : Nat) (o : Obj), w.heap[i]? = some o → (∀ cur, o ≠ Obj.cells cur 5 (0, 0)) → w1.heap[i]? = some o := by
    intro i o hi ho
    rw [← hi]
    refine hgrow.block i (lt_of_some hi) ?_
    intro e
    obtain ⟨_, cur, hc⟩ := ownsRow_type g3 e.symm
    rw [hi] at hc; cases hc; exact ho cur rfl
  have hf1 := hk f.fb _ g2 (by simp)
  have hb1 := hk b _ h.hB (by simp [blk])
  have ne3 : f.fb ≠ b := by rintro e; rw [e, h.hB] at g2; simp [blk] at g2
  have hsz := hgrow.size
  have hloc' : ∀ g, v'.ownBlock = some g → f.v.ownBlock = some g ∨ w.heap.size ≤ g := by
    intro g hg
    rcases hloc with e | e
    · left; rw [← e]; exact hg
    · right; rw [e] at hg; cases hg; exact Nat.le_refl _
  -- the row that v' owns is neither the file's block nor the world's
  have hrow : ∀ g, v'.ownBlock = some g → g ≠ f.fb ∧ g ≠ b := by
    intro g hg
    obtain ⟨_, cur, hc⟩ := ownsRow_type hown hg
    exact ⟨by rintro e; rw [e, hf1] at hc; simp at hc, by rintro e; rw [e, hb1] at hc; simp [blk] at hc⟩
  have s1 : S K base (w1.setCell ⟨f.fb, 0, none⟩ v') b bm s D (upd F nm (some ⟨f.fb, v', f.data ++ l, f.sy⟩)) := by
    refine h.setF (f' := ⟨f.fb, v', f.data ++ l, f.sy⟩) hf rfl ?_ ⟨⟨g1.1, fun g hg hK => (hloc' g hg).elim (fun e => g1.2 g e hK) (fun e => by have := h.kb g hK; omega)⟩, ?_, ?_, ?_, ?_⟩ hloc'
    · intro i hi h1 h2
      rw [heap_set_other _ _ h1]
      exact hgrow.block i hi h2
    · have := heap_set (i := 0) hf1 v'
      simpa using this
    · simp only [List.length_append, bcells_append]
      exact ownsRow_of_block hown fun g hg => heap_set_other _ _ (hrow g hg).1
    · simp; omega
    · simpa using hn
  refine ⟨⟨v', (s1.setB (s' := { s with written := n }) ?_ ?_).drew⟩, ?_⟩
  · intro i _ hne; exact heap_set_other _ _ hne
  · have := heap_set (i := 5) (w := w1.setCell ⟨f.fb, 0, none⟩ v') (b := b) (arr := #[.map (some bm), .bool s.off, .int .i64 s.left, .int .i64 s.keep, .int .i64 s.ops, .int .i64 s.written]) (t := 51) (z := (0, 0)) (by rw [heap_set_other _ _ (Ne.symm ne3)]; exact hb1) (.int .i64 n)
    simpa [blk] using this
  · exact (((h.refl.drew.grown hgrow hbase (h.below_row hf)).setCell g1.1 _).setCell h.hb _).drew

set_option maxHeartbeats 1000000 in
theorem clo48 {K : Nat → Prop} {base : Nat} {w : World} {b bm : Nat} {s : WS} {D : DataW Value} {F : List UInt8 → Option FileS} (h : S K base w b bm s D F) {nm : List UInt8} {f : FileS} (hf : F nm = some f) (l : List UInt8) (bv : Value) (hs : SrcB w b bv l)
    (hn : f.data.length + l.length ≤ 1048576) (hbase : base ≤ w.heap.size) (x y z : Nat) (hx : w.heap[x]? = some (.cells #[ptrOf f.fb] 73 (0, 0))) (hy : w.heap[y]? = some (.cells #[bv] 29 (0, 0))) (hz : w.heap[z]? = some (.cells #[ptrOf b] 23 (0, 0))) :
    Calls Try.prog 48 #[ptrOf x, ptrOf y, ptrOf z] w fun e w' => e = .returned (.tuple #[]) ∧
      (∃ v', S K base w' b bm { s with written := wrap64 (s.written + l.length) } D (upd F nm (some ⟨f.fb, v', f.data ++ l, f.sy⟩))) ∧ Bel K base w w' := by
  obtain ⟨g1, g2, g3, g4, g5⟩ := h.files nm f hf
  obtain ⟨v', w1, hrun, hown, hgrow, hloc⟩ := app_src (b := b) 29 (w := w.drew) g3 hs hn hbase
  have hk : ∀ (i : Nat) (o : Obj), w.heap[i]? = some o → (∀ cur, o ≠ Obj.cells cur 5 (0, 0)) → w1.heap[i]? = some o := by
    intro i o hi ho
    rw [← hi]
    refine hgrow.block i (lt_of_some hi) ?_
    intro e
    obtain ⟨_, cur, hc⟩ := ownsRow_type g3 e.symm
    rw [hi] at hc; cases hc; exact ho cur rfl
  have hx1 := hk x _ hx (by simp)
  have hy1 := hk y _ hy (by simp)
  have hz1 := hk z _ hz (by simp)
  have hf1 := hk f.fb _ g2 (by simp)
  have hb1 := hk b _ h.hB (by simp [blk])
  have ne1 : f.fb ≠ y := by rintro e; rw [e, hy] at g2; simp at g2
  have ne2 : f.fb ≠ z := by rintro e; rw [e, hz] at g2; simp at g2
  have ne3 : f.fb ≠ b := by rintro e; rw [e, h.hB] at g2; simp [blk] at g2
  have ne1' : y ≠ f.fb := Ne.symm ne1
  have ne2' : z ≠ f.fb := Ne.symm ne2
  have ne3' : b ≠ f.fb := Ne.symm ne3
  have cx := cell0 hx
  have cy := cell0 hy
  have cx1 := cell0 hx1
  have cy1 := cell0 hy1
  have cz1 := cell0 hz1
  obtain ⟨cf, -⟩ := fcells g2
  obtain ⟨cf1, -, fz1, -⟩ := fcells hf1
  obtain ⟨-, -, -, -, -, cb5⟩ := blk_cells hb1
  have fb5 := blk_frozen hb1 5
  obtain ⟨c1, c2, hbl⟩ : ∃ c1 c2, bv = .slice c1 l.length c2 := by
    rcases hs with ⟨rfl, rfl⟩ | ⟨a, cap, rfl, _⟩
    · exact ⟨none, 0, rfl⟩
    · exact ⟨_, _, rfl⟩
  obtain ⟨d1, d2, hvl⟩ := ownsRow_slice hown
  subst hvl
  have H : Hid (S K base w b bm s D F) := h
  have HG : Hid (w.drew.grownBy w1 f.v.ownBlock) := hgrow
  have HO : Hid (w1.ownsRow base 5 1 (.slice d1 (f.data.length + l.length) d2) (f.data.length + l.length) (bcells f.data ++ bcells l)) := hown
  have HL : Hid ((Value.slice d1 (f.data.length + l.length) d2).ownBlock = f.v.ownBlock ∨ (Value.slice d1 (f.data.length + l.length) d2).ownBlock = some w.heap.size) := hloc
  clear h hgrow hown hloc hk hx hy hz hx1 hy1 hz1 hf1 hb1 g2 g3 hs
  subst hbl
  go_enter Try.func48, Try.ntmps48
  go_wp2
  have HRun : Hid (Sem.run Try.prog (Builtin.append_ #[29, 29] 29 #[f.v, .slice c1 l.length c2]) w.drew = Result.ok (.slice d1 (f.data.length + l.length) d2) w1) := hrun
  clear hrun
  go_region_law (refine step_append_run rfl _ _ 29 rfl _ _ _ _ rfl rfl HRun.out ?_)
  all_goals (go_wp2; go_region)
  all_goals (go_end0)
  all_goals exact ⟨rfl, clo48_end H.out hf l hn hbase _ HG.out HO.out HL.out⟩
end Go.Proofs.Ytmeecjedikechaa

/- The contracts of Sync's closure and of fail: what a failure of the power leaves of each file. -/
namespace Go.Proofs.Ytmeecjedikechaa
open Go.RowKit Go.Maps
open Go.WideMaps

theorem clo49_end {K : Nat → Prop} {base : Nat} {w : World} {b bm : Nat} {s : WS} {D : DataW Value} {F : List UInt8 → Option FileS} (h : S K base w b bm s D F) {nm : List UInt8} {f : FileS} (hf : F nm = some f) :
    S K base ((w.setCell ⟨f.fb, 1, none⟩ (.int .i64 f.data.length)).drew) b bm s D (upd F nm (some ⟨f.fb, f.v, f.data, f.data.length⟩)) ∧ Bel K base w ((w.setCell ⟨f.fb, 1, none⟩ (.int .i64 f.data.length)).drew) := by
  obtain ⟨g1, g2, g3, g4, g5⟩ := h.files nm f hf
  refine ⟨(h.setF (f' := ⟨f.fb, f.v, f.data, f.data.length⟩) hf rfl ?_ ⟨g1, ?_, ?_, Nat.le_refl _, g5⟩ (fun g hg => .inl hg)).drew, (h.refl.setCell g1.1 _).drew⟩
  · intro i _ hne _; exact heap_set_other _ _ hne
  · have := heap_set (i := 1) g2 (.int .i64 f.data.length)
    simpa using this
  · refine ownsRow_of_block g3 fun g hg => heap_set_other _ _ ?_
    obtain ⟨_, cur, hc⟩ := ownsRow_type g3 hg
    rintro e; rw [e, g2] at hc; simp at hc

set_option maxHeartbeats 1000000 in
theorem clo49 {K : Nat → Prop} {base : Nat} {w : World} {b bm : Nat} {s : WS} {D : DataW Value} {F : List UInt8 → Option FileS} (h : S K base w b bm s D F) {nm : List UInt8} {f : FileS} (hf : F nm = some f)
    (x : Nat) (hx : w.heap[x]? = some (.cells #[ptrOf f.fb] 73 (0, 0))) :
    Calls Try.prog 49 #[ptrOf x] w fun e w' => e = .returned (.tuple #[]) ∧ S K base w' b bm s D (upd F nm (some ⟨f.fb, f.v, f.data, f.data.length⟩)) ∧ Bel K base w w' := by
  have E : Hid (S K base ((w.setCell ⟨f.fb, 1, none⟩ (.int .i64 f.data.length)).drew) b bm s D (upd F nm (some ⟨f.fb, f.v, f.data, f.data.length⟩)) ∧ Bel K base w ((w.setCell ⟨f.fb, 1, none⟩ (.int .i64 f.data.length)).drew)) := clo49_end h hf
  obtain ⟨g1, g2, g3, g4, g5⟩ := h.files nm f hf
  obtain ⟨d1, d2, hvl⟩ := ownsRow_slice g3
  have cx := cell0 hx
  obtain ⟨cf0, cf1, -, fz1⟩ := fcells g2
  rw [hvl] at cf0
  clear h hx g2 g3 hf hvl
  go_enter Try.func49, Try.ntmps49
  go_wp2
  go_region
  all_goals (go_end0)
  all_goals exact ⟨rfl, E.out⟩

/-! ### fail -/
def reslice : Value → Nat → Value
  | .slice a _ c, n => .slice a n c
  | v, _ => v
def cutN (keep : Int) (f : FileS) : Nat := f.sy + min keep.toNat (f.data.length - f.sy)
def cutf (keep : Int) (f : FileS) : FileS := ⟨f.fb, reslice f.v (cutN keep f), f.data.take (cutN keep f), cutN keep f⟩
def cutF (keep : Int) (left : Lit → Bool) (F : List UInt8 → Option FileS) : List UInt8 → Option FileS := fun l => if left (.string l) then F l else (F l).map (cutf keep)

theorem cutN_le (keep : Int) (f : FileS) (h : f.sy ≤ f.data.length) : cutN keep f ≤ f.data.length := by unfold cutN; omega

theorem S.iter {K : Nat → Prop} {base : Nat} {w w' : World} {b bm r : Nat} {s : WS} {D : DataW Value} {F : List UInt8 → Option FileS} (h : S K base w b bm s D F) {m : Option Nat} {x : Nat} {seen : Array Nat} {c : Nat} (hr : w.heap[r]? = some (.mapIter m x seen c)) (hKr : ¬ K r)
    (hk : ∀ i, i < w.heap.size → i ≠ r → w'.heap[i]? = w.heap[i]?) : S K base w' b bm s D F := {
  kb := kb_of h.kb fun i hi => hk i (h.kb i hi) (fun e => hKr (e ▸ hi))
  hb := h.hb
  hbm := h.hbm
  hB := (hk b (lt_of_some h.hB) (by rintro rfl; rw [h.hB] at hr; simp [blk] at hr)).trans h.hB
  own := ownsMap_of_block h.own (hk bm h.own.lt (by rintro rfl; obtain ⟨es, cl, h1, _⟩ := h.own; rw [h1] at hr; simp at hr))
  at_ := h.at_
  apart := h.apart
  files := fun l f hf => by
    obtain ⟨h1, h2, h3, h4⟩ := h.files l f hf
    refine ⟨h1, (hk _ (lt_of_some h2) (by rintro e; rw [e, hr] at h2; simp at h2)).trans h2, ownsRow_of_block h3 fun g hg => ?_, h4⟩
    obtain ⟨_, cur, hc⟩ := ownsRow_type h3 hg
    exact hk g (lt_of_some hc) (by rintro rfl; rw [hr] at hc; simp at hc) }

theorem wpList_next_files {K : Nat → Prop} {base : Nat} {w : World} {b bm r cnt : Nat} {s : WS} {D : DataW Value} {F : List UInt8 → Option FileS} (hS : S K base w b bm s D F) {left : Lit → Bool}
    {ops : Array Oper} {rest : List Oper} {o : Oper} {a : Act} {Q : Exit → Act → World → Prop} (hg : o.guard = none) (it : Operand) (hop : o.op = Op.next it false)
    (hit : a.eval it = .pointer (some ⟨r, 0, none⟩)) (h : w.ranges Try.prog 9 RV bm r 16 D left cnt)
    (hDone : cnt = 0 → (∀ kl, left kl = false) → wpList Try.prog ops Q rest (a.put o.dst (.tuple #[.bool false])) w)
    (hMore : ∀ (x : ByteArray) (f : FileS) (w' : World) (cnt' : Nat), F x.data.toList = some f → left (.string x.data.toList) = true → w'.ranges Try.prog 9 RV bm r 16 D (fun z => left z && !z.sameKey (.string x.data.toList)) cnt' → cnt' < cnt →
      w.grownBy w' (some r) → w'.heap.size = w.heap.size → (Instr.entry (.pointer (some ⟨r, 0, none⟩))).run Try.prog w' = .ok (.tuple #[.string x, ptrOf f.fb]) w' → wpList Try.prog ops Q rest (a.put o.dst (.tuple #[.bool true, .string x, ptrOf f.fb])) w') :
    wpList Try.prog ops Q (o :: rest) a w := by
  refine wpList_next_ranges (α := ByteArray) (β := Value) w hg it hop 9 K9 RV Value.string id (fun key kl hk => by obtain ⟨x, rfl, _⟩ := string_of_keyOf Try.underlying9 hk; exact ⟨x, rfl⟩) (fun v y _ => ⟨v, rfl⟩) bm r 16 D left cnt hit h hDone ?_
  intro x c kl y w' cnt' hkey hlk hv hat hrg hlt hgr hsz hen
  obtain ⟨x', ex, rfl, _⟩ := string_of_keyOf Try.underlying9 hkey
  cases ex
  have hy : y.1 = .held c := by simp only [RV, id, Option.some.injEq] at hv; rw [← hv]
  cases e : F x.data.toList with
  | none =>
    exfalso
    have h1 := hat (.held (.bool true)); rw [hS.at_, e] at h1
    have h2 := hat (.held (.bool false)); rw [hS.at_, e] at h2
    rw [← h2] at h1; simp at h1
  | some f =>
    have h1 := hat (.held (.bool true)); rw [hS.at_, e, hy] at h1
    simp only [DataW.held.injEq] at h1
    subst h1
    exact hMore x f w' cnt' e hlk hrg hlt hgr hsz hen

theorem cutF_start {K : Nat → Prop} {base : Nat} {w : World} {b bm : Nat} {s : WS} {D : DataW Value} {F : List UInt8 → Option FileS} (h : S K base w b bm s D F) (keep : Int) : cutF keep (Maps.has D) F = F := by
  funext l
  unfold cutF
  rw [has_of_at h.at_]
  cases e : F l <;> simp
theorem cutF_end (keep : Int) {left : Lit → Bool} (h : ∀ kl, left kl = false) (F : List UInt8 → Option FileS) : cutF keep left F = fun l => (F l).map (cutf keep) := by
  funext l; simp [cutF, h]
theorem cutF_hit {keep : Int} {left : Lit → Bool} {F : List UInt8 → Option FileS} {l : List UInt8} (h : left (.string l) = true) : cutF keep left F l = F l := by simp [cutF, h]
theorem cutF_step {keep : Int} {left : Lit → Bool} {F : List UInt8 → Option FileS} {l : List UInt8} {f : FileS} (hf : F l = some f) :
    upd (cutF keep left F) l (some (cutf keep f)) = cutF keep (fun z => left z && !z.sameKey (.string l)) F := by
  funext l'
  unfold upd cutF
  by_cases e : l' = l
  · subst e; simp [Lit.sameKey, hf]
  · simp [Lit.sameKey, e]

theorem fail_end {K : Nat → Prop} {base : Nat} {w : World} {b bm : Nat} {s : WS} {D : DataW Value} {F : List UInt8 → Option FileS} (h : S K base w b bm s D F) :
    S K base ((w.setCell ⟨b, 1, none⟩ (.bool true)).setCell ⟨b, 3, none⟩ (.int .i64 0)) b bm { s with off := true, keep := 0 } D F := by
  have s1 : S K base (w.setCell ⟨b, 1, none⟩ (.bool true)) b bm { s with off := true } D F := by
    refine h.setB (fun i _ hne => heap_set_other _ _ hne) ?_
    have := heap_set (i := 1) (w := w) (b := b) (arr := #[.map (some bm), .bool s.off, .int .i64 s.left, .int .i64 s.keep, .int .i64 s.ops, .int .i64 s.written]) (t := 51) (z := (0, 0)) h.hB (.bool true)
    simpa [blk] using this
  refine s1.setB (fun i _ hne => heap_set_other _ _ hne) ?_
  have := heap_set (i := 3) (w := w.setCell ⟨b, 1, none⟩ (.bool true)) (b := b) (arr := #[.map (some bm), .bool true, .int .i64 s.left, .int .i64 s.keep, .int .i64 s.ops, .int .i64 s.written]) (t := 51) (z := (0, 0)) s1.hB (.int .i64 0)
  simpa [blk] using this

theorem reslice_own {w : World} {base : Nat} {v : Value} {l : List UInt8} (h : w.ownsRow base 5 1 v l.length (bcells l)) {n : Nat} (hn : n ≤ l.length) : w.ownsRow base 5 1 (reslice v n) (l.take n).length (bcells (l.take n)) := by
  have hl : (l.take n).length = n := by simp; omega
  have hb : bcells (l.take n) = (bcells l).take n := by simp [bcells]
  refine ⟨by rw [hl]; simp [bcells]; omega, ?_⟩
  rw [hl, hb]
  rcases h.2 with ⟨rfl, h0⟩ | ⟨g, cap, cur, rfl, h1, h2, h3, h4, h5, h6⟩
  · left; refine ⟨?_, by omega⟩
    have : n = 0 := by omega
    subst this; rfl
  · right
    refine ⟨g, cap, cur, rfl, h1, h2, by omega, h4, h5, ?_⟩
    rw [← h6, List.take_take]
    congr 1; omega
theorem reslice_block (v : Value) (n : Nat) : (reslice v n).ownBlock = v.ownBlock := by
  cases v with
  | slice a n c => cases a <;> rfl
  | _ => rfl
theorem cut_end {K : Nat → Prop} {base : Nat} {w : World} {b bm : Nat} {s : WS} {D : DataW Value} {F : List UInt8 → Option FileS} (h : S K base w b bm s D F) {l : List UInt8} {f : FileS} (hf : F l = some f) (keep : Int) :
    S K base (((w.setCell ⟨f.fb, 1, none⟩ (.int .i64 (cutN keep f))).setCell ⟨f.fb, 0, none⟩ (reslice f.v (cutN keep f))).drew.drew) b bm s D (upd F l (some (cutf keep f))) ∧
    Bel K base w (((w.setCell ⟨f.fb, 1, none⟩ (.int .i64 (cutN keep f))).setCell ⟨f.fb, 0, none⟩ (reslice f.v (cutN keep f))).drew.drew) := by
  obtain ⟨g1, g2, g3, g4, g5⟩ := h.files l f hf
  have hc := cutN_le keep f g4
  refine ⟨(h.setF (f' := cutf keep f) hf rfl ?_ ⟨⟨g1.1, fun g hg hK => g1.2 g (by simpa [cutf, reslice_block] using hg) hK⟩, ?_, ?_, ?_, ?_⟩ ?_).drew.drew, ((h.refl.setCell g1.1 _).setCell g1.1 _).drew.drew⟩
  · intro i _ hne _
    rw [heap_set_other _ _ hne]; exact heap_set_other _ _ hne
  · have h1 := heap_set (i := 1) g2 (.int .i64 (cutN keep f))
    have h2 := heap_set (i := 0) h1 (reslice f.v (cutN keep f))
    simpa [cutf] using h2
  · refine ownsRow_of_block (reslice_own g3 hc) fun g hg => ?_
    have hg : (reslice f.v (cutN keep f)).ownBlock = some g := hg
    rw [reslice_block] at hg
    obtain ⟨_, cur, hcc⟩ := ownsRow_type g3 hg
    have hne : g ≠ f.fb := by rintro e; rw [e, g2] at hcc; simp at hcc
    rw [heap_set_other _ _ hne]; exact heap_set_other _ _ hne
  · simp [cutf]; omega
  · simp [cutf]; omega
  · intro g hg
    left
    simpa [cutf, reslice_block] using hg

theorem round_end {K : Nat → Prop} {base : Nat} {w w1 wr : World} {b bm fb cnt cnt1 : Nat} {s : WS} {D : DataW Value} {F : List UInt8 → Option FileS} {keep : Int} {left : Lit → Bool} {v u : Value}
    (hE : S K base (((w1.setCell ⟨fb, 1, none⟩ v).setCell ⟨fb, 0, none⟩ u).drew.drew) b bm s D (cutF keep left F) ∧ Bel K base w1 (((w1.setCell ⟨fb, 1, none⟩ v).setCell ⟨fb, 0, none⟩ u).drew.drew))
    (hR : w1.ranges Try.prog 9 RV bm w.heap.size 16 D left cnt1) (h1 : w.heap.size ≠ fb) (h2 : bm ≠ fb) (hB : Bel K base w wr) (hG : wr.grownBy w1 (some w.heap.size)) (hL : wr.rangeLeft bm w.heap.size = cnt) (hbase : base ≤ w.heap.size) (hlt : cnt1 < cnt) :
    (∃ left cnt, (((w1.setCell ⟨fb, 1, none⟩ v).setCell ⟨fb, 0, none⟩ u).drew.drew).ranges Try.prog 9 RV bm w.heap.size 16 D left cnt ∧ S K base (((w1.setCell ⟨fb, 1, none⟩ v).setCell ⟨fb, 0, none⟩ u).drew.drew) b bm s D (cutF keep left F) ∧
      Bel K base w (((w1.setCell ⟨fb, 1, none⟩ v).setCell ⟨fb, 0, none⟩ u).drew.drew)) ∧ (((w1.setCell ⟨fb, 1, none⟩ v).setCell ⟨fb, 0, none⟩ u).drew.drew).rangeLeft bm w.heap.size < wr.rangeLeft bm w.heap.size := by
  have hg : w1.grownBy (((w1.setCell ⟨fb, 1, none⟩ v).setCell ⟨fb, 0, none⟩ u).drew.drew) (some fb) :=
    ⟨rfl, rfl, rfl, by simp [World.setCell], fun k _ hk => by
      have hne : k ≠ fb := by simpa using hk
      show ((w1.setCell ⟨fb, 1, none⟩ v).setCell ⟨fb, 0, none⟩ u).heap[k]? = _
      rw [heap_set_other _ _ hne]; exact heap_set_other _ _ hne⟩
  have hR' := hR.kept hg (by simpa using h2) (by simpa using h1)
  refine ⟨⟨left, cnt1, hR', hE.1, (hB.grown hG (Nat.le_trans hbase hB.size) (by intro k hk; cases hk; exact ⟨hbase, fun hi => absurd (hB.kb _ hi) (Nat.lt_irrefl _)⟩)).trans hE.2⟩, ?_⟩
  rw [hR'.left_eq, hL]; exact hlt

set_option maxHeartbeats 1000000 in
theorem fail_any {K : Nat → Prop} {base : Nat} {w : World} {b bm : Nat} {s : WS} {D : DataW Value} {F : List UInt8 → Option FileS} (h : S K base w b bm s D F) (hkeep : 0 ≤ s.keep) (hkeep' : s.keep ≤ 9223372036854775807) (hbase : base ≤ w.heap.size) :
    Calls Try.prog 61 #[ptrOf b] w fun e w' => e = .returned (.tuple #[]) ∧ S K base w' b bm { s with off := true, keep := 0 } D (fun l => (F l).map (cutf s.keep)) ∧ Bel K base w w' := by
  obtain ⟨c0, -⟩ := blk_cells h.hB
  have H : Hid (S K base w b bm s D F) := h
  clear h
  go_enter Try.func61, Try.ntmps61
  go_wp2_with (first
    | (at_range; refine wpList_range_own _ rfl _ 49 rfl 9 73 K9 Try.underlying49 RV bm 16 D rfl H.out.own ?_; intro w0 hrg0 hg0 hs0)
    | go_in)
  go_frame
  go_loopw [9] (fun _ wr => ∃ (left : Lit → Bool) (cnt : Nat), wr.ranges Try.prog 9 RV bm w.heap.size 16 D left cnt ∧ S K base wr b bm s D (cutF s.keep left F) ∧ Bel K base w wr)
    (fun _ wr => wr.rangeLeft bm w.heap.size)
  case atStart =>
    exact ⟨_, _, hrg0, by rw [cutF_start H.out]; exact H.out.grown fun i hi => hg0.block i hi (by simp), H.out.refl.grown hg0 hbase (by simp)⟩
  case round =>
    obtain ⟨left, cnt, hrg, hS, hbel⟩ := hrel
    clear hrg0 hg0 hs0
    go_wp2_with (first
      | (at_next; refine wpList_next_files hS rfl _ rfl rfl hrg ?_ ?_)
      | go_in)
    · intro _ hl0
      have E : Hid _ := fail_end hS
      rw [cutF_end s.keep hl0] at E
      have HB : Hid (Bel K base w wr) := hbel
      have hb := H.out.hb
      obtain ⟨-, cb1, -, cb3, -⟩ := blk_cells hS.hB
      have f1 := blk_frozen hS.hB 1
      have f3 := blk_frozen hS.hB 3
      clear hrg hS hbel H c0
      go_wp2
      go_end0
      exact ⟨rfl, E.out, (HB.out.setCell hb _).setCell hb _⟩
    · intro x f w1 cnt1 hf hlx hrg1 hlt hg1 hs1 hen
      rw [cutF_hit hlx] at hf
      have hiter : ∃ m x seen c, wr.heap[w.heap.size]? = some (.mapIter m x seen c) := by obtain ⟨es, cl, si, se, c00, _, _, _, _, hr, _⟩ := hrg; exact ⟨_, _, _, _, hr⟩
      obtain ⟨_, _, _, _, hr⟩ := hiter
      have hS1 := hS.iter hr (fun hi => absurd (H.out.kb _ hi) (Nat.lt_irrefl _)) (fun i hi hne => hg1.block i hi (by simpa using hne))
      have hf1 : cutF s.keep left F x.data.toList = some f := by rw [cutF_hit hlx]; exact hf
      have E := cut_end hS1 hf1 s.keep
      rw [cutF_step hf] at E
      have HE : Hid (S K base (((w1.setCell ⟨f.fb, 1, none⟩ (.int .i64 (cutN s.keep f))).setCell ⟨f.fb, 0, none⟩ (reslice f.v (cutN s.keep f))).drew.drew) b bm s D (cutF s.keep (fun z => left z && !z.sameKey (.string x.data.toList)) F) ∧
        Bel K base w1 (((w1.setCell ⟨f.fb, 1, none⟩ (.int .i64 (cutN s.keep f))).setCell ⟨f.fb, 0, none⟩ (reslice f.v (cutN s.keep f))).drew.drew)) := E
      obtain ⟨g1, g2, g3, g4, g5⟩ := hS1.files _ _ hf1
      obtain ⟨-, -, -, cb3, -⟩ := blk_cells hS1.hB
      obtain ⟨cf0, cf1, fz0, fz1⟩ := fcells g2
      have HR : Hid (w1.ranges Try.prog 9 RV bm w.heap.size 16 D (fun z => left z && !z.sameKey (.string x.data.toList)) cnt1) := hrg1
      have hne1 : w.heap.size ≠ f.fb ∧ bm ≠ f.fb := by
        obtain ⟨es, cl, si, se, c00, hm, _, _, _, hr1, _⟩ := hrg1
        exact ⟨by rintro e; rw [← e, hr1] at g2; simp at g2, by rintro e; rw [← e, hm] at g2; simp at g2⟩
      have HRl : Hid (wr.rangeLeft bm w.heap.size = cnt) := hrg.left_eq
      have HB : Hid (Bel K base w wr) := hbel
      have HG : Hid (wr.grownBy w1 (some w.heap.size)) := hg1
      have hcN := cutN_le s.keep f g4
      have hcS : f.sy ≤ cutN s.keep f := by unfold cutN; omega
      have HN : Hid ((s.keep ≤ (f.data.length : Int) - f.sy → (f.sy : Int) + s.keep = (cutN s.keep f : Int)) ∧ (¬ s.keep ≤ (f.data.length : Int) - f.sy → (f.sy : Int) + ((f.data.length : Int) - f.sy) = (cutN s.keep f : Int))) := by
        unfold cutN
        constructor
        · intro h; omega
        · intro h; omega
      generalize hcut : cutN s.keep f = N at HE HN hcN hcS
      have HC : Hid (cutN s.keep f = N) := hcut
      clear hcut
      have HV : Hid ((f.v = .slice none 0 0 ∧ f.data.length = 0) ∨ ∃ g cap, f.v = .slice (some ⟨g, 0, none⟩) f.data.length cap ∧ f.data.length ≤ cap ∧ cap ≤ maxLen) := by
        rcases g3.2 with h1 | ⟨g, cap, cur, h1, _, _, h2, h3, _⟩
        · exact .inl h1
        · exact .inr ⟨g, cap, h1, h2, h3⟩
      clear hS hbel hg1 hS1 hf hf1 g2 g3 hlx hrg hrg1 hr E H c0
      obtain ⟨hn1, hn2⟩ := hne1
      rcases HV.out with ⟨e1, e2⟩ | ⟨g, cap, e1, h2, h3⟩
      · have hN0 : N = 0 := by omega
        have hs0 : f.sy = 0 := by omega
        subst hN0
        rw [e1] at cf0 HE
        rw [hs0] at cf1
        clear e1 HV HN g4 g5 hcN hcS e2 hs0
        by_cases hk0 : s.keep = 0
        · go_wp2
          go_region
          go_wp2
          go_region
          go_wp2
          exact round_end HE.out HR.out hn1 hn2 HB.out HG.out HRl.out hbase hlt
        · have hk1 : ¬ s.keep ≤ 0 := by omega
          clear hk0
          go_wp2
          go_region
          go_wp2
          go_region
          go_wp2
          exact round_end HE.out HR.out hn1 hn2 HB.out HG.out HRl.out hbase hlt
      · rw [e1] at cf0 HE
        unfold maxLen at h3
        by_cases hmin : s.keep ≤ (f.data.length : Int) - f.sy
        · have HN1 : Hid ((f.sy : Int) + s.keep = (N : Int)) := HN.out.1 hmin
          clear e1 HV HN
          go_wp2
          go_region
          rw [HN1.out]
          go_wp2
          go_region
          go_wp2
          exact round_end HE.out HR.out hn1 hn2 HB.out HG.out HRl.out hbase hlt
        · have HN1 : Hid ((f.sy : Int) + ((f.data.length : Int) - f.sy) = (N : Int)) := HN.out.2 hmin
          clear e1 HV HN
          go_wp2
          go_region
          rw [HN1.out]
          go_wp2
          go_region
          go_wp2
          exact round_end HE.out HR.out hn1 hn2 HB.out HG.out HRl.out hbase hlt
end Go.Proofs.Ytmeecjedikechaa

/- The contract of operate, whatever closure it is handed. -/
namespace Go.Proofs.Ytmeecjedikechaa
open Go.RowKit Go.Maps
open Go.WideMaps

theorem blk_ops {w : World} {b bm : Nat} {s : WS} (h : w.heap[b]? = some (blk bm s)) (n : Int) : (w.setCell ⟨b, 4, none⟩ (.int .i64 n)).heap[b]? = some (blk bm { s with ops := n }) := by
  have := heap_set (i := 4) (w := w) (b := b) (arr := #[.map (some bm), .bool s.off, .int .i64 s.left, .int .i64 s.keep, .int .i64 s.ops, .int .i64 s.written]) (t := 51) (z := (0, 0)) h (.int .i64 n)
  simpa [blk] using this
theorem blk_left {w : World} {b bm : Nat} {s : WS} (h : w.heap[b]? = some (blk bm s)) (n : Int) : (w.setCell ⟨b, 2, none⟩ (.int .i64 n)).heap[b]? = some (blk bm { s with left := n }) := by
  have := heap_set (i := 2) (w := w) (b := b) (arr := #[.map (some bm), .bool s.off, .int .i64 s.left, .int .i64 s.keep, .int .i64 s.ops, .int .i64 s.written]) (t := 51) (z := (0, 0)) h (.int .i64 n)
  simpa [blk] using this
theorem blk_keep {w : World} {b bm : Nat} {s : WS} (h : w.heap[b]? = some (blk bm s)) (n : Int) : (w.setCell ⟨b, 3, none⟩ (.int .i64 n)).heap[b]? = some (blk bm { s with keep := n }) := by
  have := heap_set (i := 3) (w := w) (b := b) (arr := #[.map (some bm), .bool s.off, .int .i64 s.left, .int .i64 s.keep, .int .i64 s.ops, .int .i64 s.written]) (t := 51) (z := (0, 0)) h (.int .i64 n)
  simpa [blk] using this
theorem blk_off {w : World} {b bm : Nat} {s : WS} (h : w.heap[b]? = some (blk bm s)) (n : Bool) : (w.setCell ⟨b, 1, none⟩ (.bool n)).heap[b]? = some (blk bm { s with off := n }) := by
  have := heap_set (i := 1) (w := w) (b := b) (arr := #[.map (some bm), .bool s.off, .int .i64 s.left, .int .i64 s.keep, .int .i64 s.ops, .int .i64 s.written]) (t := 51) (z := (0, 0)) h (.bool n)
  simpa [blk] using this
theorem grown_set (w : World) (b i : Nat) (v : Value) : w.grownBy (w.setCell ⟨b, i, none⟩ v) (some b) :=
  ⟨rfl, rfl, rfl, by simp [World.setCell], fun k _ hk => heap_set_other _ _ (by simpa using hk)⟩

def stepped (s : WS) : WS := { s with left := if 0 < s.left then s.left - 1 else 0, ops := wrap64 (s.ops + 1) }

theorem stepped_pos {w : World} {b bm : Nat} {s : WS} (h : w.heap[b]? = some (blk bm s)) (hp : 0 < s.left) :
    ((w.setCell ⟨b, 4, none⟩ (.int .i64 (wrap64 (s.ops + 1)))).setCell ⟨b, 2, none⟩ (.int .i64 (s.left - 1))).heap[b]? = some (blk bm (stepped s)) ∧
    w.grownBy ((w.setCell ⟨b, 4, none⟩ (.int .i64 (wrap64 (s.ops + 1)))).setCell ⟨b, 2, none⟩ (.int .i64 (s.left - 1))) (some b) := by
  refine ⟨?_, (grown_set w b 4 _).trans (grown_set _ b 2 _)⟩
  rw [blk_left (blk_ops h _)]
  simp [stepped, hp]
theorem stepped_zero {w : World} {b bm : Nat} {s : WS} (h : w.heap[b]? = some (blk bm s)) (h0 : 0 ≤ s.left) (hp : ¬ 0 < s.left) :
    (w.setCell ⟨b, 4, none⟩ (.int .i64 (wrap64 (s.ops + 1)))).heap[b]? = some (blk bm (stepped s)) ∧ w.grownBy (w.setCell ⟨b, 4, none⟩ (.int .i64 (wrap64 (s.ops + 1)))) (some b) := by
  refine ⟨?_, grown_set w b 4 _⟩
  rw [blk_ops h]
  have : s.left = 0 := by omega
  simp [stepped, this]

set_option maxHeartbeats 1000000 in
theorem operate_go {w : World} {b bm : Nat} {s : WS} (hB : w.heap[b]? = some (blk bm s)) (h0 : 0 ≤ s.left) (h1 : s.left ≠ 1) (hmx : s.left ≤ 9223372036854775807) (even : Bool) (K : FuncId) (caps : Array Value) (hE : ∀ (args : Array Value) (w : World), (callFunc K args).run Try.prog w = .ok (.enter K args) w) (Post : World → Prop)
    (hdo : ∀ w1, w1.heap[b]? = some (blk bm (stepped s)) → w.grownBy w1 (some b) → Calls Try.prog K caps w1 fun e w' => e = .returned (.tuple #[]) ∧ Post w') :
    Calls Try.prog 45 #[ptrOf b, .bool even, .func (.func K) #[] caps] w fun e w' => e = .returned (.int .i64 0) ∧ Post w' := by
  obtain ⟨-, -, c2, -, c4, -⟩ := blk_cells hB
  have f2 := blk_frozen hB 2
  have f4 := blk_frozen hB 4
  have hd : (s.left == 1) = false := by simpa using h1
  have HB : Hid (w.heap[b]? = some (blk bm s)) := hB
  have HD : Hid (∀ w1, w1.heap[b]? = some (blk bm (stepped s)) → w.grownBy w1 (some b) → Calls Try.prog K caps w1 fun e w' => e = .returned (.tuple #[]) ∧ Post w') := hdo
  clear hB hdo h1
  by_cases hp : 0 < s.left
  · cases even
    all_goals
      go_enter Try.func45, Try.ntmps45
      go_wp2_with fail
      obtain ⟨k1, k2⟩ := stepped_pos HB.out hp
      refine (HD.out _ k1 k2).mono ?_
      clear k1 k2
      rintro e w' ⟨rfl, hpost⟩
      go_wp2
      go_ret
      exact ⟨rfl, hpost⟩
  · cases even
    all_goals
      go_enter Try.func45, Try.ntmps45
      go_wp2_with fail
      obtain ⟨k1, k2⟩ := stepped_zero HB.out h0 (by omega)
      refine (HD.out _ k1 k2).mono ?_
      clear k1 k2
      rintro e w' ⟨rfl, hpost⟩
      go_wp2
      go_ret
      exact ⟨rfl, hpost⟩

set_option maxHeartbeats 1000000 in
/-- The planned cut, at an operation that is there wholly or not at all. -/
theorem operate_cut {K : Nat → Prop} {base : Nat} {w : World} {b bm : Nat} {s : WS} {D : DataW Value} {F : List UInt8 → Option FileS} (h : S K base w b bm s D F) (h1 : s.left = 1) (hkeep : 0 ≤ s.keep) (hkeep' : s.keep ≤ 9223372036854775807) (hbase : base ≤ w.heap.size) (dv : Value) :
    Calls Try.prog 45 #[ptrOf b, .bool false, dv] w fun e w' => e = .returned (.int .i64 13) ∧
      S K base w' b bm { stepped s with off := true, keep := 0 } D (fun l => (F l).map (cutf s.keep)) ∧ Bel K base w w' := by
  obtain ⟨-, -, c2, -, c4, -⟩ := blk_cells h.hB
  have f2 := blk_frozen h.hB 2
  have f4 := blk_frozen h.hB 4
  obtain ⟨k1, k2⟩ := stepped_pos h.hB (by omega)
  have hS := h.setB (fun i hi hne => k2.block i hi (by simpa using hne)) k1
  have hbel := h.refl.grown k2 hbase (by intro k hk; cases hk; exact h.hb)
  rw [h1] at c2 hS hbel
  have HF := fail_any hS hkeep hkeep' (Nat.le_trans hbase hbel.size)
  have HB : Hid _ := hbel
  clear h h1 k1 k2 hS hbel
  go_enter Try.func45, Try.ntmps45
  go_wp2_with (go_at_call 61; refine HF.mono ?_; rintro e w' ⟨rfl, h2, h3⟩)
  go_ret
  exact ⟨rfl, h2, HB.out.trans h3⟩

set_option maxHeartbeats 1000000 in
/-- The planned cut, at an operation of which a part may get there. -/
theorem operate_even {K : Nat → Prop} {base : Nat} {w w0 : World} {b bm : Nat} {s : WS} (hB : w.heap[b]? = some (blk bm s)) (h1 : s.left = 1) (hkeep : 0 ≤ s.keep) (hkeep' : s.keep ≤ 9223372036854775807) (hbase : base ≤ w0.heap.size)
    (FK : FuncId) (caps : Array Value) (hE : ∀ (args : Array Value) (w : World), (callFunc FK args).run Try.prog w = .ok (.enter FK args) w) (s2 : WS) (D2 : DataW Value) (P2 : (List UInt8 → Option FileS) → Prop) (hk2 : s2.keep = s.keep)
    (hdo : ∀ w1, w1.heap[b]? = some (blk bm (stepped s)) → w.grownBy w1 (some b) → Calls Try.prog FK caps w1 fun e w' => e = .returned (.tuple #[]) ∧ (∃ F2, P2 F2 ∧ S K base w' b bm s2 D2 F2) ∧ Bel K base w0 w') :
    Calls Try.prog 45 #[ptrOf b, .bool true, .func (.func FK) #[] caps] w fun e w' => e = .returned (.int .i64 13) ∧
      (∃ F2, P2 F2 ∧ S K base w' b bm { s2 with off := true, keep := 0 } D2 (fun l => (F2 l).map (cutf s.keep))) ∧ Bel K base w0 w' := by
  obtain ⟨-, -, c2, -, c4, -⟩ := blk_cells hB
  have f2 := blk_frozen hB 2
  have f4 := blk_frozen hB 4
  obtain ⟨k1, k2⟩ := stepped_pos hB (by omega)
  have HD := hdo _ k1 k2
  rw [h1] at c2 HD
  have HK : Hid (s2.keep = s.keep) := hk2
  clear hB h1 k1 k2 hdo hk2
  go_enter Try.func45, Try.ntmps45
  go_wp2_with fail
  refine HD.mono ?_
  rintro e w' ⟨rfl, ⟨F2, hp2, hS2⟩, hbel⟩
  have HF := fail_any hS2 (by rw [HK.out]; exact hkeep) (by rw [HK.out]; exact hkeep') (Nat.le_trans hbase hbel.size)
  rw [HK.out] at HF
  have HB : Hid _ := hbel
  have HP : Hid (P2 F2) := hp2
  clear HD hS2 hbel hp2
  go_wp2_with (go_at_call 61; refine HF.mono ?_; rintro e w' ⟨rfl, h2, h3⟩)
  go_ret
  exact ⟨rfl, ⟨F2, HP.out, h2⟩, HB.out.trans h3⟩
end Go.Proofs.Ytmeecjedikechaa
