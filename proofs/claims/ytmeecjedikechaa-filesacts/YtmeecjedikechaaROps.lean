import Derived.Test.YtmeecjedikechaaRPut
import Derived.Test.YtmeecjedikechaaActMem
import Derived.Test.YtmeecjedikechaaOper
/- The reference's world and its plain contents. -/
namespace Go.Proofs.Ytmeecjedikechaa
open Go.RowKit Go.Maps
set_option maxRecDepth 100000
set_option linter.unusedVariables false
set_option linter.unusedSimpArgs false
/-- A file, plainly. -/
structure PF where
  nm : ByteArray
  data : List UInt8
  sy : Nat
/-- A file of the reference holds that. -/
structure Hold (K : Nat → Prop) (w : World) (t : RE) (p : PF) : Prop where
  nm : t.nm = p.nm
  bts : Byt.Bts w (.slice t.ba t.bn t.bc) p.data
  bn : t.bn = p.data.length
  sy : t.sy = (p.sy : Int)
  le : p.sy ≤ p.data.length
  mx : p.data.length ≤ 1048576
  pl : ∀ a, t.ba = some a → p.data ≠ [] → K a.block
def All2 {A B : Type} (R : A → B → Prop) : List A → List B → Prop
  | [], [] => True
  | a :: l, b :: m => R a b ∧ All2 R l m
  | _, _ => False
theorem All2.nil {A B : Type} {R : A → B → Prop} : All2 R [] [] := trivial
theorem All2.cons {A B : Type} {R : A → B → Prop} {a : A} {b : B} {l : List A} {m : List B} (h : R a b) (t : All2 R l m) : All2 R (a :: l) (b :: m) := ⟨h, t⟩
theorem All2.ind {A B : Type} {R : A → B → Prop} {motive : (l : List A) → (m : List B) → All2 R l m → Prop} (nil : motive [] [] .nil) (cons : ∀ {a : A} {b : B} {l : List A} {m : List B} (h : R a b) (t : All2 R l m), motive l m t → motive (a :: l) (b :: m) (.cons h t)) : ∀ {l : List A} {m : List B} (h : All2 R l m), motive l m h
  | [], [], _ => nil
  | _ :: _, _ :: _, h => cons h.1 h.2 (All2.ind nil cons h.2)
  | [], _ :: _, h => h.elim
  | _ :: _, [], h => h.elim
theorem All2.len {A B : Type} {R : A → B → Prop} {l : List A} {m : List B} (h : All2 R l m) : l.length = m.length := by
  induction h using All2.ind with
  | nil => rfl
  | cons _ _ ih => simp [ih]
theorem All2.app {A B : Type} {R : A → B → Prop} {l l' : List A} {m m' : List B} (h : All2 R l m) (g : All2 R l' m') : All2 R (l ++ l') (m ++ m') := by
  induction h using All2.ind with
  | nil => exact g
  | cons a _ ih => exact .cons a ih
theorem All2.imp {A B : Type} {R S : A → B → Prop} {l : List A} {m : List B} (h : All2 R l m) (f : ∀ a b, R a b → S a b) : All2 S l m := by
  induction h using All2.ind with
  | nil => exact .nil
  | cons a _ ih => exact .cons (f _ _ a) ih
theorem All2.get {A B : Type} {R : A → B → Prop} {l : List A} {m : List B} (h : All2 R l m) (k : Nat) (hk : k < l.length) : ∃ hm : k < m.length, R l[k] m[k] := by
  induction h using All2.ind generalizing k with
  | nil => simp at hk
  | cons a _ ih =>
    cases k with
    | zero => exact ⟨by simp, a⟩
    | succ k => obtain ⟨h1, h2⟩ := ih k (by simpa using hk); exact ⟨by simpa using h1, h2⟩
/-- What the reference holds, plainly. -/
def RefP (K : Nat → Prop) (w : World) (rb : Nat) (s : RS) (P : List PF) : Prop := ∃ L, RefW K w rb s L ∧ All2 (Hold K w) L P
def gePB (x f : PF) : Bool := !Op.bytesLess x.nm.toList f.nm.toList
def putP (f : PF) : Bool → List PF → List PF
  | done, [] => if done = true then [] else [f]
  | done, x :: L => (if done = false ∧ gePB x f = true then [f] else []) ++ ((if x.nm ≠ f.nm then [x] else []) ++ putP f (done || gePB x f) L)
def findP (nm : ByteArray) : List PF → Int → Int
  | [], _ => -1
  | t :: L, i => if t.nm = nm then i else findP nm L (i + 1)
theorem find_all {K : Nat → Prop} {w : World} {L : List RE} {P : List PF} (h : All2 (Hold K w) L P) (nm : ByteArray) : ∀ i, findF nm L i = findP nm P i := by
  induction h using All2.ind with
  | nil => intro i; rfl
  | cons a _ ih => intro i; unfold findF findP; rw [a.nm, ih]
theorem put_all {K : Nat → Prop} {w : World} {f : RE} {p : PF} {L : List RE} {P : List PF} (hf : Hold K w f p) (h : All2 (Hold K w) L P) : ∀ d, All2 (Hold K w) (putF f d L) (putP p d P) := by
  induction h using All2.ind with
  | nil => intro d; unfold putF putP; split; exact .nil; exact .cons hf .nil
  | @cons x y l m a _ ih =>
    intro d
    have hg : geB x f = gePB y p := by unfold geB gePB; rw [a.nm, hf.nm]
    unfold putF putP
    rw [hg, a.nm, hf.nm]
    refine All2.app ?_ (All2.app ?_ (ih _))
    · split; exact .cons hf .nil; exact .nil
    · split; exact .cons a .nil; exact .nil
theorem drop_all {K : Nat → Prop} {w : World} {L : List RE} {P : List PF} (h : All2 (Hold K w) L P) (nm : ByteArray) : All2 (Hold K w) (L.filter fun t => decide (t.nm ≠ nm)) (P.filter fun t => decide (t.nm ≠ nm)) := by
  induction h using All2.ind with
  | nil => exact .nil
  | @cons x y l m a _ ih =>
    rw [List.filter_cons, List.filter_cons, a.nm]
    split
    · exact .cons a ih
    · exact ih
/-- Bytes stay where the reference's own block alone turns. -/
theorem bts_gr {w w' : World} {rb : Nat} {s : RS} {fa : Option Addr} {fn fc : Nat} {v : Value} {l : List UInt8} (h : Byt.Bts w v l) (hB : w.heap[rb]? = some (rbS (.slice fa fn fc) s)) (hg : w.grownBy w' (some rb)) : Byt.Bts w' v l := by
  rcases h with h | ⟨a, cap, h1, h2, h3, h4⟩
  · exact .inl h
  · refine .inr ⟨a, cap, h1, h2, h3, fun j u hj => ?_⟩
    have e := h4 j u hj
    rw [← e]
    refine World.cell?_of_block (hg.block _ (World.block_lt_of_cell? w _ e) ?_)
    intro he
    have hb : (a.add j).block = rb := by simpa using he
    have hu : ∃ x : UInt8, u = .int .u8 x.toNat := by
      simp [Byt.bcells] at hj
      obtain ⟨x, _, rfl⟩ := hj
      exact ⟨x, rfl⟩
    obtain ⟨x, rfl⟩ := hu
    unfold World.cell? at e
    rw [hb, hB] at e
    simp only [rbS] at e
    split at e
    · cases e
    · generalize (a.add j).off = o at e
      match o, e with
      | 0, e => simp at e
      | 1, e => simp at e
      | 2, e => simp at e
      | 3, e => simp at e
      | 4, e => simp at e
      | 5, e => simp at e
      | o + 6, e => simp at e
theorem RefW.slice {K : Nat → Prop} {w : World} {rb : Nat} {s : RS} {L : List RE} (h : RefW K w rb s L) : ∃ fa fc, w.heap[rb]? = some (rbS (.slice fa L.length fc) s) ∧ Fls w (.slice fa L.length fc) L ∧ ∀ a, fa = some a → L ≠ [] → K a.block ∧ a.block ≠ rb := by
  obtain ⟨fv, hB, hF, hn⟩ := h
  obtain ⟨a, c, rfl⟩ := hF.slice
  exact ⟨a, c, hB, hF, fun x hx => hn x c (by rw [hx])⟩
theorem Bts.inside {w : World} {a : Option Addr} {n c : Nat} {l : List UInt8} (h : Byt.Bts w (.slice a n c) l) (hl : l ≠ []) : ∃ x, a = some x ∧ x.block < w.heap.size := by
  rcases h with ⟨_, e⟩ | ⟨x, cap, h1, h2, h3, h4⟩
  · exact absurd e hl
  · simp only [Value.slice.injEq] at h1
    have hp : 0 < l.length := List.length_pos_iff.mpr hl
    have := World.block_lt_of_cell? w _ (h4 0 _ (Byt.bcells_get hp))
    rw [Byt.addr_block] at this
    exact ⟨x, h1.1, this⟩
theorem Fls.inside {w : World} {a : Option Addr} {n c : Nat} {L : List RE} (h : Fls w (.slice a n c) L) (hl : L ≠ []) : ∃ x, a = some x ∧ x.block < w.heap.size := by
  rcases h with ⟨_, e⟩ | ⟨x, cap, h1, h2, h3, h4⟩
  · exact absurd e hl
  · simp only [Value.slice.injEq] at h1
    have hp : 0 < L.length := List.length_pos_iff.mpr hl
    have := World.block_lt_of_cell? w _ (h4 0 L[0] (by simp [hp]) 0 _ rfl)
    rw [Byt.addr_block, Byt.addr_block] at this
    exact ⟨x, h1.1, this⟩
/-- The places may be more, where they are there at all. -/
theorem RefW.mono {K K' : Nat → Prop} {w : World} {rb : Nat} {s : RS} {L : List RE} (h : RefW K w rb s L) (f : ∀ i, K i → i < w.heap.size → K' i) : RefW K' w rb s L := by
  obtain ⟨fa, fc, hB, hF, hn⟩ := h.slice
  refine ⟨_, hB, hF, fun a c e ne => ?_⟩
  simp only [Value.slice.injEq] at e
  obtain ⟨x, hx, hlt⟩ := hF.inside ne
  have h1 := hn a e.1 ne
  rw [hx] at e
  obtain ⟨e, -⟩ := e
  cases e
  exact ⟨f _ h1.1 hlt, h1.2⟩
theorem Hold.mono {K K' : Nat → Prop} {w : World} {t : RE} {p : PF} (h : Hold K w t p) (f : ∀ i, K i → i < w.heap.size → K' i) : Hold K' w t p := by
  have hp : ∀ a, t.ba = some a → p.data ≠ [] → K' a.block := by
    intro a ha hne
    obtain ⟨x, hx, hlt⟩ := Bts.inside h.bts hne
    rw [ha] at hx
    cases hx
    exact f _ (h.pl a ha hne) hlt
  exact ⟨h.nm, h.bts, h.bn, h.sy, h.le, h.mx, hp⟩
theorem RefP.mono {K K' : Nat → Prop} {w : World} {rb : Nat} {s : RS} {P : List PF} (h : RefP K w rb s P) (f : ∀ i, K i → i < w.heap.size → K' i) : RefP K' w rb s P := by
  obtain ⟨L, h1, h2⟩ := h
  exact ⟨L, h1.mono f, h2.imp fun _ _ e => e.mono f⟩
/-- One of the reference's own cells is set, or nothing of its own. -/
theorem RefP.setf {K : Nat → Prop} {w w' : World} {rb : Nat} {s s' : RS} {P : List PF} (h : RefP K w rb s P) (hset : ∀ fv, w.heap[rb]? = some (rbS fv s) → w'.heap[rb]? = some (rbS fv s')) (hg : w.grownBy w' (some rb)) : RefP K w' rb s' P := by
  obtain ⟨L, h1, h2⟩ := h
  obtain ⟨fa, fc, hB, hF, hn⟩ := h1.slice
  refine ⟨L, ⟨_, hset _ hB, hF.gr hB hg fun a c e ne => ?_, fun a c e ne => ?_⟩, h2.imp fun _ _ e => { e with bts := bts_gr e.bts hB hg }⟩
  · simp only [Value.slice.injEq] at e; exact (hn a e.1 ne).2
  · simp only [Value.slice.injEq] at e; exact hn a e.1 ne
/-- What others do elsewhere leaves the reference. -/
theorem RefP.keep {K : Nat → Prop} {w w' : World} {rb : Nat} {s : RS} {P : List PF} (h : RefP K w rb s P) (hr : K rb) (hk : ∀ i, K i → w'.heap[i]? = w.heap[i]?) : RefP K w' rb s P := by
  obtain ⟨L, h1, h2⟩ := h
  obtain ⟨fa, fc, hB, hF, hn⟩ := h1.slice
  refine ⟨L, ⟨_, (hk _ hr).trans hB, ?_, fun a c e ne => by simp only [Value.slice.injEq] at e; exact hn a e.1 ne⟩, h2.imp fun t p e => { e with bts := ?_ }⟩
  · rcases hF with h | ⟨a, cap, h1, h2, h3, h4⟩
    · exact .inl h
    · refine .inr ⟨a, cap, h1, h2, h3, fun k t ht j u hj => ?_⟩
      have := h4 k t ht j u hj
      rw [← this]
      refine World.cell?_of_block (hk _ ?_)
      rw [Byt.addr_block, Byt.addr_block]
      simp only [Value.slice.injEq] at h1
      exact (hn a h1.1 (by rintro rfl; simp at ht)).1
  · rcases e.bts with h | ⟨a, cap, h1, h2, h3, h4⟩
    · exact .inl h
    · refine .inr ⟨a, cap, h1, h2, h3, fun j u hj => ?_⟩
      have := h4 j u hj
      rw [← this]
      refine World.cell?_of_block (hk _ ?_)
      rw [Byt.addr_block]
      simp only [Value.slice.injEq] at h1
      exact e.pl a h1.1 (by rintro h0; rw [h0] at hj; simp [Byt.bcells] at hj)
/-- Where a call of the reference's leaves it. -/
def Nw (K : Nat → Prop) (w w' : World) (i : Nat) : Prop := K i ∨ (w.heap.size ≤ i ∧ i < w'.heap.size)
theorem rb_set1 {w : World} {rb : Nat} {fv : Value} {b : Bool} {s : RS} (h : w.heap[rb]? = some (rbS fv s)) : (w.setCell ⟨rb, 1, none⟩ (.bool b)).heap[rb]? = some (rbS fv { s with off := b }) := by
  simp [World.setCell, Array.getElem?_modify, h, rbS]
theorem rb_set2 {w : World} {rb : Nat} {fv : Value} {n : Int} {s : RS} (h : w.heap[rb]? = some (rbS fv s)) : (w.setCell ⟨rb, 2, none⟩ (.int .i64 n)).heap[rb]? = some (rbS fv { s with cut := n }) := by
  simp [World.setCell, Array.getElem?_modify, h, rbS]
theorem rb_set3 {w : World} {rb : Nat} {fv : Value} {n : Int} {s : RS} (h : w.heap[rb]? = some (rbS fv s)) : (w.setCell ⟨rb, 3, none⟩ (.int .i64 n)).heap[rb]? = some (rbS fv { s with keep := n }) := by
  simp [World.setCell, Array.getElem?_modify, h, rbS]
theorem rb_set4 {w : World} {rb : Nat} {fv : Value} {n : Int} {s : RS} (h : w.heap[rb]? = some (rbS fv s)) : (w.setCell ⟨rb, 4, none⟩ (.int .i64 n)).heap[rb]? = some (rbS fv { s with ops := n }) := by
  simp [World.setCell, Array.getElem?_modify, h, rbS]
theorem rb_set5 {w : World} {rb : Nat} {fv : Value} {n : Int} {s : RS} (h : w.heap[rb]? = some (rbS fv s)) : (w.setCell ⟨rb, 5, none⟩ (.int .i64 n)).heap[rb]? = some (rbS fv { s with written := n }) := by
  simp [World.setCell, Array.getElem?_modify, h, rbS]
end Go.Proofs.Ytmeecjedikechaa

/- The reference's cut, whatever it holds. -/
namespace Go.Proofs.Ytmeecjedikechaa
open Go.RowKit Go.Maps
set_option maxRecDepth 100000
set_option linter.unusedVariables false
set_option linter.unusedSimpArgs false
def stepR (s : RS) : RS := { s with cut := if 0 < s.cut then s.cut - 1 else 0, ops := wrap64 (s.ops + 1) }
set_option maxHeartbeats 1000000 in
theorem rcut_any {K : Nat → Prop} {w : World} {rb : Nat} {s : RS} {P : List PF} (h : RefP K w rb s P) (h0 : 0 ≤ s.cut) (hmx : s.cut ≤ 9223372036854775807) :
    Calls Try.prog 57 #[ptrOf rb] w fun e w' => e = .returned (.bool (decide (s.cut = 1))) ∧ RefP K w' rb (stepR s) P ∧ w.grownBy w' (some rb) := by
  have hR : Hid (RefP K w rb s P) := h
  obtain ⟨L, h1, -⟩ := h
  obtain ⟨fa, fc, hB, -, -⟩ := h1.slice
  clear h1
  obtain ⟨⟨-, -, c2, -, c4, -⟩, cf⟩ := rbS_cells hB
  have f4 := cf 4
  have hB1 := rb_set4 (n := wrap64 (s.ops + 1)) hB
  obtain ⟨⟨-, -, d2, -, -, -⟩, df⟩ := rbS_cells hB1
  have g2 := df 2
  simp only at d2
  have hB2 := rb_set2 (n := s.cut - 1) hB1
  obtain ⟨⟨-, -, e2, -, -, -⟩, -⟩ := rbS_cells hB2
  simp only at e2
  have HG1 : Hid (w.grownBy (w.setCell ⟨rb, 4, none⟩ (.int .i64 (wrap64 (s.ops + 1)))) (some rb)) := gr_set (gr_below (Below.refl _ _))
  clear hB hB1 hB2 cf df
  go_enter Try.func57, Try.ntmps57
  by_cases hc : s.cut = 0
  · have hd : (s.cut == 0) = true := by simpa using hc
    go_wp2
    go_ret
    refine ⟨by simp [hc], hR.out.setf (fun fv hb => ?_) HG1.out, HG1.out⟩
    rw [rb_set4 hb]
    simp [stepR, hc]
  · have hd : (s.cut == 0) = false := by simpa using hc
    go_wp2
    go_ret
    have HG2 := gr_set (i := 2) (v := .int .i64 (s.cut - 1)) HG1.out
    refine ⟨?_, hR.out.setf (fun fv hb => ?_) HG2, HG2⟩
    · have : (s.cut - 1 == 0) = decide (s.cut = 1) := by
        by_cases h1 : s.cut = 1
        · simp [h1]
        · have : s.cut - 1 ≠ 0 := by omega
          simp [h1, this]
      simp [this]
    · rw [rb_set2 (rb_set4 hb)]
      have : 0 < s.cut := by omega
      simp [stepR, this]
end Go.Proofs.Ytmeecjedikechaa

/- The reference's failure of the power, whatever it holds. -/
namespace Go.Proofs.Ytmeecjedikechaa
open Go.RowKit Go.Maps
set_option maxRecDepth 100000
set_option linter.unusedVariables false
set_option linter.unusedSimpArgs false
/-- A copy of bytes, in new memory. -/
theorem rcopyB (w : World) {bv : Value} {l : List UInt8} (hs : Byt.Bts w bv l) (hl : l.length ≤ 10485760) : ∃ va vc w3, (Builtin.append_ #[29, 29] 29 #[.slice (some ⟨w.heap.size, 0, none⟩) 0 0, bv]).run Try.prog (w.alloc (.cells #[] 5)) = .ok (.slice va l.length vc) w3 ∧
    Below w.heap.size w w3 ∧ Byt.Bts w3 (.slice va l.length vc) l ∧ (∀ a, va = some a → l ≠ [] → w.heap.size ≤ a.block) ∧ Byt.Own w.heap.size w3 (.slice va l.length vc) l := by
  have own0 : Byt.Own w.heap.size (w.alloc (.cells #[] 5)) (.slice (some ⟨w.heap.size, 0, none⟩) 0 0) [] := World.ownsRow_made w #[] 0 (Nat.le_refl _) (by decide) rfl
  obtain ⟨v, w3, run, ap⟩ := Byt.own_app 29 own0 (hs.alloc _) (by simp; omega) (by simp)
  have ho := ap.own
  rw [List.nil_append] at ho
  obtain ⟨va, vc, rfl⟩ := ho.slice
  refine ⟨va, vc, w3, run, ((Below.refl _ w).alloc (Nat.le_refl _) _).trans (ap.below own0 (by simp)), ho.bts, fun a ha hne => ?_, ho⟩
  subst ha
  exact (ho.lt (g := a.block) (by
    rcases ho.2 with ⟨h1, h2⟩ | ⟨g, cap, cur, h1, h2, h3⟩
    · cases h1
    · simp only [Value.slice.injEq, Option.some.injEq] at h1; rw [h1.1]; rfl)).1
/-- One file more, and what else stays. -/
theorem own_fileG {base : Nat} {w : World} {v : Value} {L : List RE} (h : OwnF base w v L) (hb : base ≤ w.heap.size) (t : RE) (hl : L.length + 1 ≤ 1000000) :
    ∃ v' w', (Builtin.append_ #[26, 26] 26 #[v, .slice (some ⟨w.heap.size, 0, none⟩) 1 1]).run Try.prog (w.alloc (.cells (reC t).toArray 70)) = .ok v' w' ∧ OwnF base w' v' (L ++ [t]) ∧ Below base w w' ∧
      ∀ i, i < w.heap.size → v.ownBlock ≠ some i → w'.heap[i]? = w.heap[i]? := by
  obtain ⟨i0, hi, hz0, hz1, hz2⟩ := info_parts rinf70
  have hbx := heap_alloc_new w (.cells (reC t).toArray 70)
  have hadd : ∀ k, (⟨w.heap.size, 0, none⟩ : Addr).add k = ⟨w.heap.size, k, none⟩ := fun k => by unfold Addr.add; split <;> simp_all
  obtain ⟨v', w', h1, h2, h3, _, h5⟩ := run_append_own_at (w.alloc (.cells (reC t).toArray 70)) base 26 26 70 i0 (.agg #[.string ⟨#[]⟩, .slice none 0 0, .int .i64 0]) 3 48 Try.underlying26 hi hz0 hz1 hz2 rfl (by decide) v _ _ (h.alloc _) ⟨w.heap.size, 0, none⟩ 1 1 (reC t) rfl
    (fun j u hj => by rw [hadd, cell_of_row _ _ j _ _ _ hbx]; simpa using hj) (by intro u hu; simp [reC] at hu; rcases hu with rfl | rfl | rfl <;> rfl) (by simp only [maxLen]; omega) (by omega) (by simp; omega)
  refine ⟨v', w', h1, ?_, ?_, fun i hi hne => ?_⟩
  · unfold OwnF
    rw [List.length_append, fl_app]
    simpa [fl] using h2
  · exact ((Below.refl base w).alloc hb _).grown h3 (by simp; omega) fun k hk => (World.ownsRow.lt h k hk).1
  · exact (h3.block i (by simp; omega) (by intro e; exact hne e.symm)).trans (Below.heap_alloc w _ i hi)
theorem own_low {base base' : Nat} {w : World} {v : Value} {l : List UInt8} (h : Byt.Own base w v l) (hb : base' ≤ base) : Byt.Own base' w v l := by
  refine ⟨h.1, h.2.imp id ?_⟩
  rintro ⟨g, cap, cur, h1, h2, h3⟩
  exact ⟨g, cap, cur, h1, Nat.le_trans hb h2, h3⟩
/-- A list's block and a block of bytes are two. -/
theorem own_apart {base base' : Nat} {w : World} {v u : Value} {L : List RE} {l : List UInt8} (h : OwnF base w v L) (k : Byt.Own base' w u l) {g : Nat} (hg : u.ownBlock = some g) : v.ownBlock ≠ some g := by
  intro e
  obtain ⟨-, c1, e1⟩ := ownsRow_type h e
  obtain ⟨-, c2, e2⟩ := ownsRow_type k hg
  rw [e1] at e2
  cases e2
structure HoldO (base : Nat) (w : World) (t : RE) (p : PF) : Prop where
  hold : Hold (fun i => base ≤ i) w t p
  own : Byt.Own base w (.slice t.ba t.bn t.bc) p.data
theorem HoldO.move {base base' : Nat} {w w' : World} {t : RE} {p : PF} {v : Value} {L : List RE} (h : HoldO base w t p) (ho : OwnF base' w v L) (hk : ∀ i, i < w.heap.size → v.ownBlock ≠ some i → w'.heap[i]? = w.heap[i]?) : HoldO base w' t p := by
  have := h.own.of_block (w' := w') fun g hg => hk g (h.own.lt hg).2 (own_apart ho h.own hg)
  exact ⟨{ h.hold with bts := this.bts }, this⟩
def cutNP (keep : Int) (p : PF) : Nat := p.sy + min keep.toNat (p.data.length - p.sy)
def cutP (keep : Int) (p : PF) : PF := ⟨p.nm, p.data.take (cutNP keep p), cutNP keep p⟩
theorem cutNP_le (keep : Int) (p : PF) (h : p.sy ≤ p.data.length) : cutNP keep p ≤ p.data.length := by unfold cutNP; omega
theorem Hold.below {K : Nat → Prop} {w w' : World} {t : RE} {p : PF} (h : Hold K w t p) (hb : Below w.heap.size w w') : Hold K w' t p := { h with bts := h.bts.below hb }
theorem bts_keptAll {w w' : World} {v : Value} {l : List UInt8} (h : Byt.Bts w v l) (hk : ∀ i, i < w.heap.size → w'.heap[i]? = w.heap[i]?) : Byt.Bts w' v l := h.kept hk
/-- The reslice of a file's bytes. -/
theorem bts_part {w : World} {a : Option Addr} {n c : Nat} {l : List UInt8} (h : Byt.Bts w (.slice a n c) l) {m : Nat} (hm : m ≤ l.length) : Byt.Bts w (.slice a m c) (l.take m) := by
  rcases h with ⟨e, rfl⟩ | ⟨x, cap, h1, h2, h3, h4⟩
  · simp at hm
    subst hm
    cases e
    exact .inl ⟨rfl, by simp⟩
  · simp only [Value.slice.injEq] at h1
    obtain ⟨rfl, rfl, rfl⟩ := h1
    exact Byt.Bts.part hm (by omega) h3 h4
set_option maxHeartbeats 4000000 in
theorem rfail_any {K : Nat → Prop} {w : World} {rb : Nat} {s : RS} {P : List PF} (h : RefP K w rb s P) (hl : P.length ≤ 100000) (h0 : 0 ≤ s.keep) (hmx : s.keep ≤ 9223372036854775807) :
    Calls Try.prog 58 #[ptrOf rb] w fun e w' => e = .returned (.int .i64 13) ∧ RefP (fun i => w.heap.size ≤ i) w' rb { s with off := true } (P.map (cutP s.keep)) ∧ w.grownBy w' (some rb) := by
  obtain ⟨L, h1, hA⟩ := h
  obtain ⟨fa, fc, hB, hF, hn⟩ := h1.slice
  obtain ⟨⟨-, c1, -, -, -, -⟩, cf⟩ := rbS_cells hB
  have f1 := cf 1
  have hB1 := rb_set1 (b := true) hB
  obtain ⟨⟨d0, -⟩, -⟩ := rbS_cells hB1
  have hg1 : w.grownBy (w.setCell ⟨rb, 1, none⟩ (.bool true)) (some rb) := gr_set (gr_below (Below.refl _ _))
  have HF : Hid (Fls (w.setCell ⟨rb, 1, none⟩ (.bool true)) (.slice fa L.length fc) L) := hF.gr hB hg1 fun a c e ne => by simp only [Value.slice.injEq] at e; exact (hn a e.1 ne).2
  have HA : Hid (All2 (Hold K (w.setCell ⟨rb, 1, none⟩ (.bool true))) L P) := hA.imp fun t p e => { e with bts := bts_gr e.bts hB hg1 }
  have HG : Hid (w.grownBy (w.setCell ⟨rb, 1, none⟩ (.bool true)) (some rb)) := hg1
  have HH : Hid ((w.setCell ⟨rb, 1, none⟩ (.bool true)).heap[rb]? = some (rbS (.slice fa L.length fc) { s with off := true })) := hB1
  have hsz : (w.setCell ⟨rb, 1, none⟩ (.bool true)).heap.size = w.heap.size := by simp [World.setCell]
  have hrb : Hid (rb < w.heap.size) := (Array.getElem?_eq_some_iff.1 hB).1
  have hlen : Hid (L.length = P.length) := hA.len
  have hlL : L.length ≤ 100000 := by rw [hA.len]; exact hl
  clear hB cf hB1 hF hA hn h1 hg1
  go_enter Try.func58, Try.ntmps58
  go_wp2_with fail
  clear c1 f1 d0
  generalize w.setCell ⟨rb, 1, none⟩ (.bool true) = w1 at HF HA HG HH hsz ⊢
  go_loopw [3, 16] (fun lv i wr => ∃ (k : Nat) (M : List RE), i = .int .i64 k ∧ k ≤ L.length ∧ M.length = k ∧ Hid (Below w.heap.size w1 wr) ∧ Hid (OwnF w.heap.size wr lv M) ∧ Hid (All2 (HoldO w.heap.size wr) M ((P.take k).map (cutP s.keep)))) (fun _ i _ => L.length - (intOf i).toNat)
  case atStart => exact ⟨0, [], rfl, Nat.zero_le _, rfl, Below.refl _ _, OwnF.nil _ _, show All2 _ _ _ by simpa using All2.nil⟩
  case round =>
    obtain ⟨k, M, rfl, hk, hM, HB, HO, HM⟩ := hrel
    by_cases hlt : k < L.length
    · obtain ⟨a', rfl, hrun⟩ := HF.out.load (hsz ▸ HB.out) hlt
      obtain ⟨hkP, hH⟩ := HA.out.get k hlt
      have htk : (P.take (k + 1)).map (cutP s.keep) = (P.take k).map (cutP s.keep) ++ [cutP s.keep P[k]] := by
        rw [List.take_succ_eq_append_getElem hkP, List.map_append]; rfl
      have HR : Hid _ := hrun
      have HK : Hid _ := htk
      clear hrun htk
      generalize L[k] = t at *
      generalize P[k] = p at *
      obtain ⟨tn, ta, tb, tc, ts⟩ := t
      obtain ⟨q1, q2, q3, q4, q5, q6, -⟩ := hH
      dsimp only at HR HK q1 q2 q3 q4
      subst q1 q3 q4
      have q2' : Byt.Bts wr (.slice ta p.data.length tc) p.data := q2.below (hsz ▸ HB.out)
      have hcap : p.data.length ≤ tc ∧ tc ≤ maxLen := by obtain ⟨_, _, e, h1, h2⟩ := q2'.slice; cases e; exact ⟨h1, h2⟩
      have hB2 : wr.heap[rb]? = some (rbS (.slice (some a') L.length fc) { s with off := true }) := (HB.out.block rb hrb.out).trans HH.out
      have hB3 : (wr.alloc (.cells #[.string p.nm, .slice ta p.data.length tc, .int .i64 p.sy] 70)).heap[rb]? = some (rbS (.slice (some a') L.length fc) { s with off := true }) := (Below.heap_alloc _ _ _ (by have := HB.out.size; have := hrb.out; omega)).trans hB2
      obtain ⟨⟨-, -, -, e3, -, -⟩, -⟩ := rbS_cells hB3
      simp only at e3
      have hcN := cutNP_le s.keep p q5
      have hcS : p.sy ≤ cutNP s.keep p := by unfold cutNP; omega
      have hN1 : s.keep < (p.data.length : Int) - p.sy → (p.sy : Int) + s.keep = (cutNP s.keep p : Int) := by unfold cutNP; intro h; omega
      have hN2 : ¬ s.keep < (p.data.length : Int) - p.sy → cutNP s.keep p = p.data.length := by unfold cutNP; intro h; omega
      have q7 := bts_part q2' hcN
      obtain ⟨va, vc, w3, run3, b3, t3, l3, ow3⟩ := rcopyB (wr.alloc (.cells #[.string p.nm, .slice ta p.data.length tc, .int .i64 p.sy] 70)) (q7.alloc _) (by simp; omega)
      have hz : ta = none → p.data.length = 0 ∧ tc = 0 := by
        rintro rfl
        rcases q2' with ⟨e, h⟩ | ⟨_, _, e, _⟩
        · simp only [Value.slice.injEq] at e; exact ⟨e.2.1, e.2.2⟩
        · cases e
      have hNl : (p.data.take (cutNP s.keep p)).length = cutNP s.keep p := by simp; omega
      rw [hNl] at run3 t3 ow3
      have b3' : Below w.heap.size wr w3 := ((Below.refl _ _).alloc (hsz ▸ HB.out.size) _).trans (b3.mono (by have := HB.out.size; simp; omega))
      have hk3 : ∀ i, i < wr.heap.size → w3.heap[i]? = wr.heap[i]? := fun i hi => (b3.block i (by simp; omega)).trans (Below.heap_alloc _ _ i hi)
      have O3 : OwnF w.heap.size w3 u3 M := ownsRow_of_block HO.out fun g hg => hk3 g (World.ownsRow.lt HO.out g hg).2
      obtain ⟨v4, w4, run4, o4, b4, k4⟩ := own_fileG O3 (Nat.le_trans (hsz ▸ HB.out.size) b3'.size) ⟨p.nm, va, cutNP s.keep p, vc, cutNP s.keep p⟩ (by omega)
      have HM4 : Hid (All2 (HoldO w.heap.size w4) (M ++ [⟨p.nm, va, cutNP s.keep p, vc, cutNP s.keep p⟩]) ((P.take (k + 1)).map (cutP s.keep))) := by
        show All2 _ _ _
        rw [HK.out]
        refine All2.app (HM.out.imp fun t q e => ?_) (.cons ?_ .nil)
        · have e3 : HoldO w.heap.size w3 t q := e.move HO.out fun i hi _ => hk3 i hi
          exact e3.move O3 k4
        · have e3 : HoldO w.heap.size w3 ⟨p.nm, va, cutNP s.keep p, vc, cutNP s.keep p⟩ (cutP s.keep p) := by
            refine ⟨⟨rfl, t3, hNl.symm, rfl, by simp only [cutP]; omega, by simp only [cutP]; omega, fun a ha hne => ?_⟩, own_low ow3 (by have := HB.out.size; simp; omega)⟩
            exact Nat.le_trans (by have := HB.out.size; simp; omega) (l3 a ha hne)
          exact e3.move O3 k4
      have HB4 : Hid (Below w.heap.size w1 w4) := HB.out.trans (b3'.trans b4)
      have HO4 : Hid (OwnF w.heap.size w4 v4 (M ++ [⟨p.nm, va, cutNP s.keep p, vc, cutNP s.keep p⟩])) := o4
      have HR3 : Hid _ := run3
      have HR4 : Hid _ := run4
      have g3 : w3.cell? ⟨wr.heap.size, 0, none⟩ = some (.string p.nm) := (b3.cell (p := ⟨wr.heap.size, 0, none⟩) (by simp)).trans (by rw [cell_of_row _ _ 0 _ _ _ (heap_alloc_new wr _)]; rfl)
      have hsy : (p.sy : Int) ≤ p.data.length := by omega
      clear run3 run4 o4 b4 k4 O3 hk3 HM b3' b3 t3 l3 ow3 q7 q2 q2' HO HK hB2 hB3 hNl
      by_cases hmin : s.keep < (p.data.length : Int) - p.sy
      · have hN := hN1 hmin
        clear hN1 hN2
        cases ta with
        | none => obtain ⟨z1, z2⟩ := hz rfl; omega
        | some ta =>
          clear hz
          generalize hNN : cutNP s.keep p = N at *
          obtain ⟨hc1, hc2⟩ := hcap
          unfold maxLen at hc2
          have hx1 : (p.sy : Int) + s.keep ≤ tc := by omega
          have hx2 : 0 ≤ (p.sy : Int) + s.keep := by omega
          have HR5 : Hid ((Builtin.append_ #[29, 29] 29 #[.slice (some ⟨wr.heap.size + 1, 0, none⟩) 0 0, .slice (some ta) ((p.sy : Int) + s.keep).toNat tc]).run Try.prog ((wr.alloc (.cells #[.string p.nm, .slice (some ta) p.data.length tc, .int .i64 p.sy] 70)).alloc (.cells #[] 5)) = .ok (.slice va N vc) w3) := by
            have := HR3.out
            rw [show (wr.alloc (.cells #[.string p.nm, .slice (some ta) p.data.length tc, .int .i64 p.sy] 70)).heap.size = wr.heap.size + 1 by simp] at this
            rw [show ((p.sy : Int) + s.keep).toNat = N by omega]
            exact this
          have HR6 : Hid ((Builtin.append_ #[26, 26] 26 #[u3, .slice (some ⟨w3.heap.size, 0, none⟩) 1 1]).run Try.prog (w3.alloc (.cells #[.string p.nm, .slice va N vc, .int .i64 N] 70)) = .ok v4 w4) := HR4.out
          have hNb : N ≤ 1048576 := by omega
          have HM5 : Hid (M.length = k) := hM
          clear hNN hN hM hkP hcS HR3 HR4 hcN hc1
          go_wp2_with (first | (refine wpList_loadR rfl 70 _ rfl _ _ rfl HR.out ?_) | (at_builtin; refine wpList_appR rfl _ _ 29 rfl _ _ _ _ rfl rfl HR5.out ?_) | (at_builtin; refine wpList_appR rfl _ _ 26 rfl _ _ _ _ rfl rfl HR6.out ?_))
          go_roundw
          case rel => exact ⟨k + 1, _, by go_num, by omega, by simp [HM5.out], HB4, HO4, HM4⟩
          case measure => simp [intOf]; omega
      · have hN := hN2 hmin
        clear hN1 hN2
        cases ta with
        | none =>
          obtain ⟨z1, z2⟩ := hz rfl
          have z3 : p.sy = 0 := by omega
          clear hz
          generalize hNN : cutNP s.keep p = N at *
          have z4 : N = 0 := by omega
          subst z2
          subst z4
          rw [z1, z3] at HR HR3 e3
          have HR5 : Hid ((Builtin.append_ #[29, 29] 29 #[.slice (some ⟨wr.heap.size + 1, 0, none⟩) 0 0, .slice none 0 0]).run Try.prog ((wr.alloc (.cells #[.string p.nm, .slice none 0 0, .int .i64 0] 70)).alloc (.cells #[] 5)) = .ok (.slice va 0 vc) w3) := by
            have := HR3.out
            rw [show (wr.alloc (.cells #[.string p.nm, .slice none 0 0, .int .i64 ((0 : Nat) : Int)] 70)).heap.size = wr.heap.size + 1 by simp] at this
            exact this
          have HR7 : Hid ((Instr.loadAt 70 (.pointer (some (a'.add (k * 3))))).run Try.prog wr = .ok (.agg #[.string p.nm, .slice none 0 0, .int .i64 0]) wr) := HR.out
          have e4 : (wr.alloc (.cells #[.string p.nm, .slice none 0 0, .int .i64 0] 70)).cell? ⟨rb, 3, none⟩ = some (.int .i64 s.keep) := e3
          have HR6 : Hid ((Builtin.append_ #[26, 26] 26 #[u3, .slice (some ⟨w3.heap.size, 0, none⟩) 1 1]).run Try.prog (w3.alloc (.cells #[.string p.nm, .slice va 0 vc, .int .i64 0] 70)) = .ok v4 w4) := HR4.out
          have HM5 : Hid (M.length = k) := hM
          have hk0 : ¬ s.keep < 0 := by omega
          clear hNN hN hM hkP hcS HR3 HR4 hcN HR e3 hcap hmin hsy q5 q6 z1 z3
          go_wp2_with (first | (refine wpList_loadR rfl 70 _ rfl _ _ rfl HR7.out ?_) | (at_builtin; refine wpList_appR rfl _ _ 29 rfl _ _ _ _ rfl rfl HR5.out ?_) | (at_builtin; refine wpList_appR rfl _ _ 26 rfl _ _ _ _ rfl rfl HR6.out ?_))
          go_roundw
          case rel => exact ⟨k + 1, _, by go_num, by omega, by simp [HM5.out], HB4, HO4, HM4⟩
          case measure => simp [intOf]; omega
        | some ta =>
          clear hz
          generalize hNN : cutNP s.keep p = N at *
          obtain ⟨hc1, hc2⟩ := hcap
          unfold maxLen at hc2
          have hx1 : (p.sy : Int) + ((p.data.length : Int) - p.sy) ≤ tc := by omega
          have hx2 : 0 ≤ (p.sy : Int) + ((p.data.length : Int) - p.sy) := by omega
          have HR5 : Hid ((Builtin.append_ #[29, 29] 29 #[.slice (some ⟨wr.heap.size + 1, 0, none⟩) 0 0, .slice (some ta) (p.sy + (p.data.length - p.sy)) tc]).run Try.prog ((wr.alloc (.cells #[.string p.nm, .slice (some ta) p.data.length tc, .int .i64 p.sy] 70)).alloc (.cells #[] 5)) = .ok (.slice va N vc) w3) := by
            have := HR3.out
            rw [show (wr.alloc (.cells #[.string p.nm, .slice (some ta) p.data.length tc, .int .i64 p.sy] 70)).heap.size = wr.heap.size + 1 by simp] at this
            rw [show p.sy + (p.data.length - p.sy) = N by omega]
            exact this
          have HR6 : Hid ((Builtin.append_ #[26, 26] 26 #[u3, .slice (some ⟨w3.heap.size, 0, none⟩) 1 1]).run Try.prog (w3.alloc (.cells #[.string p.nm, .slice va N vc, .int .i64 N] 70)) = .ok v4 w4) := HR4.out
          have hNb : N ≤ 1048576 := by omega
          have HM5 : Hid (M.length = k) := hM
          clear hNN hN hM hkP hcS HR3 HR4 hcN hc1
          go_wp2_with (first | (refine wpList_loadR rfl 70 _ rfl _ _ rfl HR.out ?_) | (at_builtin; refine wpList_appR rfl _ _ 29 rfl _ _ _ _ rfl rfl HR5.out ?_) | (at_builtin; refine wpList_appR rfl _ _ 26 rfl _ _ _ _ rfl rfl HR6.out ?_))
          go_roundw
          case rel => exact ⟨k + 1, _, by go_num, by omega, by simp [HM5.out], HB4, HO4, HM4⟩
          case measure => simp [intOf]; omega
    · have hkL : k = L.length := by omega
      have hB2 : wr.heap[rb]? = some (rbS (.slice fa L.length fc) { s with off := true }) := (HB.out.block rb hrb.out).trans HH.out
      obtain ⟨⟨d0, -⟩, df⟩ := rbS_cells hB2
      have d1 := df 0
      obtain ⟨va, vc, hu⟩ := HO.out.fls.slice
      subst hu
      have HE : Hid (RefP (fun i => w.heap.size ≤ i) (wr.setCell ⟨rb, 0, none⟩ (.slice va M.length vc)) rb { s with off := true } (P.map (cutP s.keep)) ∧ w.grownBy (wr.setCell ⟨rb, 0, none⟩ (.slice va M.length vc)) (some rb)) := by
        have ho := HO.out
        have hm := HM.out
        rw [List.take_of_length_le (by have := hlen.out; omega)] at hm
        refine ⟨⟨M, ⟨_, rb_set0 hB2, (own_set ho hrb.out).fls, (own_set ho hrb.out (i := 0) (u := .slice va M.length vc)).away hrb.out⟩, hm.imp fun t p e => ?_⟩, gr_set (gr_trans HG.out (gr_below (hsz ▸ HB.out)))⟩
        have := e.own.of_block (w' := wr.setCell ⟨rb, 0, none⟩ (.slice va M.length vc)) fun g hg => set_other (by have := (e.own.lt hg).1; have := hrb.out; omega)
        exact { e.hold with bts := this.bts }
      rw [show M.length = L.length by omega] at HE ⊢
      clear df hB2 HO hkL hM
      go_wp2
      go_ret
      exact ⟨rfl, HE.out⟩
end Go.Proofs.Ytmeecjedikechaa

/- The reference's operations, plainly. -/
namespace Go.Proofs.Ytmeecjedikechaa
open Go.RowKit Go.Maps
set_option maxRecDepth 100000
set_option linter.unusedVariables false
set_option linter.unusedSimpArgs false
theorem RefP.below {K : Nat → Prop} {w w' : World} {rb : Nat} {s : RS} {P : List PF} (h : RefP K w rb s P) (hb : Below w.heap.size w w') : RefP K w' rb s P := by
  refine h.setf (fun fv e => ?_) (gr_below hb)
  rw [hb.block rb (Array.getElem?_eq_some_iff.1 e).1]
  exact e
theorem RefP.old {K : Nat → Prop} {w w' : World} {rb : Nat} {s : RS} {P : List PF} (h : RefP K w' rb s P) : RefP (Nw K w w') w' rb s P := h.mono fun i hi _ => .inl hi
theorem RefP.new {K : Nat → Prop} {w w1 w' : World} {rb : Nat} {s : RS} {P : List PF} (h : RefP (fun i => w1.heap.size ≤ i) w' rb s P) (hs : w.heap.size ≤ w1.heap.size) : RefP (Nw K w w') w' rb s P := h.mono fun i hi hl => .inr ⟨Nat.le_trans hs hi, hl⟩
theorem RefP.later {K : Nat → Prop} {w w1 w' : World} {rb : Nat} {s : RS} {P : List PF} (h : RefP (Nw (Nw K w w1) w1 w') w' rb s P) (hs : w.heap.size ≤ w1.heap.size) (hs' : w1.heap.size ≤ w'.heap.size) : RefP (Nw K w w') w' rb s P :=
  h.mono fun i hi hl => by
    rcases hi with (hi | hi) | hi
    · exact .inl hi
    · exact .inr ⟨hi.1, by omega⟩
    · exact .inr ⟨by omega, hi.2⟩
theorem RefP.since {K : Nat → Prop} {w w1 w' : World} {rb : Nat} {s : RS} {P : List PF} (h : RefP (Nw K w1 w') w' rb s P) (hs : w.heap.size ≤ w1.heap.size) : RefP (Nw K w w') w' rb s P :=
  h.mono fun i hi hl => by
    rcases hi with hi | hi
    · exact .inl hi
    · exact .inr ⟨by omega, hi.2⟩
theorem RefP.lt {K : Nat → Prop} {w : World} {rb : Nat} {s : RS} {P : List PF} (h : RefP K w rb s P) : rb < w.heap.size := by
  obtain ⟨L, ⟨fv, hB, _⟩, _⟩ := h
  exact (Array.getElem?_eq_some_iff.1 hB).1
/-- Find, plainly. -/
theorem rfindP {K : Nat → Prop} {w : World} {rb : Nat} {s : RS} {P : List PF} (h : RefP K w rb s P) (hl : P.length ≤ 100000) (nm : ByteArray) :
    Calls Try.prog 56 #[ptrOf rb, .string nm] w fun e w' => e = .returned (.int .i64 (findP nm P 0)) ∧ Below w.heap.size w w' := by
  obtain ⟨L, ⟨fv, hB, hF, hn⟩, hA⟩ := h
  rw [← find_all hA]
  exact rfind_any hB hF (by rw [hA.len]; omega) nm
/-- put, plainly. -/
theorem rputP {K : Nat → Prop} {w : World} {rb : Nat} {s : RS} {P : List PF} (h : RefP K w rb s P) (hl : P.length ≤ 100000) {fn : ByteArray} {fa : Option Addr} {fb fc : Nat} {fs : Int} {p : PF} (ht : Hold K w ⟨fn, fa, fb, fc, fs⟩ p) :
    Calls Try.prog 59 #[ptrOf rb, .agg #[.string fn, .slice fa fb fc, .int .i64 fs]] w fun e w' => e = .returned (.tuple #[]) ∧ RefP (Nw K w w') w' rb s (putP p false P) ∧ w.grownBy w' (some rb) := by
  obtain ⟨L, hW, hA⟩ := h
  obtain ⟨va, vc, hB, -, -⟩ := hW.slice
  refine (rput_any hW (by rw [hA.len]; exact hl) fn fa fb fc fs).mono ?_
  rintro e w' ⟨rfl, h1, h2⟩
  refine ⟨rfl, ⟨_, h1.mono fun i hi hl => .inr ⟨hi, hl⟩, ?_⟩, h2⟩
  refine (put_all ht hA false).imp fun t q e => ?_
  exact Hold.mono (K := K) { e with bts := bts_gr e.bts hB h2 } fun i hi _ => .inl hi
/-- drop, plainly. -/
theorem rdropP {K : Nat → Prop} {w : World} {rb : Nat} {s : RS} {P : List PF} (h : RefP K w rb s P) (hl : P.length ≤ 100000) (nm : ByteArray) :
    Calls Try.prog 60 #[ptrOf rb, .string nm] w fun e w' => e = .returned (.tuple #[]) ∧ RefP (Nw K w w') w' rb s (P.filter fun t => decide (t.nm ≠ nm)) ∧ w.grownBy w' (some rb) := by
  obtain ⟨L, hW, hA⟩ := h
  obtain ⟨va, vc, hB, -, -⟩ := hW.slice
  refine (rdrop_any hW (by rw [hA.len]; exact hl) nm).mono ?_
  rintro e w' ⟨rfl, h1, h2⟩
  refine ⟨rfl, ⟨_, h1.mono fun i hi hl => .inr ⟨hi, hl⟩, ?_⟩, h2⟩
  refine (drop_all hA nm).imp fun t q e => ?_
  exact Hold.mono (K := K) { e with bts := bts_gr e.bts hB h2 } fun i hi _ => .inl hi
/-- What an operation answers and leaves, where go is what it does. -/
def opP (s : RS) (P : List PF) (go : List PF → List PF) : Int × RS × List PF :=
  if s.cut = 1 then (13, { stepR s with off := true }, P.map (cutP s.keep)) else (0, stepR s, go P)
/-- The end of a call of the reference's. -/
def Ends (K : Nat → Prop) (w : World) (rb : Nat) (r : Int × RS × List PF) (e : Ending) (w' : World) : Prop :=
  e = .returned (.int .i64 r.1) ∧ RefP (Nw K w w') w' rb r.2.1 r.2.2 ∧ w.grownBy w' (some rb)
def removeP (nm : ByteArray) (s : RS) (P : List PF) : Int × RS × List PF :=
  if s.off = true then (13, s, P) else if goodB nm = false then (8, s, P) else if findP nm P 0 < 0 then (6, s, P) else opP s P fun P => P.filter fun t => decide (t.nm ≠ nm)
set_option maxHeartbeats 2000000 in
theorem rremoveP {K : Nat → Prop} {w : World} {rb : Nat} {s : RS} {P : List PF} (h : RefP K w rb s P) (hl : P.length ≤ 100000) (h0 : 0 ≤ s.cut) (hmx : s.cut ≤ 9223372036854775807) (k0 : 0 ≤ s.keep) (kmx : s.keep ≤ 9223372036854775807) (nm : ByteArray) (hn : nm.size ≤ maxLen) :
    Calls Try.prog 37 #[ptrOf rb, .string nm] w (Ends K w rb (removeP nm s P)) := by
  have G := refGood_any nm w hn
  have Fd := rfindP h hl nm
  have hR : Hid (RefP K w rb s P) := h
  obtain ⟨L, hW, -⟩ := h
  obtain ⟨fa, fc, hB, -, -⟩ := hW.slice
  obtain ⟨⟨-, c1, -⟩, -⟩ := rbS_cells hB
  have HX : Hid (0 ≤ s.cut ∧ s.cut ≤ 9223372036854775807 ∧ 0 ≤ s.keep ∧ s.keep ≤ 9223372036854775807 ∧ P.length ≤ 100000) := ⟨h0, hmx, k0, kmx, hl⟩
  clear hW hB hn h0 hmx k0 kmx hl
  cases ho : s.off with
  | true =>
    have HE : Hid (Ends K w rb (removeP nm s P) (.returned (.int .i64 13)) w) := by
      refine ⟨by simp [removeP, ho], ?_, gr_below (Below.refl _ _)⟩
      simp only [removeP, ho, if_true]
      exact hR.out.old
    rw [ho] at c1
    clear ho
    go_enter Try.func37, Try.ntmps37
    go_wp2
    go_ret
    exact HE.out
  | false =>
    rw [ho] at c1
    cases hg : goodB nm with
    | false =>
      rw [hg] at G
      have HE : Hid (Ends K w rb (removeP nm s P) (.returned (.int .i64 8)) w) := by
        refine ⟨by simp [removeP, ho, hg], ?_, gr_below (Below.refl _ _)⟩
        simp only [removeP, ho, hg, if_true, Bool.false_eq_true, if_false]
        exact hR.out.old
      clear ho hg
      go_enter Try.func37, Try.ntmps37
      go_wp2_with (go_at_call 14; refine G.mono ?_; rintro e w' ⟨rfl, rfl⟩)
      go_ret
      exact HE.out
    | true =>
      rw [hg] at G
      by_cases hf : findP nm P 0 < 0
      · have HE : ∀ w', Below w.heap.size w w' → Hid (Ends K w rb (removeP nm s P) (.returned (.int .i64 6)) w') := by
          intro w' hb
          refine ⟨by simp [removeP, ho, hg, hf], ?_, gr_below hb⟩
          simp only [removeP, ho, hg, hf, if_true, Bool.true_eq_false, Bool.false_eq_true, if_false]
          exact (hR.out.below hb).old
        clear ho hg
        generalize findP nm P 0 = fi at *
        go_enter Try.func37, Try.ntmps37
        go_wp2_with (first
          | (go_at_call 14; refine G.mono ?_; rintro e w' ⟨rfl, rfl⟩)
          | (go_at_call 56; refine Fd.mono ?_; rintro e w2 ⟨rfl, hb2⟩))
        go_ret
        exact (HE _ hb2).out
      · have HP : Hid (removeP nm s P = opP s P fun P => P.filter fun t => decide (t.nm ≠ nm)) := by
          show _ = _
          simp only [removeP, ho, hg, hf, if_true, Bool.true_eq_false, Bool.false_eq_true, if_false]
        clear ho hg
        generalize findP nm P 0 = fi at *
        by_cases hc : s.cut = 1
        · have hcd : decide (s.cut = 1) = true := by simpa using hc
          go_enter Try.func37, Try.ntmps37
          go_wp2_with (first
            | (go_at_call 14; refine G.mono ?_; rintro e w' ⟨rfl, rfl⟩)
            | (go_at_call 56; refine Fd.mono ?_; rintro e w2 ⟨rfl, hb2⟩; have HB2 : Hid _ := hb2; clear hb2)
            | (go_at_call 57; refine (rcut_any (hR.out.below HB2.out) HX.out.1 HX.out.2.1).mono ?_; rintro e w3 ⟨rfl, r3, g3⟩; have HR3 : Hid _ := r3; have HG3 : Hid _ := g3; clear r3 g3; rw [hcd])
            | (go_at_call 58; refine (rfail_any HR3.out HX.out.2.2.2.2 HX.out.2.2.1 HX.out.2.2.2.1).mono ?_; rintro e w4 ⟨rfl, r4, g4⟩; have HR4 : Hid _ := r4; have HG4 : Hid _ := g4; clear r4 g4))
          go_ret
          unfold Ends
          rw [HP.out, opP, if_pos hc]
          exact ⟨rfl, RefP.new HR4.out (Nat.le_trans HB2.out.size HG3.out.size), gr_trans (gr_trans (gr_below HB2.out) HG3.out) HG4.out⟩
        · have hcd : decide (s.cut = 1) = false := by simpa using hc
          go_enter Try.func37, Try.ntmps37
          go_wp2_with (first
            | (go_at_call 14; refine G.mono ?_; rintro e w' ⟨rfl, rfl⟩)
            | (go_at_call 56; refine Fd.mono ?_; rintro e w2 ⟨rfl, hb2⟩; have HB2 : Hid _ := hb2; clear hb2)
            | (go_at_call 57; refine (rcut_any (hR.out.below HB2.out) HX.out.1 HX.out.2.1).mono ?_; rintro e w3 ⟨rfl, r3, g3⟩; have HR3 : Hid _ := r3; have HG3 : Hid _ := g3; clear r3 g3; rw [hcd])
            | (go_at_call 60; refine (rdropP HR3.out HX.out.2.2.2.2 nm).mono ?_; rintro e w4 ⟨rfl, r4, g4⟩; have HR4 : Hid _ := r4; have HG4 : Hid _ := g4; clear r4 g4))
          go_ret
          unfold Ends
          rw [HP.out, opP, if_neg hc]
          exact ⟨rfl, RefP.since HR4.out (Nat.le_trans HB2.out.size HG3.out.size), gr_trans (gr_trans (gr_below HB2.out) HG3.out) HG4.out⟩
end Go.Proofs.Ytmeecjedikechaa
