import Derived.Test.YtohndhmhgdelmaaDoorRsInts
import Derived.Deep.MidRow
/- The contract of the reference's First. -/
namespace Go.Proofs.YtohndhmhgdelmaaDoor
open Go.RowKit
set_option maxRecDepth 100000

def RsF (w : World) (l : List UInt8) (e : Ending) (w' : World) : Prop :=
  ∃ ns v rv r wq, e = .returned (.tuple #[v, rv, .bool (!wq)]) ∧ OwnI w.heap.size w' v ns ∧ Bts w' rv r ∧ Below w.heap.size w w' ∧ Sp false (lstR numR l) ns r wq ∧ r.length ≤ 1099511627776

end Go.Proofs.YtohndhmhgdelmaaDoor

/- A change that the reference builds field by field in a block of its own. -/
namespace Go.Proofs.YtohndhmhgdelmaaDoor
open Go.RowKit
set_option maxRecDepth 100000

/-- The block of a change: its first cells are known, all may be written. -/
def OB (w : World) (ob : Nat) (cs : List Value) : Prop := w.rangeAt ob 0 cs ∧ w.there ob 0 19
theorem OB.kept {w w' : World} {ob : Nat} {cs : List Value} (h : OB w ob cs) (hk : w'.heap[ob]? = w.heap[ob]?) : OB w' ob cs := by
  refine ⟨fun j v hv => (World.cell?_of_block hk).trans (h.1 j v hv), fun j hj => ?_⟩
  obtain ⟨h1, h2⟩ := h.2 j hj
  refine ⟨by rw [World.cell?_of_block hk]; exact h1, ?_⟩
  rw [← h2]
  simp [World.frozen?, hk]
theorem setCells_other (b : Nat) : ∀ (vs : List Value) (o : Nat) (w : World) (i : Nat), i ≠ b → (w.setCells b o vs).heap[i]? = w.heap[i]?
  | [], _, _, _, _ => rfl
  | v :: r, o, w, i, h => by
    rw [World.setCells, setCells_other b r (o + 1) _ i h]
    exact Below.heap_setCell w ⟨b, o, none⟩ v i h
theorem setCells_grown (b : Nat) : ∀ (vs : List Value) (o : Nat) (w : World), w.grownBy (w.setCells b o vs) (some b)
  | [], _, w => ⟨rfl, rfl, rfl, Nat.le_refl _, fun _ _ _ => rfl⟩
  | v :: r, o, w => by
    have g1 : w.grownBy (w.setCell ⟨b, o, none⟩ v) (some b) := ⟨rfl, rfl, rfl, by simp [World.setCell], fun k _ hne => Below.heap_setCell w ⟨b, o, none⟩ v k (fun e => hne (by rw [e]))⟩
    exact grown_trans g1 (setCells_grown b r (o + 1) _)
theorem setCells_below {B b : Nat} (hb : B ≤ b) (w : World) (o : Nat) (vs : List Value) : Below B w (w.setCells b o vs) :=
  have g := setCells_grown b vs o w
  ⟨g.os, g.tape, g.output, g.size, fun i hi => setCells_other b vs o w i (by omega)⟩
theorem storeAt_cells (ty : TypeId) (p v : Value) (es : Array Value) (hv : v.cells = es) : Instr.storeAt ty p v = Instr.storeAt ty p (.agg es) := by
  subst hv
  rfl
theorem OB.put {w : World} {ob : Nat} {cs : List Value} (h : OB w ob cs) {o : Nat} (ho : cs.length = o) {ty : TypeId} {v : Value} {es : List Value} (hv : v.cells = es.toArray) (hi : (Tryd.prog.info? ty).map (·.size) = some es.length) (h1 : ∀ u ∈ es, u.oneCell' = true) (hle : o + es.length ≤ 19) :
    (Instr.storeAt ty (.pointer (some ⟨ob, o, none⟩)) v).run Tryd.prog w = .ok () (w.setCells ob o es) ∧ OB (w.setCells ob o es) ob (cs ++ es) := by
  have ht : w.there ob o es.length := fun j hj => by
    have := h.2 (o + j) (by omega)
    simpa using this
  refine ⟨?_, fun j u hj => ?_, World.there_setCells h.2 _ _ _⟩
  · rw [storeAt_cells ty _ v _ hv]
    have := run_storeAt_mid (P := Tryd.prog) w ob o ty es.toArray (by simpa using ht) (by simpa using hi) (all_oneCell_toArray h1)
    simpa using this
  · by_cases hlt : j < cs.length
    · rw [List.getElem?_append_left hlt] at hj
      exact World.rangeAt_setCells_apart h.1 ob o es (.inr (.inl (by omega))) j u hj
    · rw [List.getElem?_append_right (by omega)] at hj
      have := World.rangeAt_setCells_same w ob o es ht (j - cs.length) u hj
      rw [← ho, show cs.length + (j - cs.length) = 0 + j by omega] at this
      rw [← ho]
      exact this

/-- A change under way: the reader, the block, what is known of it. -/
structure St (w0 : World) (B rb ob : Nat) (w : World) (l : List UInt8) (wq : Bool) (cs : List Value) : Prop where
  rs : RS B w rb l wq
  blk : OB w ob cs
  g : w0.grownBy w (some rb)
  hl : l.length ≤ 1099511627776
  lt0 : rb < w0.heap.size
  lt1 : w0.heap.size ≤ ob
  lt2 : ob < w.heap.size

theorem St.field {w0 : World} {B rb ob : Nat} {w : World} {l : List UInt8} {wq : Bool} {cs : List Value} (s : St w0 B rb ob w l wq cs) {α : Type} {val : α → Value} {R : Rdr α} {F : Nat} (ty : TypeId) (o : Nat) (cells : α → List Value)
    (C : Calls Tryd.prog F #[ptrOf rb] w fun e w' => TkR B w rb val (R l) wq e w') (n : Nat) (hv : ∀ x, (val x).cells = (cells x).toArray ∧ (cells x).length = n ∧ ∀ u ∈ cells x, u.oneCell' = true) (hi : (Tryd.prog.info? ty).map (·.size) = some n) (ho : cs.length = o) (hle : o + n ≤ 19) :
    Calls Tryd.prog F #[ptrOf rb] w fun e w1 => ∃ x l' wq' w2, e = .returned (val x) ∧ Hid ((Instr.storeAt ty (.pointer (some ⟨ob, o, none⟩)) (val x)).run Tryd.prog w1 = .ok () w2) ∧ Hid (St w0 B rb ob w2 l' wq' (cs ++ cells x)) ∧ Hid (Sp wq (R l) x l' wq') := by
  refine C.mono ?_
  rintro e w1 ⟨x, l', wq', rfl, rs, g, sp, hl⟩
  have := s.lt0
  have := s.lt1
  have := s.lt2
  have k : OB w1 ob cs := s.blk.kept (g.block ob s.lt2 (by simp; omega))
  obtain ⟨h1, h2, h3⟩ := hv x
  obtain ⟨r, k2⟩ := k.put ho (ty := ty) h1 (by rw [h2]; exact hi) h3 (by omega)
  have b := setCells_below (B := w0.heap.size) s.lt1 w1 o (cells x)
  exact ⟨x, l', wq', _, rfl, r, ⟨rs.kept s.lt0 b, k2, grown_below (grown_trans s.g g) b (Nat.le_refl _), hl, s.lt0, s.lt1, Nat.lt_of_lt_of_le s.lt2 (Nat.le_trans g.size b.size)⟩, sp⟩
end Go.Proofs.YtohndhmhgdelmaaDoor
