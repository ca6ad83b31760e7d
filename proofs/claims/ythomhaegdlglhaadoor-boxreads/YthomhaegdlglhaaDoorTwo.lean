/- Two rows of one's own beside one another, and what is appended to either; no walk. -/
import Derived.Test.YthomhaegdlglhaaDoorDir
namespace Go.Proofs.YthomhaegdlglhaaDoor
open Go.RowKit

theorem ownM_app2 {base : Nat} {w : World} {v : Value} {l : List UInt8} (ty : TypeId) (h : OwnM base w v l) {bv : Value} {m : List UInt8} (hs : Bts w bv m) (hn : l.length + m.length ≤ 140737488355328) (hbase : base ≤ w.heap.size) :
    ∃ v' w', (Builtin.append_ #[25, 25] ty #[v, bv]).run Tryd.prog w = .ok v' w' ∧ OwnM base w' v' (l ++ m) ∧ (m ≠ [] → Own base w' v' (l ++ m)) ∧ w.grownBy w' v.ownBlock ∧ ∀ g, v'.ownBlock = some g → v.ownBlock = some g ∨ w.heap.size ≤ g := by
  rcases h with h | ⟨g, cur, z, rfl, hb, hh, hc, hl⟩
  · obtain ⟨v', w', h1, h2⟩ := own_app ty h hs hn hbase
    exact ⟨v', w', h1, .inl h2.own, fun _ => h2.own, h2.gr, h2.loc⟩
  obtain ⟨i0, hi, hz0, hz1, hz2⟩ := info_parts info5
  have hself : ∀ x : List UInt8, x = [] → OwnM base w (.slice (some ⟨g, 0, none⟩) l.length l.length) (l ++ x) := by
    rintro x rfl
    rw [List.append_nil]
    exact .inr ⟨g, cur, z, rfl, hb, hh, hc, hl⟩
  have holds : ∀ j u, (bcells l)[j]? = some u → w.cell? ((⟨g, 0, none⟩ : Addr).add j) = some u := by
    intro j u hu
    have hadd : (⟨g, 0, none⟩ : Addr).add j = ⟨g, j, none⟩ := by unfold Addr.add; split <;> simp_all
    rw [hadd, cell_of_row w g j cur 5 z hh, ← hu, ← hc]
    simp
  rcases hs with ⟨rfl, rfl⟩ | ⟨a, cap, rfl, _, _, hcs⟩
  · refine ⟨_, w, ?_, hself [] rfl, fun h => absurd rfl h, ⟨rfl, rfl, rfl, Nat.le_refl _, fun _ _ _ => rfl⟩, fun g hg => .inl hg⟩
    simp [Builtin.append_, run_underlying Tryd.underlying25, sizeOf, typeInfo, hi, Builtin.lenOf, Builtin.firstCells, storeCells]
  · by_cases hm : m = []
    · subst hm
      refine ⟨_, w, ?_, hself [] rfl, fun h => absurd rfl h, ⟨rfl, rfl, rfl, Nat.le_refl _, fun _ _ _ => rfl⟩, fun g hg => .inl hg⟩
      have hf := run_firstCells_some (P := Tryd.prog) w i0.size 0 a 0 cap [] (by simp) (by simp)
      simp [Builtin.append_, run_underlying Tryd.underlying25, sizeOf, typeInfo, hi, Builtin.lenOf, hf, storeCells]
    · have hlen : 0 < m.length := List.length_pos_iff.2 hm
      have hr := run_append_grow (P := Tryd.prog) w 25 ty 5 i0 (.int .u8 0) Tryd.underlying25 hi hz0 ⟨g, 0, none⟩ l.length l.length (bcells l) (by rw [bcells_length, hz1, Nat.mul_one]) holds a m.length cap (bcells m) (by rw [bcells_length, hz1, Nat.mul_one]) hcs (by omega) (by omega) (growslice_fits (by omega) (by rw [hz2]; omega))
      have hge := grownCap_ge w (l.length + m.length) l.length 5
      have hcm2 : grownCap w (l.length + m.length) l.length 5 ≤ maxLen := grownCap_le_maxLen w (l.length + m.length) l.length 5 (by simp only [maxLen]; omega)
      have own : Own base (w.drew.alloc (.cells ((bcells l).toArray ++ (bcells m).toArray ++ Builtin.zeroCells (Value.int .u8 0).cells (grownCap w (l.length + m.length) l.length 5 - (l.length + m.length))) 5))
          (.slice (some ⟨w.heap.size, 0, none⟩) (l.length + m.length) (grownCap w (l.length + m.length) l.length 5)) (l ++ m) := by
        unfold Own
        rw [List.length_append, bcells_append]
        refine ⟨by simp [bcells_length], .inr ⟨w.heap.size, _, _, rfl, hbase, heap_alloc_new w.drew _, hge, hcm2, ?_, ?_⟩⟩
        · simp only [Array.size_append, List.size_toArray, size_zeroCells, bcells_length, Nat.mul_one]
          have : (Value.int .u8 0).cells.size = 1 := rfl
          rw [this]
          omega
        · simp only [Array.toList_append, List.append_assoc]
          rw [← List.append_assoc]
          have : (l.length + m.length) * 1 = (bcells l ++ bcells m).length := by simp [bcells_length]
          rw [this]
          exact List.take_left
      exact ⟨_, _, hr, .inl own, fun _ => own, ⟨rfl, rfl, rfl, by simp, fun k hk _ => Below.heap_alloc w.drew _ k hk⟩, fun g hg => by simp [Value.ownBlock] at hg; subst hg; exact .inr (Nat.le_refl _)⟩

theorem own_str2 {base : Nat} {w : World} {v : Value} {l : List UInt8} (ty : TypeId) (h : Own base w v l) (s : ByteArray) (hn : l.length + s.size ≤ 140737488355328) (hbase : base ≤ w.heap.size) :
    ∃ v' w', (Builtin.append_ #[25, 9] ty #[v, .string s]).run Tryd.prog w = .ok v' w' ∧ Own base w' v' (l ++ s.data.toList) ∧ w.grownBy w' v.ownBlock ∧ ∀ g, v'.ownBlock = some g → v.ownBlock = some g ∨ w.heap.size ≤ g := by
  obtain ⟨i0, hi, hz0, hz1, hz2⟩ := info_parts info5
  obtain ⟨v', w', h1, h2, h3⟩ := own_str ty h s hn hbase
  refine ⟨v', w', h1, h2, h3, fun g hg => ?_⟩
  rcases h.2 with ⟨rfl, hl0⟩ | ⟨g', cap, cur, rfl, hb, hh, hc1, hc2, hcs, htk⟩
  · obtain rfl := List.eq_nil_of_length_eq_zero hl0
    obtain ⟨v2, w2, k1, k2, _⟩ := own_str ty (Own.nil w w.heap.size) s hn (Nat.le_refl _)
    rw [h1] at k1
    injection k1 with e1 e2
    subst e1
    exact .inr (k2.lt hg).1
  · by_cases hroom : l.length + s.size ≤ cap
    · have hr := Lib.run_append_room_string (P := Tryd.prog) w 25 9 ty 5 i0 Tryd.underlying25 Tryd.underlying9 hi hz1 g' l.length cap cur hh s hroom (by rw [hcs]; omega)
      rw [h1] at hr
      injection hr with e1 e2
      subst e1
      exact .inl hg
    · have hr := Lib.run_append_grow_string (P := Tryd.prog) w 25 9 ty 5 i0 (.int .u8 0) Tryd.underlying25 Tryd.underlying9 hi hz0 ⟨g', 0, none⟩ l.length cap (bcells l) (by rw [bcells_length, hz1, Nat.mul_one]) (World.ownsRow.cells h (g := g') rfl) s (by omega) (by omega) (growslice_fits (by omega) (by rw [hz2]; omega))
      rw [h1] at hr
      injection hr with e1 e2
      subst e1
      simp [Value.ownBlock] at hg
      subst hg
      exact .inr (Nat.le_refl _)

/-- Two rows of one's own that are not the same. -/
structure Two (base : Nat) (w : World) (o : Value) (l : List UInt8) (d : Value) (m : List UInt8) : Prop where
  out : OwnM base w o l
  dir : Own base w d m
  ne : ∀ g, o.ownBlock = some g → d.ownBlock ≠ some g

theorem OwnM.of_block {base : Nat} {w w' : World} {v : Value} {l : List UInt8} (h : OwnM base w v l) (hk : ∀ g, v.ownBlock = some g → w'.heap[g]? = w.heap[g]?) : OwnM base w' v l := by
  rcases h with h | ⟨g, cur, z, rfl, hb, hh, hc, hl⟩
  · exact .inl (h.of_block hk)
  · exact .inr ⟨g, cur, z, rfl, hb, by rw [hk g rfl]; exact hh, hc, hl⟩
theorem OwnM.notBox {base : Nat} {w : World} {v : Value} {l : List UInt8} (h : OwnM base w v l) {b : Nat} {C : Array Value} {z : Nat × Nat} {t : TypeId} (ht : t ≠ 5) (hb : w.heap[b]? = some (.cells C t z)) : some b ≠ v.ownBlock := by
  rcases h with h | ⟨g, cur, z', rfl, _, hh, _⟩
  · exact h.notBox ht hb
  · simp only [Value.ownBlock]
    intro e
    simp at e
    subst e
    rw [hb] at hh
    simp at hh
    exact ht hh.2.1

section
variable {base : Nat} {w w' : World} {o o' d d' : Value} {l l' m m' : List UInt8}
theorem Two.kept (h : Two base w o l d m) (hk : ∀ i, i < w.heap.size → w'.heap[i]? = w.heap[i]?) : Two base w' o l d m := ⟨h.out.kept hk, h.dir.kept hk, h.ne⟩
theorem Two.alloc (h : Two base w o l d m) (x : Obj) : Two base (w.alloc x) o l d m := h.kept fun i hi => Below.heap_alloc w x i hi
theorem Two.onDir (h : Two base w o l d m) (gr : w.grownBy w' d.ownBlock) (own : Own base w' d' m') (loc : ∀ g, d'.ownBlock = some g → d.ownBlock = some g ∨ w.heap.size ≤ g) : Two base w' o l d' m' := by
  refine ⟨h.out.of_block fun g hg => gr.block g (h.out.lt hg).2 fun e => h.ne g hg e.symm, own, fun g hg hd => ?_⟩
  rcases loc g hd with e | e
  · exact h.ne g hg e
  · have := (h.out.lt hg).2; omega
theorem Two.onOut (h : Two base w o l d m) (gr : w.grownBy w' o.ownBlock) (own : OwnM base w' o' l') (loc : ∀ g, o'.ownBlock = some g → o.ownBlock = some g ∨ w.heap.size ≤ g) : Two base w' o' l' d m := by
  refine ⟨own, h.dir.of_block fun g hg => gr.block g (h.dir.lt hg).2 fun e => h.ne g e.symm hg, fun g hg hd => ?_⟩
  rcases loc g hg with e | e
  · exact h.ne g e hd
  · have := (h.dir.lt hd).2; omega
end
end Go.Proofs.YthomhaegdlglhaaDoor
