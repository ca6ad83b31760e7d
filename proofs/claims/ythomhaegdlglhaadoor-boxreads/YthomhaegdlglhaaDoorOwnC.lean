/- A row of chunks of one's own, and a chunk that is appended to it; no walk. -/
import Derived.Test.YthomhaegdlglhaaDoorMark
namespace Go.Proofs.YthomhaegdlglhaaDoor
open Go.RowKit

/-- A chunk's data: a row of one's own, or what is older than one's own rows. -/
def DataOk (base : Nat) (w : World) (d : Value) (l : List UInt8) : Prop := Own base w d l ∨ ∀ u : World, (∀ i, i < base → u.heap[i]? = w.heap[i]?) → Bts u d l
theorem DataOk.bts {base : Nat} {w : World} {d : Value} {l : List UInt8} (h : DataOk base w d l) : Bts w d l := h.elim Own.bts fun h => h w fun _ _ => rfl
theorem DataOk.kept {base : Nat} {w w' : World} {d : Value} {l : List UInt8} (h : DataOk base w d l) (ho : ∀ g, d.ownBlock = some g → base ≤ g → g < w.heap.size → (∃ C, w.heap[g]? = some (.cells C 5)) → w'.heap[g]? = w.heap[g]?) (hk : ∀ i, i < base → w'.heap[i]? = w.heap[i]?) : DataOk base w' d l := by
  rcases h with h | h
  · refine .inl (h.of_block fun g hg => ho g hg (h.lt hg).1 (h.lt hg).2 ?_)
    rcases h.2 with ⟨rfl, _⟩ | ⟨g', cap, cur, rfl, _, hh, _⟩
    · simp [Value.ownBlock] at hg
    · simp [Value.ownBlock] at hg
      subst hg
      exact ⟨cur, hh⟩
  · exact .inr fun u hu => h u fun i hi => (hu i hi).trans (hk i hi)

/-- A row of chunks (struct type t) of one's own. -/
def OwnC (t : TypeId) (base : Nat) (w : World) (v : Value) (L : List Chk) : Prop :=
  ∃ xs, w.ownsRow base t 2 v L.length xs ∧ ∀ j c, L[j]? = some c → c.1.size ≤ maxLen ∧ ∃ d, xs[j * 2]? = some (.string c.1) ∧ xs[j * 2 + 1]? = some d ∧ DataOk base w d c.2
theorem OwnC.nil (t : TypeId) (w : World) (base : Nat) : OwnC t base w (.slice none 0 0) [] := ⟨[], World.ownsRow_nil w base t 2, fun j c hj => by simp at hj⟩
theorem OwnC.lt {t : TypeId} {w : World} {base : Nat} {v : Value} {L : List Chk} (h : OwnC t base w v L) {g : Nat} (hg : v.ownBlock = some g) : base ≤ g ∧ g < w.heap.size := by
  obtain ⟨xs, h, _⟩ := h
  exact World.ownsRow.lt h g hg
theorem OwnC.kept {t : TypeId} {w w' : World} {base : Nat} {v : Value} {L : List Chk} (h : OwnC t base w v L) (hb : base ≤ w.heap.size) (hk : ∀ i, i < w.heap.size → w'.heap[i]? = w.heap[i]?) : OwnC t base w' v L := by
  obtain ⟨xs, h1, h2⟩ := h
  refine ⟨xs, ownsRow_of_block h1 fun g hg => hk g (World.ownsRow.lt h1 g hg).2, fun j c hj => ?_⟩
  obtain ⟨hs, d, e1, e2, e3⟩ := h2 j c hj
  exact ⟨hs, d, e1, e2, e3.kept (fun g _ _ hg _ => hk g hg) fun i hi => hk i (by omega)⟩
theorem add_add (a : Addr) (m : Nat) : (⟨(a.add m).block, (a.add m).off + 1, none⟩ : Addr) = ⟨a.block, (a.add m).off + 1, none⟩ := by rw [addr_block]
theorem OwnC.chs {t : TypeId} {w : World} {base : Nat} {v : Value} {L : List Chk} (h : OwnC t base w v L) : Chs w v L := by
  obtain ⟨xs, h1, h2⟩ := h
  rcases h1.2 with ⟨e1, e2⟩ | ⟨g, cap, cur, rfl, _, _, h4, h5, _, _⟩
  · exact .inl ⟨e1, List.eq_nil_of_length_eq_zero e2⟩
  · refine .inr ⟨⟨g, 0, none⟩, cap, rfl, h4, h5, fun j c hj => ?_⟩
    obtain ⟨hs, d, c1, c2, c3⟩ := h2 j c hj
    have hadd : ∀ k, (⟨g, 0, none⟩ : Addr).add k = ⟨g, k, none⟩ := fun k => by unfold Addr.add; split <;> simp_all
    have hc := World.ownsRow.cells h1 (g := g) rfl
    refine ⟨hs, d, hc _ _ c1, ?_, c3.bts⟩
    have := hc _ _ c2
    rw [hadd] at this ⊢
    exact this

theorem ownC_app {t st : TypeId} {base : Nat} {w : World} {v : Value} {L : List Chk} (ht5 : t ≠ 5) (hst : Tryd.prog.underlying st = some (.slice t)) (hinf : (Tryd.prog.info? t).map (fun i => (i.zero, i.size, i.bytes)) = some (some (.agg #[.string ⟨#[]⟩, .slice none 0 0]), 2, 40))
    (h : OwnC t base w v L) {b : Nat} {tag : ByteArray} {da : Option Addr} {n dc : Nat} {z : Nat × Nat} (hbx : w.heap[b]? = some (.cells #[.string tag, .slice da n dc] t z)) {data : List UInt8} (hd : DataOk base w (.slice da n dc) data) (hs : tag.size ≤ maxLen)
    (hn : L.length + 1 ≤ 1099511627776) (hbase : base ≤ w.heap.size) :
    ∃ v' w', (Builtin.append_ #[st, st] st #[v, .slice (some ⟨b, 0, none⟩) 1 1]).run Tryd.prog w = .ok v' w' ∧ OwnC t base w' v' (L ++ [(tag, data)]) ∧ w.grownBy w' v.ownBlock ∧ Below base w w' := by
  obtain ⟨i0, hi, hz0, hz1, hz2⟩ := info_parts hinf
  obtain ⟨xs, h1, h2⟩ := h
  have hadd : ∀ k, (⟨b, 0, none⟩ : Addr).add k = ⟨b, k, none⟩ := fun k => by unfold Addr.add; split <;> simp_all
  obtain ⟨v', w', r1, o1, g1, _, _⟩ := run_append_own_at w base st st t i0 _ 2 40 hst hi hz0 hz1 hz2 rfl (by decide) v _ xs h1 ⟨b, 0, none⟩ 1 1 [.string tag, .slice da n dc] rfl
    (fun j u hj => by rw [hadd, cell_of_row w b j _ _ _ hbx, ← hj]; simp) (by intro u hu; simp at hu; rcases hu with rfl | rfl <;> rfl) (by simp only [maxLen]; omega) (by omega) hbase
  have hlt : ∀ g, v.ownBlock = some g → base ≤ g ∧ g < w.heap.size := fun g hg => World.ownsRow.lt h1 g hg
  have hty : ∀ g, v.ownBlock = some g → ∀ C, w.heap[g]? ≠ some (.cells C 5) := fun g hg C e => by
    rcases h1.2 with ⟨rfl, _⟩ | ⟨g', cap, cur, rfl, _, hh, _⟩
    · simp [Value.ownBlock] at hg
    · simp [Value.ownBlock] at hg
      subst hg
      rw [e] at hh
      simp at hh
      exact ht5 hh.2.symm
  have keep : ∀ {d : Value} {l : List UInt8}, DataOk base w d l → DataOk base w' d l := fun hk => hk.kept
    (fun g _ _ hg ⟨C, hC⟩ => g1.block g hg fun e => hty g e.symm C hC)
    (fun i hi => g1.block i (by omega) fun e => by have := (hlt i e.symm).1; omega)
  have hxl := h1.1
  refine ⟨v', w', r1, ⟨xs ++ [.string tag, .slice da n dc], by rw [List.length_append]; exact o1, fun j c hj => ?_⟩, g1, (Below.refl base w).grown g1 hbase fun _ hk => (hlt _ hk).1⟩
  by_cases hjl : j < L.length
  · rw [List.getElem?_append_left hjl] at hj
    obtain ⟨hs', d', e1, e2, e3⟩ := h2 j c hj
    refine ⟨hs', d', ?_, ?_, keep e3⟩
    · rw [List.getElem?_append_left (by omega)]; exact e1
    · rw [List.getElem?_append_left (by omega)]; exact e2
  · rw [List.getElem?_append_right (by omega)] at hj
    have hj0 : j = L.length := by
      rcases Nat.lt_or_ge (j - L.length) 1 with h | h
      · omega
      · rw [List.getElem?_eq_none (by simpa using h)] at hj; cases hj
    subst hj0
    simp at hj
    subst hj
    refine ⟨hs, .slice da n dc, ?_, ?_, keep hd⟩
    · rw [List.getElem?_append_right (by omega), hxl]; simp
    · rw [List.getElem?_append_right (by omega), hxl]; simp
theorem inf49 : (Tryd.prog.info? 49).map (fun i => (i.zero, i.size, i.bytes)) = some (some (.agg #[.string ⟨#[]⟩, .slice none 0 0]), 2, 40) := by kernel_rfl
theorem inf55 : (Tryd.prog.info? 55).map (fun i => (i.zero, i.size, i.bytes)) = some (some (.agg #[.string ⟨#[]⟩, .slice none 0 0]), 2, 40) := by kernel_rfl
end Go.Proofs.YthomhaegdlglhaaDoor
