/- The reference's Append, its parts. -/
import Derived.Test.YtmeecjedikechaaRRead
namespace Go.Proofs.Ytmeecjedikechaa
open Go.RowKit Go.Maps
set_option maxRecDepth 100000
set_option linter.unusedVariables false
set_option linter.unusedSimpArgs false
/-- Two copies in new memory, and the file's own variable. -/
theorem app_parts {K : Nat → Prop} {w : World} {p : PF} {ta : Option Addr} {tc : Nat} (ho : Hold K w ⟨p.nm, ta, p.data.length, tc, p.sy⟩ p) {bv : Value} {l : List UInt8} (hb : Byt.Bts w bv l) (hl : p.data.length + l.length ≤ 1048576) :
    ∃ va vc w3 xa xc w4, (Builtin.append_ #[29, 29] 29 #[.slice (some ⟨w.heap.size + 1, 0, none⟩) 0 0, .slice ta p.data.length tc]).run Try.prog ((w.alloc (.cells #[.string p.nm, .slice ta p.data.length tc, .int .i64 p.sy] 70)).alloc (.cells #[] 5)) = .ok (.slice va p.data.length vc) w3 ∧
      (Builtin.append_ #[29, 29] 29 #[.slice va p.data.length vc, bv]).run Try.prog w3 = .ok (.slice xa (p.data.length + l.length) xc) w4 ∧
      w4.heap[w.heap.size]? = some (.cells #[.string p.nm, .slice ta p.data.length tc, .int .i64 p.sy] 70) ∧ Below w.heap.size w w4 ∧
      Hold (Nw K w w4) (w4.setCell ⟨w.heap.size, 1, none⟩ (.slice xa (p.data.length + l.length) xc)) ⟨p.nm, xa, p.data.length + l.length, xc, p.sy⟩ ⟨p.nm, p.data ++ l, p.sy⟩ := by
  obtain ⟨va, vc, w3, run3, b3, t3, l3, ow3⟩ := rcopyB (w.alloc (.cells #[.string p.nm, .slice ta p.data.length tc, .int .i64 p.sy] 70)) (ho.bts.alloc _) (Nat.le_trans ho.mx (by decide))
  have hs : (w.alloc (.cells #[.string p.nm, .slice ta p.data.length tc, .int .i64 p.sy] 70)).heap.size = w.heap.size + 1 := by simp
  rw [hs] at run3 b3 l3 ow3
  have hb3 : Byt.Bts w3 bv l := (hb.alloc _).kept fun i hi => b3.block i (by simpa using hi)
  obtain ⟨v4, w4, run4, ap⟩ := Byt.own_app 29 ow3 hb3 (by omega) (by have := b3.size; simp at this; omega)
  have ho4 := ap.own
  obtain ⟨xa, xc, rfl⟩ := ho4.slice
  rw [List.length_append] at run4 ho4
  have b4 : Below (w.heap.size + 1) w3 w4 := ap.below ow3 (by have := b3.size; simp at this; omega)
  have hblk : w4.heap[w.heap.size]? = some (.cells #[.string p.nm, .slice ta p.data.length tc, .int .i64 p.sy] 70) := by
    rw [b4.block _ (by omega), b3.block _ (by omega)]
    exact heap_alloc_new w _
  have bl : Below w.heap.size w w4 := ((Below.refl _ _).alloc (Nat.le_refl _) _).trans ((b3.mono (by omega)).trans (b4.mono (by omega)))
  refine ⟨va, vc, w3, xa, xc, w4, run3, run4, hblk, bl, ?_⟩
  have o5 : Byt.Own (w.heap.size + 1) (w4.setCell ⟨w.heap.size, 1, none⟩ (.slice xa (p.data.length + l.length) xc)) (.slice xa (p.data.length + l.length) xc) (p.data ++ l) :=
    ho4.of_block fun g hg => set_other (by have := (ho4.lt hg).1; omega)
  constructor
  · rfl
  · exact o5.bts
  · simp
  · rfl
  · have := ho.le; show p.sy ≤ (p.data ++ l).length; simp; omega
  · show (p.data ++ l).length ≤ 1048576; simp; omega
  · intro a ha hne
    have ha' : xa = some a := ha
    subst ha'
    obtain ⟨x, hx, hlt⟩ := Bts.inside o5.bts hne
    cases hx
    refine .inr ⟨?_, by simpa [World.setCell] using hlt⟩
    have := (o5.lt (g := a.block) (by
      rcases o5.2 with ⟨h1, h2⟩ | ⟨g, cap, cur, h1, h2, h3⟩
      · cases h1
      · simp only [Value.slice.injEq, Option.some.injEq] at h1; rw [h1.1]; rfl)).1
    omega
theorem var_load {w : World} {g : Nat} {x y z : Value} (h : w.heap[g]? = some (.cells #[x, y, z] 70)) : (Instr.loadAt 70 (.pointer (some ⟨g, 0, none⟩))).run Try.prog w = .ok (.agg #[x, y, z]) w := by
  refine run_loadVarR w ⟨g, 0, none⟩ 70 [x, y, z] _ (fun j v hj => ?_) Try.underlying70 rfl rinf3
  have hadd : (⟨g, 0, none⟩ : Addr).add j = ⟨g, j, none⟩ := by unfold Addr.add; split <;> simp_all
  rw [hadd, cell_of_row _ _ j _ _ _ h]
  simpa using hj
theorem var_set1 {w : World} {g : Nat} {x y y' z : Value} (h : w.heap[g]? = some (.cells #[x, y, z] 70)) : (w.setCell ⟨g, 1, none⟩ y').heap[g]? = some (.cells #[x, y', z] 70) := by
  simp [World.setCell, Array.getElem?_modify, h]
theorem var_set0 {w : World} {g : Nat} {x x' y z : Value} (h : w.heap[g]? = some (.cells #[x, y, z] 70)) : (w.setCell ⟨g, 0, none⟩ x').heap[g]? = some (.cells #[x', y, z] 70) := by
  simp [World.setCell, Array.getElem?_modify, h]
theorem var_cells {w : World} {g : Nat} {x y z : Value} (h : w.heap[g]? = some (.cells #[x, y, z] 70)) : w.cell? ⟨g, 0, none⟩ = some x ∧ w.cell? ⟨g, 1, none⟩ = some y ∧ w.cell? ⟨g, 2, none⟩ = some z ∧ ∀ i, w.frozen? ⟨g, i, none⟩ = false := by
  simp [World.cell?, World.frozen?, h]
end Go.Proofs.Ytmeecjedikechaa
