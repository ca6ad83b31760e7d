/- The contracts of the closures that the five operations hand to operate. -/
import Derived.Test.YtjncibejdplamaaSmall
import Derived.RegionTactic
import Derived.ChangeAlike
import Derived.BigRegion
import Derived.Maps.AppendAt
import Derived.Deep.RegionLaw
namespace Go.Proofs.Ytjncibejdplamaa
open Go.RowKit Go.Maps
open Go.WideMaps

theorem cell_alloc {w : World} {a : Addr} {v : Value} (h : w.cell? a = some v) (o : Obj) : (w.alloc o).cell? a = some v :=
  (World.cell?_of_block (Below.heap_alloc w o a.block (World.block_lt_of_cell? w a h))).trans h

theorem clo46_end {K : Nat → Prop} {base : Nat} {w w2 : World} {b bm : Nat} {s : WS} {D : DataW Value} {F : List UInt8 → Option FileS} (h : S K base w b bm s D F) (nm : ByteArray) (hroom : (F nm.data.toList).isSome = true ∨ Maps.size D < 16)
    (hbase : base ≤ w.heap.size) (hgrow : ((w.alloc (.cells #[.slice none 0 0, .int .i64 0] 75)).drew).grownBy w2 (some bm))
    (hown : w2.ownsMap Try.prog 9 RV bm (16 + 1) (D.put (.string nm.data.toList) (.held (ptrOf w.heap.size)))) :
    (∃ f, f.data = [] ∧ f.sy = 0 ∧ S K base w2 b bm s (D.put (.string nm.data.toList) (.held (ptrOf f.fb))) (upd F nm.data.toList (some f))) ∧ Bel K base w w2 := by
  have hbm := h.own.lt
  have hlt : w.heap.size < (w.alloc (.cells #[.slice none 0 0, .int .i64 0] 75)).drew.heap.size := by simp
  refine ⟨⟨⟨w.heap.size, .slice none 0 0, [], 0⟩, rfl, rfl, h.putF (f' := ⟨w.heap.size, .slice none 0 0, [], 0⟩) ?_ hroom hown ⟨⟨⟨hbase, fun hi => by have := h.kb _ hi; dsimp only at this; omega⟩, fun g hg => by simp [Value.ownBlock] at hg⟩, ?_, World.ownsRow_nil _ _ _ _, Nat.le_refl _, by simp⟩ (Nat.le_refl _) (by intro g hg; simp [Value.ownBlock] at hg)⟩, ?_⟩
  · intro i hi hne
    rw [hgrow.block i (by omega) (by simpa using hne)]
    exact Below.heap_alloc w _ i hi
  · rw [hgrow.block _ hlt (by simp; omega)]
    exact heap_alloc_new w _
  · exact (h.refl.alloc hbase _).drew.grown hgrow (by simp; omega) (by intro k hk; cases hk; exact h.hbm)

set_option maxHeartbeats 1000000 in
theorem clo46 {K : Nat → Prop} {base : Nat} {w : World} {b bm : Nat} {s : WS} {D : DataW Value} {F : List UInt8 → Option FileS} (h : S K base w b bm s D F) (nm : ByteArray) (hn : nm.size ≤ maxLen) (hroom : (F nm.data.toList).isSome = true ∨ Maps.size D < 16)
    (hbase : base ≤ w.heap.size) (x y : Nat) (cx : w.cell? ⟨x, 0, none⟩ = some (ptrOf b)) (cy : w.cell? ⟨y, 0, none⟩ = some (.string nm)) :
    Calls Try.prog 46 #[ptrOf x, ptrOf y] w fun e w' => e = .returned (.tuple #[]) ∧ (∃ f, f.data = [] ∧ f.sy = 0 ∧ S K base w' b bm s (D.put (.string nm.data.toList) (.held (ptrOf f.fb))) (upd F nm.data.toList (some f))) ∧ Bel K base w w' := by
  have h1 := (h.alloc (.cells #[.slice none 0 0, .int .i64 0] 75)).drew
  obtain ⟨w2, hrun, hown, hgrow⟩ := h1.own.update (val := ptrOf w.heap.size) (d := .held (ptrOf w.heap.size)) (ps := []) K9 Try.underlying49 (by simp [maxLen]) (keyOf_string_mk Try.underlying9 hn) rfl
  obtain ⟨c0, -⟩ := blk_cells h.hB
  have H : Hid (S K base w b bm s D F) := h
  have HR : Hid ((F nm.data.toList).isSome = true ∨ Maps.size D < 16) := hroom
  have HG : Hid (((w.alloc (.cells #[.slice none 0 0, .int .i64 0] 75)).drew).grownBy w2 (some bm)) := hgrow
  have HO : Hid (w2.ownsMap Try.prog 9 RV bm (16 + 1) (D.put (.string nm.data.toList) (.held (ptrOf w.heap.size)))) := hown
  clear h hroom h1 hgrow hown hn
  have cx' := cell_alloc cx (.cells #[.slice none 0 0, .int .i64 0] 75)
  have cy' := cell_alloc cy (.cells #[.slice none 0 0, .int .i64 0] 75)
  have c0' := cell_alloc c0 (.cells #[.slice none 0 0, .int .i64 0] 75)
  go_enter Try.func46, Try.ntmps46
  go_wp2
  go_region
  all_goals (go_end0)
  exact ⟨rfl, clo46_end H.out nm HR.out hbase HG.out HO.out⟩

/-- An append whose run is known, as one step of a region that draws. -/
theorem step_append_run {P : Program} {ops : Array Oper} {o : Oper} {a : Act} {w : World} {K : Act → World → Prop} {Q : Exit → Act → World → Prop} {E : Prop}
    (hg : o.guard = none) (s x : Operand) (t : TypeId) (hop : o.op = Op.call { callee := Callee.builtin Builtin.append, args := #[s, x], argTypes := #[t, t] })
    (v bv v' : Value) (w' : World) (hs : a.eval s = v) (hx : a.eval x = bv) (hrun : (Builtin.append_ #[t, t] o.type #[v, bv]).run P w = .ok v' w')
    (hK : K (a.put o.dst v') w') : if Region.wanted o (yielded ops a.tmps) = true then Oper.wp P o a w K Q else E := by
  have hw : Region.wanted o (yielded ops a.tmps) = true := by simp [Region.wanted, hg]
  rw [if_pos hw]
  unfold Oper.wp
  simp [execOp, hop, resolve, invoke, builtin, hs, hx, hrun, Result.andThen]
  exact hK

/-! ### Append$1 -/
theorem info5 : (Try.prog.info? 5).map (fun i => (i.zero, i.size, i.bytes)) = some (some (.int .u8 0), 1, 1) := by kernel_rfl

/-- What is appended: nothing, or bytes in memory outside the block b. -/
def SrcB (w : World) (b : Nat) (bv : Value) (l : List UInt8) : Prop :=
  (bv = .slice none 0 0 ∧ l = []) ∨ ∃ a cap, bv = .slice (some a) l.length cap ∧ (l ≠ [] → a.block ≠ b) ∧ ∀ j u, (bcells l)[j]? = some u → w.cell? (a.add j) = some u

theorem bcells_length (l : List UInt8) : (bcells l).length = l.length := by simp [bcells]
theorem bcells_append (l m : List UInt8) : bcells (l ++ m) = bcells l ++ bcells m := by simp [bcells]

theorem app_src {base : Nat} {w : World} {v : Value} {xs : List Value} {n b : Nat} (ty : TypeId) (hown : w.ownsRow base 5 1 v n xs) {bv : Value} {l : List UInt8} (hs : SrcB w b bv l) (hn : n + l.length ≤ 1048576) (hbase : base ≤ w.heap.size) :
    ∃ v' w', (Builtin.append_ #[29, 29] ty #[v, bv]).run Try.prog w = .ok v' w' ∧ w'.ownsRow base 5 1 v' (n + l.length) (xs ++ bcells l) ∧ w.grownBy w' v.ownBlock ∧ (v'.ownBlock = v.ownBlock ∨ v'.ownBlock = some w.heap.size) := by
  obtain ⟨i0, hi, hz0, hz1, hz2⟩ := info_parts info5
  rcases hs with ⟨rfl, rfl⟩ | ⟨a, cap, rfl, _, hc⟩
  · refine ⟨v, w, run_append_owned_none w base 29 ty 5 i0 1 Try.underlying29 hi v n xs hown, by simpa [bcells] using hown, ⟨rfl, rfl, rfl, Nat.le_refl _, fun _ _ _ => rfl⟩, .inl rfl⟩
  · obtain ⟨v', w', h1, h2, h3, _, h5⟩ := run_append_own_at w base 29 ty 5 i0 (.int .u8 0) 1 1 Try.underlying29 hi hz0 hz1 hz2 rfl (by decide) v n xs hown a l.length cap (bcells l) (by rw [bcells_length, Nat.mul_one]) hc
      (by intro u hu; simp [bcells] at hu; obtain ⟨x, _, rfl⟩ := hu; rfl) (by simp only [maxLen]; omega) (by omega) hbase
    exact ⟨v', w', h1, h2, h3, h5⟩

theorem addr_block (a : Addr) (n : Nat) : (a.add n).block = a.block := by unfold Addr.add; split <;> rfl
theorem ownsRow_slice {w : World} {base : Nat} {e : TypeId} {size : Nat} {v : Value} {n : Nat} {xs : List Value} (h : w.ownsRow base e size v n xs) : ∃ a c, v = .slice a n c := by
  rcases h.2 with ⟨rfl, rfl⟩ | ⟨g, cap, cur, rfl, _⟩
  · exact ⟨none, 0, rfl⟩
  · exact ⟨_, _, rfl⟩
theorem SrcB.drew {w : World} {b : Nat} {bv : Value} {l : List UInt8} (h : SrcB w b bv l) : SrcB w.drew b bv l := h
theorem SrcB.kept {w w' : World} {b : Nat} {bv : Value} {l : List UInt8} (h : SrcB w b bv l) (hk : ∀ i, i < w.heap.size → i ≠ b → w'.heap[i]? = w.heap[i]?) : SrcB w' b bv l := by
  rcases h with h | ⟨a, cap, h1, h2, h3⟩
  · exact .inl h
  · refine .inr ⟨a, cap, h1, h2, fun j u hj => ?_⟩
    have := h3 j u hj
    rw [← this]
    exact World.cell?_of_block (hk _ (World.block_lt_of_cell? w _ this) (by rw [addr_block]; exact h2 (by rintro rfl; simp [bcells] at hj)))

theorem cell0 {w : World} {x : Nat} {v : Value} {t : TypeId} (h : w.heap[x]? = some (.cells #[v] t (0, 0))) : w.cell? ⟨x, 0, none⟩ = some v := by simp [World.cell?, h]
theorem fcells {w : World} {x : Nat} {v u : Value} {t : TypeId} (h : w.heap[x]? = some (.cells #[v, u] t (0, 0))) : w.cell? ⟨x, 0, none⟩ = some v ∧ w.cell? ⟨x, 1, none⟩ = some u ∧ w.frozen? ⟨x, 0, none⟩ = false ∧ w.frozen? ⟨x, 1, none⟩ = false := by
  simp [World.cell?, World.frozen?, h]

theorem heap_set {w : World} {b i : Nat} {arr : Array Value} {t : TypeId} {z : Nat × Nat} (h : w.heap[b]? = some (.cells arr t z)) (v : Value) : (w.setCell ⟨b, i, none⟩ v).heap[b]? = some (.cells (arr.setIfInBounds i v) t z) := by
  simp [World.setCell, Array.getElem?_modify, h]
theorem heap_set_other (w : World) {b i k : Nat} (v : Value) (h : k ≠ b) : (w.setCell ⟨b, i, none⟩ v).heap[k]? = w.heap[k]? := Below.heap_setCell w _ v k h
theorem size_set (w : World) (a : Addr) (v : Value) : (w.setCell a v).heap.size = w.heap.size := by simp [World.setCell]

theorem S.below_row {K : Nat → Prop} {base : Nat} {w : World} {b bm : Nat} {s : WS} {D : DataW Value} {F : List UInt8 → Option FileS} (h : S K base w b bm s D F) {nm : List UInt8} {f : FileS} (hf : F nm = some f) : ∀ k, f.v.ownBlock = some k → Ok1 K base k :=
  fun _ hk => ⟨(ownsRow_type (h.files nm f hf).2.2.1 hk).1, (h.files nm f hf).1.2 _ hk⟩

theorem clo48_end {K : Nat → Prop} {base : Nat} {w w1 : World} {b bm : Nat} {s : WS} {D : DataW Value} {F : List UInt8 → Option FileS} (h : S K base w b bm s D F) {nm : List UInt8} {f : FileS} (hf : F nm = some f) (l : List UInt8) (hn : f.data.length + l.length ≤ 1048576) (hbase : base ≤ w.heap.size)
    {v' : Value} (n : Int) (hgrow : w.drew.grownBy w1 f.v.ownBlock) (hown : w1.ownsRow base 5 1 v' (f.data.length + l.length) (bcells f.data ++ bcells l)) (hloc : v'.ownBlock = f.v.ownBlock ∨ v'.ownBlock = some w.heap.size) :
    (∃ u, S K base (((w1.setCell ⟨f.fb, 0, none⟩ v').setCell ⟨b, 5, none⟩ (.int .i64 n)).drew) b bm { s with written := n } D (upd F nm (some ⟨f.fb, u, f.data ++ l, f.sy⟩))) ∧ Bel K base w (((w1.setCell ⟨f.fb, 0, none⟩ v').setCell ⟨b, 5, none⟩ (.int .i64 n)).drew) := by
  obtain ⟨g1, g2, g3, g4, g5⟩ := h.files nm f hf
  have hk : ∀ (i : Nat) (o : Obj), w.heap[i]? = some o → (∀ cur, o ≠ Obj.cells cur 5 (0, 0)) → w1.heap[i]? = some o := by
    intro i o hi ho
    rw [← hi]
    refine hgrow.block i (lt_of_some hi) ?_
    intro e
    obtain ⟨_, cur, hc⟩ := ownsRow_type g3 e.symm
    rw [hi] at hc; cases hc; exact ho cur rfl
  have hf1 := hk f.fb _ g2 (by simp)
  have hb1 := hk b _ h.hB (by simp [blk])
  have ne3 : f.fb ≠ b := by rintro e; rw [e, h.hB] at g2; simp [blk] at g2
  have hsz := hgrow.size
  have hloc' : ∀ g, v'.ownBlock = some g → f.v.ownBlock = some g ∨ w.heap.size ≤ g := by
    intro g hg
    rcases hloc with e | e
    · left; rw [← e]; exact hg
    · right; rw [e] at hg; cases hg; exact Nat.le_refl _
  -- the row that v' owns is neither the file's block nor the world's
  have hrow : ∀ g, v'.ownBlock = some g → g ≠ f.fb ∧ g ≠ b := by
    intro g hg
    obtain ⟨_, cur, hc⟩ := ownsRow_type hown hg
    exact ⟨by rintro e; rw [e, hf1] at hc; simp at hc, by rintro e; rw [e, hb1] at hc; simp [blk] at hc⟩
  have s1 : S K base (w1.setCell ⟨f.fb, 0, none⟩ v') b bm s D (upd F nm (some ⟨f.fb, v', f.data ++ l, f.sy⟩)) := by
    refine h.setF (f' := ⟨f.fb, v', f.data ++ l, f.sy⟩) hf rfl ?_ ⟨⟨g1.1, fun g hg hK => (hloc' g hg).elim (fun e => g1.2 g e hK) (fun e => by have := h.kb g hK; omega)⟩, ?_, ?_, ?_, ?_⟩ hloc'
    · intro i hi h1 h2
      rw [heap_set_other _ _ h1]
      exact hgrow.block i hi h2
    · have := heap_set (i := 0) hf1 v'
      simpa using this
    · simp only [List.length_append, bcells_append]
      exact ownsRow_of_block hown fun g hg => heap_set_other _ _ (hrow g hg).1
    · simp; omega
    · simpa using hn
  refine ⟨⟨v', (s1.setB (s' := { s with written := n }) ?_ ?_).drew⟩, ?_⟩
  · intro i _ hne; exact heap_set_other _ _ hne
  · have := heap_set (i := 5) (w := w1.setCell ⟨f.fb, 0, none⟩ v') (b := b) (arr := #[.map (some bm), .bool s.off, .int .i64 s.left, .int .i64 s.keep, .int .i64 s.ops, .int .i64 s.written]) (t := 51) (z := (0, 0)) (by rw [heap_set_other _ _ (Ne.symm ne3)]; exact hb1) (.int .i64 n)
    simpa [blk] using this
  · exact (((h.refl.drew.grown hgrow hbase (h.below_row hf)).setCell g1.1 _).setCell h.hb _).drew

set_option maxHeartbeats 1000000 in
theorem clo48 {K : Nat → Prop} {base : Nat} {w : World} {b bm : Nat} {s : WS} {D : DataW Value} {F : List UInt8 → Option FileS} (h : S K base w b bm s D F) {nm : List UInt8} {f : FileS} (hf : F nm = some f) (l : List UInt8) (bv : Value) (hs : SrcB w b bv l)
    (hn : f.data.length + l.length ≤ 1048576) (hbase : base ≤ w.heap.size) (x y z : Nat) (hx : w.heap[x]? = some (.cells #[ptrOf f.fb] 73 (0, 0))) (hy : w.heap[y]? = some (.cells #[bv] 29 (0, 0))) (hz : w.heap[z]? = some (.cells #[ptrOf b] 23 (0, 0))) :
    Calls Try.prog 48 #[ptrOf x, ptrOf y, ptrOf z] w fun e w' => e = .returned (.tuple #[]) ∧
      (∃ v', S K base w' b bm { s with written := wrap64 (s.written + l.length) } D (upd F nm (some ⟨f.fb, v', f.data ++ l, f.sy⟩))) ∧ Bel K base w w' := by
  obtain ⟨g1, g2, g3, g4, g5⟩ := h.files nm f hf
  obtain ⟨v', w1, hrun, hown, hgrow, hloc⟩ := app_src (b := b) 29 (w := w.drew) g3 hs hn hbase
  have hk : ∀ (i : Nat) (o : Obj), w.heap[i]? = some o → (∀ cur, o ≠ Obj.cells cur 5 (0, 0)) → w1.heap[i]? = some o := by
    intro i o hi ho
    rw [← hi]
    refine hgrow.block i (lt_of_some hi) ?_
    intro e
    obtain ⟨_, cur, hc⟩ := ownsRow_type g3 e.symm
    rw [hi] at hc; cases hc; exact ho cur rfl
  have hx1 := hk x _ hx (by simp)
  have hy1 := hk y _ hy (by simp)
  have hz1 := hk z _ hz (by simp)
  have hf1 := hk f.fb _ g2 (by simp)
  have hb1 := hk b _ h.hB (by simp [blk])
  have ne1 : f.fb ≠ y := by rintro e; rw [e, hy] at g2; simp at g2
  have ne2 : f.fb ≠ z := by rintro e; rw [e, hz] at g2; simp at g2
  have ne3 : f.fb ≠ b := by rintro e; rw [e, h.hB] at g2; simp [blk] at g2
  have ne1' : y ≠ f.fb := Ne.symm ne1
  have ne2' : z ≠ f.fb := Ne.symm ne2
  have ne3' : b ≠ f.fb := Ne.symm ne3
  have cx := cell0 hx
  have cy := cell0 hy
  have cx1 := cell0 hx1
  have cy1 := cell0 hy1
  have cz1 := cell0 hz1
  obtain ⟨cf, -⟩ := fcells g2
  obtain ⟨cf1, -, fz1, -⟩ := fcells hf1
  obtain ⟨-, -, -, -, -, cb5⟩ := blk_cells hb1
  have fb5 := blk_frozen hb1 5
  obtain ⟨c1, c2, hbl⟩ : ∃ c1 c2, bv = .slice c1 l.length c2 := by
    rcases hs with ⟨rfl, rfl⟩ | ⟨a, cap, rfl, _⟩
    · exact ⟨none, 0, rfl⟩
    · exact ⟨_, _, rfl⟩
  obtain ⟨d1, d2, hvl⟩ := ownsRow_slice hown
  subst hvl
  have H : Hid (S K base w b bm s D F) := h
  have HG : Hid (w.drew.grownBy w1 f.v.ownBlock) := hgrow
  have HO : Hid (w1.ownsRow base 5 1 (.slice d1 (f.data.length + l.length) d2) (f.data.length + l.length) (bcells f.data ++ bcells l)) := hown
  have HL : Hid ((Value.slice d1 (f.data.length + l.length) d2).ownBlock = f.v.ownBlock ∨ (Value.slice d1 (f.data.length + l.length) d2).ownBlock = some w.heap.size) := hloc
  clear h hgrow hown hloc hk hx hy hz hx1 hy1 hz1 hf1 hb1 g2 g3 hs
  subst hbl
  go_enter Try.func48, Try.ntmps48
  go_wp2
  have HRun : Hid (Sem.run Try.prog (Builtin.append_ #[29, 29] 29 #[f.v, .slice c1 l.length c2]) w.drew = Result.ok (.slice d1 (f.data.length + l.length) d2) w1) := hrun
  clear hrun
  go_region_law (refine step_append_run rfl _ _ 29 rfl _ _ _ _ rfl rfl HRun.out ?_)
  all_goals (go_wp2; go_region)
  all_goals (go_end0)
  all_goals exact ⟨rfl, clo48_end H.out hf l hn hbase _ HG.out HO.out HL.out⟩
end Go.Proofs.Ytjncibejdplamaa
