/- The contracts of Create, Append and Sync where something is wrong; of Remove. -/
import Derived.Test.YtmeecjedikechaaRename
namespace Go.Proofs.Ytmeecjedikechaa
open Go.RowKit Go.Maps
open Go.WideMaps
set_option linter.unusedVariables false

section
variable {K : Nat → Prop} {base : Nat} {w : World} {b bm : Nat} {s : WS} {D : DataW Value} {F : List UInt8 → Option FileS}
/-- Other blocks to be kept: of those that were, or new. -/
theorem S.reK {K' : Nat → Prop} {w' : World} (h : S K base w b bm s D F) (hk : ∀ i, i < w.heap.size → w'.heap[i]? = w.heap[i]?) (hK : ∀ i, K' i → i < w'.heap.size ∧ (K i ∨ w.heap.size ≤ i)) : S K' base w' b bm s D F := by
  have g := h.grown hk
  have lt : ∀ {i : Nat} {o : Obj}, w.heap[i]? = some o → ¬ K i → ¬ K' i := fun {i o} h1 h2 h3 => by
    rcases (hK i h3).2 with e | e
    · exact h2 e
    · have := lt_of_some h1; omega
  refine ⟨fun i hi => (hK i hi).1, ⟨h.hb.1, lt h.hB h.hb.2⟩, ⟨h.hbm.1, ?_⟩, g.hB, g.own, g.at_, fun l f hf => ?_, g.apart⟩
  · obtain ⟨es, c, h1, _⟩ := h.own
    exact lt h1 h.hbm.2
  · obtain ⟨k1, k2, k3, k4⟩ := g.files l f hf
    obtain ⟨q1, q2, q3, q4⟩ := h.files l f hf
    refine ⟨⟨⟨q1.1.1, lt q2 q1.1.2⟩, fun g hg => ?_⟩, k2, k3, k4⟩
    obtain ⟨_, cur, hc⟩ := ownsRow_type q3 hg
    exact lt hc (q1.2 g hg)
/-- A block that is none of the world's own turns. -/
theorem S.other {w' : World} (h : S K base w b bm s D F) {rb : Nat} (hr : K rb) (hk : ∀ i, i < w.heap.size → i ≠ rb → w'.heap[i]? = w.heap[i]?) (hsz : w.heap.size ≤ w'.heap.size) : S K base w' b bm s D F := by
  have ne : ∀ {i : Nat}, ¬ K i → i ≠ rb := fun h e => h (e ▸ hr)
  refine ⟨fun i hi => Nat.lt_of_lt_of_le (h.kb i hi) hsz, h.hb, h.hbm, (hk b (lt_of_some h.hB) (ne h.hb.2)).trans h.hB, ownsMap_of_block h.own (hk bm h.own.lt (ne h.hbm.2)), h.at_, fun l f hf => ?_, h.apart⟩
  obtain ⟨h1, h2, h3, h4⟩ := h.files l f hf
  refine ⟨h1, (hk _ (lt_of_some h2) (ne h1.1.2)).trans h2, ownsRow_of_block h3 fun g hg => ?_, h4⟩
  obtain ⟨_, cur, hc⟩ := ownsRow_type h3 hg
  exact hk g (lt_of_some hc) (ne (h1.2 g hg))

set_option maxHeartbeats 1000000 in
theorem create_bad (h : S K base w b bm s D F) (hbase : base ≤ w.heap.size) (ho : s.off = false) (nm : ByteArray) (hn : nm.size ≤ maxLen) (hg : goodB nm = false) :
    Calls Try.prog 15 #[ptrOf b, .string nm] w fun e w' => e = .returned (.int .i64 8) ∧ S K base w' b bm s D F ∧ Bel K base w w' := by
  have hS : S K base (crW w b nm) b bm s D F := ((h.alloc _).alloc _).alloc _
  have R := refusal_on hS.hB ho (w.heap.size + 2) 1 [nm] (by simp [maxLen]) (by
    intro j hj; simp at hj; subst hj
    exact cell0 (by have := heap_new ((w.alloc (.cells #[ptrOf b] 23)).alloc (.cells #[.string nm] 9)) (.cells #[.string nm] 9); rw [size_alloc, size_alloc] at this; exact this)) (by intro j hj; simp at hj; subst hj; simpa using hn)
  have e8 : refE false [nm] = 8 := by simp [refE, hg]
  rw [e8] at R
  have HE : Hid (S K base (crW w b nm) b bm s D F ∧ Bel K base w (crW w b nm)) := ⟨hS, ((h.refl.alloc hbase _).alloc (by simp; omega) _).alloc (by simp; omega) _⟩
  clear h hS ho hg e8 hn
  go_enter Try.func15, Try.ntmps15
  go_wp2_with (go_at_call 43; refine R.mono ?_; rintro e w' ⟨rfl, rfl⟩)
  go_ret
  exact ⟨rfl, HE.out⟩
set_option maxHeartbeats 1000000 in
theorem create_full (h : S K base w b bm s D F) (hbase : base ≤ w.heap.size) (ho : s.off = false) (nm : ByteArray) (hn : nm.size ≤ maxLen) (hg : goodB nm = true) (hroom : ¬ ((F nm.data.toList).isSome = true ∨ Maps.size D < 16)) :
    Calls Try.prog 15 #[ptrOf b, .string nm] w fun e w' => e = .returned (.int .i64 9) ∧ S K base w' b bm s D F ∧ Bel K base w w' := by
  have hS : S K base (crW w b nm) b bm s D F := ((h.alloc _).alloc _).alloc _
  have R := refusal_on hS.hB ho (w.heap.size + 2) 1 [nm] (by simp [maxLen]) (by
    intro j hj; simp at hj; subst hj
    exact cell0 (by have := heap_new ((w.alloc (.cells #[ptrOf b] 23)).alloc (.cells #[.string nm] 9)) (.cells #[.string nm] 9); rw [size_alloc, size_alloc] at this; exact this)) (by intro j hj; simp at hj; subst hj; simpa using hn)
  have e8 : refE false [nm] = 0 := by simp [refE, hg]
  rw [e8] at R
  have RM := room_any hS nm hn
  have er : ((F nm.data.toList).isSome || decide ((Maps.size D : Int) < 16)) = false := by
    cases e : (F nm.data.toList).isSome with
    | true => exact absurd (.inl e) hroom
    | false =>
      simp
      rcases Nat.lt_or_ge (Maps.size D) 16 with h1 | h1
      · exact absurd (.inr h1) hroom
      · omega
  rw [er] at RM
  have HE : Hid (S K base (crW w b nm) b bm s D F ∧ Bel K base w (crW w b nm)) := ⟨hS, ((h.refl.alloc hbase _).alloc (by simp; omega) _).alloc (by simp; omega) _⟩
  clear h hS ho hg e8 hn er hroom
  go_enter Try.func15, Try.ntmps15
  go_wp2_with (first
    | (go_at_call 43; refine R.mono ?_; rintro e w' ⟨rfl, rfl⟩)
    | (go_at_call 44; refine RM.mono ?_; rintro e w' ⟨rfl, rfl⟩))
  go_ret
  exact ⟨rfl, HE.out⟩
set_option maxHeartbeats 1000000 in
theorem append_bad (h : S K base w b bm s D F) (hbase : base ≤ w.heap.size) (ho : s.off = false) (nm : ByteArray) (hn : nm.size ≤ maxLen) (bv : Value) (hbv : ∃ a n c, bv = .slice a n c) (hg : goodB nm = false ∨ (goodB nm = true ∧ F nm.data.toList = none)) :
    Calls Try.prog 16 #[ptrOf b, .string nm, bv] w fun e w' => (e = .returned (.int .i64 8) ∨ e = .returned (.int .i64 6)) ∧ S K base w' b bm s D F ∧ Bel K base w w' := by
  obtain ⟨ba, bn, bc, rfl⟩ := hbv
  have hS := (h.alloc (.cells #[ptrOf b] 23)).alloc (.cells #[.slice ba bn bc] 29)
  have HE : Hid (∀ o, S K base (((w.alloc (.cells #[ptrOf b] 23)).alloc (.cells #[.slice ba bn bc] 29)).alloc o) b bm s D F ∧ Bel K base w (((w.alloc (.cells #[ptrOf b] 23)).alloc (.cells #[.slice ba bn bc] 29)).alloc o)) := fun o => ⟨hS.alloc _, ((h.refl.alloc hbase _).alloc (by simp; omega) _).alloc (by simp; omega) _⟩
  have HB : Hid (∀ w', S K base w' b bm s D F → base ≤ w'.heap.size → ∀ o, S K base (w'.alloc o) b bm s D F ∧ Bel K base w' (w'.alloc o)) := fun w' h hb o => ⟨h.alloc o, h.refl.alloc hb o⟩
  rcases hg with hg | ⟨hg, hf⟩
  · have FD := find_bad hS.hB ho nm hn hg
    clear h hS ho hg hn
    go_enter Try.func16, Try.ntmps16
    go_wp2_with (go_at_call 47; refine FD.mono ?_; rintro e w' ⟨rfl, o, rfl⟩)
    go_ret
    have E := HE.out o
    have E2 := HB.out _ E.1 (by have := E.2.size; omega) (.cells #[.pointer none] 73)
    exact ⟨.inl rfl, E2.1, E.2.trans E2.2⟩
  · have FD := find_none hS ho nm hn hg hf
    clear h hS ho hg hn hf
    go_enter Try.func16, Try.ntmps16
    go_wp2_with (go_at_call 47; refine FD.mono ?_; rintro e w' ⟨rfl, o, rfl⟩)
    go_ret
    have E := HE.out o
    have E2 := HB.out _ E.1 (by have := E.2.size; omega) (.cells #[.pointer none] 73)
    exact ⟨.inr rfl, E2.1, E.2.trans E2.2⟩
set_option maxHeartbeats 1000000 in
theorem append_much (h : S K base w b bm s D F) (hbase : base ≤ w.heap.size) (ho : s.off = false) (nm : ByteArray) (hnm : nm.size ≤ maxLen) (hg : goodB nm = true) {f : FileS} (hf : F nm.data.toList = some f)
    (l : List UInt8) (bv : Value) (hs : SrcB w b bv l) (hn : ¬ f.data.length + l.length ≤ 1048576) (hl : l.length ≤ maxLen) :
    Calls Try.prog 16 #[ptrOf b, .string nm, bv] w fun e w' => e = .returned (.int .i64 9) ∧ S K base w' b bm s D F ∧ Bel K base w w' := by
  have FD := find_some ((h.alloc (.cells #[ptrOf b] 23)).alloc (.cells #[bv] 29)) ho nm hnm hg hf
  have HO : Hid (∀ o, S K base (apW w b bv o f.fb) b bm s D F ∧ Bel K base w (apW w b bv o f.fb)) := fun o => by
    obtain ⟨k1, k2, -⟩ := apW_facts h hbase bv o f.fb
    exact ⟨k1, k2⟩
  obtain ⟨g1, g2, g3, g4, g5⟩ := h.files _ _ hf
  obtain ⟨d1, d2, hvl⟩ := ownsRow_slice g3
  have hc : Hid (∀ o, (apW w b bv o f.fb).cell? ⟨f.fb, 0, none⟩ = some (.slice d1 f.data.length d2)) := by
    intro o
    obtain ⟨-, -, hk, -⟩ := apW_facts h hbase bv o f.fb
    rw [World.cell?_of_block (hk f.fb (lt_of_some g2)), (fcells g2).1, hvl]
  obtain ⟨c1, c2, hbl⟩ : ∃ c1 c2, bv = .slice c1 l.length c2 := by
    rcases hs with ⟨rfl, rfl⟩ | ⟨a, cap, rfl, _⟩
    · exact ⟨none, 0, rfl⟩
    · exact ⟨_, _, rfl⟩
  have hlt : (1048576 : Int) - (f.data.length : Int) < (l.length : Int) := by omega
  have hl' : l.length ≤ 9223372036854775807 := hl
  have mk := mkF
  clear h hf hg ho hnm hs g1 g2 g3 g4 hvl hl
  subst hbl
  go_enter Try.func16, Try.ntmps16
  go_wp2_with (first
    | (go_at_call 47; refine FD.mono ?_; rintro e w' ⟨rfl, o, rfl⟩))
  have hco := hc.out o
  go_region
  go_wp2
  go_ret
  exact ⟨rfl, (HO.out o).1.drew, (HO.out o).2.drew⟩
set_option maxHeartbeats 1000000 in
theorem sync_bad (h : S K base w b bm s D F) (hbase : base ≤ w.heap.size) (ho : s.off = false) (nm : ByteArray) (hn : nm.size ≤ maxLen) (hg : goodB nm = false ∨ (goodB nm = true ∧ F nm.data.toList = none)) :
    Calls Try.prog 17 #[ptrOf b, .string nm] w fun e w' => (e = .returned (.int .i64 8) ∨ e = .returned (.int .i64 6)) ∧ S K base w' b bm s D F ∧ Bel K base w w' := by
  have HE : Hid (∀ o, S K base (w.alloc o) b bm s D F ∧ Bel K base w (w.alloc o)) := fun o => ⟨h.alloc _, h.refl.alloc hbase _⟩
  have HB : Hid (∀ w', S K base w' b bm s D F → base ≤ w'.heap.size → ∀ o, S K base (w'.alloc o) b bm s D F ∧ Bel K base w' (w'.alloc o)) := fun w' h hb o => ⟨h.alloc o, h.refl.alloc hb o⟩
  rcases hg with hg | ⟨hg, hf⟩
  · have FD := find_bad h.hB ho nm hn hg
    clear h ho hg hn
    go_enter Try.func17, Try.ntmps17
    go_wp2_with (go_at_call 47; refine FD.mono ?_; rintro e w' ⟨rfl, o, rfl⟩)
    go_ret
    have E := HE.out o
    have E2 := HB.out _ E.1 (by have := E.2.size; omega) (.cells #[.pointer none] 73)
    exact ⟨.inl rfl, E2.1, E.2.trans E2.2⟩
  · have FD := find_none h ho nm hn hg hf
    clear h ho hg hn hf
    go_enter Try.func17, Try.ntmps17
    go_wp2_with (go_at_call 47; refine FD.mono ?_; rintro e w' ⟨rfl, o, rfl⟩)
    go_ret
    have E := HE.out o
    have E2 := HB.out _ E.1 (by have := E.2.size; omega) (.cells #[.pointer none] 73)
    exact ⟨.inr rfl, E2.1, E.2.trans E2.2⟩

/-! ### Remove -/
theorem S.dropF {w' : World} (h : S K base w b bm s D F) {l : List UInt8} {n : Nat} (hk : ∀ i, i < w.heap.size → i ≠ bm → w'.heap[i]? = w.heap[i]?) (hown : w'.ownsMap Try.prog 9 RV bm n (D.del (.string l))) :
    S K base w' b bm s (D.del (.string l)) (upd F l none) := by
  have hT := h.own.tidy K9
  obtain ⟨es0, c0, hm0⟩ : ∃ es c, w.heap[bm]? = some (.map es c) := by obtain ⟨es, c, h1, _⟩ := h.own; exact ⟨es, c, h1⟩
  have hbne : b ≠ bm := by rintro rfl; rw [h.hB] at hm0; simp [blk] at hm0
  have hF : ∀ l2 f2, upd F l none l2 = some f2 → l2 ≠ l ∧ F l2 = some f2 := by
    intro l2 f2 h2
    by_cases e2 : l2 = l
    · subst e2; rw [upd_same] at h2; cases h2
    · rw [upd_other _ e2] at h2; exact ⟨e2, h2⟩
  refine ⟨kb_of h.kb fun i hi => hk i (h.kb i hi) (fun e => h.hbm.2 (e ▸ hi)), h.hb, h.hbm, (hk b (lt_of_some h.hB) hbne).trans h.hB, ownsMap_tight hown ?_, ?_, ?_, ?_⟩
  · have h2 := Maps.size_del (k := .string l) hT
    have h4 := h.own.size_le
    split at h2 <;> omega
  · intro l2 z
    by_cases e2 : l2 = l
    · subst e2; rw [upd_same, Maps.atKey_del_same]
    · rw [upd_other _ e2, Maps.atKey_del_other (by simpa using e2), h.at_]
  · intro l2 f2 h2
    obtain ⟨_, h3⟩ := hF l2 f2 h2
    obtain ⟨k1, k2, k3, k4⟩ := h.files l2 f2 h3
    refine ⟨k1, (hk _ (lt_of_some k2) ?_).trans k2, ownsRow_of_block k3 fun g hg => ?_, k4⟩
    · rintro e2; rw [e2, hm0] at k2; simp at k2
    · obtain ⟨_, cur, hc⟩ := ownsRow_type k3 hg
      refine hk g (lt_of_some hc) ?_
      rintro e2; rw [e2, hm0] at hc; simp at hc
  · intro l1 l2 f1 f2 h1 h2 hne
    exact h.apart l1 l2 f1 f2 (hF _ _ h1).2 (hF _ _ h2).2 hne
set_option maxHeartbeats 1000000 in
theorem clo55 (h : S K base w b bm s D F) (hbase : base ≤ w.heap.size) (nm : ByteArray) (hn : nm.size ≤ maxLen)
    (x0 x1 : Nat) (h0 : w.heap[x0]? = some (.cells #[ptrOf b] 23 (0, 0))) (h1 : w.heap[x1]? = some (.cells #[.string nm] 9 (0, 0))) :
    Calls Try.prog 55 #[ptrOf x0, ptrOf x1] w fun e w' => e = .returned (.tuple #[]) ∧ S K base w' b bm s (D.del (.string nm.data.toList)) (upd F nm.data.toList none) ∧ Bel K base w w' := by
  obtain ⟨w1, run1, own1, turn1⟩ := h.drew.own.drop K9 Try.underlying49 (keyOf_string_mk Try.underlying9 hn) 0
  have g1 := turn1.grown
  have hk1 : ∀ i, i < w.heap.size → i ≠ bm → w1.heap[i]? = w.heap[i]? := fun i hi hne => g1.block i hi (by simpa using hne)
  have E : Hid (S K base w1 b bm s (D.del (.string nm.data.toList)) (upd F nm.data.toList none) ∧ Bel K base w w1) :=
    ⟨h.dropF hk1 own1, h.refl.drew.grown g1 hbase (by intro k hk; cases hk; exact h.hbm)⟩
  have c0 := cell0 h0
  have c1 := cell0 h1
  obtain ⟨e0, -⟩ := blk_cells h.hB
  have HR1 : Hid _ := run1
  clear h own1 turn1 g1 hk1 h0 h1 run1 hn
  go_enter Try.func55, Try.ntmps55
  go_wp2
  go_region_law (refine step_delete_run rfl _ _ 49 9 rfl _ _ _ _ rfl rfl HR1.out ?_)
  all_goals (go_end0)
  all_goals exact ⟨rfl, E.out⟩
theorem enters55 : ∀ (args : Array Value) (w : World), (callFunc 55 args).run Try.prog w = .ok (.enter 55 args) w := enters_of Try.func55 (by kernel_rfl) rfl
/-- the world ahead of find, in Remove -/
abbrev rmW (w : World) (b : Nat) (nm : ByteArray) : World := (w.alloc (.cells #[ptrOf b] 23)).alloc (.cells #[.string nm] 9)
theorem remove_do (h : S K base w b bm s D F) (hbase : base ≤ w.heap.size) (nm : ByteArray) (hn : nm.size ≤ maxLen) (o : Obj)
    (h0 : 0 ≤ s.left) (h1 : s.left ≠ 1) (hmx : s.left ≤ 9223372036854775807) :
    Calls Try.prog 45 #[ptrOf b, .bool false, .func (.func 55) #[] #[ptrOf w.heap.size, ptrOf (w.heap.size + 1)]] ((rmW w b nm).alloc o) fun e w' => e = .returned (.int .i64 0) ∧
      (S K base w' b bm (stepped s) (D.del (.string nm.data.toList)) (upd F nm.data.toList none) ∧ Bel K base w w') := by
  have hb : b < w.heap.size := lt_of_some h.hB
  have hS : S K base ((rmW w b nm).alloc o) b bm s D F := ((h.alloc _).alloc _).alloc _
  have hbel : Bel K base w ((rmW w b nm).alloc o) := ((h.refl.alloc hbase _).alloc (by simp; omega) _).alloc (by simp; omega) _
  have x0 : ((rmW w b nm).alloc o).heap[w.heap.size]? = some (.cells #[ptrOf b] 23 (0, 0)) := heap_old (heap_old (heap_new w _) _) _
  have x1 : ((rmW w b nm).alloc o).heap[w.heap.size + 1]? = some (.cells #[.string nm] 9 (0, 0)) := heap_old (heap_new1 w _ _) _
  refine operate_go hS.hB h0 h1 hmx false 55 _ enters55 _ ?_
  intro w1 k1 k2
  have hS1 := hS.setB (fun i hi hne => k2.block i hi (by simpa using hne)) k1
  have y0 := (k2.block _ (lt_of_some x0) (by simp; omega)).trans x0
  have y1 := (k2.block _ (lt_of_some x1) (by simp; omega)).trans x1
  have hb1 := hbel.grown k2 (Nat.le_trans hbase hbel.size) (by intro k hk; cases hk; exact h.hb)
  refine (clo55 hS1 (Nat.le_trans hbase hb1.size) nm hn _ _ y0 y1).mono ?_
  rintro e w' ⟨rfl, h2, h3⟩
  exact ⟨rfl, h2, hb1.trans h3⟩
set_option maxHeartbeats 1000000 in
theorem remove_ok (h : S K base w b bm s D F) (hbase : base ≤ w.heap.size) (ho : s.off = false) (nm : ByteArray) (hn : nm.size ≤ maxLen) (hg : goodB nm = true) {f : FileS} (hf : F nm.data.toList = some f)
    (h0 : 0 ≤ s.left) (h1 : s.left ≠ 1) (hmx : s.left ≤ 9223372036854775807) :
    Calls Try.prog 26 #[ptrOf b, .string nm] w fun e w' => e = .returned (.int .i64 0) ∧
      (S K base w' b bm (stepped s) (D.del (.string nm.data.toList)) (upd F nm.data.toList none) ∧ Bel K base w w') := by
  have FD := find_some ((h.alloc (.cells #[ptrOf b] 23)).alloc (.cells #[.string nm] 9)) ho nm hn hg hf
  have HO : Hid _ := fun o => remove_do h hbase nm hn o h0 h1 hmx
  have mk := mkF
  clear h hf h0 h1 hmx hg ho hn
  go_enter Try.func26, Try.ntmps26
  go_wp2_with (first
    | (go_at_call 47; refine FD.mono ?_; rintro e w' ⟨rfl, o, rfl⟩)
    | (go_at_call 45; refine (HO.out _).mono ?_; rintro e w' ⟨rfl, h2⟩))
  go_ret
  exact ⟨rfl, h2⟩
set_option maxHeartbeats 1000000 in
theorem remove_bad (h : S K base w b bm s D F) (hbase : base ≤ w.heap.size) (ho : s.off = false) (nm : ByteArray) (hn : nm.size ≤ maxLen) (hg : goodB nm = false ∨ (goodB nm = true ∧ F nm.data.toList = none)) :
    Calls Try.prog 26 #[ptrOf b, .string nm] w fun e w' => (e = .returned (.int .i64 8) ∨ e = .returned (.int .i64 6)) ∧ S K base w' b bm s D F ∧ Bel K base w w' := by
  have hS := (h.alloc (.cells #[ptrOf b] 23)).alloc (.cells #[.string nm] 9)
  have HE : Hid (∀ o, S K base ((rmW w b nm).alloc o) b bm s D F ∧ Bel K base w ((rmW w b nm).alloc o)) := fun o => ⟨hS.alloc _, ((h.refl.alloc hbase _).alloc (by simp; omega) _).alloc (by simp; omega) _⟩
  rcases hg with hg | ⟨hg, hf⟩
  · have FD := find_bad hS.hB ho nm hn hg
    clear h hS ho hg hn
    go_enter Try.func26, Try.ntmps26
    go_wp2_with (go_at_call 47; refine FD.mono ?_; rintro e w' ⟨rfl, o, rfl⟩)
    go_ret
    exact ⟨.inl rfl, HE.out o⟩
  · have FD := find_none hS ho nm hn hg hf
    clear h hS ho hg hn hf
    go_enter Try.func26, Try.ntmps26
    go_wp2_with (go_at_call 47; refine FD.mono ?_; rintro e w' ⟨rfl, o, rfl⟩)
    go_ret
    exact ⟨.inr rfl, HE.out o⟩
end
end Go.Proofs.Ytmeecjedikechaa
