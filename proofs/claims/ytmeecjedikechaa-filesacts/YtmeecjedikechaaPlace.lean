/- The contracts of Place. -/
import Derived.Test.YtmeecjedikechaaErrs
import Derived.Test.YtmeecjedikechaaDraw
namespace Go.Proofs.Ytmeecjedikechaa
open Go.RowKit Go.Maps
open Go.WideMaps
set_option linter.unusedVariables false
set_option linter.unusedSimpArgs false

section
variable {K : Nat → Prop} {base : Nat} {w : World} {b bm : Nat} {s : WS} {D : DataW Value} {F : List UInt8 → Option FileS}
theorem place_copy (h : S K base w b bm s D F) (hbase : base ≤ w.heap.size) (nm : ByteArray) (hn : nm.size ≤ maxLen) (hroom : (F nm.data.toList).isSome = true ∨ Maps.size D < 16) (l : List UInt8) (bv : Value) (hs : SrcB w b bv l) (hl : l.length ≤ 1048576) :
    Calls Try.prog 51 #[bv] w.drew fun e w2 => ∃ va vc w3, e = .returned (.slice va l.length vc) ∧ w2.cell? ⟨b, 0, none⟩ = some (.map (some bm)) ∧ (w2.alloc (.cells #[.slice va l.length vc, .int .i64 l.length] 75)).cell? ⟨b, 0, none⟩ = some (.map (some bm)) ∧
      (Instr.mapUpdate 49 (.map (some bm)) (.string nm) (ptrOf w2.heap.size)).run Try.prog (w2.alloc (.cells #[.slice va l.length vc, .int .i64 l.length] 75)) = .ok () w3 ∧ w3.cell? ⟨b, 0, none⟩ = some (.map (some bm)) ∧
      Hid ((∃ f, f.data = l ∧ f.sy = l.length ∧ S K base w3 b bm s (D.put (.string nm.data.toList) (.held (ptrOf f.fb))) (upd F nm.data.toList (some f))) ∧ Bel K base w w3) := by
  refine (copied_any base hs.drew hl hbase).mono ?_
  rintro e w2 ⟨v, rfl, ow, g, loc⟩
  obtain ⟨va, vc, rfl⟩ := ownsRow_slice ow
  have hk2 : ∀ i, i < w.heap.size → w2.heap[i]? = w.heap[i]? := fun i hi => g.block i hi (by simp)
  have hsz : w.heap.size ≤ w2.heap.size := g.size
  have s2 := h.grown hk2
  have s3 := s2.alloc (.cells #[.slice va l.length vc, .int .i64 l.length] 75)
  obtain ⟨w3, hrun, hown, hgrow⟩ := s3.own.update (val := ptrOf w2.heap.size) (d := .held (ptrOf w2.heap.size)) (ps := []) K9 Try.underlying49 (by simp [maxLen]) (keyOf_string_mk Try.underlying9 hn) rfl
  have hb := lt_of_some h.hB
  have hbm := h.own.lt
  have hnew := heap_new w2 (.cells #[.slice va l.length vc, .int .i64 l.length] 75)
  have hk3 : ∀ i, i < w2.heap.size + 1 → i ≠ bm → w3.heap[i]? = (w2.alloc (.cells #[.slice va l.length vc, .int .i64 l.length] 75)).heap[i]? := fun i hi hne => hgrow.block i (by simp; omega) (by simpa using hne)
  have hk4 : ∀ i, i < w.heap.size → i ≠ bm → w3.heap[i]? = w.heap[i]? := fun i hi hne => by
    rw [hk3 i (by omega) hne, Below.heap_alloc w2 _ i (by omega), hk2 i hi]
  have hbne : b ≠ bm := by
    rintro rfl
    obtain ⟨es, c, h1, _⟩ := h.own
    rw [h.hB] at h1; simp [blk] at h1
  have row : ∀ gg, (Value.slice va l.length vc).ownBlock = some gg → w.heap.size ≤ gg ∧ gg < w2.heap.size := fun gg hg => by
    obtain ⟨_, cur, hc⟩ := ownsRow_type ow hg
    exact ⟨loc gg hg, lt_of_some hc⟩
  have fa : FileAt K base w3 ⟨w2.heap.size, .slice va l.length vc, l, l.length⟩ := by
    refine ⟨⟨⟨Nat.le_trans hbase hsz, fun hK => by have := h.kb _ hK; dsimp only at this; omega⟩, fun gg hg hK => by have := h.kb _ hK; have := (row gg hg).1; omega⟩, ?_, ?_, Nat.le_refl _, hl⟩
    · exact (hk3 _ (by dsimp only; omega) (by dsimp only; omega)).trans hnew
    · refine ownsRow_of_block ow fun gg hg => ?_
      have := row gg hg
      rw [hk3 gg (by omega) (by omega), Below.heap_alloc w2 _ gg this.2]
  have hcell : w2.cell? ⟨b, 0, none⟩ = some (.map (some bm)) := (blk_cells s2.hB).1
  refine ⟨va, vc, w3, rfl, hcell, (blk_cells s3.hB).1, hrun, ?_, ⟨⟨w2.heap.size, .slice va l.length vc, l, l.length⟩, rfl, rfl, h.putF (f' := ⟨w2.heap.size, .slice va l.length vc, l, l.length⟩) hk4 hroom hown fa hsz (fun gg hg => (row gg hg).1)⟩, ?_⟩
  · exact (blk_cells ((hk4 b hb hbne).trans h.hB)).1
  · exact ((h.refl.drew.grown g hbase (by simp)).alloc (Nat.le_trans hbase hsz) _).grown hgrow (by simp; omega) (by intro k hk; cases hk; exact h.hbm)
set_option maxHeartbeats 4000000 in
theorem place_ok (h : S K base w b bm s D F) (hbase : base ≤ w.heap.size) (nm : ByteArray) (hn : nm.size ≤ maxLen) (hg : goodB nm = true) (hroom : (F nm.data.toList).isSome = true ∨ Maps.size D < 16) (l : List UInt8) (bv : Value) (hs : SrcB w b bv l) (hl : l.length ≤ 1048576) :
    Calls Try.prog 27 #[ptrOf b, .string nm, bv] w fun e w' => e = .returned (.int .i64 0) ∧ (∃ f, f.data = l ∧ f.sy = l.length ∧ S K base w' b bm s (D.put (.string nm.data.toList) (.held (ptrOf f.fb))) (upd F nm.data.toList (some f))) ∧ Bel K base w w' := by
  have HC := place_copy h hbase nm hn hroom l bv hs hl
  have M := made_yes h.hB
  have G := good_any nm w hn
  rw [hg] at G
  have RM := room_any h nm hn
  have er : ((F nm.data.toList).isSome || decide ((Maps.size D : Int) < 16)) = true := by
    rcases hroom with e | e
    · simp [e]
    · simp; right; omega
  rw [er] at RM
  obtain ⟨c0, -⟩ := blk_cells h.hB
  obtain ⟨c1, c2, hbl⟩ : ∃ c1 c2, bv = .slice c1 l.length c2 := by
    rcases hs with ⟨rfl, rfl⟩ | ⟨a, cap, rfl, _⟩
    · exact ⟨none, 0, rfl⟩
    · exact ⟨_, _, rfl⟩
  have hlt : ¬ (1048576 : Int) < (l.length : Int) := by omega
  clear h hroom hg er hs hn
  subst hbl
  go_enter Try.func27, Try.ntmps27
  go_wp2_with (first
    | (go_at_call 50; refine M.mono ?_; rintro e w' ⟨rfl, rfl⟩)
    | (go_at_call 13; refine G.mono ?_; rintro e w' ⟨rfl, rfl⟩)
    | (go_at_call 44; refine RM.mono ?_; rintro e w' ⟨rfl, rfl⟩))
  refine wp_region_d (fun u => u.cell? ⟨b, 0, none⟩ = some (.map (some bm))) (fun _ => false) (by kernel_rfl) ?_
  refine wpAnyD_pure (i := 0) (v := ptrOf b) rfl (by kernel_rfl) (by kernel_rfl) (by kernel_rfl) (fun _ _ _ h => h) (by rfl) (by intro u; go_simp) ?_
  try simp only [Act.put, List.setIfInBounds_toArray, List.set_cons_zero, List.set_cons_succ]
  refine wpAnyD_pure (i := 1) (v := ptrOf b) rfl (by kernel_rfl) (by kernel_rfl) (by kernel_rfl) (fun _ _ _ h => h) (by rfl) (by intro u; go_simp) ?_
  try simp only [Act.put, List.setIfInBounds_toArray, List.set_cons_zero, List.set_cons_succ]
  refine wpAnyD_pure (i := 2) (v := .pointer (some ⟨b, 0, none⟩)) rfl (by kernel_rfl) (by kernel_rfl) (by kernel_rfl) (fun _ _ _ h => h) (by rfl) (by intro u; go_simp) ?_
  try simp only [Act.put, List.setIfInBounds_toArray, List.set_cons_zero, List.set_cons_succ]
  refine wpAnyD_load (i := 3) (v := .map (some bm)) rfl (by kernel_rfl) (by kernel_rfl) (by kernel_rfl) (by kernel_rfl) (fun _ _ _ h => h) (by rfl) (by intro u hSu; go_simp) (c0) ?_
  try simp only [Act.put, List.setIfInBounds_toArray, List.set_cons_zero, List.set_cons_succ]
  refine wpAnyD_pure (i := 4) (v := .string nm) rfl (by kernel_rfl) (by kernel_rfl) (by kernel_rfl) (fun _ _ _ h => h) (by rfl) (by intro u; go_simp) ?_
  try simp only [Act.put, List.setIfInBounds_toArray, List.set_cons_zero, List.set_cons_succ]
  refine wpAnyD_pure (i := 5) (v := .slice c1 l.length c2) rfl (by kernel_rfl) (by kernel_rfl) (by kernel_rfl) (fun _ _ _ h => h) (by rfl) (by intro u; go_simp) ?_
  try simp only [Act.put, List.setIfInBounds_toArray, List.set_cons_zero, List.set_cons_succ]
  refine wpAnyD_pure (i := 7) (v := .slice c1 l.length c2) rfl (by kernel_rfl) (by kernel_rfl) (by kernel_rfl) (fun _ _ _ h => h) (by rfl) (by intro u; go_simp) ?_
  try simp only [Act.put, List.setIfInBounds_toArray, List.set_cons_zero, List.set_cons_succ]
  refine wpAnyD_pure (i := 8) (v := .int .i64 l.length) rfl (by kernel_rfl) (by kernel_rfl) (by kernel_rfl) (fun _ _ _ h => h) (by rfl) (by intro u; go_simp) ?_
  try simp only [Act.put, List.setIfInBounds_toArray, List.set_cons_zero, List.set_cons_succ]
  refine wpAnyD_one (i := 6) (by kernel_rfl) rfl ?_
  intro K0 hK
  go_simp
  refine HC.mono ?_
  rintro e w2 ⟨va, vc, w3, rfl, y2, y3, hrun, y4, HF⟩
  refine hK _ _ (.inr fun _ => y2) ?_
  clear hK
  try simp only [Act.put, List.setIfInBounds_toArray, List.set_cons_zero, List.set_cons_succ]
  refine wpAnyD_pure (i := 9) (v := .agg #[.slice va l.length vc, .int .i64 l.length]) rfl (by kernel_rfl) (by kernel_rfl) (by kernel_rfl) (fun _ _ _ h => h) (by rfl) (by intro u; go_simp) ?_
  try simp only [Act.put, List.setIfInBounds_toArray, List.set_cons_zero, List.set_cons_succ]
  refine wpAnyD_one (i := 10) (by kernel_rfl) rfl ?_
  intro K0 hK
  go_simp
  refine hK _ _ (.inr fun _ => y3) ?_
  clear hK
  try simp only [Act.put, List.setIfInBounds_toArray, List.set_cons_zero, List.set_cons_succ]
  refine wpAnyD_one (i := 11) (by kernel_rfl) rfl ?_
  intro K0 hK
  go_simp
  refine hK _ _ (.inr fun _ => y4) ?_
  clear hK
  try simp only [Act.put, List.setIfInBounds_toArray, List.set_cons_zero, List.set_cons_succ]
  refine wpAnyD_done (by kernel_rfl) ?_ _

  go_wp2_with fail
  go_ret
  exact ⟨rfl, HF.out⟩
set_option maxHeartbeats 1000000 in
theorem place_bad (h : S K base w b bm s D F) (nm : ByteArray) (hn : nm.size ≤ maxLen) (bv : Value) (hg : goodB nm = false) :
    Calls Try.prog 27 #[ptrOf b, .string nm, bv] w fun e w' => e = .returned (.int .i64 8) ∧ w' = w := by
  have M := made_yes h.hB
  have G := good_any nm w hn
  rw [hg] at G
  clear h hg hn
  go_enter Try.func27, Try.ntmps27
  go_wp2_with (first
    | (go_at_call 50; refine M.mono ?_; rintro e w' ⟨rfl, rfl⟩)
    | (go_at_call 13; refine G.mono ?_; rintro e w' ⟨rfl, rfl⟩))
  go_ret
  exact ⟨rfl, rfl⟩
set_option maxHeartbeats 1000000 in
theorem place_full (h : S K base w b bm s D F) (nm : ByteArray) (hn : nm.size ≤ maxLen) (hg : goodB nm = true) (a : Option Addr) (n c : Nat) (hn2 : n ≤ maxLen) (hroom : ¬ ((F nm.data.toList).isSome = true ∨ Maps.size D < 16) ∨ 1048576 < n) :
    Calls Try.prog 27 #[ptrOf b, .string nm, .slice a n c] w fun e w' => e = .returned (.int .i64 9) ∧ w' = w := by
  have M := made_yes h.hB
  have G := good_any nm w hn
  rw [hg] at G
  have RM := room_any h nm hn
  have hn3 : n ≤ 9223372036854775807 := hn2
  by_cases hr : (F nm.data.toList).isSome = true ∨ Maps.size D < 16
  · have er : ((F nm.data.toList).isSome || decide ((Maps.size D : Int) < 16)) = true := by
      rcases hr with e | e
      · simp [e]
      · simp; right; omega
    rw [er] at RM
    have hlt : (1048576 : Int) < (n : Int) := by
      rcases hroom with e | e
      · exact absurd hr e
      · omega
    clear h hg hn hroom hr er hn2
    go_enter Try.func27, Try.ntmps27
    go_wp2_with (first
      | (go_at_call 50; refine M.mono ?_; rintro e w' ⟨rfl, rfl⟩)
      | (go_at_call 13; refine G.mono ?_; rintro e w' ⟨rfl, rfl⟩)
      | (go_at_call 44; refine RM.mono ?_; rintro e w' ⟨rfl, rfl⟩))
    go_ret
    exact ⟨rfl, rfl⟩
  · have er : ((F nm.data.toList).isSome || decide ((Maps.size D : Int) < 16)) = false := by
      cases e : (F nm.data.toList).isSome with
      | true => exact absurd (.inl e) hr
      | false =>
        simp
        rcases Nat.lt_or_ge (Maps.size D) 16 with h1 | h1
        · exact absurd (.inr h1) hr
        · omega
    rw [er] at RM
    clear h hg hn hroom hr er hn2
    go_enter Try.func27, Try.ntmps27
    go_wp2_with (first
      | (go_at_call 50; refine M.mono ?_; rintro e w' ⟨rfl, rfl⟩)
      | (go_at_call 13; refine G.mono ?_; rintro e w' ⟨rfl, rfl⟩)
      | (go_at_call 44; refine RM.mono ?_; rintro e w' ⟨rfl, rfl⟩))
    go_ret
    exact ⟨rfl, rfl⟩
end
end Go.Proofs.Ytmeecjedikechaa
