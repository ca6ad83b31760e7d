/- The contracts of the small methods of files.World: New, made, refusal, find, hasRoom. -/
import Derived.Test.YtjncibejdplamaaGood
import Derived.Test.YtjncibejdplamaaState
namespace Go.Proofs.Ytjncibejdplamaa
open Go.RowKit Go.Maps
open Go.WideMaps

theorem blk_cells {w : World} {b bm : Nat} {s : WS} (h : w.heap[b]? = some (blk bm s)) :
    w.cell? ⟨b, 0, none⟩ = some (.map (some bm)) ∧ w.cell? ⟨b, 1, none⟩ = some (.bool s.off) ∧ w.cell? ⟨b, 2, none⟩ = some (.int .i64 s.left) ∧ w.cell? ⟨b, 3, none⟩ = some (.int .i64 s.keep) ∧
    w.cell? ⟨b, 4, none⟩ = some (.int .i64 s.ops) ∧ w.cell? ⟨b, 5, none⟩ = some (.int .i64 s.written) := by
  simp [World.cell?, h, blk]
theorem blk_frozen {w : World} {b bm : Nat} {s : WS} (h : w.heap[b]? = some (blk bm s)) (i : Nat) : w.frozen? ⟨b, i, none⟩ = false := by
  simp [World.frozen?, h, blk]

theorem nil49 : ∀ (w : World) (r : Option Nat), (binOp .neq 49 (.map r) (.map none)).run Try.prog w = .ok (.bool (!r.isNone)) w := fun w r => run_neq_map_nil w 49 9 73 r Try.underlying49

set_option maxHeartbeats 400000 in
theorem made_yes {w : World} {b bm : Nat} {s : WS} (h : w.heap[b]? = some (blk bm s)) :
    Calls Try.prog 50 #[ptrOf b] w fun e w' => e = .returned (.bool true) ∧ w' = w := by
  obtain ⟨c0, -⟩ := blk_cells h
  clear h
  have q := nil49
  go_enter Try.func50, Try.ntmps50
  go_wp2
  go_ret
  exact ⟨rfl, rfl⟩
set_option maxHeartbeats 400000 in
theorem made_nil (w : World) : Calls Try.prog 50 #[.pointer none] w fun e w' => e = .returned (.bool false) ∧ w' = w := by
  go_enter Try.func50, Try.ntmps50
  go_wp2
  go_ret
  exact ⟨rfl, rfl⟩
set_option maxHeartbeats 400000 in
theorem made_zero {w : World} {b : Nat} (c0 : w.cell? ⟨b, 0, none⟩ = some (.map none)) : Calls Try.prog 50 #[ptrOf b] w fun e w' => e = .returned (.bool false) ∧ w' = w := by
  have q := nil49
  go_enter Try.func50, Try.ntmps50
  go_wp2
  go_ret
  exact ⟨rfl, rfl⟩
set_option maxHeartbeats 400000 in
theorem new_any {K : Nat → Prop} (w : World) (hK : ∀ i, K i → i < w.heap.size) :
    Calls Try.prog 9 #[] w fun e w' => ∃ b bm, e = .returned (ptrOf b) ∧ S K w.heap.size w' b bm ⟨false, 0, 0, 0, 0⟩ (.map []) (fun _ => none) ∧ Bel K w.heap.size w w' := by
  have HK : Hid (∀ i, K i → i < w.heap.size) := hK
  clear hK
  have hmm := @run_makeMap Try.prog
  go_enter Try.func9, Try.ntmps9
  go_wp2
  go_ret
  refine ⟨w.heap.size + 1, w.heap.size, rfl, ⟨fun i hi => by have := HK.out i hi; simp; omega, ⟨by omega, fun hi => by have := HK.out _ hi; omega⟩, ⟨by omega, fun hi => by have := HK.out _ hi; omega⟩, ?_, ?_, ?_, ?_, ?_⟩, (Bel.alloc (Bel.alloc ⟨Below.refl _ _, HK.out, fun _ _ => rfl⟩ (Nat.le_refl _) _) (by simp) _)⟩
  · have h := heap_alloc_new (w.alloc (.map #[] 0)) (blk w.heap.size ⟨false, 0, 0, 0, 0⟩)
    rw [show (w.alloc (.map #[] 0)).heap.size = w.heap.size + 1 by simp] at h
    exact h
  · exact ((World.ownsMap_made w Try.prog 9 RV).alloc _).mono (by omega)
  · intro l z; simp [DataW.atKey]
  · intro l f h; cases h
  · intro l l' f f' h; cases h

theorem ret_i64 {a b : Int} (h : a = b) : Ending.returned (.int .i64 a) = .returned (.int .i64 b) := by rw [h]

def refE (off : Bool) (ss : List ByteArray) : Int := if off then 13 else if ss.all goodB then 0 else 8
theorem refE_bad {ss : List ByteArray} (k : Nat) (h : k < ss.length) (hg : goodB (ss.getD k ByteArray.empty) = false) : refE false ss = 8 := by
  have : ss.all goodB = false := by
    rw [List.all_eq_false]
    refine ⟨ss[k], List.getElem_mem _, ?_⟩
    simp [List.getD_eq_getElem?_getD, h] at hg
    simp [hg]
  simp [refE, this]
theorem take_all {ss : List ByteArray} (k : Nat) (h : k < ss.length) (ha : (ss.take k).all goodB = true) (hg : goodB (ss.getD k ByteArray.empty) = true) : (ss.take (k + 1)).all goodB = true := by
  rw [List.take_succ_eq_append_getElem h, List.all_append, ha]
  simp [List.getD_eq_getElem?_getD, h] at hg
  simp [hg]

set_option maxHeartbeats 400000 in
theorem refusal_off {w : World} {b bm : Nat} {s : WS} (h : w.heap[b]? = some (blk bm s)) (ho : s.off = true) (nv : Value) :
    Calls Try.prog 43 #[ptrOf b, nv] w fun e w' => e = .returned (.int .i64 13) ∧ w' = w := by
  obtain ⟨-, c1, -⟩ := blk_cells h
  rw [ho] at c1
  have H : Hid (w.heap[b]? = some (blk bm s)) := h
  clear h ho
  go_enter Try.func43, Try.ntmps43
  go_wp2_with (go_at_call 50; refine (made_yes H.out).mono ?_; rintro e w' ⟨rfl, rfl⟩)
  go_ret
  exact ⟨rfl, rfl⟩
set_option maxHeartbeats 400000 in
theorem refusal_nil {w : World} {b bm : Nat} {s : WS} (h : w.heap[b]? = some (blk bm s)) (ho : s.off = false) :
    Calls Try.prog 43 #[ptrOf b, .slice none 0 0] w fun e w' => e = .returned (.int .i64 0) ∧ w' = w := by
  obtain ⟨-, c1, -⟩ := blk_cells h
  rw [ho] at c1
  have H : Hid (w.heap[b]? = some (blk bm s)) := h
  clear h ho
  go_enter Try.func43, Try.ntmps43
  go_wp2_with (go_at_call 50; refine (made_yes H.out).mono ?_; rintro e w' ⟨rfl, rfl⟩)
  refine wp_loop_rounds 1 ?_; rw [rounds_succ]
  go_wp2
  go_ret
  exact ⟨rfl, rfl⟩
set_option maxHeartbeats 400000 in
theorem refusal_on {w : World} {b bm : Nat} {s : WS} (h : w.heap[b]? = some (blk bm s)) (ho : s.off = false) (nb cap : Nat) (ss : List ByteArray) (hl : ss.length ≤ maxLen)
    (hc : ∀ j, j < ss.length → w.cell? ⟨nb, j, none⟩ = some (.string (ss.getD j ByteArray.empty))) (hs : ∀ j, j < ss.length → (ss.getD j ByteArray.empty).size ≤ maxLen) :
    Calls Try.prog 43 #[ptrOf b, .slice (some ⟨nb, 0, none⟩) ss.length cap] w fun e w' => e = .returned (.int .i64 (refE false ss)) ∧ w' = w := by
  obtain ⟨-, c1, -⟩ := blk_cells h
  rw [ho] at c1
  have H : Hid (w.heap[b]? = some (blk bm s)) := h
  have HC : Hid (∀ j, j < ss.length → w.cell? ⟨nb, j, none⟩ = some (.string (ss.getD j ByteArray.empty))) := hc
  have HS : Hid (∀ j, j < ss.length → (ss.getD j ByteArray.empty).size ≤ maxLen) := hs
  clear h ho hc hs
  unfold maxLen at hl
  go_enter Try.func43, Try.ntmps43
  go_wp2_with (go_at_call 50; refine (made_yes H.out).mono ?_; rintro e w' ⟨rfl, rfl⟩)
  go_loop [16] (fun i => ∃ k : Nat, k ≤ ss.length ∧ i = .int .i64 k ∧ Hid ((ss.take k).all goodB = true)) (fun i => ss.length - (intOf i).toNat)
  case atStart => exact ⟨0, Nat.zero_le _, rfl, by simp [Hid]⟩
  case round =>
    obtain ⟨k, hk, rfl, ha⟩ := hrel
    by_cases hlt : k < ss.length
    · have hck := HC.out k hlt
      have hsk := HS.out k hlt
      have HB : Hid (goodB (ss.getD k ByteArray.empty) = false → refE false ss = 8) := fun hg => refE_bad k hlt hg
      have HA : Hid (goodB (ss.getD k ByteArray.empty) = true → (ss.take (k + 1)).all goodB = true) := fun hg => take_all k hlt ha.out hg
      generalize ss.getD k ByteArray.empty = x at hck hsk HB HA
      cases hg : goodB x with
      | false =>
        have HE := HB.out hg
        have HG : Hid (goodB x = false) := hg
        have HE' : Hid (refE false ss = 8) := HE
        clear HE hg
        go_wp2_with (go_at_call 13; refine (good_any _ _ hsk).mono ?_; rw [HG.out]; rintro e w' ⟨rfl, rfl⟩)
        go_ret
        exact ⟨ret_i64 HE'.out.symm, rfl⟩
      | true =>
        have HE : Hid ((ss.take (k + 1)).all goodB = true) := HA.out hg
        have HG : Hid (goodB x = true) := hg
        clear hg
        go_wp2_with (go_at_call 13; refine (good_any _ _ hsk).mono ?_; rw [HG.out]; rintro e w' ⟨rfl, rfl⟩)
        go_round
        case rel => exact ⟨k + 1, by omega, by go_num, HE⟩
        case measure => simp [intOf]; omega
    · have HE : Hid (refE false ss = 0) := by
        have := ha.out
        rw [List.take_of_length_le (by omega)] at this
        simp [Hid, refE, this]
      go_wp2
      go_ret
      exact ⟨ret_i64 HE.out.symm, rfl⟩

theorem K9 : Keyed Try.prog 9 := string_keyed Try.underlying9
theorem zero73 (w : World) : (zeroValue 73).run Try.prog w = .ok (.pointer none) w := by kernel_rfl

/-- What a look-up of a name tells. -/
theorem S.look {K : Nat → Prop} {base : Nat} {w : World} {b bm : Nat} {s : WS} {D : DataW Value} {F : List UInt8 → Option FileS} (h : S K base w b bm s D F) (nm : ByteArray) (hn : nm.size ≤ maxLen) :
    (Instr.lookup 49 (.map (some bm)) (.string nm) false).run Try.prog w = .ok (match F nm.data.toList with | none => .pointer none | some f => ptrOf f.fb) w := by
  obtain ⟨v, ps, hrun, hv⟩ := h.own.lookup K9 Try.underlying49 (zero73 w) (zd := .held (.pointer none)) (zp := []) rfl (keyOf_string_mk Try.underlying9 hn)
  rw [hrun]
  have := h.at_ nm.data.toList (.held (.pointer none))
  rw [this] at hv
  simp only [RV, Option.some.injEq, Prod.mk.injEq] at hv
  have hv := hv.1
  cases e : F nm.data.toList with
  | none => rw [e] at hv; simp at hv; rw [hv]
  | some f => rw [e] at hv; simp at hv; rw [hv]

theorem S.len {K : Nat → Prop} {base : Nat} {w : World} {b bm : Nat} {s : WS} {D : DataW Value} {F : List UInt8 → Option FileS} (h : S K base w b bm s D F) (ty : TypeId) :
    (Builtin.len_ #[49] ty #[.map (some bm)]).run Try.prog w = .ok (.int .i64 (Maps.size D)) w := h.own.len Try.underlying49 ty

theorem one_cell (w : World) (x : Value) (t : TypeId) : (w.alloc (.cells #[x] t)).cell? ⟨w.heap.size, 0, none⟩ = some x := by
  simp

set_option maxHeartbeats 400000 in
theorem find_off {w : World} {b bm : Nat} {s : WS} (h : w.heap[b]? = some (blk bm s)) (ho : s.off = true) (nm : ByteArray) :
    Calls Try.prog 47 #[ptrOf b, .string nm] w fun e w' => e = .returned (.tuple #[.pointer none, .int .i64 13]) ∧ ∃ o, w' = w.alloc o := by
  have H : Hid ((w.alloc (.cells #[.string nm] 9)).heap[b]? = some (blk bm s)) := (Below.heap_alloc w _ b (lt_of_some h)).trans h
  clear h
  go_enter Try.func47, Try.ntmps47
  go_wp2_with (go_at_call 43; refine (refusal_off H.out ho _).mono ?_; rintro e w' ⟨rfl, rfl⟩)
  go_ret2
  exact ⟨rfl, _, rfl⟩
set_option maxHeartbeats 400000 in
theorem find_bad {w : World} {b bm : Nat} {s : WS} (h : w.heap[b]? = some (blk bm s)) (ho : s.off = false) (nm : ByteArray) (hn : nm.size ≤ maxLen) (hg : goodB nm = false) :
    Calls Try.prog 47 #[ptrOf b, .string nm] w fun e w' => e = .returned (.tuple #[.pointer none, .int .i64 8]) ∧ ∃ o, w' = w.alloc o := by
  have H : Hid ((w.alloc (.cells #[.string nm] 9)).heap[b]? = some (blk bm s)) := (Below.heap_alloc w _ b (lt_of_some h)).trans h
  have R := refusal_on H.out ho w.heap.size 1 [nm] (by simp [maxLen]) (by intro j hj; simp at hj; subst hj; simp) (by intro j hj; simp at hj; subst hj; simpa using hn)
  have e8 : refE false [nm] = 8 := by simp [refE, hg]
  rw [e8] at R
  have HR := R
  clear R h e8 hg ho
  go_enter Try.func47, Try.ntmps47
  go_wp2_with (go_at_call 43; refine HR.mono ?_; rintro e w' ⟨rfl, rfl⟩)
  go_ret2
  exact ⟨rfl, _, rfl⟩

set_option maxHeartbeats 400000 in
theorem find_none {K : Nat → Prop} {base : Nat} {w : World} {b bm : Nat} {s : WS} {D : DataW Value} {F : List UInt8 → Option FileS} (h : S K base w b bm s D F) (ho : s.off = false) (nm : ByteArray) (hn : nm.size ≤ maxLen) (hg : goodB nm = true) (hf : F nm.data.toList = none) :
    Calls Try.prog 47 #[ptrOf b, .string nm] w fun e w' => e = .returned (.tuple #[.pointer none, .int .i64 6]) ∧ ∃ o, w' = w.alloc o := by
  have h1 := h.alloc (.cells #[.string nm] 9)
  have R := refusal_on h1.hB ho w.heap.size 1 [nm] (by simp [maxLen]) (by intro j hj; simp at hj; subst hj; simp) (by intro j hj; simp at hj; subst hj; simpa using hn)
  have e8 : refE false [nm] = 0 := by simp [refE, hg]
  rw [e8] at R
  have L := h1.look nm hn
  rw [hf] at L
  obtain ⟨c0, -⟩ := blk_cells h1.hB
  clear e8 hg ho h1 hf h
  go_enter Try.func47, Try.ntmps47
  go_wp2_with (go_at_call 43; refine R.mono ?_; rintro e w' ⟨rfl, rfl⟩)
  go_ret2
  exact ⟨rfl, _, rfl⟩
set_option maxHeartbeats 400000 in
theorem find_some {K : Nat → Prop} {base : Nat} {w : World} {b bm : Nat} {s : WS} {D : DataW Value} {F : List UInt8 → Option FileS} (h : S K base w b bm s D F) (ho : s.off = false) (nm : ByteArray) (hn : nm.size ≤ maxLen) (hg : goodB nm = true) {f : FileS} (hf : F nm.data.toList = some f) :
    Calls Try.prog 47 #[ptrOf b, .string nm] w fun e w' => e = .returned (.tuple #[ptrOf f.fb, .int .i64 0]) ∧ ∃ o, w' = w.alloc o := by
  have h1 := h.alloc (.cells #[.string nm] 9)
  have R := refusal_on h1.hB ho w.heap.size 1 [nm] (by simp [maxLen]) (by intro j hj; simp at hj; subst hj; simp) (by intro j hj; simp at hj; subst hj; simpa using hn)
  have e8 : refE false [nm] = 0 := by simp [refE, hg]
  rw [e8] at R
  have L := h1.look nm hn
  rw [hf] at L
  obtain ⟨c0, -⟩ := blk_cells h1.hB
  clear e8 hg ho h1 hf h
  go_enter Try.func47, Try.ntmps47
  go_wp2_with (go_at_call 43; refine R.mono ?_; rintro e w' ⟨rfl, rfl⟩)
  go_ret2
  exact ⟨rfl, _, rfl⟩
set_option maxHeartbeats 400000 in
theorem room_any {K : Nat → Prop} {base : Nat} {w : World} {b bm : Nat} {s : WS} {D : DataW Value} {F : List UInt8 → Option FileS} (h : S K base w b bm s D F) (nm : ByteArray) (hn : nm.size ≤ maxLen) :
    Calls Try.prog 44 #[ptrOf b, .string nm] w fun e w' => e = .returned (.bool ((F nm.data.toList).isSome || decide ((Maps.size D : Int) < 16))) ∧ w' = w := by
  have L := h.look nm hn
  have N := fun ty => h.len ty
  obtain ⟨c0, -⟩ := blk_cells h.hB
  clear h
  cases e : F nm.data.toList with
  | none =>
    rw [e] at L
    clear e
    go_enter Try.func44, Try.ntmps44
    go_wp2
    go_ret
    exact ⟨by simp, rfl⟩
  | some f =>
    rw [e] at L
    clear e
    go_enter Try.func44, Try.ntmps44
    go_wp2
    go_ret
    exact ⟨by simp, rfl⟩
end Go.Proofs.Ytjncibejdplamaa
