/- The program's Names: the map's keys, sorted. -/
import Derived.Test.YtmeecjedikechaaNLay
import Derived.Test.YtmeecjedikechaaRel
namespace Go.Proofs.Ytmeecjedikechaa
open Go.RowKit Go.Maps Go.Sort Go.Shelf

theorem sorts53 (m : Nat) : AnyZ.SortsIn Try.prog Try.sorted53_ren Fence.wide m :=
  ⟨fun blk off cap ss W hH hblk hsz => callsIn_wide.2 (AnyM.slices_Sort_string Try.sort63 blk off cap ss W hH hblk hsz),
   fun p cap W => callsIn_wide.2 (AnyM.slices_Sort_string_none Try.sort63 p cap W)⟩

/-- maps.Keys. -/
theorem keys_any (mb : Option Nat) (W : World) : Calls Try.prog 54 #[.map mb] W fun e w' => e = .returned (.func (.func 64) #[] #[.pointer (some ⟨W.heap.size, 0, none⟩)]) ∧ w' = W.alloc (.cells #[.map mb] 49) :=
  callsIn_wide.1 (AnyZ.keys_in Try.keys54 Fence.wide 5 trivial rfl mb W)

set_option maxHeartbeats 1000000 in
/-- slices.Sorted over what maps.Keys handed back. -/
theorem sorted_any (b nn : Nat) (D0 : DataW Value) (w : World) (hown : w.ownsMap Try.prog 9 RV b nn D0) (hmax : Maps.size D0 ≤ maxLen) (hbytes : Maps.size D0 * 16 ≤ 140737488355328) :
    Calls Try.prog 53 #[.func (.func 64) #[] #[.pointer (some ⟨w.heap.size, 0, none⟩)]] (w.alloc (.cells #[.map (some b)] 49)) fun e w' => ∃ (v : Value) (ss : List (List UInt8)), e = .returned v ∧ ss.Perm (strKeys D0) ∧
      w'.ownsRow (w.alloc (.cells #[.map (some b)] 49)).heap.size 9 1 v ss.length ((ss.mergeSort (fun x y => decide (x ≤ y))).map encStr) ∧ (v = .slice none 0 0 ↔ ss = []) ∧ Below (w.alloc (.cells #[.map (some b)] 49)).heap.size (w.alloc (.cells #[.map (some b)] 49)) w' := by
  have hbl := hown.lt
  have hseq : SeqGives Fence.wide 2 Try.prog 64 #[.pointer (some ⟨w.heap.size, 0, none⟩)] encStr (fun ss => ss.Perm (strKeys D0)) (Maps.size D0) (w.alloc (.cells #[.map (some b)] 49)) :=
    AnyZ.keys_gives (ρ := Try.keys54_ren) { Try.keys54 with } Fence.wide _ trivial rfl (by omega) w.heap.size b nn D0 _ (by simp) (by simp) (by
      obtain ⟨es, clock, hb, Ft, hs, hD⟩ := hown
      exact ⟨es, clock, (Below.heap_alloc _ _ b hbl).trans hb, Ft, hs, hD⟩)
  exact callsIn_wide.1 (AnyZ.sorted_in Try.sorted53 Fence.wide 5 trivial trivial trivial trivial rfl (by omega) (sorts53 _) (enters_of Try.func63 (by kernel_rfl) rfl) 64 #[.pointer (some ⟨w.heap.size, 0, none⟩)] trivial (enters_of Try.func64 (by kernel_rfl) rfl) _ _ hmax hbytes _ hseq)

theorem strKeys_length {D : DataW Value} (h : Maps.IsMap D) : (strKeys D).length = Maps.size D := by
  obtain ⟨es, rfl⟩ := h
  simp [strKeys, Maps.size]
set_option maxHeartbeats 1000000 in
theorem names_any {K : Nat → Prop} {base : Nat} {w : World} {b bm : Nat} {s : WS} {D : DataW Value} {F : List UInt8 → Option FileS} (h : S K base w b bm s D F) (hbase : base ≤ w.heap.size) :
    Calls Try.prog 24 #[ptrOf b] w fun e w' => ∃ (v : Value) (ss : List (List UInt8)), e = .returned v ∧ ss.Perm (strKeys D) ∧ w'.ownsRow (w.heap.size + 1) 9 1 v ss.length ((ss.mergeSort (fun x y => decide (x ≤ y))).map encStr) ∧ S K base w' b bm s D F ∧ Bel K base w w' := by
  have M := made_yes h.hB
  obtain ⟨c0, -⟩ := blk_cells h.hB
  have Ky := keys_any (some bm) w
  have hsz := h.own.size_le
  have T := sorted_any bm 16 D w h.own (by simp only [maxLen]; omega) (by omega)
  have HS : Hid (S K base (w.alloc (.cells #[.map (some bm)] 49)) b bm s D F ∧ Bel K base w (w.alloc (.cells #[.map (some bm)] 49))) := ⟨h.alloc _, h.refl.alloc hbase _⟩
  have HB : Hid (base ≤ w.heap.size) := hbase
  clear h hbase hsz
  go_enter Try.func24, Try.ntmps24
  go_wp2_with (first
    | (go_at_call 50; refine M.mono ?_; rintro e w' ⟨rfl, rfl⟩)
    | (go_at_call 54; refine Ky.mono ?_; rintro e w' ⟨rfl, rfl⟩)
    | (go_at_call 53; refine T.mono ?_; rintro e w' ⟨v, ss, rfl, hperm, hrow, -, hb⟩))
  go_ret
  have hg : (World.alloc _ (.cells #[.map (some bm)] 49)).grownBy _ none := ⟨hb.os, hb.tape, hb.output, hb.size, fun i hi _ => hb.block i hi⟩
  refine ⟨v, ss, rfl, hperm, by simpa using hrow, HS.out.1.grown fun i hi => hb.block i hi, HS.out.2.grown hg (by have := HB.out; simp; omega) (by simp)⟩
end Go.Proofs.Ytmeecjedikechaa
