/- The document's examples are as it says: the contract of lives. -/
import Derived.Test.YtohndhmhgdelmaaDoorWhole
namespace Go.Proofs.YtohndhmhgdelmaaDoor
open Go.RowKit
set_option maxRecDepth 100000

theorem ofNat_toNat_map (l : List UInt8) : ((l.map fun b => (b.toNat : Int)).map fun n => UInt8.ofNat n.toNat) = l := by
  induction l with
  | nil => rfl
  | cons x r ih => simp only [List.map_cons, ih]; simp
theorem conv_bts {w : World} {bv : Value} {l : List UInt8} (hs : Bts w bv l) : (convert 29 9 bv).run Tryd.prog w = .ok (.string ⟨l.toArray⟩) w := by
  rcases hs with ⟨rfl, rfl⟩ | ⟨a, cap, rfl, _, _, hc⟩
  · exact run_convert_bytes_nil w 29 5 Tryd.underlying29 Tryd.underlying5 0 0 9 Tryd.underlying9
  · have hl : (loadCells a l.length).run Tryd.prog w = .ok ((l.map fun b => (b.toNat : Int)).map (Value.int .u8)).toArray w := by
      have e : (l.map fun b => (b.toNat : Int)).map (Value.int .u8) = bcells l := by simp [bcells]
      rw [e]
      have := run_loadCells_list (P := Tryd.prog) w a (bcells l) hc
      rw [bcells_length] at this
      exact this
    rw [run_convert_bytes_string w 29 9 5 _ l.length cap Tryd.underlying29 Tryd.underlying5 Tryd.underlying9, run_bytesToString w _ l.length cap _ hl, foldl_push_bytes, ofNat_toNat_map]
    simp [ByteArray.empty, ByteArray.emptyWithCapacity]
    rfl

set_option maxHeartbeats 1000000 in
theorem same_yes {w : World} {x y : Value} {l : List UInt8} (hx : Bts w x l) (hy : Bts w y l) :
    Calls Tryd.prog 8 #[x, y] w fun e w' => e = .returned (.bool true) ∧ w' = w := by
  have cx := conv_bts hx
  have cy := conv_bts hy
  clear hx hy
  go_enter Tryd.func8, Tryd.ntmps8
  go_wp2
  go_ret
  exact ⟨by simp, rfl⟩

theorem conv37 (w : World) (C : Array Value) (n c : Nat) : (convert 29 29 (.slice (some ⟨w.heap.size, 0, none⟩) n c)).run Tryd.prog (w.alloc (.cells C 5)) = .ok (.slice (some ⟨w.heap.size, 0, none⟩) n c) (w.alloc (.cells C 5 (C.size, C.size + 1))) :=
  Lib.run_convert_bytes_const w 29 5 C n c Tryd.underlying29 Tryd.underlying5

theorem ex1 : readI [2, 128, 0] = none := by decide
theorem ex2 : unframeB [1, 2, 3] = ([], 0, 16) := by decide
theorem ex3 : listB [0, -1, 64] = [6, 0, 1, 128, 1] := by
  simp [listB, numB, foldN, digits]
theorem ex4 : (frameB []).length = 8 := by simp [frameB, word4]
theorem ex5 : sumB [49, 50, 51, 52, 53, 54, 55, 56, 57] = 3421780262 := by decide

theorem lit3 (w : World) (x y z : UInt8) : Bts (w.alloc (.cells #[.int .u8 x.toNat, .int .u8 y.toNat, .int .u8 z.toNat] 5)) (.slice (some ⟨w.heap.size, 0, none⟩) 3 3) [x, y, z] := lit_bts w [x, y, z] (0, 0) (by simp [maxLen])
theorem lit5 (w : World) : Bts (w.alloc (.cells #[.int .u8 6, .int .u8 0, .int .u8 1, .int .u8 128, .int .u8 1] 5)) (.slice (some ⟨w.heap.size, 0, none⟩) 5 5) [6, 0, 1, 128, 1] := lit_bts w [6, 0, 1, 128, 1] (0, 0) (by simp [maxLen])
theorem lit9 (w : World) : Bts (w.alloc (.cells #[.int .u8 49, .int .u8 50, .int .u8 51, .int .u8 52, .int .u8 53, .int .u8 54, .int .u8 55, .int .u8 56, .int .u8 57] 5 (9, 10))) (.slice (some ⟨w.heap.size, 0, none⟩) 9 9) [49, 50, 51, 52, 53, 54, 55, 56, 57] := lit_bts w [49, 50, 51, 52, 53, 54, 55, 56, 57] (9, 10) (by simp [maxLen])
theorem litI (w : World) : Its (w.alloc (.cells #[.int .i64 0, .int .i64 (-1), .int .i64 64] 3)) (.slice (some ⟨w.heap.size, 0, none⟩) 3 3) [0, -1, 64] := by
  refine .inr ⟨⟨w.heap.size, 0, none⟩, 3, rfl, by simp, by simp [maxLen], fun j n hj => ?_⟩
  have hp : (⟨w.heap.size, 0, none⟩ : Addr).add j = ⟨w.heap.size, j, none⟩ := by unfold Addr.add; split <;> simp_all
  rw [hp]
  simp only [World.cell?, heap_alloc_new]
  match j, hj with
  | 0, hj => cases hj; rfl
  | 1, hj => cases hj; rfl
  | 2, hj => cases hj; rfl
  | j + 3, hj => simp at hj

set_option maxHeartbeats 2000000 in
theorem lives_any (w : World) (T : Tab w) : Calls Tryd.prog 6 #[] w fun e w' => e = .returned (.bool true) ∧ Below w.heap.size w w' := by
  have C1 := readInts_none (lit3 w 2 128 0) (by simp) ex1
  have HT : Hid (Tab w) := T
  clear T
  go_enter Tryd.func6, Tryd.ntmps6
  go_wp2_with fail
  refine C1.mono ?_
  rintro e w1 ⟨rfl, b1⟩
  have B1 : Hid (Below w.heap.size w w1) := ((Below.refl _ w).alloc (Nat.le_refl _) _).trans (b1.mono (by simp))
  clear C1 b1
  have C2 := unframe_any (lit3 w1 1 2 3) ((HT.out.below (Nat.le_refl _) B1.out).alloc _)
  rw [ex2] at C2
  go_wp2_with fail
  refine C2.mono ?_
  rintro e w2 ⟨c2, rfl, o2, b2⟩
  have B2 : Hid (Below w.heap.size w w2) := (B1.out.alloc B1.out.size _).trans (b2.mono (by have := B1.out.size; simp; omega))
  clear C2 b2 o2 B1
  have C3 := ints_any (litI w2) (by intro n hn; simp at hn; rcases hn with rfl | rfl | rfl <;> constructor <;> decide) (by simp)
  go_wp2_with fail
  refine C3.mono ?_
  rintro e w3 ⟨v3, rfl, o3, b3⟩
  have B3 : Hid (Below w.heap.size w w3) := (B2.out.alloc B2.out.size _).trans (b3.mono (by have := B2.out.size; simp; omega))
  rw [ex3] at o3
  have C4 := same_yes (o3.bts.alloc _) (lit5 w3)
  have B4 : Hid (Below w.heap.size w (w3.alloc (.cells #[.int .u8 6, .int .u8 0, .int .u8 1, .int .u8 128, .int .u8 1] 5))) := B3.out.alloc B3.out.size _
  clear C3 b3 o3 B2 B3
  go_wp2_with fail
  refine C4.mono ?_
  rintro e w4 ⟨rfl, hw⟩
  rw [← hw] at B4
  clear C4 hw
  have C5 := frame_any (w := w4) (.inl ⟨rfl, rfl⟩ : Bts w4 (.slice none 0 0) []) (HT.out.below (Nat.le_refl _) B4.out) (by simp)
  go_wp2_with fail
  refine C5.mono ?_
  rintro e w5 ⟨v5, rfl, o5, b5⟩
  obtain ⟨a5, c5, rfl⟩ := o5.slice
  rw [ex4]
  have B5 : Hid (Below w.heap.size w w5) := B4.out.trans (b5.mono B4.out.size)
  clear C5 b5 o5 B4
  have cv := conv37
  have C6 := sum_any (lit9 w5) ((HT.out.below (Nat.le_refl _) B5.out).alloc _)
  rw [ex5] at C6
  go_wp2_with (go_at_call 22; refine C6.mono ?_; rintro e w6 ⟨rfl, hw⟩; obtain rfl := hw.symm; clear hw)
  go_ret
  exact ⟨rfl, B5.out.alloc B5.out.size _⟩
end Go.Proofs.YtohndhmhgdelmaaDoor
