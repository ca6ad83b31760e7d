/- The document's examples are as it says: the contract of lives. -/
import Derived.Test.YtmeecjedikechaaAppend
import Derived.Lib.SlBytesConst
namespace Go.Proofs.Ytmeecjedikechaa
open Go.RowKit Go.Maps
open Go.WideMaps

theorem ofNat_toNat_map (l : List UInt8) : ((l.map fun b => (b.toNat : Int)).map fun n => UInt8.ofNat n.toNat) = l := by
  induction l with
  | nil => rfl
  | cons x r ih => simp only [List.map_cons, ih]; simp

theorem conv_src {w : World} {b : Nat} {bv : Value} {l : List UInt8} (hs : SrcB w b bv l) : (convert 29 9 bv).run Try.prog w = .ok (.string ⟨l.toArray⟩) w := by
  rcases hs with ⟨rfl, rfl⟩ | ⟨a, cap, rfl, _, hc⟩
  · exact run_convert_bytes_nil w 29 5 Try.underlying29 Try.underlying5 0 0 9 Try.underlying9
  · have hl : (loadCells a l.length).run Try.prog w = .ok ((l.map fun b => (b.toNat : Int)).map (Value.int .u8)).toArray w := by
      have e : (l.map fun b => (b.toNat : Int)).map (Value.int .u8) = bcells l := by simp [bcells]
      rw [e]
      have := run_loadCells_list (P := Try.prog) w a (bcells l) hc
      rw [bcells_length] at this
      exact this
    rw [run_convert_bytes_string w 29 9 5 _ l.length cap Try.underlying29 Try.underlying5 Try.underlying9, run_bytesToString w _ l.length cap _ hl, foldl_push_bytes, ofNat_toNat_map]
    simp [ByteArray.empty, ByteArray.emptyWithCapacity]
    rfl

theorem own_src {w : World} {base b : Nat} {v : Value} {l : List UInt8} (h : w.ownsRow base 5 1 v l.length (bcells l)) (hb : ∀ g, v.ownBlock = some g → g ≠ b) : SrcB w b v l := by
  rcases h.2 with ⟨h1, h2⟩ | ⟨g, cap, cur, h1, h2, h3, h4, h5, h6, h7⟩
  · exact .inl ⟨h1, List.eq_nil_of_length_eq_zero h2⟩
  · refine .inr ⟨⟨g, 0, none⟩, cap, h1, fun _ => hb g (by rw [h1]; rfl), ?_⟩
    exact h.cells (g := g) (by rw [h1]; rfl)

abbrev nmA : ByteArray := ⟨#[97]⟩
theorem good_a : goodB nmA = true := by decide
theorem size_a : nmA.size ≤ maxLen := by decide

/-- Bytes written out in new memory. -/
theorem lit_src (w : World) (b : Nat) (hb : b < w.heap.size) (l : List UInt8) (z : Nat × Nat) : SrcB (w.alloc (.cells (bcells l).toArray 5 z)) b (.slice (some ⟨w.heap.size, 0, none⟩) l.length l.length) l := by
  refine .inr ⟨⟨w.heap.size, 0, none⟩, l.length, rfl, fun _ => by simp; omega, ?_⟩
  intro j u hj
  have : (w.alloc (.cells (bcells l).toArray 5 z)).cell? ((⟨w.heap.size, 0, none⟩ : Addr).add j) = (bcells l).toArray[j]? := by
    have hp : (⟨w.heap.size, 0, none⟩ : Addr).add j = ⟨w.heap.size, j, none⟩ := by unfold Addr.add; split <;> simp_all
    rw [hp]
    simp only [World.cell?, heap_new]
    rfl
  rw [this]; simpa using hj

theorem conv29 (w : World) (C : Array Value) (n c : Nat) : (convert 29 29 (.slice (some ⟨w.heap.size, 0, none⟩) n c)).run Try.prog (w.alloc (.cells C 5)) = .ok (.slice (some ⟨w.heap.size, 0, none⟩) n c) (w.alloc (.cells C 5 (C.size, C.size + 1))) :=
  Lib.run_convert_bytes_const w 29 5 C n c Try.underlying29 Try.underlying5
theorem st1 : stepped ⟨false, 0, 0, 0, 0⟩ = ⟨false, 0, 0, 1, 0⟩ := by kernel_rfl
theorem st2 : { stepped ⟨false, 0, 0, 1, 0⟩ with written := wrap64 ((0 : Int) + (3 : Nat)) } = (⟨false, 0, 0, 2, 3⟩ : WS) := by kernel_rfl
theorem st3 : stepped ⟨false, 0, 0, 2, 3⟩ = ⟨false, 0, 0, 3, 3⟩ := by kernel_rfl
theorem st4 : { stepped ⟨false, 0, 0, 3, 3⟩ with written := wrap64 ((3 : Int) + (2 : Nat)) } = (⟨false, 0, 0, 4, 5⟩ : WS) := by kernel_rfl
theorem st5 : { stepped ⟨false, 1, 1, 4, 5⟩ with written := wrap64 ((5 : Int) + (1 : Nat)), off := true, keep := 0 } = (⟨true, 0, 0, 5, 6⟩ : WS) := by kernel_rfl

theorem src3 (w : World) (b : Nat) (hb : b < w.heap.size) : SrcB (w.alloc (.cells #[.int .u8 120, .int .u8 121, .int .u8 122] 5 (3, 4))) b (.slice (some ⟨w.heap.size, 0, none⟩) 3 3) [120, 121, 122] := lit_src w b hb [120, 121, 122] (3, 4)
theorem src2 (w : World) (b : Nat) (hb : b < w.heap.size) : SrcB (w.alloc (.cells #[.int .u8 112, .int .u8 113] 5 (2, 3))) b (.slice (some ⟨w.heap.size, 0, none⟩) 2 2) [112, 113] := lit_src w b hb [112, 113] (2, 3)
theorem src1 (w : World) (b : Nat) (hb : b < w.heap.size) : SrcB (w.alloc (.cells #[.int .u8 114] 5 (1, 2))) b (.slice (some ⟨w.heap.size, 0, none⟩) 1 1) [114] := lit_src w b hb [114] (1, 2)

/-- No block is to be kept. -/
def KF : Nat → Prop := fun _ => False
theorem upd_upd (F : List UInt8 → Option FileS) (l : List UInt8) (x y : Option FileS) : upd (upd F l x) l y = upd F l y := by
  funext l'; unfold upd; split <;> rfl
theorem map_upd (F : List UInt8 → Option FileS) (l : List UInt8) (x : Option FileS) (g : FileS → FileS) : (fun l' => (upd F l x l').map g) = upd (fun l' => (F l').map g) l (x.map g) := by
  funext l'; unfold upd; split <;> rfl

set_option maxRecDepth 100000 in
set_option maxHeartbeats 1000000 in
theorem lives_any (w : World) : Calls Try.prog 12 #[] w fun e w' => e = .returned (.bool true) ∧ Below w.heap.size w w' := by
  have N := new_any (K := KF) w (fun _ h => h.elim)
  have cv := conv29
  go_enter Try.func12, Try.ntmps12
  go_wp2_with fail
  refine N.mono ?_
  rintro e w1 ⟨b, bm, rfl, s1, b1⟩
  clear N
  go_wp2_with fail
  refine (create_ok s1 b1.size rfl nmA size_a good_a (.inr (by simp [Maps.size])) (by simp) (by simp) (by simp)).mono ?_
  rintro e w2 ⟨rfl, ⟨f, hd0, hy0, s2⟩, b2⟩
  rw [st1] at s2
  have hd : Hid (f.data = []) := hd0
  have hy : Hid (f.sy = 0) := hy0
  clear hd0 hy0
  have B2 : Hid (Bel KF w.heap.size w w2) := b1.trans b2
  clear b1 b2 s1
  generalize hD : DataW.put (DataW.map []) (Lit.string nmA.data.toList) (DataW.held (ptrOf f.fb)) = D at s2
  clear hD
  generalize hF : (fun x : List UInt8 => (none : Option FileS)) = F0 at s2
  clear hF
  go_wp2_with fail
  refine (append_ok (s2.alloc _) (by have := B2.out.size; simp; omega) rfl nmA size_a good_a (upd_same _ _ _) [120, 121, 122] _ (src3 w2 b (lt_of_some s2.hB)) (by rw [hd.out]; simp) (by simp) (by simp) (by simp)).mono ?_
  rintro e w3 ⟨rfl, ⟨u3, s3⟩, b3⟩
  rw [upd_upd] at s3
  have s3 : S KF w.heap.size w3 b bm ⟨false, 0, 0, 2, 3⟩ D (upd F0 nmA.data.toList (some ⟨f.fb, u3, f.data ++ [120, 121, 122], f.sy⟩)) := st2 ▸ s3
  have B3 : Hid (Bel KF w.heap.size w w3) := (B2.out.alloc B2.out.size _).trans b3
  clear b3 B2 s2
  go_wp2_with fail
  refine (sync_ok s3 (by exact B3.out.size) rfl nmA size_a good_a (upd_same _ _ _) (by simp) (by simp) (by simp)).mono ?_
  rintro e w4 ⟨rfl, s4, b4⟩
  rw [upd_upd, st3] at s4
  have B4 : Hid (Bel KF w.heap.size w w4) := B3.out.trans b4
  clear b4 B3 s3
  go_wp2_with fail
  refine (append_ok (s4.alloc _) (by have := B4.out.size; simp; omega) rfl nmA size_a good_a (upd_same _ _ _) [112, 113] _ (src2 w4 b (lt_of_some s4.hB)) (by simp [hd.out]) (by simp) (by simp) (by simp)).mono ?_
  rintro e w5 ⟨rfl, ⟨u5, s5⟩, b5⟩
  rw [upd_upd] at s5
  have s5 := st4 ▸ s5
  have B5 : Hid (Bel KF w.heap.size w w5) := (B4.out.alloc B4.out.size _).trans b5
  clear b5 B4 s4
  go_wp2_with fail
  refine (cut_ok s5 rfl 1 1 (by decide) (by decide)).mono ?_
  rintro e w6 ⟨rfl, s6, b6⟩
  have B6 : Hid (Bel KF w.heap.size w w6) := B5.out.trans b6
  clear b6 B5 s5
  go_wp2_with fail
  refine (append_cut (s6.alloc _) (by have := B6.out.size; simp; omega) rfl nmA size_a good_a (upd_same _ _ _) [114] _ (src1 w6 b (lt_of_some s6.hB)) (by simp [hd.out]) rfl (by simp) (by simp)).mono ?_
  rintro e w7 ⟨rfl, ⟨u7, s7⟩, b7⟩
  rw [upd_upd, map_upd] at s7
  have B7 : Hid (Bel KF w.heap.size w w7) := (B6.out.alloc B6.out.size _).trans b7
  clear b7 B6 s6
  go_wp2_with fail
  refine (power_any s7).mono ?_
  rintro e w8 ⟨rfl, s8, b8⟩
  have B8 : Hid (Bel KF w.heap.size w w8) := B7.out.trans b8
  clear b8 B7 s7
  go_wp2_with fail
  refine (read_ok s8 (by exact B8.out.size) rfl nmA size_a good_a (upd_same _ _ _)).mono ?_
  rintro e w9 ⟨v, rfl, o9, s9, b9, l9⟩
  have B9 : Hid (Bel KF w.heap.size w w9) := B8.out.trans b9
  have hv := conv_src (own_src (b := b) o9 (fun g hg e => by have := l9 g hg; have := lt_of_some s8.hB; omega))
  have hdat : (cutf 1 ⟨f.fb, u7, f.data ++ [120, 121, 122] ++ [112, 113] ++ [114], (f.data ++ [120, 121, 122]).length⟩).data = [120, 121, 122, 112] := by rw [hd.out]; rfl
  rw [hdat] at hv
  have HO := ops_any s9
  clear b9 B8 s8 s9 o9 l9 hdat
  go_wp2_with (go_at_call 28; refine HO.mono ?_; rintro e w' ⟨rfl, rfl⟩)
  go_ret
  exact ⟨ret_bool (by kernel_rfl), B9.out.below⟩
end Go.Proofs.Ytmeecjedikechaa
