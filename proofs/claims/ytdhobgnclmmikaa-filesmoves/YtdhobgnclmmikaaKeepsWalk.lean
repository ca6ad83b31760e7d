/- The walk of FilesKeeps. -/
import Derived.Test.YtdhobgnclmmikaaSame
import Derived.Deep.DeepCutAuto
import Derived.Deep.RegionHeldLaw
namespace Go.Proofs.Ytdhobgnclmmikaa
open Go.RowKit Go.Maps
open Go.WideMaps

/-- What the walk is told of a slice of integers that came in: it is nil, or it leads to a row of numbers. -/
def IsRow (k : IntKind) (w : World) (a : Option Addr) (len cap : Nat) (zs : List Int) : Prop :=
  (a = none ∧ len = 0 ∧ cap = 0 ∧ zs = []) ∨
  ∃ x, a = some x ∧ len ≤ cap ∧ cap ≤ maxLen ∧ zs.length = cap ∧ (∀ i, i < zs.length → w.cell? (x.add i) = some (.int k (zs.getD i 0))) ∧ ∀ n ∈ zs, (Lit.int k n).wf = true

theorem wf_u8 {n : Int} (h : (Lit.int .u8 n).wf = true) : 0 ≤ n ∧ n < 256 := by
  have h1 : IntKind.u8.min = 0 := rfl
  have h2 : IntKind.u8.max = 255 := rfl
  simp [Lit.wf] at h
  omega

def bytesOf (zs : List Int) (n : Nat) : List UInt8 := (zs.take n).map fun z => UInt8.ofNat z.toNat

theorem row_src {w w' : World} {a : Option Addr} {len cap : Nat} {zs : List Int} (h : IsRow .u8 w a len cap zs) {n : Nat} (hn : n ≤ len) {b : Nat} (hb : w.heap.size ≤ b) (hk : Below w.heap.size w w') :
    SrcB w' b (.slice a n cap) (bytesOf zs n) ∧ (bytesOf zs n).length = n := by
  rcases h with ⟨rfl, rfl, rfl, rfl⟩ | ⟨x, rfl, h1, h2, h3, h4, h5⟩
  · have : n = 0 := by omega
    subst this
    exact ⟨.inl ⟨rfl, rfl⟩, rfl⟩
  · have hl : (bytesOf zs n).length = n := by simp [bytesOf]; omega
    refine ⟨.inr ⟨x, cap, by rw [hl], ?_, ?_⟩, hl⟩
    · intro hne
      have h0 : 0 < n := by
        rcases Nat.eq_zero_or_pos n with e | e
        · subst e; exact absurd (List.eq_nil_of_length_eq_zero hl) hne
        · exact e
      have := World.block_lt_of_cell? w _ (h4 0 (by omega))
      rw [addr_block] at this
      omega
    · intro j u hj
      have hjn : j < n := by
        rcases Nat.lt_or_ge j n with e | e
        · exact e
        · rw [List.getElem?_eq_none (by rw [bcells_length, hl]; exact e)] at hj; cases hj
      have hjz : j < zs.length := by omega
      have hc := h4 j hjz
      have hlt := World.block_lt_of_cell? w _ hc
      have hu : u = .int .u8 (zs.getD j 0) := by
        have hz : zs[j]? = some zs[j] := List.getElem?_eq_getElem hjz
        obtain ⟨q1, q2⟩ := wf_u8 (h5 zs[j] (List.getElem_mem _))
        simp [bcells, bytesOf, hjn, hz] at hj
        subst hj
        rw [List.getD_eq_getElem?_getD, hz]
        simp
        omega
      rw [hu, ← hc]
      exact World.cell?_of_block (hk.block _ hlt)

abbrev nmF : ByteArray := ⟨#[102]⟩
theorem good_f : goodB nmF = true := by decide
theorem size_f : nmF.size ≤ maxLen := by decide

theorem row_len {w : World} {a : Option Addr} {len cap : Nat} {zs : List Int} (h : IsRow .u8 w a len cap zs) : len ≤ cap ∧ cap ≤ maxLen := by
  rcases h with ⟨rfl, rfl, rfl, rfl⟩ | ⟨x, rfl, h1, h2, _⟩
  · exact ⟨Nat.le_refl _, by decide⟩
  · exact ⟨h1, h2⟩

set_option maxRecDepth 100000 in
set_option maxHeartbeats 1000000 in
theorem keeps_big (a0 : Option Addr) (len0 cap0 : Nat) (a1 : Option Addr) (len1 cap1 : Nat) (a2 : Int) (w : World) (l0 : len0 ≤ 140737488351232) (l1 : len1 ≤ 140737488351232) (hbig : 1048576 < len0 + len1) :
    Calls Try.prog 5 #[.slice a0 len0 cap0, .slice a1 len1 cap1, .int .i64 a2] w fun e w' => e = .returned (.bool true) ∧ Below w.heap.size w w' := by
  have N := new_any w
  go_enter Try.func5, Try.ntmps5
  go_wp2_with fail
  refine N.mono ?_
  rintro e w1 ⟨b, bm, rfl, s1, b1⟩
  have B1 : Hid (Below w.heap.size w w1) := b1
  clear N s1 b1
  have L := lives_any w1
  go_wp2_with (go_at_call 12; refine L.mono ?_; rintro e w' ⟨rfl, hb⟩)
  go_ret
  exact ⟨rfl, B1.out.trans (hb.mono B1.out.size)⟩

theorem keeps_data {d b0 b1 : List UInt8} (hd : d = []) (fb : Nat) (u : Value) (k n : Nat) (hn : n = min k b1.length) :
    (cutf (k : Int) ⟨fb, u, d ++ b0 ++ b1, (d ++ b0).length⟩).data = b0 ++ b1.take n := by
  subst hd
  simp only [cutf, cutN, List.nil_append, List.length_append, Int.toNat_natCast]
  rw [show b0.length + min k (b0.length + b1.length - b0.length) = b0.length + n by rw [hn]; omega, List.take_append]
  rw [List.take_of_length_le (by omega)]
  congr 2
  omega
theorem bytesOf_take (zs : List Int) (n m : Nat) (h : n ≤ m) : (bytesOf zs m).take n = bytesOf zs n := by
  simp only [bytesOf, ← List.map_take, List.take_take]
  congr 2; omega

theorem keeps_facts {w w10 : World} {a0 a1 : Option Addr} {len0 cap0 len1 cap1 n b : Nat} {z0 z1 : List Int} (r0 : IsRow .u8 w a0 len0 cap0 z0) (r1 : IsRow .u8 w a1 len1 cap1 z1) (hn : n ≤ len1) (hsm : len0 + len1 ≤ 1048576)
    (hb : w.heap.size ≤ b) (hbel : Below w.heap.size w w10) (hb10 : b < w10.heap.size) {v : Value} (hv : w10.ownsRow w.heap.size 5 1 v (bytesOf z0 len0 ++ bytesOf z1 n).length (bcells (bytesOf z0 len0 ++ bytesOf z1 n)))
    (hvb : ∀ g, v.ownBlock = some g → g ≠ b) :
    ∃ v11 w11 v12 w12, (Builtin.append_ #[29, 29] 29 #[.slice (some ⟨w10.heap.size, 0, none⟩) 0 0, .slice a0 len0 cap0]).run Try.prog ((w10.alloc (.cells #[] 5)).drew) = .ok v11 w11 ∧
      (Builtin.append_ #[29, 29] 29 #[v11, .slice a1 n cap1]).run Try.prog w11 = .ok v12 w12 ∧
      (Calls Try.prog 22 #[v, v12] w12 fun e w' => e = .returned (.bool true) ∧ w' = w12) ∧ Below w.heap.size w w12 := by
  have h0 : Below w.heap.size w ((w10.alloc (.cells #[] 5)).drew) := (hbel.alloc hbel.size _).drew
  obtain ⟨src0, ln0⟩ := row_src r0 (Nat.le_refl _) hb h0
  have own0 : ((w10.alloc (.cells #[] 5)).drew).ownsRow w.heap.size 5 1 (.slice (some ⟨w10.heap.size, 0, none⟩) 0 0) 0 [] := World.ownsRow_made w10 #[] 0 hbel.size (by decide) rfl
  obtain ⟨v11, w11, run1, own1, gr1, loc1⟩ := app_src 29 own0 src0 (by rw [ln0]; omega) h0.size
  have h1 : Below w.heap.size w w11 := h0.grown gr1 h0.size (by intro k hk; simp [Value.ownBlock] at hk; subst hk; exact hbel.size)
  obtain ⟨src1, ln1⟩ := row_src r1 hn hb h1
  obtain ⟨v12, w12, run2, own2, gr2, loc2⟩ := app_src 29 own1 src1 (by rw [ln0, ln1]; omega) h1.size
  have h2 : Below w.heap.size w w12 := h1.grown gr2 h1.size (fun k hk => (ownsRow_type own1 hk).1)
  refine ⟨v11, w11, v12, w12, run1, run2, ?_, h2⟩
  -- where the new rows lie
  have hl1 : ∀ g, v11.ownBlock = some g → w10.heap.size ≤ g := by
    intro g hg
    rcases loc1 with e | e
    · rw [e] at hg; simp [Value.ownBlock] at hg; omega
    · rw [e] at hg; simp at hg; omega
  have hl2 : ∀ g, v12.ownBlock = some g → w10.heap.size ≤ g := by
    intro g hg
    rcases loc2 with e | e
    · rw [e] at hg; exact hl1 g hg
    · rw [e] at hg; cases hg
      have := gr1.size; simp at this; omega
  have hold : ∀ i, i < w10.heap.size → w12.heap[i]? = w10.heap[i]? := by
    intro i hi
    rw [gr2.block i (by have := gr1.size; simp at this; omega) (fun e => by have := hl1 i e.symm; omega)]
    rw [gr1.block i (by simp; omega) (by simp [Value.ownBlock]; omega)]
    exact Below.heap_alloc w10 _ i hi
  have sv : SrcB w12 b v (bytesOf z0 len0 ++ bytesOf z1 n) := by
    refine own_src (base := w.heap.size) (ownsRow_of_block hv fun g hg => ?_) hvb
    obtain ⟨_, cur, hc⟩ := ownsRow_type hv hg
    exact hold g (lt_of_some hc)
  have sv12 : SrcB w12 b v12 (bytesOf z0 len0 ++ bytesOf z1 n) := by
    refine own_src (base := w.heap.size) ?_ (fun g hg => by have := hl2 g hg; omega)
    rw [bcells_append, List.length_append]
    simpa using own2
  exact same_yes sv sv12

set_option maxRecDepth 100000 in
set_option maxHeartbeats 2000000 in
theorem keeps_small (a0 : Option Addr) (len0 cap0 : Nat) (z0 : List Int) (a1 : Option Addr) (len1 cap1 : Nat) (z1 : List Int) (a2 : Int) (w : World) (r0 : IsRow .u8 w a0 len0 cap0 z0) (r1 : IsRow .u8 w a1 len1 cap1 z1) (hsm : len0 + len1 ≤ 1048576) (hmx : a2 ≤ 9223372036854775807) :
    Calls Try.prog 5 #[.slice a0 len0 cap0, .slice a1 len1 cap1, .int .i64 a2] w fun e w' => e = .returned (.bool true) ∧ Below w.heap.size w w' := by
  have N := new_any w
  have R0 : Hid (IsRow .u8 w a0 len0 cap0 z0) := r0
  have R1 : Hid (IsRow .u8 w a1 len1 cap1 z1) := r1
  clear r0 r1
  go_enter Try.func5, Try.ntmps5
  go_wp2_with fail
  refine N.mono ?_
  rintro e w1 ⟨b, bm, rfl, s1, b1⟩
  clear N
  go_wp2_with fail
  refine (create_ok s1 b1.size rfl nmF size_f good_f (.inr (by simp [Maps.size])) (by simp) (by simp) (by simp)).mono ?_
  rintro e w2 ⟨rfl, ⟨f, hd0, hy0, s2⟩, b2⟩
  rw [st1] at s2
  have hd : Hid (f.data = []) := hd0
  have hy : Hid (f.sy = 0) := hy0
  clear hd0 hy0
  have B2 : Hid (Below w.heap.size w w2) := b1.trans b2
  clear b1 b2 s1
  generalize hD : DataW.put (DataW.map []) (Lit.string nmF.data.toList) (DataW.held (ptrOf f.fb)) = D at s2
  clear hD
  generalize hF : (fun x : List UInt8 => (none : Option FileS)) = F0 at s2
  clear hF
  obtain ⟨src0, ln0⟩ := row_src R0.out (Nat.le_refl _) s2.hb B2.out
  have LN0 : Hid ((bytesOf z0 len0).length = len0) := ln0
  clear ln0
  go_wp2_with fail
  refine (append_ok s2 (by exact B2.out.size) rfl nmF size_f good_f (upd_same _ _ _) (bytesOf z0 len0) _ src0 (by rw [hd.out, LN0.out]; simp; omega) (by simp) (by simp) (by simp)).mono ?_
  rintro e w3 ⟨rfl, ⟨u3, s3⟩, b3⟩
  rw [upd_upd] at s3
  have B3 : Hid (Below w.heap.size w w3) := B2.out.trans b3
  clear b3 B2 s2 src0
  go_wp2_with fail
  refine (sync_ok s3 (by exact B3.out.size) rfl nmF size_f good_f (upd_same _ _ _) (by simp [stepped]) (by simp [stepped]) (by simp [stepped])).mono ?_
  rintro e w4 ⟨rfl, s4, b4⟩
  rw [upd_upd] at s4
  have B4 : Hid (Below w.heap.size w w4) := B3.out.trans b4
  clear b4 B3 s3
  obtain ⟨src1, ln1⟩ := row_src R1.out (Nat.le_refl _) s4.hb B4.out
  have LN1 : Hid ((bytesOf z1 len1).length = len1) := ln1
  clear ln1
  go_wp2_with fail
  refine (append_ok s4 (by exact B4.out.size) rfl nmF size_f good_f (upd_same _ _ _) (bytesOf z1 len1) _ src1 (by simp [hd.out, LN0.out, LN1.out]; omega) (by simp [stepped]) (by simp [stepped]) (by simp [stepped])).mono ?_
  rintro e w5 ⟨rfl, ⟨u5, s5⟩, b5⟩
  rw [upd_upd] at s5
  have B5 : Hid (Below w.heap.size w w5) := B4.out.trans b5
  clear b5 B4 s4 src1
  by_cases hneg : a2 < 0
  · go_wp2_with fail
    refine (cut_neg s5 rfl 1 a2 (by decide) hneg).mono ?_
    rintro e w' ⟨rfl, rfl⟩
    have L := lives_any w'
    clear s5
    go_wp2_with (go_at_call 12; refine L.mono ?_; rintro e w'' ⟨rfl, hb⟩)
    go_ret
    exact ⟨rfl, B5.out.trans (hb.mono B5.out.size)⟩
  · obtain ⟨k, rfl⟩ := Int.eq_ofNat_of_zero_le (by omega : 0 ≤ a2)
    go_wp2_with fail
    refine (cut_ok s5 rfl 1 k (by decide) (by omega)).mono ?_
    rintro e w6 ⟨rfl, s6, b6⟩
    have B6 : Hid (Below w.heap.size w w6) := B5.out.trans b6
    clear b6 B5 s5
    go_wp2_with fail
    refine (sync_cut s6 (by exact B6.out.size) rfl nmF size_f good_f (upd_same _ _ _) rfl (by simp) (by exact hmx)).mono ?_
    rintro e w7 ⟨rfl, s7, b7⟩
    rw [map_upd] at s7
    have B7 : Hid (Below w.heap.size w w7) := B6.out.trans b7
    clear b7 B6 s6
    go_wp2_with fail
    refine (on_any s7).mono ?_
    rintro e w' ⟨rfl, rfl⟩
    go_wp2_with fail
    refine (create_off s7.hB rfl ⟨#[103]⟩).mono ?_
    rintro e w' ⟨rfl, rfl⟩
    have s8 : S w.heap.size (crW w' b ⟨#[103]⟩) b bm _ D _ := ((s7.alloc _).alloc _).alloc _
    have B8 : Hid (Below w.heap.size w (crW w' b ⟨#[103]⟩)) := ((B7.out.alloc B7.out.size _).alloc (by have := B7.out.size; simp; omega) _).alloc (by have := B7.out.size; simp; omega) _
    clear B7 s7
    go_wp2_with fail
    refine (power_any s8).mono ?_
    rintro e w9 ⟨rfl, s9, b9⟩
    have B9 : Hid (Below w.heap.size w w9) := B8.out.trans b9
    clear b9 B8 s8
    by_cases hk : k < len1
    · go_upto_region 15 with fail
      go_cut [9, 10] (fun x y wx => y = .int .i64 0 ∧ Hid (wx.ownsRow w.heap.size 5 1 x (bytesOf z0 len0 ++ bytesOf z1 k).length (bcells (bytesOf z0 len0 ++ bytesOf z1 k)) ∧ (∀ g, x.ownBlock = some g → g ≠ b) ∧ w.heap.size ≤ b ∧ b < wx.heap.size ∧ Below w.heap.size w wx))
      case first =>
        go_wp2_with fail
        refine (read_ok s9 (by exact B9.out.size) rfl nmF size_f good_f (upd_same _ _ _)).mono ?_
        rintro e w10 ⟨v, rfl, o10, s10, b10, l10⟩
        have hdat := keeps_data hd.out f.fb u5 k k (b0 := bytesOf z0 len0) (b1 := bytesOf z1 len1) (by rw [LN1.out]; omega)
        rw [bytesOf_take z1 k len1 (by omega)] at hdat
        have hv : w10.ownsRow w.heap.size 5 1 v (bytesOf z0 len0 ++ bytesOf z1 k).length (bcells (bytesOf z0 len0 ++ bytesOf z1 k)) := hdat ▸ o10
        have HE : Hid (w10.ownsRow w.heap.size 5 1 v (bytesOf z0 len0 ++ bytesOf z1 k).length (bcells (bytesOf z0 len0 ++ bytesOf z1 k)) ∧ (∀ g, v.ownBlock = some g → g ≠ b) ∧ w.heap.size ≤ b ∧ b < w10.heap.size ∧ Below w.heap.size w w10) :=
          ⟨hv, fun g hg e => by have := l10 g hg; have := lt_of_some s9.hB; omega, s10.hb, lt_of_some s10.hB, B9.out.trans b10⟩
        clear b10 B9 s9 s10 o10 l10 hdat hv
        go_wp2
        go_meet
        exact ⟨rfl, HE⟩
      case rest =>
        obtain ⟨rfl, HC⟩ := hcut
        obtain ⟨hv, hvb, hb, hb10, hbel⟩ := HC.out
        obtain ⟨v11, w11, v12, w12, run1, run2, C22, B12⟩ := keeps_facts R0.out R1.out (by omega) hsm hb hbel hb10 hv hvb
        have HR1 : Hid _ := run1
        have HR2 : Hid _ := run2
        have HB : Hid (Below w.heap.size w w12) := B12
        have L := lives_any w12
        obtain ⟨hc1, hc2⟩ := row_len R1.out
        unfold maxLen at hc2
        clear HC hv hvb hb hb10 hbel run1 run2 B12 B9 s9
        go_wp2_with fail
        have hk0 : (0 : Int) ≤ (k : Int) := by omega
        have hk1 : (k : Int) ≤ (cap1 : Int) := by omega
        have hk2 : (k : Int) ≤ (len1 : Int) := by omega
        go_region_held_law (fun _ => True) (trivial) (first
          | (refine step_append_wanted ?h1 _ _ 29 rfl (.slice (some ⟨wc.heap.size, 0, none⟩) 0 0) (.slice a0 len0 cap0) v11 w11 ?h2 ?h3 HR1.out ?_; (case h1 => kernel_rfl); (case h2 => rfl); (case h3 => rfl))
          | (refine step_append_wanted ?h1 _ _ 29 rfl v11 (.slice a1 k cap1) v12 w12 ?h2 ?h3 HR2.out ?_; (case h1 => kernel_rfl); (case h2 => rfl); (case h3 => rfl))
          | (go_at_call 22; refine C22.mono ?_; rintro e w' ⟨rfl, rfl⟩)
          | (go_at_call 12; refine L.mono ?_; rintro e w13 ⟨rfl, hb13⟩))
        go_wp2
        go_ret
        exact ⟨rfl, HB.out.trans (hb13.mono HB.out.size)⟩
    · go_upto_region 15 with fail
      go_cut [9, 10] (fun x y wx => y = .int .i64 0 ∧ Hid (wx.ownsRow w.heap.size 5 1 x (bytesOf z0 len0 ++ bytesOf z1 len1).length (bcells (bytesOf z0 len0 ++ bytesOf z1 len1)) ∧ (∀ g, x.ownBlock = some g → g ≠ b) ∧ w.heap.size ≤ b ∧ b < wx.heap.size ∧ Below w.heap.size w wx))
      case first =>
        go_wp2_with fail
        refine (read_ok s9 (by exact B9.out.size) rfl nmF size_f good_f (upd_same _ _ _)).mono ?_
        rintro e w10 ⟨v, rfl, o10, s10, b10, l10⟩
        have hdat := keeps_data hd.out f.fb u5 k len1 (b0 := bytesOf z0 len0) (b1 := bytesOf z1 len1) (by rw [LN1.out]; omega)
        rw [bytesOf_take z1 len1 len1 (by omega)] at hdat
        have hv : w10.ownsRow w.heap.size 5 1 v (bytesOf z0 len0 ++ bytesOf z1 len1).length (bcells (bytesOf z0 len0 ++ bytesOf z1 len1)) := hdat ▸ o10
        have HE : Hid (w10.ownsRow w.heap.size 5 1 v (bytesOf z0 len0 ++ bytesOf z1 len1).length (bcells (bytesOf z0 len0 ++ bytesOf z1 len1)) ∧ (∀ g, v.ownBlock = some g → g ≠ b) ∧ w.heap.size ≤ b ∧ b < w10.heap.size ∧ Below w.heap.size w w10) :=
          ⟨hv, fun g hg e => by have := l10 g hg; have := lt_of_some s9.hB; omega, s10.hb, lt_of_some s10.hB, B9.out.trans b10⟩
        clear b10 B9 s9 s10 o10 l10 hdat hv
        go_wp2
        go_meet
        exact ⟨rfl, HE⟩
      case rest =>
        obtain ⟨rfl, HC⟩ := hcut
        obtain ⟨hv, hvb, hb, hb10, hbel⟩ := HC.out
        obtain ⟨v11, w11, v12, w12, run1, run2, C22, B12⟩ := keeps_facts R0.out R1.out (by omega) hsm hb hbel hb10 hv hvb
        have HR1 : Hid _ := run1
        have HR2 : Hid _ := run2
        have HB : Hid (Below w.heap.size w w12) := B12
        have L := lives_any w12
        obtain ⟨hc1, hc2⟩ := row_len R1.out
        unfold maxLen at hc2
        clear HC hv hvb hb hb10 hbel run1 run2 B12 B9 s9
        go_wp2_with fail
        have hk1 : (len1 : Int) ≤ (cap1 : Int) := by omega
        go_region_held_law (fun _ => True) (trivial) (first
          | (refine step_append_wanted ?h1 _ _ 29 rfl (.slice (some ⟨wc.heap.size, 0, none⟩) 0 0) (.slice a0 len0 cap0) v11 w11 ?h2 ?h3 HR1.out ?_; (case h1 => kernel_rfl); (case h2 => rfl); (case h3 => rfl))
          | (refine step_append_wanted ?h1 _ _ 29 rfl v11 (.slice a1 len1 cap1) v12 w12 ?h2 ?h3 HR2.out ?_; (case h1 => kernel_rfl); (case h2 => rfl); (case h3 => rfl))
          | (go_at_call 22; refine C22.mono ?_; rintro e w' ⟨rfl, rfl⟩)
          | (go_at_call 12; refine L.mono ?_; rintro e w13 ⟨rfl, hb13⟩))
        go_wp2
        go_ret
        exact ⟨rfl, HB.out.trans (hb13.mono HB.out.size)⟩

theorem keeps_walk (a0 : Option Addr) (len0 cap0 : Nat) (z0 : List Int) (a1 : Option Addr) (len1 cap1 : Nat) (z1 : List Int) (a2 : Int) (w : World) (w0 : IsRow .u8 w a0 len0 cap0 z0) (w1 : IsRow .u8 w a1 len1 cap1 z1) (w2 : (Lit.int .i64 a2).wf = true)
    (l0 : len0 ≤ 140737488351232) (l1 : len1 ≤ 140737488351232) :
    Calls Try.prog 5 #[.slice a0 len0 cap0, .slice a1 len1 cap1, .int .i64 a2] w fun e w' => e = .returned (.bool true) ∧ Below w.heap.size w w' := by
  by_cases h : 1048576 < len0 + len1
  · exact keeps_big a0 len0 cap0 a1 len1 cap1 a2 w l0 l1 h
  · refine keeps_small a0 len0 cap0 z0 a1 len1 cap1 z1 a2 w w0 w1 (by omega) ?_
    have h2 : IntKind.i64.max = 9223372036854775807 := rfl
    simp [Lit.wf] at w2
    omega
end Go.Proofs.Ytdhobgnclmmikaa
