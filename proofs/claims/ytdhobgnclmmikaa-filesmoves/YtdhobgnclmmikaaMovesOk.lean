/- The walk of FilesMoves where both names are good and the bytes are not too many. -/
import Derived.Test.YtdhobgnclmmikaaMovesWalk
namespace Go.Proofs.Ytdhobgnclmmikaa
open Go.RowKit Go.Maps
open Go.WideMaps

theorem upd_swap (F : List UInt8 → Option FileS) (l l' : List UInt8) (x : Option FileS) (h : l ≠ l') : upd (upd F l none) l' x l = none := by
  rw [upd_other _ h, upd_same]

set_option maxRecDepth 100000 in
set_option maxHeartbeats 2000000 in
theorem moves_ok (HN : NamesSaid) (a b : ByteArray) (ha : a.size ≤ maxLen) (hb : b.size ≤ maxLen) (a2 : Option Addr) (len cap : Nat) (zs : List Int) (w : World) (r2 : IsRow .u8 w a2 len cap zs) (hlen : len ≤ 1048576) (ga : goodB a = true) (gb : goodB b = true) :
    Calls Try.prog 6 #[.string a, .string b, .slice a2 len cap] w fun e w' => e = .returned (.bool true) ∧ Below w.heap.size w w' := by
  have N := new_any w
  have HA : Hid (a.size ≤ maxLen) := ha
  have HB : Hid (b.size ≤ maxLen) := hb
  have GA : Hid (goodB a = true) := ga
  have GB : Hid (goodB b = true) := gb
  have R2 : Hid (IsRow .u8 w a2 len cap zs) := r2
  have HNN : Hid NamesSaid := HN
  clear ha hb ga gb r2 HN
  go_enter Try.func6, Try.ntmps6
  go_wp2_with fail
  refine N.mono ?_
  rintro e w1 ⟨p, pm, rfl, s1, b1⟩
  clear N
  go_wp2_with fail
  refine (good_any a _ HA.out).mono ?_
  rw [GA.out]
  rintro e w' ⟨rfl, rfl⟩
  go_wp2_with fail
  refine (good_any b _ HB.out).mono ?_
  rw [GB.out]
  rintro e w' ⟨rfl, rfl⟩
  go_wp2_with fail
  refine (create_ok s1 b1.size rfl a HA.out GA.out (.inr (by simp [Maps.size])) (by simp) (by simp) (by simp)).mono ?_
  rintro e w2 ⟨rfl, ⟨f, hd0, hy0, s2⟩, b2⟩
  rw [st1] at s2
  have hd : Hid (f.data = []) := hd0
  clear hd0 hy0
  have B2 : Hid (Below w.heap.size w w2) := b1.trans b2
  clear b1 b2 s1
  generalize hF : (fun x : List UInt8 => (none : Option FileS)) = F0 at s2
  clear hF
  obtain ⟨src2, ln2⟩ := row_src R2.out (Nat.le_refl _) s2.hb B2.out
  have LN : Hid ((bytesOf zs len).length = len) := ln2
  clear ln2
  go_wp2_with fail
  refine (append_ok s2 (by exact B2.out.size) rfl a HA.out GA.out (upd_same _ _ _) (bytesOf zs len) _ src2 (by rw [hd.out, LN.out]; simp; omega) (by simp) (by simp) (by simp)).mono ?_
  rintro e w3 ⟨rfl, ⟨u3, s3⟩, b3⟩
  rw [upd_upd] at s3
  have B3 : Hid (Below w.heap.size w w3) := B2.out.trans b3
  clear b3 B2 s2 src2
  go_wp2_with fail
  refine (rename_ok s3 (by exact B3.out.size) rfl a b HA.out HB.out GA.out GB.out (upd_same _ _ _) (by simp [stepped]) (by simp [stepped]) (by simp [stepped])).mono ?_
  rintro e w4 ⟨rfl, s4, b4⟩
  have B4 : Hid (Below w.heap.size w w4) := B3.out.trans b4
  clear b4 B3 s3
  rw [upd_upd] at s4
  have hz := size_moved a.data.toList b.data.toList (.held (ptrOf f.fb)) (.held (ptrOf f.fb))
  go_wp2_with fail
  refine (read_keeps s4 (by exact B4.out.size) rfl b HB.out GB.out (upd_same _ _ _)).mono ?_
  rintro e w5 ⟨v5, rfl, o5, s5, b5, l5, k5⟩
  have B5 : Hid (Below w.heap.size w w5) := B4.out.trans b5
  have hp4 := lt_of_some s4.hB
  have hv5 : Hid (∀ g, v5.ownBlock = some g → g ≠ p) := fun g hg e => by have := l5 g hg; omega
  clear b5 l5 k5 B4 s4 hp4
  generalize hDD : (DataW.put ((DataW.put (DataW.map []) (Lit.string a.data.toList) (DataW.held (ptrOf f.fb))).del (Lit.string a.data.toList)) (Lit.string b.data.toList) (DataW.held (ptrOf f.fb))) = D at s5 hz
  clear hDD
  have HZ : Hid (Maps.size D = 1) := hz
  clear hz
  by_cases hab : a = b
  · subst hab
    go_wp2_with fail
    refine (read_keeps s5 (by exact B5.out.size) rfl a HA.out GA.out (upd_same _ _ _)).mono ?_
    rintro e w6 ⟨v6, rfl, o6, s6, b6, l6, k6⟩
    have B6 : Hid (Below w.heap.size w w6) := B5.out.trans b6
    obtain ⟨src6, ln6⟩ := row_src R2.out (Nat.le_refl _) s6.hb B6.out
    have sv5 : SrcB w6 p v5 (bytesOf zs len) := by
      have o5' : w5.ownsRow w.heap.size 5 1 v5 (bytesOf zs len).length (bcells (bytesOf zs len)) := by simpa [hd.out] using o5
      refine own_src (base := w.heap.size) (ownsRow_of_block o5' fun g hg => ?_) hv5.out
      obtain ⟨_, cur, hc⟩ := ownsRow_type o5' hg
      exact k6 g (lt_of_some hc)
    have C22 := same_yes sv5 src6
    have CN := HNN.out _ _ _ _ _ _ _ s6 B6.out.size
    rw [HZ.out] at CN
    clear b6 l6 k6 o5 o6 s5 s6 src6 ln6 sv5 B5
    go_wp2_with fail
    refine C22.mono ?_
    rintro e w' ⟨rfl, rfl⟩
    go_wp2_with fail
    refine CN.mono ?_
    rintro e w7 ⟨q, c, rfl, b7⟩
    have B7 : Hid (Below w.heap.size w w7) := B6.out.trans b7
    have L := lives_any w7
    clear b7 B6 C22 CN
    go_wp2_with (go_at_call 12; refine L.mono ?_; rintro e w'' ⟨rfl, hb⟩)
    go_ret
    exact ⟨rfl, B7.out.trans (hb.mono B7.out.size)⟩
  · have hne := neq_toList hab
    go_wp2_with fail
    refine (read_none s5 (by exact B5.out.size) rfl a HA.out GA.out (upd_swap _ _ _ _ hne)).mono ?_
    rintro e w6 ⟨rfl, s6, b6, k6⟩
    have B6 : Hid (Below w.heap.size w w6) := B5.out.trans b6
    obtain ⟨src6, ln6⟩ := row_src R2.out (Nat.le_refl _) s6.hb B6.out
    have sv5 : SrcB w6 p v5 (bytesOf zs len) := by
      have o5' : w5.ownsRow w.heap.size 5 1 v5 (bytesOf zs len).length (bcells (bytesOf zs len)) := by simpa [hd.out] using o5
      refine own_src (base := w.heap.size) (ownsRow_of_block o5' fun g hg => ?_) hv5.out
      obtain ⟨_, cur, hc⟩ := ownsRow_type o5' hg
      exact k6 g (lt_of_some hc)
    have C22 := same_yes sv5 src6
    have CN := HNN.out _ _ _ _ _ _ _ s6 B6.out.size
    rw [HZ.out] at CN
    clear b6 k6 o5 s5 s6 src6 ln6 sv5 B5
    go_wp2_with fail
    refine C22.mono ?_
    rintro e w' ⟨rfl, rfl⟩
    go_wp2_with fail
    all_goals
      refine CN.mono ?_
      rintro e w7 ⟨q, c, rfl, b7⟩
      have B7 : Hid (Below w.heap.size w w7) := B6.out.trans b7
      have L := lives_any w7
      clear b7 B6 C22 CN
      go_wp2_with (go_at_call 12; refine L.mono ?_; rintro e w'' ⟨rfl, hb⟩)
      go_ret
      exact ⟨rfl, B7.out.trans (hb.mono B7.out.size)⟩

theorem moves_walk (HN : NamesSaid) (a b : ByteArray) (ha : a.size ≤ maxLen) (hb : b.size ≤ maxLen) (a2 : Option Addr) (len cap : Nat) (zs : List Int) (w : World) (r2 : IsRow .u8 w a2 len cap zs) :
    Calls Try.prog 6 #[.string a, .string b, .slice a2 len cap] w fun e w' => e = .returned (.bool true) ∧ Below w.heap.size w w' := by
  have hl := row_len r2
  by_cases h : goodB a = false ∨ goodB b = false ∨ 1048576 < len
  · exact moves_no a b ha hb a2 len cap (Nat.le_trans hl.1 hl.2) w h
  · simp only [not_or, Nat.not_lt, Bool.not_eq_false] at h
    exact moves_ok HN a b ha hb a2 len cap zs w r2 h.2.2 h.1 h.2.1
end Go.Proofs.Ytdhobgnclmmikaa
