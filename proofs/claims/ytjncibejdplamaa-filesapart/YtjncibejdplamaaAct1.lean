/- octavolaw01.act, kind 1. -/
import Derived.Test.YtjncibejdplamaaLendIn
namespace Go.Proofs.Ytjncibejdplamaa
open Go.RowKit Go.Maps
set_option maxRecDepth 100000
set_option linter.unusedVariables false
set_option linter.unusedSimpArgs false
set_option maxHeartbeats 4000000 in
theorem act_1 {base : Nat} {w : World} {b bm : Nat} {nm0 dat : List UInt8} {n : Int} {rb : Nat} (h : AP (fun i => i = rb) base b bm nm0 dat n w) (hrb : w.heap[rb]? = some rblk) (hr0 : base ≤ rb) (hb : base ≤ w.heap.size) (h0 : 0 ≤ n) (h1 : n ≤ 1000000) (nm to : ByteArray) (hne : nm.data.toList ≠ nm0) (hn : nm.size ≤ maxLen) (n1 m1 : Int) (da : Option Addr) (dn dc : Nat) {l : List UInt8} (hd : DB base w (.slice da dn dc) l) (hl : l.length ≤ 140737488351232) :
    Calls Try.prog 10 #[ptrOf b, ptrOf rb, .agg #[.int .i64 1, .string nm, .string to, .int .i64 n1, .int .i64 m1, .slice da dn dc]] w (Ad base b bm nm0 dat n w) := by
  have L := Byt.lend_any (w := w.alloc (.cells #[.int .i64 1, .string nm, .string to, .int .i64 n1, .int .i64 m1, .slice da dn dc] 31)) ((hd.below ((Below.refl base w).alloc hb _)).bts) (by omega)
  generalize hq : (w.alloc (.cells #[.int .i64 1, .string nm, .string to, .int .i64 n1, .int .i64 m1, .slice da dn dc] 31)).heap.size = q at L
  have HQ0 : w.heap.size + 1 = q := by rw [← hq]; simp
  have HQ : Hid (w.heap.size + 1 = q) := HQ0
  clear HQ0
  have HIN : Hid (AP (fun i => i = rb) base b bm nm0 dat n w ∧ w.heap[rb]? = some rblk ∧ base ≤ w.heap.size ∧ base ≤ rb ∧ 0 ≤ n ∧ n ≤ 1000000 ∧ nm.data.toList ≠ nm0 ∧ nm.size ≤ maxLen ∧ DB base w (.slice da dn dc) l ∧ l.length ≤ 140737488351232) := ⟨h, hrb, hb, hr0, h0, h1, hne, hn, hd, hl⟩
  clear hq h hrb hb hr0 h0 h1 hne hn hd hl
  go_enter Try.func10, Try.ntmps10
  go_wp2_with fail
  refine L.mono ?_
  rintro e w2 ⟨rfl, o2, b2⟩
  have H2 : Hid (LI base b bm nm0 dat n rb w.heap.size q #[.int .i64 1, .string nm, .string to, .int .i64 n1, .int .i64 m1, .slice da dn dc] l w w2) := lend_in HIN.out.1 HIN.out.2.1 HIN.out.2.2.1 _ HQ.out o2 b2
  clear o2 b2 L
  have k0 := (acell H2.out.2.1).1
  go_wp2_with fail
  clear k0
  have HS : Hid (w2.drew.heap[w.heap.size]? = some (.cells #[.int .i64 1, .string nm, .string to, .int .i64 n1, .int .i64 m1, .slice da dn dc] 31 (0, 0))) := H2.out.2.1
  have C1 := append_ap (H2.out.1.drew) H2.out.2.2.2.1 HIN.out.2.2.2.2.1 HIN.out.2.2.2.2.2.1 nm HIN.out.2.2.2.2.2.2.1 HIN.out.2.2.2.2.2.2.2.1 l (.slice (some ⟨q, 1, none⟩) l.length (l.length + 1)) (lent_src H2.out HIN.out.2.2.2.2.2.2.2.2.2) (by have := HIN.out.2.2.2.2.2.2.2.2.2; simp only [maxLen]; omega)
  refine wp_region_d (fun u => u.heap[w.heap.size]? = some (.cells #[.int .i64 1, .string nm, .string to, .int .i64 n1, .int .i64 m1, .slice da dn dc] 31 (0, 0))) (fun _ => false) (by kernel_rfl) ?_
  refine wpAnyD_pured (i := 0) (v := ptrOf b) rfl rfl (by kernel_rfl) (by kernel_rfl) (by kernel_rfl) (fun _ _ _ h => h) (by rfl) (by intro u; go_simp) ?_
  try simp only [Act.put, List.setIfInBounds_toArray, List.set_cons_zero, List.set_cons_succ]
  refine wpAnyD_pured (i := 1) (v := .pointer (some ⟨w.heap.size, 1, none⟩)) rfl rfl (by kernel_rfl) (by kernel_rfl) (by kernel_rfl) (fun _ _ _ h => h) (by rfl) (by intro u; go_simp) ?_
  try simp only [Act.put, List.setIfInBounds_toArray, List.set_cons_zero, List.set_cons_succ]
  refine wpAnyD_loadd (i := 2) (v := .string nm) rfl rfl (by kernel_rfl) (by kernel_rfl) (by kernel_rfl) (by kernel_rfl) (fun _ _ _ h => h) (by rfl) (fun u hSu => exec_ld9 rfl rfl (acell hSu).2.1) (HS.out) ?_
  try simp only [Act.put, List.setIfInBounds_toArray, List.set_cons_zero, List.set_cons_succ]
  refine wpAnyD_pured (i := 3) (v := .slice (some ⟨q, 1, none⟩) l.length (l.length + 1)) rfl rfl (by kernel_rfl) (by kernel_rfl) (by kernel_rfl) (fun _ _ _ h => h) (by rfl) (by intro u; go_simp) ?_
  try simp only [Act.put, List.setIfInBounds_toArray, List.set_cons_zero, List.set_cons_succ]
  refine wpAnyD_pured (i := 5) (v := ptrOf rb) rfl rfl (by kernel_rfl) (by kernel_rfl) (by kernel_rfl) (fun _ _ _ h => h) (by rfl) (by intro u; go_simp) ?_
  try simp only [Act.put, List.setIfInBounds_toArray, List.set_cons_zero, List.set_cons_succ]
  refine wpAnyD_pured (i := 6) (v := .pointer (some ⟨w.heap.size, 1, none⟩)) rfl rfl (by kernel_rfl) (by kernel_rfl) (by kernel_rfl) (fun _ _ _ h => h) (by rfl) (by intro u; go_simp) ?_
  try simp only [Act.put, List.setIfInBounds_toArray, List.set_cons_zero, List.set_cons_succ]
  refine wpAnyD_loadd (i := 7) (v := .string nm) rfl rfl (by kernel_rfl) (by kernel_rfl) (by kernel_rfl) (by kernel_rfl) (fun _ _ _ h => h) (by rfl) (fun u hSu => exec_ld9 rfl rfl (acell hSu).2.1) (HS.out) ?_
  try simp only [Act.put, List.setIfInBounds_toArray, List.set_cons_zero, List.set_cons_succ]
  refine wpAnyD_pured (i := 8) (v := .pointer (some ⟨w.heap.size, 5, none⟩)) rfl rfl (by kernel_rfl) (by kernel_rfl) (by kernel_rfl) (fun _ _ _ h => h) (by rfl) (by intro u; go_simp) ?_
  try simp only [Act.put, List.setIfInBounds_toArray, List.set_cons_zero, List.set_cons_succ]
  refine wpAnyD_loadd (i := 9) (v := .slice da dn dc) rfl rfl (by kernel_rfl) (by kernel_rfl) (by kernel_rfl) (by kernel_rfl) (fun _ _ _ h => h) (by rfl) (fun u hSu => exec_ld29 rfl rfl (acell hSu).2.2.2.2.2) (HS.out) ?_
  try simp only [Act.put, List.setIfInBounds_toArray, List.set_cons_zero, List.set_cons_succ]
  refine wpAnyD_one (i := 4) (by kernel_rfl) rfl ?_
  intro K hK
  go_simp
  refine C1.mono ?_
  rintro e w3 ⟨⟨z2, rfl⟩, a2, b2⟩
  have H3 : Hid ((AP (K3 rb w.heap.size q) base b bm nm0 dat n w3 ∨ AP (K3 rb w.heap.size q) base b bm nm0 dat (n + 1) w3) ∧ Below base w w3 ∧ w3.heap[w.heap.size]? = some (.cells #[.int .i64 1, .string nm, .string to, .int .i64 n1, .int .i64 m1, .slice da dn dc] 31 (0, 0)) ∧ w3.heap[rb]? = some rblk ∧ Byt.Own q w3 (.slice (some ⟨q, 0, none⟩) (l.length + 2) (l.length + 2)) (165 :: (l ++ [90]))) := ⟨a2, H2.out.2.2.2.2.1.drew.trans b2.below, (b2.keep _ (.inr (.inl rfl))).trans H2.out.2.1, (b2.keep _ (.inl rfl)).trans H2.out.2.2.1, H2.out.2.2.2.2.2.of_block fun g hg => by cases hg; exact b2.keep _ (.inr (.inr rfl))⟩
  have C2 := rappend0 H3.out.2.2.2.1 nm HIN.out.2.2.2.2.2.2.2.1 (.slice da dn dc)
  clear a2 b2 C1
  refine hK _ _ (.inr fun _ => H3.out.2.2.1) ?_
  clear hK
  try simp only [Act.put, List.setIfInBounds_toArray, List.set_cons_zero, List.set_cons_succ]
  refine wpAnyD_one (i := 10) (by kernel_rfl) rfl ?_
  intro K hK
  go_simp
  refine C2.mono ?_
  rintro e w4 ⟨z3, rfl, g3⟩
  subst g3
  have H4 : Hid ((AP (K3 rb w.heap.size q) base b bm nm0 dat n w4 ∨ AP (K3 rb w.heap.size q) base b bm nm0 dat (n + 1) w4) ∧ Below base w w4 ∧ w4.heap[w.heap.size]? = some (.cells #[.int .i64 1, .string nm, .string to, .int .i64 n1, .int .i64 m1, .slice da dn dc] 31 (0, 0)) ∧ Byt.Own q w4 (.slice (some ⟨q, 0, none⟩) (l.length + 2) (l.length + 2)) (165 :: (l ++ [90]))) := ⟨H3.out.1, H3.out.2.1, H3.out.2.2.1, H3.out.2.2.2.2⟩
  clear C2 H3
  refine hK _ _ (.inr fun _ => H4.out.2.2.1) ?_
  clear hK
  try simp only [Act.put, List.setIfInBounds_toArray, List.set_cons_zero, List.set_cons_succ]
  refine wpAnyD_one (i := 11) (by kernel_rfl) rfl ?_
  intro K hK
  go_simp
  refine hK _ _ (.inr fun h => h) ?_
  clear hK
  try simp only [Act.put, List.setIfInBounds_toArray, List.set_cons_zero, List.set_cons_succ]
  refine wpAnyD_one (i := 12) (by kernel_rfl) rfl ?_
  intro K hK
  go_simp
  refine hK _ _ (.inr fun h => h) ?_
  clear hK
  try simp only [Act.put, List.setIfInBounds_toArray, List.set_cons_zero, List.set_cons_succ]
  refine wpAnyD_done (by kernel_rfl) ?_ _
  have C3 := Byt.kept_any ((HIN.out.2.2.2.2.2.2.2.2.1.below H4.out.2.1).bts) H4.out.2.2.2 (by have := HIN.out.2.2.2.2.2.2.2.2.2; omega)
  have k5 := (acell H4.out.2.2.1).2.2.2.2.2
  go_wp2_with fail
  refine C3.mono ?_
  rintro e w' ⟨rfl, rfl⟩
  have H5 : Hid ((AP (K3 rb w.heap.size q) base b bm nm0 dat n w4.drew ∨ AP (K3 rb w.heap.size q) base b bm nm0 dat (n + 1) w4.drew) ∧ Below base w w4.drew ∧ ∃ m : List UInt8, m.length = l.length + 2 ∧ Byt.Own q w4.drew (.slice (some ⟨q, 0, none⟩) (l.length + 2) (l.length + 2)) m) := ⟨H4.out.1.imp AP.drew AP.drew, H4.out.2.1.drew, _, by simp, H4.out.2.2.2⟩
  have HL : Hid (base ≤ q ∧ l.length ≤ 140737488351232) := ⟨by have := HQ.out; have := HIN.out.2.2.1; omega, HIN.out.2.2.2.2.2.2.2.2.2⟩
  clear C3 H4 H2 HS
  generalize w4.drew = w5 at *
  go_wp2_with fail
  clear k5 HIN HQ
  have hl2 : l.length ≤ 140737488351232 := HL.out.2
  go_loopw [81] (fun u81 wr => ∃ k : Nat, u81 = .int .i64 k ∧ k ≤ l.length ∧ Hid ((AP (K3 rb w.heap.size q) base b bm nm0 dat n wr ∨ AP (K3 rb w.heap.size q) base b bm nm0 dat (n + 1) wr) ∧ Below base w wr ∧ ∃ m : List UInt8, m.length = l.length + 2 ∧ Byt.Own q wr (.slice (some ⟨q, 0, none⟩) (l.length + 2) (l.length + 2)) m)) (fun u81 _ => l.length - (intOf u81).toNat)
  case atStart => exact ⟨0, rfl, by omega, H5⟩
  case round =>
    obtain ⟨k, rfl, hk, HD⟩ := hrel
    clear H5
    by_cases hlt : k < l.length
    · obtain ⟨aD, bD, m, hm, oD⟩ := HD.out
      obtain ⟨g1, k1, e1, hg1, c1, f1, o1⟩ := Byt.own_store oD (p := 1 + k) (by omega) 9
      simp only [Value.slice.injEq, Option.some.injEq, Addr.mk.injEq] at e1
      obtain ⟨⟨hgq, -, -⟩, -, -⟩ := e1
      rw [← hgq] at c1 f1 o1
      have o1' : Byt.Own q (wr.setCell ⟨q, 1 + k, none⟩ (.int .u8 9)) (.slice (some ⟨q, 0, none⟩) (l.length + 2) (l.length + 2)) (m.set (1 + k) 9) := o1
      have HE : Hid ((AP (K3 rb w.heap.size q) base b bm nm0 dat n (wr.setCell ⟨q, 1 + k, none⟩ (.int .u8 9)) ∨ AP (K3 rb w.heap.size q) base b bm nm0 dat (n + 1) (wr.setCell ⟨q, 1 + k, none⟩ (.int .u8 9))) ∧ Below base w (wr.setCell ⟨q, 1 + k, none⟩ (.int .u8 9)) ∧ ∃ m : List UInt8, m.length = l.length + 2 ∧ Byt.Own q (wr.setCell ⟨q, 1 + k, none⟩ (.int .u8 9)) (.slice (some ⟨q, 0, none⟩) (l.length + 2) (l.length + 2)) m) :=
        ⟨aD.imp (fun h => h.other (.inr (.inr rfl)) (set_grown _ _ _ _)) (fun h => h.other (.inr (.inr rfl)) (set_grown _ _ _ _)), bD.setCell HL.out.1 _, _, by rw [List.length_set]; exact hm, o1'⟩
      generalize m[1 + k].toNat = z at c1
      clear HD aD bD hm oD o1 o1' hg1 hgq
      go_wp2
      go_roundw
      case rel => exact ⟨k + 1, by go_num, by omega, HE⟩
      case measure => simp [intOf]; omega
    · go_wp2
      go_ret
      exact ⟨⟨_, rfl⟩, HD.out.1.imp AP.none AP.none, HD.out.2.1⟩

end Go.Proofs.Ytjncibejdplamaa
