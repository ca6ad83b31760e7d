/- octavolaw01.act, kind 5: both worlds stay alike. -/
import Derived.Test.YtmeecjedikechaaJB
namespace Go.Proofs.Ytmeecjedikechaa
open Go.RowKit Go.Maps Go.Sort
set_option maxRecDepth 100000
set_option linter.unusedVariables false
set_option linter.unusedSimpArgs false
/-- What is lent lies in memory that is kept, and that the reference has nothing to do with. -/
def T5 (base b bm rb q n : Nat) (w u : World) : Prop :=
  ∃ K Kr r P, JB K Kr base b bm rb r P u ∧ Below base w u ∧ (∃ m : List UInt8, m.length = n + 2 ∧ Byt.Own q u (.slice (some ⟨q, 0, none⟩) (n + 2) (n + 2)) m) ∧ K q ∧ ¬ Kr q
set_option maxHeartbeats 4000000 in
theorem actJ_5 {K : Nat → Prop} {base : Nat} {w : World} {b bm rb : Nat} {r : RS} {P : List PF} (h : JA K base b bm rb r P w) (nm to : ByteArray) (n1 m1 : Int) (hn : nm.size ≤ maxLen) (da : Option Addr) (dc : Nat) {l : List UInt8} (hd : DB base w (.slice da l.length dc) l) (hl : l.length ≤ 140737488351232) :
    Calls Try.prog 10 #[ptrOf b, ptrOf rb, .agg #[.int .i64 5, .string nm, .string to, .int .i64 n1, .int .i64 m1, .slice da l.length dc]] w (AdJ base b bm rb w) := by
  have L := Byt.lend_any (w := w.alloc (.cells #[.int .i64 5, .string nm, .string to, .int .i64 n1, .int .i64 m1, .slice da l.length dc] 31)) ((hd.below ((Below.refl base w).alloc h.bas _)).bts) (by omega)
  generalize hq : (w.alloc (.cells #[.int .i64 5, .string nm, .string to, .int .i64 n1, .int .i64 m1, .slice da l.length dc] 31)).heap.size = q at L
  have HQ0 : w.heap.size + 1 = q := by rw [← hq]; simp
  have HQ : Hid (w.heap.size + 1 = q) := HQ0
  clear HQ0
  have HIN : Hid (JA K base b bm rb r P w ∧ nm.size ≤ maxLen ∧ DB base w (.slice da l.length dc) l ∧ l.length ≤ 140737488351232) := ⟨h, hn, hd, hl⟩
  have HJ : Hid (JB (Kg K w.heap.size) K base b bm rb r P (w.alloc (.cells #[.int .i64 5, .string nm, .string to, .int .i64 n1, .int .i64 m1, .slice da l.length dc] 31))) := h.box2 _
  have HB1 : Hid (Below base w (w.alloc (.cells #[.int .i64 5, .string nm, .string to, .int .i64 n1, .int .i64 m1, .slice da l.length dc] 31)) ∧ (w.alloc (.cells #[.int .i64 5, .string nm, .string to, .int .i64 n1, .int .i64 m1, .slice da l.length dc] 31)).heap[w.heap.size]? = some (.cells #[.int .i64 5, .string nm, .string to, .int .i64 n1, .int .i64 m1, .slice da l.length dc] 31 (0, 0)) ∧ base ≤ w.heap.size ∧ (∀ i, K i → i < w.heap.size) ∧ rb < w.heap.size ∧ base ≤ rb) := ⟨(Below.refl base w).alloc h.bas _, heap_alloc_new w _, h.bas, h.jb.kb, h.lt, h.brb⟩
  clear hq h hn hd hl
  go_enter Try.func10, Try.ntmps10
  go_wp2_with fail
  refine L.mono ?_
  rintro e w2 ⟨rfl, o2, b2⟩
  have hqs : (w.alloc (.cells #[.int .i64 5, .string nm, .string to, .int .i64 n1, .int .i64 m1, .slice da l.length dc] 31)).heap.size = q := by simp; exact HQ.out
  have j2 := HJ.out.up (w' := w2) (by rw [hqs]; exact b2)
  have H2 : Hid (w2.heap[w.heap.size]? = some (.cells #[.int .i64 5, .string nm, .string to, .int .i64 n1, .int .i64 m1, .slice da l.length dc] 31 (0, 0)) ∧ Below base w w2 ∧ Byt.Own q w2 (.slice (some ⟨q, 0, none⟩) (l.length + 2) (l.length + 2)) (165 :: (l ++ [90])) ∧ Nw (Kg K w.heap.size) (w.alloc (.cells #[.int .i64 5, .string nm, .string to, .int .i64 n1, .int .i64 m1, .slice da l.length dc] 31)) w2 q ∧ Nw (Kg K w.heap.size) (w.alloc (.cells #[.int .i64 5, .string nm, .string to, .int .i64 n1, .int .i64 m1, .slice da l.length dc] 31)) w2 w.heap.size ∧ q < w2.heap.size) := by
    have hlt := (o2.lt (g := q) rfl).2
    exact ⟨(b2.block _ (by have := HQ.out; omega)).trans HB1.out.2.1, HB1.out.1.trans (b2.mono (by have := HQ.out; have := HB1.out.2.2.1; omega)), o2, .inr ⟨by omega, hlt⟩, .inl (.inr rfl), hlt⟩
  clear o2 b2 L hqs
  have HJ2 : Hid (JB (Nw (Kg K w.heap.size) (w.alloc (.cells #[.int .i64 5, .string nm, .string to, .int .i64 n1, .int .i64 m1, .slice da l.length dc] 31)) w2) K base b bm rb r P w2.drew) := j2.drew
  clear j2 HJ
  generalize Nw (Kg K w.heap.size) (w.alloc (.cells #[.int .i64 5, .string nm, .string to, .int .i64 n1, .int .i64 m1, .slice da l.length dc] 31)) w2 = K2 at *
  have k0 := (acell H2.out.1).1
  go_wp2_with fail
  clear k0
  have HS : Hid (w2.drew.heap[w.heap.size]? = some (.cells #[.int .i64 5, .string nm, .string to, .int .i64 n1, .int .i64 m1, .slice da l.length dc] 31 (0, 0))) := H2.out.1
  have HSrc : Hid (∀ s D F, S K2 base w2.drew b bm s D F → SrcB w2.drew b (.slice (some ⟨q, 1, none⟩) l.length (l.length + 1)) l) := fun s D F hS => by
    have hb : q ≠ b := fun e => hS.hb.2 (e ▸ H2.out.2.2.2.1)
    rcases Byt.lent_part H2.out.2.2.1 HIN.out.2.2.2 with ⟨h1, h2⟩ | ⟨a, cap, h1, h2, h3, h4⟩
    · simp at h1
    · simp only [Value.slice.injEq, Option.some.injEq] at h1
      obtain ⟨rfl, -, rfl⟩ := h1
      exact .inr ⟨_, _, rfl, fun _ => hb, h4⟩
  have C1 := HJ2.out.prog (t := placeP nm l r P) place_good (fun s D F hS hL hb => place_J hS hL hb nm HIN.out.2.1 (HSrc.out s D F hS) (by have := HIN.out.2.2.2; simp only [maxLen]; omega))
  refine wp_region_d (fun u => u.heap[w.heap.size]? = some (.cells #[.int .i64 5, .string nm, .string to, .int .i64 n1, .int .i64 m1, .slice da l.length dc] 31 (0, 0))) (fun _ => false) (by kernel_rfl) ?_
  refine wpAnyD_pured (i := 0) (v := ptrOf b) rfl rfl (by kernel_rfl) (by kernel_rfl) (by kernel_rfl) (fun _ _ _ h => h) (by rfl) (by intro u; go_simp) ?_
  try simp only [Act.put, List.setIfInBounds_toArray, List.set_cons_zero, List.set_cons_succ]
  refine wpAnyD_pured (i := 1) (v := .pointer (some ⟨w.heap.size, 1, none⟩)) rfl rfl (by kernel_rfl) (by kernel_rfl) (by kernel_rfl) (fun _ _ _ h => h) (by rfl) (by intro u; go_simp) ?_
  try simp only [Act.put, List.setIfInBounds_toArray, List.set_cons_zero, List.set_cons_succ]
  refine wpAnyD_loadd (i := 2) (v := .string nm) rfl rfl (by kernel_rfl) (by kernel_rfl) (by kernel_rfl) (by kernel_rfl) (fun _ _ _ h => h) (by rfl) (fun u hSu => exec_ld9 rfl rfl (acell hSu).2.1) (HS.out) ?_
  try simp only [Act.put, List.setIfInBounds_toArray, List.set_cons_zero, List.set_cons_succ]
  refine wpAnyD_pured (i := 3) (v := .slice (some ⟨q, 1, none⟩) l.length (l.length + 1)) rfl rfl (by kernel_rfl) (by kernel_rfl) (by kernel_rfl) (fun _ _ _ h => h) (by rfl) (by intro u; go_simp) ?_
  try simp only [Act.put, List.setIfInBounds_toArray, List.set_cons_zero, List.set_cons_succ]
  refine wpAnyD_pured (i := 5) (v := ptrOf rb) rfl rfl (by kernel_rfl) (by kernel_rfl) (by kernel_rfl) (fun _ _ _ h => h) (by rfl) (by intro u; go_simp) ?_
  try simp only [Act.put, List.setIfInBounds_toArray, List.set_cons_zero, List.set_cons_succ]
  refine wpAnyD_pured (i := 6) (v := .pointer (some ⟨w.heap.size, 1, none⟩)) rfl rfl (by kernel_rfl) (by kernel_rfl) (by kernel_rfl) (fun _ _ _ h => h) (by rfl) (by intro u; go_simp) ?_
  try simp only [Act.put, List.setIfInBounds_toArray, List.set_cons_zero, List.set_cons_succ]
  refine wpAnyD_loadd (i := 7) (v := .string nm) rfl rfl (by kernel_rfl) (by kernel_rfl) (by kernel_rfl) (by kernel_rfl) (fun _ _ _ h => h) (by rfl) (fun u hSu => exec_ld9 rfl rfl (acell hSu).2.1) (HS.out) ?_
  try simp only [Act.put, List.setIfInBounds_toArray, List.set_cons_zero, List.set_cons_succ]
  refine wpAnyD_pured (i := 8) (v := .pointer (some ⟨w.heap.size, 5, none⟩)) rfl rfl (by kernel_rfl) (by kernel_rfl) (by kernel_rfl) (fun _ _ _ h => h) (by rfl) (by intro u; go_simp) ?_
  try simp only [Act.put, List.setIfInBounds_toArray, List.set_cons_zero, List.set_cons_succ]
  refine wpAnyD_loadd (i := 9) (v := .slice da l.length dc) rfl rfl (by kernel_rfl) (by kernel_rfl) (by kernel_rfl) (by kernel_rfl) (fun _ _ _ h => h) (by rfl) (fun u hSu => exec_ld29 rfl rfl (acell hSu).2.2.2.2.2) (HS.out) ?_
  try simp only [Act.put, List.setIfInBounds_toArray, List.set_cons_zero, List.set_cons_succ]
  refine wpAnyD_one (i := 4) (by kernel_rfl) rfl ?_
  intro K hK
  go_simp
  refine C1.mono ?_
  rintro e w3 ⟨rfl, j3, b3⟩
  have H3 : Hid (w3.heap[w.heap.size]? = some (.cells #[.int .i64 5, .string nm, .string to, .int .i64 n1, .int .i64 m1, .slice da l.length dc] 31 (0, 0)) ∧ Below base w w3 ∧ Byt.Own q w3 (.slice (some ⟨q, 0, none⟩) (l.length + 2) (l.length + 2)) (165 :: (l ++ [90])) ∧ w2.heap.size ≤ w3.heap.size ∧ Byt.Bts w3 (.slice da l.length dc) l) := by
    have hB : Below base w w3 := H2.out.2.1.drew.trans b3.below
    exact ⟨(b3.keep _ H2.out.2.2.2.2.1).trans H2.out.1, hB, H2.out.2.2.1.of_block fun g hg => (by cases hg; exact b3.keep _ H2.out.2.2.2.1), b3.size, (HIN.out.2.2.1.below hB).bts⟩
  have C2 := JN.ref (t := placeP nm l r P) j3 (fun hR h16 c0 cm k0 km => rplaceP hR (by omega) nm HIN.out.2.1 H3.out.2.2.2.2 (by have := HIN.out.2.2.2; simp only [maxLen]; omega))
  clear j3 b3 C1
  refine hK _ _ (.inr fun _ => H3.out.1) ?_
  clear hK
  try simp only [Act.put, List.setIfInBounds_toArray, List.set_cons_zero, List.set_cons_succ]
  refine wpAnyD_one (i := 10) (by kernel_rfl) rfl ?_
  intro K hK
  go_simp
  refine C2.mono ?_
  rintro e w4 ⟨rfl, j4, g4⟩
  have H4 : Hid (w4.heap[w.heap.size]? = some (.cells #[.int .i64 5, .string nm, .string to, .int .i64 n1, .int .i64 m1, .slice da l.length dc] 31 (0, 0)) ∧ Below base w w4 ∧ Byt.Own q w4 (.slice (some ⟨q, 0, none⟩) (l.length + 2) (l.length + 2)) (165 :: (l ++ [90])) ∧ T5 base b bm rb q l.length w w4.drew) := by
    have hB : Below base w w4 := H3.out.2.1.grown g4 (by have := H3.out.2.1.size; have := HB1.out.2.2.1; omega) (fun k hk => by cases hk; exact HB1.out.2.2.2.2.2)
    have hO : Byt.Own q w4 (.slice (some ⟨q, 0, none⟩) (l.length + 2) (l.length + 2)) (165 :: (l ++ [90])) := H3.out.2.2.1.of_block fun g hg => (by cases hg; exact g4.block _ (by have := H2.out.2.2.2.2.2; have := H3.out.2.2.2.1; show q < _; omega) (by have := HQ.out; have := HB1.out.2.2.2.2.1; simp; omega))
    refine ⟨(g4.block _ (lt_of_some H3.out.1) (by have := HB1.out.2.2.2.2.1; simp; omega)).trans H3.out.1, hB, hO, _, _, _, _, j4.drew, hB.drew, ⟨_, by simp, hO⟩, .inl H2.out.2.2.2.1, fun hk => ?_⟩
    rcases hk with hk | hk
    · have := HB1.out.2.2.2.1 q hk; have := HQ.out; omega
    · have := H2.out.2.2.2.2.2; have := H3.out.2.2.2.1; omega
  clear C2 H3 g4 j4
  refine hK _ _ (.inr fun _ => H4.out.1) ?_
  clear hK
  try simp only [Act.put, List.setIfInBounds_toArray, List.set_cons_zero, List.set_cons_succ]
  refine wpAnyD_one (i := 11) (by kernel_rfl) rfl ?_
  intro K hK
  go_simp
  refine hK _ _ (.inr fun h => h) ?_
  clear hK
  try simp only [Act.put, List.setIfInBounds_toArray, List.set_cons_zero, List.set_cons_succ]
  refine wpAnyD_one (i := 12) (by kernel_rfl) rfl ?_
  intro K hK
  go_simp
  refine hK _ _ (.inr fun h => h) ?_
  clear hK
  try simp only [Act.put, List.setIfInBounds_toArray, List.set_cons_zero, List.set_cons_succ]
  refine wpAnyD_done (by kernel_rfl) ?_ _
  have C3 := Byt.kept_any ((HIN.out.2.2.1.below H4.out.2.1).bts) H4.out.2.2.1 HIN.out.2.2.2
  have k5 := (acell H4.out.1).2.2.2.2.2
  have H5 : Hid (T5 base b bm rb q l.length w w4.drew) := H4.out.2.2.2
  have HL : Hid (base ≤ q ∧ l.length ≤ 140737488351232) := ⟨by have := HQ.out; have := HB1.out.2.2.1; omega, HIN.out.2.2.2⟩
  generalize (placeP nm l r P).1 = z at *
  have ez : (z == z) = true := by simp
  clear HJ2 HSrc H2 HS
  go_wp2_with fail
  refine C3.mono ?_
  rintro e w' ⟨rfl, rfl⟩
  clear C3 H4 k5 HIN HQ HB1
  generalize w4.drew = w5 at *
  go_wp2_with fail
  have hl2 : l.length ≤ 140737488351232 := HL.out.2
  go_loopw [81] (fun u81 wr => ∃ k : Nat, u81 = .int .i64 k ∧ k ≤ l.length ∧ Hid (T5 base b bm rb q l.length w wr)) (fun u81 _ => l.length - (intOf u81).toNat)
  case atStart => exact ⟨0, rfl, by omega, H5⟩
  case round =>
    obtain ⟨k, rfl, hk, HD⟩ := hrel
    clear H5
    by_cases hlt : k < l.length
    · obtain ⟨K1, Kr1, r1, P1, j1, bD, ⟨m, hm, oD⟩, kq, nq⟩ := HD.out
      obtain ⟨g1, k1, e1, hg1, c1, f1, o1⟩ := Byt.own_store oD (p := 1 + k) (by omega) 9
      simp only [Value.slice.injEq, Option.some.injEq, Addr.mk.injEq] at e1
      obtain ⟨⟨hgq, -, -⟩, -, -⟩ := e1
      rw [← hgq] at c1 f1 o1
      have o1' : Byt.Own q (wr.setCell ⟨q, 1 + k, none⟩ (.int .u8 9)) (.slice (some ⟨q, 0, none⟩) (l.length + 2) (l.length + 2)) (m.set (1 + k) 9) := o1
      have HE : Hid (T5 base b bm rb q l.length w (wr.setCell ⟨q, 1 + k, none⟩ (.int .u8 9))) :=
        ⟨_, _, _, _, j1.store kq nq (1 + k) _, bD.setCell HL.out.1 _, ⟨_, by rw [List.length_set]; exact hm, o1'⟩, kq, nq⟩
      generalize m[1 + k].toNat = z at c1
      clear HD j1 bD hm oD o1 o1' hg1 hgq kq nq
      go_wp2
      go_roundw
      case rel => exact ⟨k + 1, by go_num, by omega, HE⟩
      case measure => simp [intOf]; omega
    · go_wp2
      go_ret
      obtain ⟨K1, Kr1, r1, P1, j1, bD, _⟩ := HD.out
      exact ⟨rfl, ⟨_, _, _, j1.ja⟩, bD⟩
end Go.Proofs.Ytmeecjedikechaa
