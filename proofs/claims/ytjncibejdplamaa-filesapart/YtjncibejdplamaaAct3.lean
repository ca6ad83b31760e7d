/- octavolaw01.act, kind 3. -/
import Derived.Test.YtjncibejdplamaaActIn
namespace Go.Proofs.Ytjncibejdplamaa
open Go.RowKit Go.Maps
set_option maxRecDepth 100000
set_option linter.unusedVariables false
set_option linter.unusedSimpArgs false
set_option maxHeartbeats 4000000 in
theorem act_3 {base : Nat} {w : World} {b bm : Nat} {nm0 dat : List UInt8} {n : Int} {rb : Nat} (h : AP (fun i => i = rb) base b bm nm0 dat n w) (hrb : w.heap[rb]? = some rblk) (hr0 : base ≤ rb) (hb : base ≤ w.heap.size) (h0 : 0 ≤ n) (h1 : n ≤ 1000000) (nm to : ByteArray) (hne : nm.data.toList ≠ nm0) (hne2 : to.data.toList ≠ nm0) (hn : nm.size ≤ maxLen) (ht : to.size ≤ maxLen) (n1 m1 : Int) (dv : Value) :
    Calls Try.prog 10 #[ptrOf b, ptrOf rb, .agg #[.int .i64 3, .string nm, .string to, .int .i64 n1, .int .i64 m1, dv]] w (Ad base b bm nm0 dat n w) := by
  have HI := act_in h hrb hb (.int .i64 3) (.string nm) (.string to) (.int .i64 n1) (.int .i64 m1) dv
  have C1 := rename_ap HI.out.1 HI.out.2.2.2.1 h0 h1 nm to hne hne2 hn ht
  have HN : Hid (base ≤ rb ∧ nm.size ≤ maxLen ∧ to.size ≤ maxLen) := ⟨hr0, hn, ht⟩
  clear h hrb hr0 hb h0 h1 hne hne2 hn ht
  go_enter Try.func10, Try.ntmps10
  go_wp2_with fail
  refine wp_region_d (fun u => u.heap[w.heap.size]? = some (.cells #[.int .i64 3, .string nm, .string to, .int .i64 n1, .int .i64 m1, dv] 31 (0, 0))) (fun _ => false) (by kernel_rfl) ?_
  have HS : Hid (((w.alloc (.cells #[.int .i64 3, .string nm, .string to, .int .i64 n1, .int .i64 m1, dv] 31)).drew).heap[w.heap.size]? = some (.cells #[.int .i64 3, .string nm, .string to, .int .i64 n1, .int .i64 m1, dv] 31 (0, 0))) := HI.out.2.1
  refine wpAnyD_pured (i := 0) (v := ptrOf b) rfl rfl (by kernel_rfl) (by kernel_rfl) (by kernel_rfl) (fun _ _ _ h => h) (by rfl) (by intro u; go_simp) ?_
  try simp only [Act.put, List.setIfInBounds_toArray, List.set_cons_zero, List.set_cons_succ]
  refine wpAnyD_pured (i := 1) (v := .pointer (some ⟨w.heap.size, 1, none⟩)) rfl rfl (by kernel_rfl) (by kernel_rfl) (by kernel_rfl) (fun _ _ _ h => h) (by rfl) (by intro u; go_simp) ?_
  try simp only [Act.put, List.setIfInBounds_toArray, List.set_cons_zero, List.set_cons_succ]
  refine wpAnyD_loadd (i := 2) (v := .string nm) rfl rfl (by kernel_rfl) (by kernel_rfl) (by kernel_rfl) (by kernel_rfl) (fun _ _ _ h => h) (by rfl) (fun u hSu => exec_ld9 rfl rfl (acell hSu).2.1) (HS.out) ?_
  try simp only [Act.put, List.setIfInBounds_toArray, List.set_cons_zero, List.set_cons_succ]
  refine wpAnyD_pured (i := 3) (v := .pointer (some ⟨w.heap.size, 2, none⟩)) rfl rfl (by kernel_rfl) (by kernel_rfl) (by kernel_rfl) (fun _ _ _ h => h) (by rfl) (by intro u; go_simp) ?_
  try simp only [Act.put, List.setIfInBounds_toArray, List.set_cons_zero, List.set_cons_succ]
  refine wpAnyD_loadd (i := 4) (v := .string to) rfl rfl (by kernel_rfl) (by kernel_rfl) (by kernel_rfl) (by kernel_rfl) (fun _ _ _ h => h) (by rfl) (fun u hSu => exec_ld9 rfl rfl (acell hSu).2.2.1) (HS.out) ?_
  try simp only [Act.put, List.setIfInBounds_toArray, List.set_cons_zero, List.set_cons_succ]
  refine wpAnyD_pured (i := 6) (v := ptrOf rb) rfl rfl (by kernel_rfl) (by kernel_rfl) (by kernel_rfl) (fun _ _ _ h => h) (by rfl) (by intro u; go_simp) ?_
  try simp only [Act.put, List.setIfInBounds_toArray, List.set_cons_zero, List.set_cons_succ]
  refine wpAnyD_pured (i := 7) (v := .pointer (some ⟨w.heap.size, 1, none⟩)) rfl rfl (by kernel_rfl) (by kernel_rfl) (by kernel_rfl) (fun _ _ _ h => h) (by rfl) (by intro u; go_simp) ?_
  try simp only [Act.put, List.setIfInBounds_toArray, List.set_cons_zero, List.set_cons_succ]
  refine wpAnyD_loadd (i := 8) (v := .string nm) rfl rfl (by kernel_rfl) (by kernel_rfl) (by kernel_rfl) (by kernel_rfl) (fun _ _ _ h => h) (by rfl) (fun u hSu => exec_ld9 rfl rfl (acell hSu).2.1) (HS.out) ?_
  try simp only [Act.put, List.setIfInBounds_toArray, List.set_cons_zero, List.set_cons_succ]
  refine wpAnyD_pured (i := 9) (v := .pointer (some ⟨w.heap.size, 2, none⟩)) rfl rfl (by kernel_rfl) (by kernel_rfl) (by kernel_rfl) (fun _ _ _ h => h) (by rfl) (by intro u; go_simp) ?_
  try simp only [Act.put, List.setIfInBounds_toArray, List.set_cons_zero, List.set_cons_succ]
  refine wpAnyD_loadd (i := 10) (v := .string to) rfl rfl (by kernel_rfl) (by kernel_rfl) (by kernel_rfl) (by kernel_rfl) (fun _ _ _ h => h) (by rfl) (fun u hSu => exec_ld9 rfl rfl (acell hSu).2.2.1) (HS.out) ?_
  try simp only [Act.put, List.setIfInBounds_toArray, List.set_cons_zero, List.set_cons_succ]
  refine wpAnyD_one (i := 5) (by kernel_rfl) rfl ?_
  intro K hK
  go_simp
  refine C1.mono ?_
  rintro e w2 ⟨⟨z2, rfl⟩, a2, b2⟩
  have H2 : Hid ((AP (K2 rb w.heap.size) base b bm nm0 dat n w2 ∨ AP (K2 rb w.heap.size) base b bm nm0 dat (n + 1) w2) ∧ Below base w w2) := ⟨a2, HI.out.2.2.2.2.1.trans b2.below⟩
  have HS2 : Hid (w2.heap[w.heap.size]? = some (.cells #[.int .i64 3, .string nm, .string to, .int .i64 n1, .int .i64 m1, dv] 31 (0, 0)) ∧ w2.heap[rb]? = some rblk) := ⟨(b2.keep _ (.inr rfl)).trans HI.out.2.1, (b2.keep _ (.inl rfl)).trans HI.out.2.2.1⟩
  have C2 := rrename0 HS2.out.2 nm to HN.out.2.1 HN.out.2.2
  clear a2 b2 C1
  refine hK _ _ (.inr fun _ => HS2.out.1) ?_
  clear hK
  try simp only [Act.put, List.setIfInBounds_toArray, List.set_cons_zero, List.set_cons_succ]
  refine wpAnyD_one (i := 11) (by kernel_rfl) rfl ?_
  intro K hK
  go_simp
  refine C2.mono ?_
  rintro e w3 ⟨z3, rfl, g3⟩
  subst g3
  have H3 : Hid (((AP (K2 rb w.heap.size) base b bm nm0 dat n w3 ∨ AP (K2 rb w.heap.size) base b bm nm0 dat (n + 1) w3) ∧ Below base w w3) ∧ w3.heap[w.heap.size]? = some (.cells #[.int .i64 3, .string nm, .string to, .int .i64 n1, .int .i64 m1, dv] 31 (0, 0))) := ⟨H2.out, HS2.out.1⟩
  clear C2 H2 HS2
  refine hK _ _ (.inr fun _ => H3.out.2) ?_
  clear hK
  try simp only [Act.put, List.setIfInBounds_toArray, List.set_cons_zero, List.set_cons_succ]
  refine wpAnyD_one (i := 12) (by kernel_rfl) rfl ?_
  intro K hK
  go_simp
  refine hK _ _ (.inr fun h => h) ?_
  clear hK
  try simp only [Act.put, List.setIfInBounds_toArray, List.set_cons_zero, List.set_cons_succ]
  refine wpAnyD_one (i := 13) (by kernel_rfl) rfl ?_
  intro K hK
  go_simp
  refine hK _ _ (.inr fun h => h) ?_
  clear hK
  try simp only [Act.put, List.setIfInBounds_toArray, List.set_cons_zero, List.set_cons_succ]
  refine wpAnyD_done (by kernel_rfl) ?_ _
  go_wp2_with fail
  try go_ret
  exact ⟨⟨_, rfl⟩, H3.out.1.1.imp AP.none AP.none, H3.out.1.2⟩

end Go.Proofs.Ytjncibejdplamaa
