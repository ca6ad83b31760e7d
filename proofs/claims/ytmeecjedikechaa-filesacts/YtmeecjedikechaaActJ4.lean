/- octavolaw01.act, kind 4: both worlds stay alike. -/
import Derived.Test.YtmeecjedikechaaJAct
namespace Go.Proofs.Ytmeecjedikechaa
open Go.RowKit Go.Maps Go.Sort
set_option maxRecDepth 100000
set_option linter.unusedVariables false
set_option linter.unusedSimpArgs false
set_option maxHeartbeats 4000000 in
theorem actJ_4 {K : Nat → Prop} {base : Nat} {w : World} {b bm rb : Nat} {r : RS} {P : List PF} (h : JA K base b bm rb r P w) (nm to : ByteArray) (n1 m1 : Int) (hn : nm.size ≤ maxLen) (dv : Value) :
    Calls Try.prog 10 #[ptrOf b, ptrOf rb, .agg #[.int .i64 4, .string nm, .string to, .int .i64 n1, .int .i64 m1, dv]] w (AdJ base b bm rb w) := by
  have HI := act_inJ h #[.int .i64 4, .string nm, .string to, .int .i64 n1, .int .i64 m1, dv]
  have C1 := HI.out.1.prog (t := removeP nm r P) remove_good (fun s D F hS hL hb => remove_J hS hL hb nm hn)
  have HN : Hid (nm.size ≤ maxLen) := hn
  have HZ : ∀ z : Int, (z == z) = true := by simp
  clear h hn
  go_enter Try.func10, Try.ntmps10
  go_wp2_with fail
  refine wp_region_d (fun u => u.heap[w.heap.size]? = some (.cells #[.int .i64 4, .string nm, .string to, .int .i64 n1, .int .i64 m1, dv] 31 (0, 0))) (fun _ => false) (by kernel_rfl) ?_
  have HS : Hid (((w.alloc (.cells #[.int .i64 4, .string nm, .string to, .int .i64 n1, .int .i64 m1, dv] 31)).drew).heap[w.heap.size]? = some (.cells #[.int .i64 4, .string nm, .string to, .int .i64 n1, .int .i64 m1, dv] 31 (0, 0))) := HI.out.2.1
  refine wpAnyD_pured (i := 0) (v := ptrOf b) rfl rfl (by kernel_rfl) (by kernel_rfl) (by kernel_rfl) (fun _ _ _ h => h) (by rfl) (by intro u; go_simp) ?_
  try simp only [Act.put, List.setIfInBounds_toArray, List.set_cons_zero, List.set_cons_succ]
  refine wpAnyD_pured (i := 1) (v := .pointer (some ⟨w.heap.size, 1, none⟩)) rfl rfl (by kernel_rfl) (by kernel_rfl) (by kernel_rfl) (fun _ _ _ h => h) (by rfl) (by intro u; go_simp) ?_
  try simp only [Act.put, List.setIfInBounds_toArray, List.set_cons_zero, List.set_cons_succ]
  refine wpAnyD_loadd (i := 2) (v := .string nm) rfl rfl (by kernel_rfl) (by kernel_rfl) (by kernel_rfl) (by kernel_rfl) (fun _ _ _ h => h) (by rfl) (fun u hSu => exec_ld9 rfl rfl (acell hSu).2.1) (HS.out) ?_
  try simp only [Act.put, List.setIfInBounds_toArray, List.set_cons_zero, List.set_cons_succ]
  refine wpAnyD_pured (i := 4) (v := ptrOf rb) rfl rfl (by kernel_rfl) (by kernel_rfl) (by kernel_rfl) (fun _ _ _ h => h) (by rfl) (by intro u; go_simp) ?_
  try simp only [Act.put, List.setIfInBounds_toArray, List.set_cons_zero, List.set_cons_succ]
  refine wpAnyD_pured (i := 5) (v := .pointer (some ⟨w.heap.size, 1, none⟩)) rfl rfl (by kernel_rfl) (by kernel_rfl) (by kernel_rfl) (fun _ _ _ h => h) (by rfl) (by intro u; go_simp) ?_
  try simp only [Act.put, List.setIfInBounds_toArray, List.set_cons_zero, List.set_cons_succ]
  refine wpAnyD_loadd (i := 6) (v := .string nm) rfl rfl (by kernel_rfl) (by kernel_rfl) (by kernel_rfl) (by kernel_rfl) (fun _ _ _ h => h) (by rfl) (fun u hSu => exec_ld9 rfl rfl (acell hSu).2.1) (HS.out) ?_
  try simp only [Act.put, List.setIfInBounds_toArray, List.set_cons_zero, List.set_cons_succ]
  refine wpAnyD_one (i := 3) (by kernel_rfl) rfl ?_
  intro K hK
  go_simp
  refine C1.mono ?_
  rintro e w2 ⟨rfl, j2, b2⟩
  have H2 : Hid (Below base w w2) := HI.out.2.2.1.trans b2.below
  have HS2 : Hid (w2.heap[w.heap.size]? = some (.cells #[.int .i64 4, .string nm, .string to, .int .i64 n1, .int .i64 m1, dv] 31 (0, 0)) ∧ base ≤ w2.heap.size) := ⟨(b2.keep _ (.inr rfl)).trans HI.out.2.1, Nat.le_trans HI.out.2.2.2.2.2 b2.size⟩
  have C2 := JM.ref (t := removeP nm r P) j2 (fun hR h16 c0 cm k0 km _ _ => rremoveP hR (by omega) c0 cm k0 km nm HN.out)
  clear j2 b2 C1
  refine hK _ _ (.inr fun _ => HS2.out.1) ?_
  clear hK
  try simp only [Act.put, List.setIfInBounds_toArray, List.set_cons_zero, List.set_cons_succ]
  refine wpAnyD_one (i := 7) (by kernel_rfl) rfl ?_
  intro K hK
  go_simp
  refine C2.mono ?_
  rintro e w3 ⟨rfl, j3, g3⟩
  have H3 : Hid ((∃ K r P, JA K base b bm rb r P w3) ∧ Below base w w3 ∧ w3.heap[w.heap.size]? = some (.cells #[.int .i64 4, .string nm, .string to, .int .i64 n1, .int .i64 m1, dv] 31 (0, 0))) := ⟨⟨_, _, _, j3⟩, H2.out.grown g3 HS2.out.2 (fun k hk => by cases hk; exact HI.out.2.2.2.2.1), (g3.block _ (lt_of_some HS2.out.1) (by have := HI.out.2.2.2.1; simp; omega)).trans HS2.out.1⟩
  clear C2 H2 HS2 g3 j3
  refine hK _ _ (.inr fun _ => H3.out.2.2) ?_
  clear hK
  try simp only [Act.put, List.setIfInBounds_toArray, List.set_cons_zero, List.set_cons_succ]
  refine wpAnyD_one (i := 8) (by kernel_rfl) rfl ?_
  intro K hK
  go_simp
  refine hK _ _ (.inr fun h => h) ?_
  clear hK
  try simp only [Act.put, List.setIfInBounds_toArray, List.set_cons_zero, List.set_cons_succ]
  refine wpAnyD_one (i := 9) (by kernel_rfl) rfl ?_
  intro K hK
  go_simp
  refine hK _ _ (.inr fun h => h) ?_
  clear hK
  try simp only [Act.put, List.setIfInBounds_toArray, List.set_cons_zero, List.set_cons_succ]
  refine wpAnyD_done (by kernel_rfl) ?_ _
  go_wp2_with fail
  try go_ret
  exact ⟨by simp, H3.out.1, H3.out.2.1⟩
end Go.Proofs.Ytmeecjedikechaa
