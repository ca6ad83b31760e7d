/- octavolaw01.act, kind 7, and any other kind: both worlds stay alike. -/
import Derived.Test.YtmeecjedikechaaJB
namespace Go.Proofs.Ytmeecjedikechaa
open Go.RowKit Go.Maps Go.Sort
set_option maxRecDepth 100000
set_option linter.unusedVariables false
set_option linter.unusedSimpArgs false
set_option maxHeartbeats 4000000 in
theorem actJ_7 {K : Nat → Prop} {base : Nat} {w : World} {b bm rb : Nat} {r : RS} {P : List PF} (h : JA K base b bm rb r P w) (nm to : ByteArray) (n1 m1 : Int) (dv : Value) :
    Calls Try.prog 10 #[ptrOf b, ptrOf rb, .agg #[.int .i64 7, .string nm, .string to, .int .i64 n1, .int .i64 m1, dv]] w (AdJ base b bm rb w) := by
  have C1 := (h.box (.cells #[.int .i64 7, .string nm, .string to, .int .i64 n1, .int .i64 m1, dv] 31)).power
  have HB : Hid (Below base w (w.alloc (.cells #[.int .i64 7, .string nm, .string to, .int .i64 n1, .int .i64 m1, dv] 31)) ∧ base ≤ rb) := ⟨(Below.refl base w).alloc h.bas _, h.brb⟩
  clear h
  go_enter Try.func10, Try.ntmps10
  go_wp2_with fail
  refine C1.mono ?_
  rintro e w2 ⟨rfl, b2, ⟨fv, hB⟩, j2⟩
  have H2 : Hid (Below base w (w2.setCell ⟨rb, 1, none⟩ (.bool false)) ∧ ∃ K r P, JA K base b bm rb r P (w2.setCell ⟨rb, 1, none⟩ (.bool false))) := ⟨(HB.out.1.trans b2.below).setCell HB.out.2 _, _, _, _, j2⟩
  obtain ⟨⟨-, c1, -⟩, f1⟩ := rbS_cells hB
  have f2 := f1 1
  clear b2 j2 C1 hB
  go_wp2
  go_ret
  exact ⟨rfl, H2.out.2, H2.out.1⟩
set_option maxHeartbeats 4000000 in
theorem actJ_x {K : Nat → Prop} {base : Nat} {w : World} {b bm rb : Nat} {r : RS} {P : List PF} (h : JA K base b bm rb r P w) (k : Int) (hk : k < 0 ∨ 8 < k) (nm to : ByteArray) (n1 m1 : Int) (dv : Value) :
    Calls Try.prog 10 #[ptrOf b, ptrOf rb, .agg #[.int .i64 k, .string nm, .string to, .int .i64 n1, .int .i64 m1, dv]] w (AdJ base b bm rb w) := by
  have HP : Hid (∀ o, (∃ K r P, JA K base b bm rb r P (w.alloc o)) ∧ Below base w (w.alloc o)) := fun o => ⟨⟨_, _, _, h.box o⟩, (Below.refl base w).alloc h.bas _⟩
  clear h
  have e0 : k ≠ 0 := by omega
  have e1 : k ≠ 1 := by omega
  have e2 : k ≠ 2 := by omega
  have e3 : k ≠ 3 := by omega
  have e4 : k ≠ 4 := by omega
  have e5 : k ≠ 5 := by omega
  have e6 : k ≠ 6 := by omega
  have e7 : k ≠ 7 := by omega
  have e8 : k ≠ 8 := by omega
  clear hk
  go_enter Try.func10, Try.ntmps10
  go_wp2
  go_ret
  exact ⟨rfl, (HP.out _).1, (HP.out _).2⟩
end Go.Proofs.Ytmeecjedikechaa
