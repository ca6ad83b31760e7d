/- Rename where something is wrong: the world of files stays. -/
import Derived.Test.YtmeecjedikechaaPlace
namespace Go.Proofs.Ytmeecjedikechaa
open Go.RowKit Go.Maps
open Go.WideMaps
set_option linter.unusedVariables false
set_option linter.unusedSimpArgs false

section
variable {K : Nat → Prop} {base : Nat} {w : World} {b bm : Nat} {s : WS} {D : DataW Value} {F : List UInt8 → Option FileS}
set_option maxHeartbeats 1000000 in
theorem rename_badS (h : S K base w b bm s D F) (hbase : base ≤ w.heap.size) (ho : s.off = false) (nm to : ByteArray) (hn : nm.size ≤ maxLen) (ht : to.size ≤ maxLen) (hg : goodB nm = false ∨ goodB to = false) :
    Calls Try.prog 23 #[ptrOf b, .string nm, .string to] w fun e w' => e = .returned (.int .i64 8) ∧ S K base w' b bm s D F ∧ Bel K base w w' := by
  have R := rename_refusal h hbase ho nm to hn ht
  have e8 : refE false [nm, to] = 8 := by rcases hg with e | e <;> simp [refE, e]
  rw [e8] at R
  have HB : Hid (S K base (rnW w b nm to) b bm s D F ∧ Bel K base w (rnW w b nm to)) := ⟨(rnW_facts h hbase nm to).1, (rnW_facts h hbase nm to).2.1⟩
  clear h hg ho hn ht e8
  go_enter Try.func23, Try.ntmps23
  go_wp2_with (go_at_call 43; refine R.mono ?_; rintro e w' ⟨rfl, rfl⟩)
  go_ret
  exact ⟨rfl, HB.out⟩
set_option maxHeartbeats 1000000 in
theorem rename_noneS (h : S K base w b bm s D F) (hbase : base ≤ w.heap.size) (ho : s.off = false) (nm to : ByteArray) (hn : nm.size ≤ maxLen) (ht : to.size ≤ maxLen) (hg : goodB nm = true) (hg' : goodB to = true) (hf : F nm.data.toList = none) :
    Calls Try.prog 23 #[ptrOf b, .string nm, .string to] w fun e w' => e = .returned (.int .i64 6) ∧ S K base w' b bm s D F ∧ Bel K base w w' := by
  have R := rename_refusal h hbase ho nm to hn ht
  have e8 : refE false [nm, to] = 0 := by simp [refE, hg, hg']
  rw [e8] at R
  obtain ⟨hS, hB, -⟩ := rnW_facts h hbase nm to
  have FD := find_none hS ho nm hn hg hf
  have HB : Hid (∀ o1 o2, S K base (((rnW w b nm to).alloc o1).alloc o2) b bm s D F ∧ Bel K base w (((rnW w b nm to).alloc o1).alloc o2)) := fun o1 o2 => ⟨(hS.alloc _).alloc _, (hB.alloc (by have := hB.size; omega) _).alloc (by have := hB.size; simp; omega) _⟩
  clear h hf hg hg' ho hn ht e8 hS hB
  go_enter Try.func23, Try.ntmps23
  go_wp2_with (first
    | (go_at_call 43; refine R.mono ?_; rintro e w' ⟨rfl, rfl⟩)
    | (go_at_call 47; refine FD.mono ?_; rintro e w' ⟨rfl, o, rfl⟩))
  go_ret
  exact ⟨rfl, HB.out _ _⟩
end
end Go.Proofs.Ytmeecjedikechaa
