/- The program without power: Create, Rename, Cut; Cut of a number below 0. -/
import Derived.Test.YtmeecjedikechaaRel
import Derived.Test.YtmeecjedikechaaSame
namespace Go.Proofs.Ytmeecjedikechaa
open Go.RowKit Go.Maps
open Go.WideMaps
set_option maxRecDepth 100000
set_option linter.unusedVariables false
section
variable {K : Nat → Prop} {base : Nat} {w : World} {b bm : Nat} {s : WS} {D : DataW Value} {F : List UInt8 → Option FileS}
theorem create_offS (h : S K base w b bm s D F) (hbase : base ≤ w.heap.size) (ho : s.off = true) (nm : ByteArray) :
    Calls Try.prog 15 #[ptrOf b, .string nm] w fun e w' => e = .returned (.int .i64 13) ∧ S K base w' b bm s D F ∧ Bel K base w w' := by
  refine Calls.mono (create_off h.hB ho nm) ?_
  rintro e w' ⟨rfl, rfl⟩
  exact ⟨rfl, ((h.alloc _).alloc _).alloc _, ((h.refl.alloc hbase _).alloc (by simp; omega) _).alloc (by simp; omega) _⟩
set_option maxHeartbeats 1000000 in
theorem rename_off (h : S K base w b bm s D F) (hbase : base ≤ w.heap.size) (ho : s.off = true) (nm to : ByteArray) :
    Calls Try.prog 23 #[ptrOf b, .string nm, .string to] w fun e w' => e = .returned (.int .i64 13) ∧ S K base w' b bm s D F ∧ Bel K base w w' := by
  obtain ⟨hS, hb, -⟩ := rnW_facts h hbase nm to
  have R : Hid (∀ nv, _) := fun nv => refusal_off hS.hB ho nv
  have HE : Hid (S K base (rnW w b nm to) b bm s D F ∧ Bel K base w (rnW w b nm to)) := ⟨hS, hb⟩
  clear h ho hS hb
  go_enter Try.func23, Try.ntmps23
  go_wp2_with (go_at_call 43; refine Calls.mono (R.out _) ?_; rintro e w' ⟨rfl, rfl⟩)
  go_ret
  exact ⟨rfl, HE.out⟩
set_option maxHeartbeats 1000000 in
theorem plan_off (h : S K base w b bm s D F) (ho : s.off = true) (n keep : Int) :
    Calls Try.prog 18 #[ptrOf b, .int .i64 n, .int .i64 keep] w fun e w' => e = .returned (.int .i64 13) ∧ w' = w := by
  have R : Hid (∀ nv, _) := fun nv => refusal_off h.hB ho nv
  clear h ho
  go_enter Try.func18, Try.ntmps18
  go_wp2_with (go_at_call 43; refine Calls.mono (R.out _) ?_; rintro e w' ⟨rfl, rfl⟩)
  go_ret
  exact ⟨rfl, rfl⟩
set_option maxHeartbeats 1000000 in
theorem plan_low (h : S K base w b bm s D F) (ho : s.off = false) (n keep : Int) (hn : n < 0) :
    Calls Try.prog 18 #[ptrOf b, .int .i64 n, .int .i64 keep] w fun e w' => e = .returned (.int .i64 2) ∧ w' = w := by
  have R := refusal_nil h.hB ho
  clear h ho
  go_enter Try.func18, Try.ntmps18
  go_wp2_with (go_at_call 43; refine R.mono ?_; rintro e w' ⟨rfl, rfl⟩)
  go_ret
  exact ⟨rfl, rfl⟩
end
end Go.Proofs.Ytmeecjedikechaa
