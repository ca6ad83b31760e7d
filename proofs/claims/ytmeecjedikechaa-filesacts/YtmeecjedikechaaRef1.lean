/- The reference's world as New leaves it: Append, Sync, Rename, Remove, Place. -/
import Derived.Test.YtmeecjedikechaaRef0
namespace Go.Proofs.Ytmeecjedikechaa
open Go.RowKit Go.Maps
open Go.WideMaps
set_option linter.unusedVariables false
set_option maxRecDepth 100000

section
variable {w : World} {rb : Nat}
set_option maxHeartbeats 1000000 in
theorem rappend0 (h : w.heap[rb]? = some rblk) (nm : ByteArray) (hn : nm.size ≤ maxLen) (bv : Value) :
    Calls Try.prog 32 #[ptrOf rb, .string nm, bv] w fun e w' => ∃ z, e = .returned (.int .i64 z) ∧ w' = w := by
  have G := refGood_any nm w hn
  have Fd := rfind0 h nm
  obtain ⟨c0, c1, -⟩ := rcells h
  clear h hn
  cases hg : goodB nm with
  | false =>
    rw [hg] at G
    clear hg
    go_enter Try.func32, Try.ntmps32
    go_wp2_with (first
      | (go_at_call 14; refine G.mono ?_; rintro e w' ⟨rfl, rfl⟩)
      | (go_at_call 56; refine Fd.mono ?_; rintro e w' ⟨rfl, rfl⟩))
    go_ret
    exact ⟨_, rfl, rfl⟩
  | true =>
    rw [hg] at G
    clear hg
    go_enter Try.func32, Try.ntmps32
    go_wp2_with (first
      | (go_at_call 14; refine G.mono ?_; rintro e w' ⟨rfl, rfl⟩)
      | (go_at_call 56; refine Fd.mono ?_; rintro e w' ⟨rfl, rfl⟩))
    go_ret
    exact ⟨_, rfl, rfl⟩
set_option maxHeartbeats 1000000 in
theorem rsync0 (h : w.heap[rb]? = some rblk) (nm : ByteArray) (hn : nm.size ≤ maxLen) :
    Calls Try.prog 35 #[ptrOf rb, .string nm] w fun e w' => ∃ z, e = .returned (.int .i64 z) ∧ w' = w := by
  have G := refGood_any nm w hn
  have Fd := rfind0 h nm
  obtain ⟨c0, c1, -⟩ := rcells h
  clear h hn
  cases hg : goodB nm with
  | false =>
    rw [hg] at G
    clear hg
    go_enter Try.func35, Try.ntmps35
    go_wp2_with (first
      | (go_at_call 14; refine G.mono ?_; rintro e w' ⟨rfl, rfl⟩)
      | (go_at_call 56; refine Fd.mono ?_; rintro e w' ⟨rfl, rfl⟩))
    go_ret
    exact ⟨_, rfl, rfl⟩
  | true =>
    rw [hg] at G
    clear hg
    go_enter Try.func35, Try.ntmps35
    go_wp2_with (first
      | (go_at_call 14; refine G.mono ?_; rintro e w' ⟨rfl, rfl⟩)
      | (go_at_call 56; refine Fd.mono ?_; rintro e w' ⟨rfl, rfl⟩))
    go_ret
    exact ⟨_, rfl, rfl⟩
set_option maxHeartbeats 1000000 in
theorem rremove0 (h : w.heap[rb]? = some rblk) (nm : ByteArray) (hn : nm.size ≤ maxLen) :
    Calls Try.prog 37 #[ptrOf rb, .string nm] w fun e w' => ∃ z, e = .returned (.int .i64 z) ∧ w' = w := by
  have G := refGood_any nm w hn
  have Fd := rfind0 h nm
  obtain ⟨c0, c1, -⟩ := rcells h
  clear h hn
  cases hg : goodB nm with
  | false =>
    rw [hg] at G
    clear hg
    go_enter Try.func37, Try.ntmps37
    go_wp2_with (first
      | (go_at_call 14; refine G.mono ?_; rintro e w' ⟨rfl, rfl⟩)
      | (go_at_call 56; refine Fd.mono ?_; rintro e w' ⟨rfl, rfl⟩))
    go_ret
    exact ⟨_, rfl, rfl⟩
  | true =>
    rw [hg] at G
    clear hg
    go_enter Try.func37, Try.ntmps37
    go_wp2_with (first
      | (go_at_call 14; refine G.mono ?_; rintro e w' ⟨rfl, rfl⟩)
      | (go_at_call 56; refine Fd.mono ?_; rintro e w' ⟨rfl, rfl⟩))
    go_ret
    exact ⟨_, rfl, rfl⟩
set_option maxHeartbeats 1000000 in
theorem rrename0 (h : w.heap[rb]? = some rblk) (nm to : ByteArray) (hn : nm.size ≤ maxLen) (ht : to.size ≤ maxLen) :
    Calls Try.prog 36 #[ptrOf rb, .string nm, .string to] w fun e w' => ∃ z, e = .returned (.int .i64 z) ∧ w' = w := by
  have G := refGood_any nm w hn
  have G2 := refGood_any to w ht
  have Fd := rfind0 h nm
  obtain ⟨c0, c1, -⟩ := rcells h
  clear h hn ht
  cases hg : goodB nm with
  | false =>
    rw [hg] at G
    clear hg
    go_enter Try.func36, Try.ntmps36
    go_wp2_with fail
    refine Fd.mono ?_
    rintro e w' ⟨rfl, rfl⟩
    go_wp2_with fail
    refine G.mono ?_
    rintro e w' ⟨rfl, rfl⟩
    go_wp2_with fail
    go_ret
    exact ⟨_, rfl, rfl⟩
  | true =>
    rw [hg] at G
    clear hg
    cases hg2 : goodB to with
    | false =>
      rw [hg2] at G2
      clear hg2
      go_enter Try.func36, Try.ntmps36
      go_wp2_with fail
      refine Fd.mono ?_
      rintro e w' ⟨rfl, rfl⟩
      go_wp2_with fail
      refine G.mono ?_
      rintro e w' ⟨rfl, rfl⟩
      go_wp2_with fail
      refine G2.mono ?_
      rintro e w' ⟨rfl, rfl⟩
      go_wp2_with fail
      go_ret
      exact ⟨_, rfl, rfl⟩
    | true =>
      rw [hg2] at G2
      clear hg2
      go_enter Try.func36, Try.ntmps36
      go_wp2_with fail
      refine Fd.mono ?_
      rintro e w' ⟨rfl, rfl⟩
      go_wp2_with fail
      refine G.mono ?_
      rintro e w' ⟨rfl, rfl⟩
      go_wp2_with fail
      refine G2.mono ?_
      rintro e w' ⟨rfl, rfl⟩
      go_wp2_with fail
      go_ret
      exact ⟨_, rfl, rfl⟩
theorem rcopy (w : World) (rb : Nat) (bv : Value) (l : List UInt8) (hs : SrcB w rb bv l) (hl : l.length ≤ 1048576) : ∃ va vn vc w3, (Builtin.append_ #[29, 29] 29 #[.slice (some ⟨w.heap.size, 0, none⟩) 0 0, bv]).run Try.prog (w.alloc (.cells #[] 5)) = .ok (.slice va vn vc) w3 ∧ w.grownBy w3 none := by
  have own0 : (w.alloc (.cells #[] 5)).ownsRow w.heap.size 5 1 (.slice (some ⟨w.heap.size, 0, none⟩) 0 0) 0 [] := World.ownsRow_made w #[] 0 (Nat.le_refl _) (by decide) rfl
  have hs1 : SrcB (w.alloc (.cells #[] 5)) rb bv l := hs.kept fun i hi _ => Below.heap_alloc w _ i hi
  obtain ⟨v, w3, run, own1, gr, _⟩ := app_src 29 own0 hs1 (by omega) (by simp)
  obtain ⟨va, vc, rfl⟩ := ownsRow_slice own1
  refine ⟨va, _, vc, w3, run, gr.os, gr.tape, gr.output, by have := gr.size; simp at this; omega, fun i hi _ => ?_⟩
  rw [gr.block i (by simp; omega) (by simp [Value.ownBlock]; omega)]
  exact Below.heap_alloc w _ i hi
set_option maxHeartbeats 1000000 in
theorem rplace0 (h : w.heap[rb]? = some rblk) (nm : ByteArray) (hn : nm.size ≤ maxLen) (bv : Value) (l : List UInt8) (hs : SrcB w rb bv l) (hl : l.length ≤ maxLen) :
    Calls Try.prog 33 #[ptrOf rb, .string nm, bv] w fun e w' => ∃ z, e = .returned (.int .i64 z) ∧ w.grownBy w' (some rb) := by
  have G := refGood_any nm w hn
  have Fd := rfind0 h nm
  have hR := R0.of h
  obtain ⟨c0, c1, -⟩ := rcells h
  have hl' : l.length ≤ 9223372036854775807 := hl
  obtain ⟨b1, b2, hbl⟩ : ∃ c1 c2, bv = .slice c1 l.length c2 := by
    rcases hs with ⟨rfl, rfl⟩ | ⟨a, cap, rfl, _⟩
    · exact ⟨none, 0, rfl⟩
    · exact ⟨_, _, rfl⟩
  cases hg : goodB nm with
  | false =>
    rw [hg] at G
    clear hg h hs hR hl
    subst hbl
    go_enter Try.func33, Try.ntmps33
    go_wp2_with (go_at_call 14; refine G.mono ?_; rintro e w' ⟨rfl, rfl⟩)
    go_ret
    exact ⟨_, rfl, ⟨rfl, rfl, rfl, Nat.le_refl _, fun _ _ _ => rfl⟩⟩
  | true =>
    rw [hg] at G
    clear hg
    by_cases hbig : (1048576 : Int) < (l.length : Int)
    · clear h hs hR hl
      subst hbl
      go_enter Try.func33, Try.ntmps33
      go_wp2_with (first
        | (go_at_call 14; refine G.mono ?_; rintro e w' ⟨rfl, rfl⟩)
        | (go_at_call 56; refine Fd.mono ?_; rintro e w' ⟨rfl, rfl⟩))
      go_ret
      exact ⟨_, rfl, ⟨rfl, rfl, rfl, Nat.le_refl _, fun _ _ _ => rfl⟩⟩
    · obtain ⟨va, vn, vc, w3, run, gr⟩ := rcopy w rb bv l hs (by omega)
      have hR3 : R0 w3 rb := by
        have hb := gr.block rb hR.lt (by simp)
        exact ⟨(World.cell?_of_block hb).trans hR.1, (World.frozen?_of_block hb).trans hR.2⟩
      have Pt := rput0 hR3 nm va vn vc l.length
      have HR : Hid _ := run
      have HG : Hid (w.grownBy w3 (some rb)) := grown_weak gr
      clear h hs hR hl run gr hR3
      subst hbl
      go_enter Try.func33, Try.ntmps33
      go_wp2_with (first
        | (go_at_call 14; refine G.mono ?_; rintro e w' ⟨rfl, rfl⟩)
        | (go_at_call 56; refine Fd.mono ?_; rintro e w' ⟨rfl, rfl⟩)
        | (at_builtin; refine wpList_append_run rfl _ _ 29 rfl _ _ _ _ rfl rfl HR.out ?_)
        | (go_at_call 59; refine Pt.mono ?_; rintro e w4 ⟨rfl, hg4⟩))
      go_ret
      exact ⟨_, rfl, grown_trans HG.out hg4⟩
end
end Go.Proofs.Ytmeecjedikechaa
